/-
  What an arena's Append does of a loose node, and write of words where no text is just ahead.
-/
import Derived.Test.YtabajhbghjfhoabGIs
namespace Go.Proofs.Ytabajhbghjfhoab
open Go.RowKit
set_option linter.unusedVariables false
set_option linter.unusedSimpArgs false

set_option maxHeartbeats 4000000 in
theorem append_ok (base p par id f : Nat) (v : Value) (L : List NEnt) (xs : List Value) (w : World) (h : Arn base p v L w) (hbase : base ≤ w.heap.size) (hpar : par < L.length) (hid : id < L.length) (hL : L.length ≤ 600) (hk : w.ownsRow base 3 1 (sV (L.getD par n0).k) (L.getD par n0).k.n xs) (hn : (L.getD par n0).k.n ≤ 100000)
    (hel : (L.getD par n0).kd = 1) (h0 : id ≠ 0) (hlo : (L.getD id n0).pr = -1) (hin : insF L (id : Int) f (par : Int) = some false) :
    Calls Try.prog 24 #[ptr p, .int .i64 (par : Int), .int .i64 (id : Int)] w fun r w' => r = .returned (.int .i64 0) ∧ PutSaid base p par id v L xs w (.returned (.tuple #[])) w' := by
  have C1 := hide (element_any base p v L (par : Int) w h)
  have C2 := hide (has_any base p v L (id : Int) w h)
  have C3 := hide (loose_any base p id v L w h hid)
  have C4 := hide (inside_no base p v L (par : Int) (id : Int) f w h hin)
  have C5 := hide (put_end base p par id v L xs w h hbase hpar hid hL hk hn)
  have e1 : elemB L (par : Int) = true := by unfold elemB; rw [hasB_nat par _ hpar, Int.toNat_natCast, hel]; rfl
  have e2 : hasB (id : Int) L.length = true := hasB_nat id _ hid
  rw [e1] at C1
  rw [e2] at C2
  rw [decide_eq_true h0, hlo, show ((-1 : Int) == -1) = true from rfl, Bool.and_true] at C3
  obtain ⟨g, cap, hv, hc, hm, hgl, hbg, c0, hnd⟩ := h.open (by omega)
  have ck := (hnd par hpar).k
  have hpi : (par : Int) < (L.length : Int) := by omega
  have hp0 : (0 : Int) ≤ (par : Int) := by omega
  obtain ⟨n, hln⟩ : ∃ n, L.length = n := ⟨_, rfl⟩
  rw [hln] at hpi c0
  generalize hkn : (L.getD par n0).k.n = kn at *
  generalize (L.getD par n0).k.q = kq at *
  generalize (L.getD par n0).k.c = kc at *
  clear h hk hnd hel hlo hin e1 e2 hln hkn hv
  unfold ptr at *
  go_enter Try.func24, Try.ntmps24
  go_wp2_with fail
  refine (unhide C1).mono ?_
  rintro r w1 ⟨rfl, hw⟩
  obtain rfl : w = w1 := hw.symm
  go_wp2_with fail
  refine (unhide C2).mono ?_
  rintro r w2 ⟨rfl, hw⟩
  obtain rfl : w = w2 := hw.symm
  go_wp2_with fail
  refine (unhide C3).mono ?_
  rintro r w3 ⟨rfl, hw⟩
  obtain rfl : w = w3 := hw.symm
  go_wp2_with fail
  refine (unhide C4).mono ?_
  rintro r w4 ⟨rfl, hw⟩
  obtain rfl : w = w4 := hw.symm
  go_wp2_with fail
  refine (unhide C5).mono ?_
  rintro r w5 ⟨s, rfl, hr⟩
  have HR := hide hr
  clear hr
  go_wp2
  go_ret
  exact ⟨rfl, s, rfl, unhide HR⟩
theorem append_nil (a b : Int) (w : World) : Calls Try.prog 24 #[.pointer none, .int .i64 a, .int .i64 b] w fun r w' => r = .returned (.int .i64 1) ∧ w' = w := by
  have C := hide (element_nil a w)
  go_enter Try.func24, Try.ntmps24
  go_wp2_with fail
  refine (unhide C).mono ?_
  rintro r w1 ⟨rfl, hw⟩
  obtain rfl : w = w1 := hw.symm
  go_wp2
  go_ret
  exact ⟨rfl, rfl⟩

/-- What write leaves, where a new text is laid. -/
def WrSaid (base p par : Nat) (v : Value) (L : List NEnt) (xs : List Value) (s : ByteArray) (w : World) (r : Ending) (w' : World) : Prop :=
  ∃ v' t k, r = .returned (.int .i64 0) ∧ Arn base p v' (setAt (setAt (L ++ [⟨2, 0, ⟨#[]⟩, s0, t, -1, s0⟩]) par (kidsN k)) L.length (prN (par : Int))) w' ∧ TxtR base w' t s.data.toList ∧ w'.ownsRow base 3 1 (sV k) ((L.getD par n0).k.n + 1) (xs ++ [.int .i64 (L.length : Int)]) ∧
    Chg (fun j => j = p ∨ v.ownBlock = some j ∨ (sV (L.getD par n0).k).ownBlock = some j) w w' ∧ (∀ j, v'.ownBlock = some j → v.ownBlock = some j ∨ w.heap.size ≤ j) ∧ (∀ j, (sV t).ownBlock = some j → w.heap.size ≤ j) ∧ (∀ j, (sV k).ownBlock = some j → (sV (L.getD par n0).k).ownBlock = some j ∨ w.heap.size ≤ j)
set_option maxHeartbeats 4000000 in
theorem write_first (base p par : Nat) (v : Value) (L : List NEnt) (s : ByteArray) (w : World) (h : Arn base p v L w) (hbase : base ≤ w.heap.size) (hpar : par < L.length) (hN : L.length < 600) (hk : w.ownsRow base 3 1 (sV (L.getD par n0).k) 0 []) (hn : (L.getD par n0).k.n = 0) (hs : s.size ≤ 1000000000) :
    Calls Try.prog 50 #[ptr p, .int .i64 (par : Int), .int .i64 0, .string s] w (WrSaid base p par v L [] s w) := by
  obtain ⟨cap, o, hcv, ht⟩ := txt_conv base s w (by simp only [maxLen]; omega) hbase
  have b1 : Below w.heap.size w (w.drew.alloc o) := tr2 (below_draws w 1) ((Below.refl _ _).alloc (Nat.le_refl _) _)
  have C := hide (add_ok base p v L ⟨2, 0, ⟨#[]⟩, s0, ⟨some ⟨w.heap.size, 0, none⟩, s.size, cap⟩, 0, s0⟩ (w.drew.alloc o) (h.later b1) (Nat.le_trans hbase b1.size) (by omega) hN)
  have HB := hide b1
  have HT := hide ht
  have HOW : Hid (∀ k, v.ownBlock = some k → k < w.heap.size) := hide fun k hk => (h.row.lt k hk).2
  have hpl := h.lt
  have HKP := hide (own_ne hk h.blk (by decide))
  have HKV := hide (own_ne2 hk h.row (by decide))
  have HK := hide hk
  have HKL : Hid (∀ k, (sV (L.getD par n0).k).ownBlock = some k → k < w.heap.size) := hide fun k hk2 => (hk.lt k hk2).2
  have hgd : ∀ e, (L ++ [e]).getD par n0 = L.getD par n0 := fun e => by rw [List.getD, List.getElem?_append_left hpar, ← List.getD]
  have HGD := hide hgd
  clear h b1 ht hk hgd
  unfold ptr nodA s0 at C
  unfold ptr
  dsimp only at C
  go_enter Try.func50, Try.ntmps50
  go_wp2_with fail
  refine (unhide C).mono ?_
  rintro r w1 ⟨v', rfl, hA, hch, hv⟩
  have hT1 := (unhide HT).chg hch (fun b hb => by
    have hb' : b = w.heap.size := by unfold sV at hb; simp only [Value.ownBlock, Option.some.injEq] at hb; exact hb.symm
    rintro (e | e)
    · omega
    · have := unhide HOW b e; omega)
  have hK1 := hch.row (ownsRow_below (unhide HK) (unhide HB)) (fun k hk => by
    rintro (e | e)
    · exact unhide HKP (e ▸ hk)
    · exact unhide HKV k hk e)
  have hz1 := Nat.le_trans (unhide HB).size hch.size
  have C5 := put_end base p par L.length v' _ [] w1 hA (Nat.le_trans hbase hz1) (by simp; omega) (by simp) (by simp; omega) (by rw [unhide HGD, hn]; exact hK1) (by rw [unhide HGD, hn]; omega)
  rw [unhide HGD, hn] at C5
  have C6 := hide C5
  have HCh := hide hch
  have HV := hide hv
  have HT1 := hide hT1
  have HZ1 := hide hz1
  clear hA hch hv hcv hT1 hK1 C5 hz1
  unfold ptr at C6
  rw [show ((0 : Nat) : Int) = 0 from rfl] at C6
  go_wp2_with fail
  refine (unhide C6).mono ?_
  rintro r w2 ⟨k, rfl, hA2, hk2, hch2, hk3⟩
  have HA2 := hide hA2
  have HK2 := hide hk2
  have HCh2 := hide hch2
  have HK3 := hide hk3
  clear hA2 hk2 hch2 hk3
  go_wp2
  go_ret
  rw [unhide HGD] at HCh2 HK3 HK2
  have hV1 : ∀ j, v'.ownBlock = some j → v.ownBlock = some j ∨ w.heap.size ≤ j := fun j hj => (unhide HV j hj).imp id (fun h => Nat.le_trans (unhide HB).size h)
  have hc1 : Chg (fun j => j = p ∨ v.ownBlock = some j ∨ (sV (L.getD par n0).k).ownBlock = some j) w w1 := Chg.ahead (unhide HB) ((unhide HCh).mono (fun j hj => hj.imp id (fun e => Or.inl e)))
  refine ⟨v', _, k, rfl, unhide HA2, (unhide HT1).chg (unhide HCh2) (fun b hb => ?_), unhide HK2, hc1.trans (unhide HCh2) (fun j hj => ?_), hV1, fun j hj => ?_, fun j hj => ?_⟩
  · have hb' : b = w.heap.size := by unfold sV at hb; simp only [Value.ownBlock, Option.some.injEq] at hb; exact hb.symm
    rintro (e | e)
    · rcases unhide HV b e with h | h
      · have := unhide HOW b h; omega
      · have := (unhide HB).size; simp at h; omega
    · have := unhide HKL b e; omega
  · rcases hj with e | e
    · exact (hV1 j e).imp (fun h => Or.inr (Or.inl h)) id
    · exact Or.inl (Or.inr (Or.inr e))
  · unfold sV at hj; simp only [Value.ownBlock, Option.some.injEq] at hj; omega
  · exact (unhide HK3 j hj).imp id (fun h => Nat.le_trans (unhide HZ1) h)
set_option maxHeartbeats 4000000 in
theorem write_full (base p par : Nat) (v : Value) (L : List NEnt) (s : ByteArray) (w : World) (h : Arn base p v L w) (hN : L.length = 600) (hs : s.size ≤ 1000000000) :
    Calls Try.prog 50 #[ptr p, .int .i64 (par : Int), .int .i64 0, .string s] w fun r w' => r = .returned (.int .i64 5) ∧ Below w.heap.size w w' := by
  obtain ⟨cap, o, hcv, ht⟩ := txt_conv 0 s w (by simp only [maxLen]; omega) (Nat.zero_le _)
  have b1 : Below w.heap.size w (w.drew.alloc o) := tr2 (below_draws w 1) ((Below.refl _ _).alloc (Nat.le_refl _) _)
  have C := hide (add_full base p v L ⟨2, 0, ⟨#[]⟩, s0, ⟨some ⟨w.heap.size, 0, none⟩, s.size, cap⟩, 0, s0⟩ (w.drew.alloc o) (h.later b1) hN)
  have HB := hide b1
  clear h b1 ht
  unfold ptr nodA s0 at C
  unfold ptr
  dsimp only at C
  go_enter Try.func50, Try.ntmps50
  go_wp2_with fail
  refine (unhide C).mono ?_
  rintro r w1 ⟨rfl, hb⟩
  have HB1 := hide (tr2 (unhide HB) hb)
  clear hb hcv
  go_wp2
  go_ret
  exact ⟨rfl, unhide HB1⟩
end Go.Proofs.Ytabajhbghjfhoab
