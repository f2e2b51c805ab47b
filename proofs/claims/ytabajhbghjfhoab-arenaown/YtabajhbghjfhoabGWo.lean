/-
  What an arena's write does where a text is just ahead; Words.
-/
import Derived.Test.YtabajhbghjfhoabGAp
namespace Go.Proofs.Ytabajhbghjfhoab
open Go.RowKit
set_option linter.unusedVariables false
set_option linter.unusedSimpArgs false

/-- What write leaves, where words are put behind those of a text. -/
def OldSaid (base p a : Nat) (v : Value) (L : List NEnt) (l : List UInt8) (s : ByteArray) (w : World) (r : Ending) (w' : World) : Prop :=
  ∃ t, r = .returned (.int .i64 0) ∧ Arn base p v (setAt L a (txtN t)) w' ∧ TxtR base w' t (l ++ s.data.toList) ∧ Chg (fun j => v.ownBlock = some j ∨ (sV (L.getD a n0).t).ownBlock = some j) w w' ∧ (∀ j, (sV t).ownBlock = some j → (sV (L.getD a n0).t).ownBlock = some j ∨ w.heap.size ≤ j)
set_option maxHeartbeats 8000000 in
theorem write_old (base p par a : Nat) (v : Value) (L : List NEnt) (xs : List Value) (l : List UInt8) (s : ByteArray) (w : World) (h : Arn base p v L w) (hbase : base ≤ w.heap.size) (hpar : par < L.length) (ha : a < L.length)
    (hk : w.ownsRow base 3 1 (sV (L.getD par n0).k) (L.getD par n0).k.n (xs ++ [.int .i64 (a : Int)])) (hn : (L.getD par n0).k.n ≤ 100000) (hkd : (L.getD a n0).kd = 2) (ht : TxtR base w (L.getD a n0).t l) (hs : l.length + s.size ≤ 70368744177664) :
    Calls Try.prog 50 #[ptr p, .int .i64 (par : Int), .int .i64 ((L.getD par n0).k.n : Int), .string s] w (OldSaid base p a v L l s w) := by
  obtain ⟨g, cap, hv, hc, hm, hgl, hbg, c0, hnd⟩ := h.open (by omega)
  have ck := (hnd par hpar).k
  have c1 := (hnd a ha).kd
  have c2 := (hnd a ha).t
  rw [hkd] at c1
  obtain ⟨t, w1, hrun, ht1, hch, hown⟩ := txt_append base _ l s w ht hbase hs
  have hkn : (L.getD par n0).k.n = xs.length + 1 := by have := hk.1; rw [List.length_append, List.length_singleton, Nat.mul_one] at this; omega
  have hkg : ∃ gk, (L.getD par n0).k.q = some ⟨gk, 0, none⟩ ∧ w.cell? ⟨gk, xs.length, none⟩ = some (.int .i64 (a : Int)) := by
    rcases hk.2 with ⟨h1, h2⟩ | ⟨gk, cap', cur, h1, _⟩
    · omega
    · have h1' := h1
      unfold sV at h1
      injection h1 with e1
      refine ⟨gk, e1, ?_⟩
      have := hk.cells (g := gk) (by rw [h1']; rfl) xs.length (.int .i64 (a : Int)) (by simp)
      rw [Addr.add_lit, Nat.zero_add] at this
      exact this
  obtain ⟨gk, hq, cl⟩ := hkg
  have hpi : (par : Int) < (L.length : Int) := by omega
  have hai : (a : Int) < (L.length : Int) := by omega
  have HVT : Hid (∀ j, (sV (L.getD a n0).t).ownBlock = some j → v.ownBlock ≠ some j) := hide fun j hj => by
    obtain ⟨vs, fz, hty⟩ := ht.ty hj
    exact own_ne h.row hty (by decide)
  have HPT : Hid (∀ j, (sV (L.getD a n0).t).ownBlock = some j → j ≠ p) := hide fun j hj => by
    obtain ⟨vs, fz, hty⟩ := ht.ty hj
    exact ty_ne hty h.blk (by decide)
  have A1 : Hid (Arn base p v L w1) := hide ⟨hch.blk h.blk (fun e => unhide HPT p e rfl), hch.row h.row (fun k hk e => unhide HVT k e hk), h.ne⟩
  have HT1 := hide ht1
  have HCH := hide hch
  have HOW := hide hown
  have HAL := hide ha
  rw [hq] at ck
  rw [hkn] at ck hn
  rw [hkn]
  obtain ⟨n, hln⟩ : ∃ n, L.length = n := ⟨_, rfl⟩
  have HLN := hide hln
  have hr2 := hrun
  generalize hm0 : xs.length = m at *
  generalize (L.getD par n0).k.c = kc at *
  have hxi : (0 : Int) < (m : Int) + 1 := by omega
  have hx2 : IntKind.i64.wrap ((m : Int) + 1 - 1) = m := by rw [IntKind.wrap_i64]; omega
  have hx4 : (m : Int) + 1 - 1 = m := by omega
  have hx3 : (m : Int) < (m : Int) + 1 := by omega
  rw [show ((m + 1 : Nat) : Int) = (m : Int) + 1 by omega]
  subst hv
  rw [hln] at hpi hai c0
  obtain ⟨te, hte⟩ : ∃ te, (L.getD a n0).t = te := ⟨_, rfl⟩
  rw [hte] at c2 hr2
  have HTE := hide hte
  clear hte
  obtain ⟨tq, tn, tc⟩ := te
  dsimp only at c2 hr2
  clear h hk ht ht1 hch hown hnd hkd hq hkn hrun hln hm0
  have c3 := (ncell_of_row (unhide A1).row a (unhide HAL)).t
  rw [unhide HTE] at c3
  dsimp only at c3
  obtain ⟨cur, hblk⟩ := own_ty (unhide A1).row (k := g) rfl
  have fz := (show Blk w1 g cur 65 from hblk).frozen (a * 7 + 4)
  have A2 := hide ((unhide A1).setN (txtN t (L.getD a n0)) (.slice t.q t.n t.c) (j := 4) (unhide HAL) (by omega) rfl)
  clear hblk
  unfold ptr
  go_enter Try.func50, Try.ntmps50
  go_wp2_with (at_builtin; refine wpList_append_run _ rfl _ _ 63 9 rfl _ _ rfl rfl hr2 ?_)
  go_wp2
  go_ret
  refine ⟨t, rfl, unhide A2, (unhide HT1).keep (fun b hb hl => Below.heap_setCell _ _ _ b (fun e => ?_)), ?_, unhide HOW⟩
  · obtain ⟨vs, f2, hty⟩ := (unhide HT1).ty hb
    exact own_ne (unhide A1).row hty (by decide) (by rw [show b = g from e]; rfl)
  · exact ((unhide HCH).mono (S' := fun j => (Value.slice (some ⟨g, 0, none⟩) L.length cap).ownBlock = some j ∨ (sV (L.getD a n0).t).ownBlock = some j) (fun k hk => Or.inr hk)).set (p := g) (Or.inl rfl) _ _
set_option maxHeartbeats 4000000 in
theorem words_by (base p par : Nat) (v : Value) (L : List NEnt) (s : ByteArray) (w : World) (R : Ending → World → Prop) (h : Arn base p v L w) (hpar : par < L.length) (hel : (L.getD par n0).kd = 1) (hs : 0 < s.size) (hW : Hid (Calls Try.prog 50 #[ptr p, .int .i64 (par : Int), .int .i64 ((L.getD par n0).k.n : Int), .string s] w fun r w' => (∃ z : Int, r = .returned (.int .i64 z)) ∧ R r w')) :
    Calls Try.prog 26 #[ptr p, .int .i64 (par : Int), .string s] w R := by
  have C1 := hide (element_any base p v L (par : Int) w h)
  have e1 : elemB L (par : Int) = true := by unfold elemB; rw [hasB_nat par _ hpar, Int.toNat_natCast, hel]; rfl
  rw [e1] at C1
  obtain ⟨g, cap, hv, hc, hm, hgl, hbg, c0, hnd⟩ := h.open (by omega)
  have ck := (hnd par hpar).k
  have hpi : (par : Int) < (L.length : Int) := by omega
  have hemp := not_empty s hs
  obtain ⟨n, hln⟩ : ∃ n, L.length = n := ⟨_, rfl⟩
  rw [hln] at hpi c0
  generalize (L.getD par n0).k.n = kn at *
  generalize (L.getD par n0).k.q = kq at *
  generalize (L.getD par n0).k.c = kc at *
  have hse : (s.toList == ByteArray.toList ⟨#[]⟩) = false := by
    apply beq_eq_false_iff_ne.2
    intro e
    rw [e] at hemp
    simp at hemp
  clear h hnd hel e1 hln hv
  unfold ptr at *
  go_enter Try.func26, Try.ntmps26
  go_wp2_with fail
  refine (unhide C1).mono ?_
  rintro r w1 ⟨rfl, hw⟩
  obtain rfl : w = w1 := hw.symm
  go_wp2_with fail
  refine (unhide hW).mono ?_
  rintro r w2 ⟨⟨z, rfl⟩, hR⟩
  have HR := hide hR
  clear hR
  go_wp2
  exact unhide HR
theorem words_empty (base p par : Nat) (v : Value) (L : List NEnt) (w : World) (h : Arn base p v L w) (hpar : par < L.length) (hel : (L.getD par n0).kd = 1) :
    Calls Try.prog 26 #[ptr p, .int .i64 (par : Int), .string ⟨#[]⟩] w fun r w' => r = .returned (.int .i64 1) ∧ w' = w := by
  have C1 := hide (element_any base p v L (par : Int) w h)
  have e1 : elemB L (par : Int) = true := by unfold elemB; rw [hasB_nat par _ hpar, Int.toNat_natCast, hel]; rfl
  rw [e1] at C1
  clear h e1
  unfold ptr at *
  go_enter Try.func26, Try.ntmps26
  go_wp2_with fail
  refine (unhide C1).mono ?_
  rintro r w1 ⟨rfl, hw⟩
  obtain rfl : w = w1 := hw.symm
  go_wp2
  go_ret
  exact ⟨rfl, rfl⟩
theorem words_nil (a : Int) (s : ByteArray) (w : World) : Calls Try.prog 26 #[.pointer none, .int .i64 a, .string s] w fun r w' => r = .returned (.int .i64 1) ∧ w' = w := by
  have C := hide (element_nil a w)
  go_enter Try.func26, Try.ntmps26
  go_wp2_with fail
  refine (unhide C).mono ?_
  rintro r w1 ⟨rfl, hw⟩
  obtain rfl : w = w1 := hw.symm
  go_wp2
  go_ret
  exact ⟨rfl, rfl⟩
end Go.Proofs.Ytabajhbghjfhoab
