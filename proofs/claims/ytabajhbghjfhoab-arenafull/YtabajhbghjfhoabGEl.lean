/-
  What an arena's Comment and Element do.
-/
import Derived.Test.YtabajhbghjfhoabGCl
namespace Go.Proofs.Ytabajhbghjfhoab
open Go.RowKit
set_option linter.unusedVariables false
set_option linter.unusedSimpArgs false

/-- What Comment leaves. -/
def ComSaid (base p : Nat) (v : Value) (L : List NEnt) (s : ByteArray) (w : World) (r : Ending) (w' : World) : Prop :=
  ∃ v' t, r = .returned (.tuple #[.int .i64 (L.length : Int), .int .i64 0]) ∧ Arn base p v' (L ++ [⟨3, 0, ⟨#[]⟩, s0, t, -1, s0⟩]) w' ∧ TxtR base w' t s.data.toList ∧ Chg (fun k => k = p ∨ v.ownBlock = some k) w w' ∧ (∀ k, v'.ownBlock = some k → v.ownBlock = some k ∨ w.heap.size ≤ k) ∧ (∀ k, (sV t).ownBlock = some k → w.heap.size ≤ k)
set_option maxHeartbeats 2000000 in
theorem comment_ok (base p : Nat) (v : Value) (L : List NEnt) (s : ByteArray) (w : World) (h : Arn base p v L w) (hbase : base ≤ w.heap.size) (h0 : 0 < L.length) (hN : L.length < 600) (hs : s.size ≤ 1000000000) :
    Calls Try.prog 25 #[ptr p, .string s] w (ComSaid base p v L s w) := by
  obtain ⟨cap, o, hcv, ht⟩ := txt_conv base s w (by simp only [maxLen]; omega) hbase
  have b1 : Below w.heap.size w (w.drew.alloc o) := tr2 (below_draws w 1) ((Below.refl _ _).alloc (Nat.le_refl _) _)
  have C := hide (add_ok base p v L ⟨3, 0, ⟨#[]⟩, s0, ⟨some ⟨w.heap.size, 0, none⟩, s.size, cap⟩, 0, s0⟩ (w.drew.alloc o) (h.later b1) (Nat.le_trans hbase b1.size) h0 hN)
  have HB := hide b1
  have HT := hide ht
  have HOW : Hid (∀ k, v.ownBlock = some k → k < w.heap.size) := hide fun k hk => (h.row.lt k hk).2
  have hpl := h.lt
  clear h b1 ht
  unfold ptr nodA s0 at C
  unfold ptr
  dsimp only at C
  go_enter Try.func25, Try.ntmps25
  go_wp2_with fail
  refine (unhide C).mono ?_
  rintro r w1 ⟨v', rfl, hA, hch, hv⟩
  have HA := hide hA
  have HCh := hide hch
  have HV := hide hv
  clear hA hch hv hcv
  go_wp2
  go_ret2
  refine ⟨v', _, rfl, unhide HA, (unhide HT).chg (unhide HCh) (fun b hb => ?_), Chg.ahead (unhide HB) (unhide HCh), fun k hk => ?_, fun k hk => ?_⟩
  · have hb' : b = w.heap.size := by unfold sV at hb; simp only [Value.ownBlock, Option.some.injEq] at hb; exact hb.symm
    rintro (e | e)
    · omega
    · have := unhide HOW b e; omega
  · exact (unhide HV k hk).imp id (fun h => Nat.le_trans (unhide HB).size h)
  · unfold sV at hk; simp only [Value.ownBlock, Option.some.injEq] at hk; omega
set_option maxHeartbeats 2000000 in
theorem comment_by (q : Value) (s : ByteArray) (r : Int) (w : World) (hs : s.size ≤ 9223372036854775807) (hC : Hid (∀ e W, Below w.heap.size w W → Calls Try.prog 49 #[q, .agg (nodA e)] W fun e w' => e = .returned (.tuple #[.int .i64 0, .int .i64 r]) ∧ Below W.heap.size W w')) :
    Calls Try.prog 25 #[q, .string s] w fun e w' => e = .returned (.tuple #[.int .i64 0, .int .i64 r]) ∧ Below w.heap.size w w' := by
  obtain ⟨cap, o, hcv, ht⟩ := txt_conv 0 s w (by simp only [maxLen]; omega) (Nat.zero_le _)
  have b1 : Below w.heap.size w (w.drew.alloc o) := tr2 (below_draws w 1) ((Below.refl _ _).alloc (Nat.le_refl _) _)
  have C := hide (unhide hC ⟨3, 0, ⟨#[]⟩, s0, ⟨some ⟨w.heap.size, 0, none⟩, s.size, cap⟩, 0, s0⟩ (w.drew.alloc o) b1)
  have HB := hide b1
  clear b1 ht hC
  unfold nodA s0 at C
  dsimp only at C
  go_enter Try.func25, Try.ntmps25
  go_wp2_with fail
  refine (unhide C).mono ?_
  rintro e w1 ⟨rfl, hb⟩
  have HB1 := hide (tr2 (unhide HB) hb)
  clear hb hcv
  go_wp2
  go_ret2
  exact ⟨rfl, unhide HB1⟩
theorem comment_full (base p : Nat) (v : Value) (L : List NEnt) (s : ByteArray) (w : World) (h : Arn base p v L w) (hN : L.length = 600) (hs : s.size ≤ 9223372036854775807) :
    Calls Try.prog 25 #[ptr p, .string s] w fun e w' => e = .returned (.tuple #[.int .i64 0, .int .i64 5]) ∧ Below w.heap.size w w' :=
  comment_by (ptr p) s 5 w hs (hide fun e W hW => add_full base p v L e W (h.later hW) hN)
theorem comment_nil (s : ByteArray) (w : World) (hs : s.size ≤ 9223372036854775807) :
    Calls Try.prog 25 #[.pointer none, .string s] w fun e w' => e = .returned (.tuple #[.int .i64 0, .int .i64 7]) ∧ Below w.heap.size w w' :=
  comment_by (.pointer none) s 7 w hs (hide fun e W hW => add_nil e W)

/-- What Element leaves. -/
def EleSaid (base p : Nat) (v : Value) (L : List NEnt) (sp : Int) (nm : ByteArray) (xs : List Value) (n : Nat) (w : World) (r : Ending) (w' : World) : Prop :=
  ∃ v' a, r = .returned (.tuple #[.int .i64 (L.length : Int), .int .i64 0]) ∧ Arn base p v' (L ++ [⟨1, sp, nm, a, s0, -1, s0⟩]) w' ∧ w'.ownsRow base 59 2 (sV a) n xs ∧ a.n = n ∧ Chg (fun k => k = p ∨ v.ownBlock = some k) w w' ∧ (∀ k, v'.ownBlock = some k → v.ownBlock = some k ∨ w.heap.size ≤ k) ∧ (∀ k, (sV a).ownBlock = some k → w.heap.size ≤ k)
theorem ownsRow_mono {w : World} {base base' : Nat} {e : TypeId} {size n : Nat} {v : Value} {xs : List Value} (h : w.ownsRow base e size v n xs) (hb : base' ≤ base) : w.ownsRow base' e size v n xs := by
  refine ⟨h.1, ?_⟩
  rcases h.2 with h | ⟨g, cap, cur, h1, h2, rest⟩
  · exact .inl h
  · exact .inr ⟨g, cap, cur, h1, Nat.le_trans hb h2, rest⟩
set_option maxHeartbeats 2000000 in
theorem element_mk (base p : Nat) (v : Value) (L : List NEnt) (sp : Int) (nm : ByteArray) (q : Option Addr) (n c : Nat) (xs : List Value) (w : World) (h : Arn base p v L w) (hbase : base ≤ w.heap.size) (h0 : 0 < L.length) (hN : L.length < 600)
    (hC : Hid (Calls Try.prog 51 #[.slice q n c] w fun e w' => ∃ v', e = .returned v' ∧ w'.ownsRow w.heap.size 59 2 v' n xs ∧ Below w.heap.size w w')) :
    Calls Try.prog 27 #[ptr p, .int .i64 sp, .string nm, .slice q n c] w (EleSaid base p v L sp nm xs n w) := by
  have C := hide (fun a W (hW : Below w.heap.size w W) => add_ok base p v L ⟨1, sp, nm, a, s0, 0, s0⟩ W (h.later hW) (Nat.le_trans hbase hW.size) h0 hN)
  have HOW : Hid (∀ k, v.ownBlock = some k → k < w.heap.size) := hide fun k hk => (h.row.lt k hk).2
  have hpl := h.lt
  clear h
  unfold ptr nodA s0 at C
  unfold ptr
  dsimp only at C
  go_enter Try.func27, Try.ntmps27
  go_wp2_with fail
  refine (unhide hC).mono ?_
  rintro r w1 ⟨va, rfl, hra, hba⟩
  obtain ⟨qa, na, ca, rfl⟩ := slice_of hra
  have hna : na = n := by
    rcases hra.2 with ⟨h1, h2⟩ | ⟨g, cap', cur, h1, _⟩
    · injection h1 with _ h1; omega
    · injection h1 with _ h1
  subst hna
  have HRA := hide hra
  have HBA := hide hba
  have C1 := hide (unhide C ⟨qa, na, ca⟩ w1 hba)
  clear hra hba C
  dsimp only at C1
  go_wp2_with fail
  refine (unhide C1).mono ?_
  rintro r w2 ⟨v', rfl, hA, hch, hv⟩
  have HA := hide hA
  have HCh := hide hch
  have HV := hide hv
  clear hA hch hv
  go_wp2
  go_ret2
  have hkk : ∀ k, (sV ⟨qa, na, ca⟩).ownBlock = some k → w.heap.size ≤ k := fun k hk => ((unhide HRA).lt k hk).1
  refine ⟨v', ⟨qa, na, ca⟩, rfl, unhide HA, (unhide HCh).row (ownsRow_mono (unhide HRA) hbase) (fun k hk => ?_), rfl, Chg.ahead (unhide HBA) (unhide HCh), fun k hk => ?_, hkk⟩
  · have h1 := hkk k hk
    rintro (e | e)
    · omega
    · have := unhide HOW k e; omega
  · exact (unhide HV k hk).imp id (fun h => Nat.le_trans (unhide HBA).size h)
set_option maxHeartbeats 2000000 in
theorem element_mk_nil (sp : Int) (nm : ByteArray) (w : World) :
    Calls Try.prog 27 #[.pointer none, .int .i64 sp, .string nm, .slice none 0 0] w fun e w' => e = .returned (.tuple #[.int .i64 0, .int .i64 7]) ∧ Below w.heap.size w w' := by
  have CC := hide (cloneT_nil 0 0 w)
  have C := hide (add_nil ⟨1, sp, nm, s0, s0, 0, s0⟩ w)
  unfold nodA s0 at C
  dsimp only at C
  go_enter Try.func27, Try.ntmps27
  go_wp2_with fail
  refine (unhide CC).mono ?_
  rintro r w1 ⟨rfl, hw1⟩
  obtain rfl : w = w1 := hw1.symm
  go_wp2_with fail
  refine (unhide C).mono ?_
  rintro r w2 ⟨rfl, hb⟩
  have HB := hide hb
  clear hb
  go_wp2
  go_ret2
  exact ⟨rfl, unhide HB⟩
end Go.Proofs.Ytabajhbghjfhoab
