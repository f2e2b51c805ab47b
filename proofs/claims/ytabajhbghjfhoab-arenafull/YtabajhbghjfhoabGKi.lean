/-
  What an arena's Kids does; nodes of the tree as they lie.
-/
import Derived.Test.YtabajhbghjfhoabGWo
namespace Go.Proofs.Ytabajhbghjfhoab
open Go.RowKit
set_option linter.unusedVariables false
set_option linter.unusedSimpArgs false

set_option maxHeartbeats 2000000 in
theorem kids_any (base p i : Nat) (v : Value) (L : List NEnt) (xs : List Value) (w : World) (h : Arn base p v L w) (hi : i < L.length) (hk : w.ownsRow base 3 1 (sV (L.getD i n0).k) (L.getD i n0).k.n xs) (h1 : ∀ u ∈ xs, u.oneCell' = true) (hn : (L.getD i n0).k.n ≤ 100000) :
    Calls Try.prog 18 #[ptr p, .int .i64 (i : Int)] w fun e w' => ∃ v', e = .returned v' ∧ w'.ownsRow w.heap.size 3 1 v' (L.getD i n0).k.n xs ∧ Below w.heap.size w w' := by
  have C1 := hide (has_any base p v L (i : Int) w h)
  rw [hasB_nat i _ hi] at C1
  have C2 := hide (cloneI_row base (L.getD i n0).k xs w hk h1 (by omega))
  obtain ⟨g, cap, hv, hc, hm, hgl, hbg, c0, hnd⟩ := h.open (by omega)
  have ck := (hnd i hi).k
  have hpi : (i : Int) < (L.length : Int) := by omega
  obtain ⟨n, hln⟩ : ∃ n, L.length = n := ⟨_, rfl⟩
  rw [hln] at hpi c0
  generalize (L.getD i n0).k = kk at *
  obtain ⟨kq, kn, kc⟩ := kk
  dsimp only at *
  clear h hnd hk hln hv
  unfold ptr at *
  go_enter Try.func18, Try.ntmps18
  go_wp2_with fail
  refine (unhide C1).mono ?_
  rintro r w1 ⟨rfl, hw⟩
  obtain rfl : w = w1 := hw.symm
  go_wp2_with fail
  refine (unhide C2).mono ?_
  rintro r w2 ⟨v2, rfl, hr2, hb⟩
  obtain ⟨q2, n2, c2, rfl⟩ := slice_of hr2
  have HR := hide (And.intro hr2 hb)
  clear hr2 hb
  go_wp2
  go_ret
  exact ⟨_, rfl, unhide HR⟩
theorem kids_no (q : Value) (id : Int) (w : World) (C : Hid (Calls Try.prog 39 #[q, .int .i64 id] w fun e w' => e = .returned (.bool false) ∧ w' = w)) :
    Calls Try.prog 18 #[q, .int .i64 id] w fun e w' => e = .returned (.slice none 0 0) ∧ w' = w := by
  go_enter Try.func18, Try.ntmps18
  go_wp2_with fail
  refine (unhide C).mono ?_
  rintro r w1 ⟨rfl, hw⟩
  obtain rfl : w = w1 := hw.symm
  go_wp2
  go_ret
  exact ⟨rfl, rfl⟩
theorem kids_nil (id : Int) (w : World) : Calls Try.prog 18 #[.pointer none, .int .i64 id] w fun e w' => e = .returned (.slice none 0 0) ∧ w' = w := kids_no _ id w (hide (has_nil id w))

theorem infoD0 : (Try.prog.info? 43).map (fun i => (i.zero, i.size, i.bytes)) = some (some (.agg #[.int .i64 0, .int .i64 0, .string ⟨#[]⟩, .slice none 0 0, .string ⟨#[]⟩, .slice none 0 0]), 6, 96) := by kernel_rfl
theorem infoD : ∃ i, Try.prog.info? 43 = some i ∧ i.zero = some (.agg #[.int .i64 0, .int .i64 0, .string ⟨#[]⟩, .slice none 0 0, .string ⟨#[]⟩, .slice none 0 0]) ∧ i.size = 6 ∧ i.bytes = 96 := by
  have h := infoD0
  cases hi : Try.prog.info? 43 with
  | none => rw [hi] at h; cases h
  | some i =>
    rw [hi] at h
    simp only [Option.map_some, Option.some.injEq, Prod.mk.injEq] at h
    exact ⟨i, rfl, h.1, h.2.1, h.2.2⟩

set_option maxHeartbeats 2000000 in
theorem below_leaf (q : Value) (id : Int) (w : World) (C : Hid (Calls Try.prog 18 #[q, .int .i64 id] w fun e w' => ∃ v', e = .returned v' ∧ (∃ a c, v' = .slice a 0 c) ∧ Below w.heap.size w w')) :
    Calls Try.prog 42 #[q, .int .i64 id] w fun e w' => e = .returned (.slice none 0 0) ∧ Below w.heap.size w w' := by
  go_enter Try.func42, Try.ntmps42
  go_wp2_with fail
  refine (unhide C).mono ?_
  rintro r w1 ⟨v1, rfl, ⟨a, c, rfl⟩, hb⟩
  have HB := hide hb
  clear hb
  go_wp2
  refine wp_loop_rounds 1 ?_
  rw [rounds_succ]; go_wp2
  go_ret
  exact ⟨rfl, unhide HB⟩
theorem below_nil (id : Int) (w : World) : Calls Try.prog 42 #[.pointer none, .int .i64 id] w fun e w' => e = .returned (.slice none 0 0) ∧ Below w.heap.size w w' :=
  below_leaf _ id w (hide ((kids_nil id w).mono (by rintro e w' ⟨rfl, rfl⟩; exact ⟨_, rfl, ⟨none, 0, rfl⟩, Below.refl _ _⟩)))
theorem below_end (base p i : Nat) (v : Value) (L : List NEnt) (w : World) (h : Arn base p v L w) (hi : i < L.length) (hk : w.ownsRow base 3 1 (sV (L.getD i n0).k) 0 []) (hn : (L.getD i n0).k.n = 0) :
    Calls Try.prog 42 #[ptr p, .int .i64 (i : Int)] w fun e w' => e = .returned (.slice none 0 0) ∧ Below w.heap.size w w' :=
  below_leaf _ _ w (hide ((kids_any base p i v L [] w h hi (by rw [hn]; exact hk) (by simp) (by omega)).mono (by
    rintro e w' ⟨v', rfl, hr, hb⟩
    rw [hn] at hr
    refine ⟨_, rfl, ?_, hb⟩
    rcases hr.2 with ⟨h1, _⟩ | ⟨g, cap, cur, h1, _⟩
    · exact ⟨none, 0, h1⟩
    · exact ⟨_, cap, h1⟩)))
theorem tree_by (q : Value) (w : World) (R : Ending → World → Prop) (C : Hid (Calls Try.prog 42 #[q, .int .i64 0] w fun e w' => (∃ a n c, e = .returned (.slice a n c)) ∧ R e w')) :
    Calls Try.prog 21 #[q] w R := by
  go_enter Try.func21, Try.ntmps21
  go_wp2_with fail
  refine (unhide C).mono ?_
  rintro r w1 ⟨⟨a, n, c, rfl⟩, hR⟩
  have HR := hide hR
  clear hR
  go_wp2
  exact unhide HR
end Go.Proofs.Ytabajhbghjfhoab
