/-
  What slices.Clone does of numbers and of attributes.
-/
import Derived.Test.YtabajhbghjfhoabGTx
namespace Go.Proofs.Ytabajhbghjfhoab
open Go.RowKit
set_option linter.unusedVariables false
set_option linter.unusedSimpArgs false

theorem infoT0 : (Try.prog.info? 59).map (fun i => (i.zero, i.size, i.bytes)) = some (some (.agg #[.string ⟨#[]⟩, .string ⟨#[]⟩]), 2, 32) := by kernel_rfl
theorem infoT : ∃ i, Try.prog.info? 59 = some i ∧ i.zero = some (.agg #[.string ⟨#[]⟩, .string ⟨#[]⟩]) ∧ i.size = 2 ∧ i.bytes = 32 := by
  have h := infoT0
  cases hi : Try.prog.info? 59 with
  | none => rw [hi] at h; cases h
  | some i =>
    rw [hi] at h
    simp only [Option.map_some, Option.some.injEq, Prod.mk.injEq] at h
    exact ⟨i, rfl, h.1, h.2.1, h.2.2⟩

set_option maxHeartbeats 1000000 in
set_option maxRecDepth 100000 in
theorem cloneI_some (ad : Addr) (n c : Nat) (xs : List Value) (w : World) (hl : Hid (xs.length = n * 1)) (hc : Hid (∀ j u, xs[j]? = some u → w.cell? (ad.add j) = some u)) (h1 : Hid (∀ u ∈ xs, u.oneCell' = true)) (hn : n ≤ 1000000000) :
    Calls Try.prog 40 #[.slice (some ad) n c] w fun e w' => ∃ v', e = .returned v' ∧ w'.ownsRow w.heap.size 3 1 v' n xs ∧ Below w.heap.size w w' := by
  obtain ⟨i0, hi0, hi1, hi2, hi3⟩ := infoI
  have hrow : (w.alloc (Obj.cells #[] 3)).ownsRow w.heap.size 3 1 (.slice (some ⟨w.heap.size, 0, none⟩) 0 0) 0 [] := World.ownsRow_made w #[] 0 (Nat.le_refl _) (by simp [maxLen]) rfl
  have b1 : Below w.heap.size w (w.alloc (Obj.cells #[] 3)) := (Below.refl _ _).alloc (Nat.le_refl _) _
  have HC : Hid (∀ j u, xs[j]? = some u → (w.alloc (Obj.cells #[] 3)).cell? (ad.add j) = some u) := hide (fun j u hu => by
    have h2 := unhide hc j u hu
    exact (b1.cell (World.block_lt_of_cell? w _ h2)).trans h2)
  have HR := hide hrow
  clear hrow b1 hc
  have q22 : ∀ (w : World) (a : Option Addr) (n c n' c' : Nat), (binOp .eql 34 (.slice a n c) (.slice none n' c')).run Try.prog w = .ok (.bool a.isNone) w := fun w a n c n' c' => Lib.run_eql_slice_nil w _ _ a n c n' c' Try.underlying34
  go_enter Try.func40, Try.ntmps40
  go_wp2_with (at_builtin; refine wpList_append_own_at _ rfl _ _ 34 rfl w.heap.size 3 i0 (.int .i64 0) 1 8 Try.underlying34 hi0 hi1 hi2 hi3 rfl (by decide) _ 0 [] rfl (unhide HR) ad n c xs rfl ?c1 (unhide HC) ?c2 ?c3 ?c4 ?c5 ?_)
  case c1 => exact unhide hl
  case c2 => exact unhide h1
  case c3 => simp only [maxLen]; omega
  case c4 => omega
  case c5 => simp
  intro v' w1 hown' hgrow _ hat
  have HB := hide (((Below.refl w.heap.size w).alloc (Nat.le_refl _) (Obj.cells #[] 3)).grown hgrow (by simp) (fun k hk => by simp [Value.ownBlock] at hk; omega))
  have HO := hide hown'
  obtain ⟨q2, n2, c2, rfl⟩ : ∃ a m cap, v' = .slice a m cap := slice_of hown'
  clear hown' hgrow hat
  go_wp2
  go_ret
  exact ⟨_, rfl, unhide HO, unhide HB⟩
theorem cloneI_nil (n c : Nat) (w : World) : Calls Try.prog 40 #[.slice none n c] w fun e w' => e = .returned (.slice none 0 0) ∧ w' = w := by
  have q22 : ∀ (w : World) (a : Option Addr) (n c n' c' : Nat), (binOp .eql 34 (.slice a n c) (.slice none n' c')).run Try.prog w = .ok (.bool a.isNone) w := fun w a n c n' c' => Lib.run_eql_slice_nil w _ _ a n c n' c' Try.underlying34
  go_enter Try.func40, Try.ntmps40
  go_wp2
  go_ret
  exact ⟨rfl, rfl⟩
theorem cloneI_row (base : Nat) (s : Sli) (xs : List Value) (w : World) (h : w.ownsRow base 3 1 (sV s) s.n xs) (h1 : ∀ u ∈ xs, u.oneCell' = true) (hn : s.n ≤ 1000000000) :
    Calls Try.prog 40 #[.slice s.q s.n s.c] w fun e w' => ∃ v', e = .returned v' ∧ w'.ownsRow w.heap.size 3 1 v' s.n xs ∧ Below w.heap.size w w' := by
  rcases h.2 with ⟨hv, h0⟩ | ⟨g, cap, cur, hv, _⟩
  · unfold sV at hv
    injection hv with e1 e2 e3
    rw [e1]
    refine (cloneI_nil s.n s.c w).mono ?_
    rintro e w' ⟨rfl, rfl⟩
    refine ⟨_, rfl, ⟨h.1, .inl ⟨rfl, h0⟩⟩, Below.refl _ _⟩
  · have hv2 := hv
    unfold sV at hv
    injection hv with e1 e2 e3
    rw [e1]
    exact cloneI_some ⟨g, 0, none⟩ s.n s.c xs w (hide h.1) (hide (fun j u hu => h.cells (g := g) (by rw [hv2]; rfl) j u hu)) (hide h1) hn

set_option maxHeartbeats 1000000 in
set_option maxRecDepth 100000 in
theorem cloneT_some (ad : Addr) (n c : Nat) (xs : List Value) (w : World) (hl : Hid (xs.length = n * 2)) (hc : Hid (∀ j u, xs[j]? = some u → w.cell? (ad.add j) = some u)) (h1 : Hid (∀ u ∈ xs, u.oneCell' = true)) (hn : n ≤ 1000000000) :
    Calls Try.prog 51 #[.slice (some ad) n c] w fun e w' => ∃ v', e = .returned v' ∧ w'.ownsRow w.heap.size 59 2 v' n xs ∧ Below w.heap.size w w' := by
  obtain ⟨i0, hi0, hi1, hi2, hi3⟩ := infoT
  have hrow : (w.alloc (Obj.cells #[] 59)).ownsRow w.heap.size 59 2 (.slice (some ⟨w.heap.size, 0, none⟩) 0 0) 0 [] := World.ownsRow_made w #[] 0 (Nat.le_refl _) (by simp [maxLen]) rfl
  have b1 : Below w.heap.size w (w.alloc (Obj.cells #[] 59)) := (Below.refl _ _).alloc (Nat.le_refl _) _
  have HC : Hid (∀ j u, xs[j]? = some u → (w.alloc (Obj.cells #[] 59)).cell? (ad.add j) = some u) := hide (fun j u hu => by
    have h2 := unhide hc j u hu
    exact (b1.cell (World.block_lt_of_cell? w _ h2)).trans h2)
  have HR := hide hrow
  clear hrow b1 hc
  have q22 : ∀ (w : World) (a : Option Addr) (n c n' c' : Nat), (binOp .eql 40 (.slice a n c) (.slice none n' c')).run Try.prog w = .ok (.bool a.isNone) w := fun w a n c n' c' => Lib.run_eql_slice_nil w _ _ a n c n' c' Try.underlying40
  go_enter Try.func51, Try.ntmps51
  go_wp2_with (at_builtin; refine wpList_append_own_at _ rfl _ _ 40 rfl w.heap.size 59 i0 (.agg #[.string ⟨#[]⟩, .string ⟨#[]⟩]) 2 32 Try.underlying40 hi0 hi1 hi2 hi3 rfl (by decide) _ 0 [] rfl (unhide HR) ad n c xs rfl ?c1 (unhide HC) ?c2 ?c3 ?c4 ?c5 ?_)
  case c1 => exact unhide hl
  case c2 => exact unhide h1
  case c3 => simp only [maxLen]; omega
  case c4 => omega
  case c5 => simp
  intro v' w1 hown' hgrow _ hat
  have HB := hide (((Below.refl w.heap.size w).alloc (Nat.le_refl _) (Obj.cells #[] 59)).grown hgrow (by simp) (fun k hk => by simp [Value.ownBlock] at hk; omega))
  have HO := hide hown'
  obtain ⟨q2, n2, c2, rfl⟩ : ∃ a m cap, v' = .slice a m cap := slice_of hown'
  clear hown' hgrow hat
  go_wp2
  go_ret
  exact ⟨_, rfl, unhide HO, unhide HB⟩
theorem cloneT_nil (n c : Nat) (w : World) : Calls Try.prog 51 #[.slice none n c] w fun e w' => e = .returned (.slice none 0 0) ∧ w' = w := by
  have q22 : ∀ (w : World) (a : Option Addr) (n c n' c' : Nat), (binOp .eql 40 (.slice a n c) (.slice none n' c')).run Try.prog w = .ok (.bool a.isNone) w := fun w a n c n' c' => Lib.run_eql_slice_nil w _ _ a n c n' c' Try.underlying40
  go_enter Try.func51, Try.ntmps51
  go_wp2
  go_ret
  exact ⟨rfl, rfl⟩
theorem cloneT_row (base : Nat) (s : Sli) (xs : List Value) (w : World) (h : w.ownsRow base 59 2 (sV s) s.n xs) (h1 : ∀ u ∈ xs, u.oneCell' = true) (hn : s.n ≤ 1000000000) :
    Calls Try.prog 51 #[.slice s.q s.n s.c] w fun e w' => ∃ v', e = .returned v' ∧ w'.ownsRow w.heap.size 59 2 v' s.n xs ∧ Below w.heap.size w w' := by
  rcases h.2 with ⟨hv, h0⟩ | ⟨g, cap, cur, hv, _⟩
  · unfold sV at hv
    injection hv with e1 e2 e3
    rw [e1]
    refine (cloneT_nil s.n s.c w).mono ?_
    rintro e w' ⟨rfl, rfl⟩
    refine ⟨_, rfl, ⟨h.1, .inl ⟨rfl, h0⟩⟩, Below.refl _ _⟩
  · have hv2 := hv
    unfold sV at hv
    injection hv with e1 e2 e3
    rw [e1]
    exact cloneT_some ⟨g, 0, none⟩ s.n s.c xs w (hide h.1) (hide (fun j u hu => h.cells (g := g) (by rw [hv2]; rfl) j u hu)) (hide h1) hn
end Go.Proofs.Ytabajhbghjfhoab
