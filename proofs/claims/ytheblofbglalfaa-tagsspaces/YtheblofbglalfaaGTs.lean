/-
  What the reference of layer 7 does: of every name and space.
-/
import Derived.Test.YtheblofbglalfaaGTr
namespace Go.Proofs.Ytheblofbglalfaa
open Go.RowKit
set_option linter.unusedVariables false

def GroupIs (g : Nat) : Prop := ∀ (w : World), Calls Try.prog 21 #[.int .i64 (g : Int)] w fun e w' => ∃ v, e = .returned v ∧ View w' v (Ls (gN g)) ∧ Below w.heap.size w w'
theorem rgroup_1 : GroupIs 1 := by
  intro w
  go_enter Try.func21, Try.ntmps21
  go_wp2
  go_ret
  exact ⟨_, rfl, view_lit w (gN 1) _ (by decide) _ rfl, (Below.refl _ _).alloc (Nat.le_refl _) _⟩
theorem rgroup_2 : GroupIs 2 := by
  intro w
  go_enter Try.func21, Try.ntmps21
  go_wp2
  go_ret
  exact ⟨_, rfl, view_lit w (gN 2) _ (by decide) _ rfl, (Below.refl _ _).alloc (Nat.le_refl _) _⟩
theorem rgroup_3 : GroupIs 3 := by
  intro w
  go_enter Try.func21, Try.ntmps21
  go_wp2
  go_ret
  exact ⟨_, rfl, view_lit w (gN 3) _ (by decide) _ rfl, (Below.refl _ _).alloc (Nat.le_refl _) _⟩
theorem rgroup_4 : GroupIs 4 := by
  intro w
  go_enter Try.func21, Try.ntmps21
  go_wp2
  go_ret
  exact ⟨_, rfl, view_lit w (gN 4) _ (by decide) _ rfl, (Below.refl _ _).alloc (Nat.le_refl _) _⟩
theorem rgroup_5 : GroupIs 5 := by
  intro w
  go_enter Try.func21, Try.ntmps21
  go_wp2
  go_ret
  exact ⟨_, rfl, view_lit w (gN 5) _ (by decide) _ rfl, (Below.refl _ _).alloc (Nat.le_refl _) _⟩
theorem rgroup_6 : GroupIs 6 := by
  intro w
  go_enter Try.func21, Try.ntmps21
  go_wp2
  go_ret
  exact ⟨_, rfl, view_lit w (gN 6) _ (by decide) _ rfl, (Below.refl _ _).alloc (Nat.le_refl _) _⟩
theorem rgroup_7 : GroupIs 7 := by
  intro w
  go_enter Try.func21, Try.ntmps21
  go_wp2
  go_ret
  exact ⟨_, rfl, view_lit w (gN 7) _ (by decide) _ rfl, (Below.refl _ _).alloc (Nat.le_refl _) _⟩
theorem rgroup_8 : GroupIs 8 := by
  intro w
  go_enter Try.func21, Try.ntmps21
  go_wp2
  go_ret
  exact ⟨_, rfl, view_lit w (gN 8) _ (by decide) _ rfl, (Below.refl _ _).alloc (Nat.le_refl _) _⟩
theorem rgroup_9 : GroupIs 9 := by
  intro w
  go_enter Try.func21, Try.ntmps21
  go_wp2
  go_ret
  exact ⟨_, rfl, view_lit w (gN 9) _ (by decide) _ rfl, (Below.refl _ _).alloc (Nat.le_refl _) _⟩
theorem rgroup_10 : GroupIs 10 := by
  intro w
  go_enter Try.func21, Try.ntmps21
  go_wp2
  go_ret
  exact ⟨_, rfl, view_lit w (gN 10) _ (by decide) _ rfl, (Below.refl _ _).alloc (Nat.le_refl _) _⟩
theorem rgroup_11 : GroupIs 11 := by
  intro w
  go_enter Try.func21, Try.ntmps21
  go_wp2
  go_ret
  exact ⟨_, rfl, view_lit w (gN 11) _ (by decide) _ rfl, (Below.refl _ _).alloc (Nat.le_refl _) _⟩
theorem rgroup_12 : GroupIs 12 := by
  intro w
  go_enter Try.func21, Try.ntmps21
  go_wp2
  go_ret
  exact ⟨_, rfl, view_lit w (gN 12) _ (by decide) _ rfl, (Below.refl _ _).alloc (Nat.le_refl _) _⟩
theorem rgroup_13 : GroupIs 13 := by
  intro w
  go_enter Try.func21, Try.ntmps21
  go_wp2
  go_ret
  exact ⟨_, rfl, view_lit w (gN 13) _ (by decide) _ rfl, (Below.refl _ _).alloc (Nat.le_refl _) _⟩
theorem rgroup_14 : GroupIs 14 := by
  intro w
  go_enter Try.func21, Try.ntmps21
  go_wp2
  go_ret
  exact ⟨_, rfl, view_lit w (gN 14) _ (by decide) _ rfl, (Below.refl _ _).alloc (Nat.le_refl _) _⟩
theorem rgroup_15 : GroupIs 15 := by
  intro w
  go_enter Try.func21, Try.ntmps21
  go_wp2
  go_ret
  exact ⟨_, rfl, view_lit w (gN 15) _ (by decide) _ rfl, (Below.refl _ _).alloc (Nat.le_refl _) _⟩
theorem rgroup_16 : GroupIs 16 := by
  intro w
  go_enter Try.func21, Try.ntmps21
  go_wp2
  go_ret
  exact ⟨_, rfl, view_lit w (gN 16) _ (by decide) _ rfl, (Below.refl _ _).alloc (Nat.le_refl _) _⟩
theorem rgroup_17 : GroupIs 17 := by
  intro w
  go_enter Try.func21, Try.ntmps21
  go_wp2
  go_ret
  exact ⟨_, rfl, view_lit w (gN 17) _ (by decide) _ rfl, (Below.refl _ _).alloc (Nat.le_refl _) _⟩
theorem rgroup_any (g : Nat) (h1 : 1 ≤ g) (h2 : g < 18) : GroupIs g := by
  rcases (by omega : g = 1 ∨ g = 2 ∨ g = 3 ∨ g = 4 ∨ g = 5 ∨ g = 6 ∨ g = 7 ∨ g = 8 ∨ g = 9 ∨ g = 10 ∨ g = 11 ∨ g = 12 ∨ g = 13 ∨ g = 14 ∨ g = 15 ∨ g = 16 ∨ g = 17) with rfl | rfl | rfl | rfl | rfl | rfl | rfl | rfl | rfl | rfl | rfl | rfl | rfl | rfl | rfl | rfl | rfl
  · exact rgroup_1
  · exact rgroup_2
  · exact rgroup_3
  · exact rgroup_4
  · exact rgroup_5
  · exact rgroup_6
  · exact rgroup_7
  · exact rgroup_8
  · exact rgroup_9
  · exact rgroup_10
  · exact rgroup_11
  · exact rgroup_12
  · exact rgroup_13
  · exact rgroup_14
  · exact rgroup_15
  · exact rgroup_16
  · exact rgroup_17

theorem ofN_hit {l : List UInt8} {k : Nat} (h1 : 1 ≤ k) (h2 : k < 18) (hn : ∀ j, 1 ≤ j → j < k → inB l (gN j) = false) (hy : inB l (gN k) = true) : ofN l = k := by
  rcases (by omega : k = 1 ∨ k = 2 ∨ k = 3 ∨ k = 4 ∨ k = 5 ∨ k = 6 ∨ k = 7 ∨ k = 8 ∨ k = 9 ∨ k = 10 ∨ k = 11 ∨ k = 12 ∨ k = 13 ∨ k = 14 ∨ k = 15 ∨ k = 16 ∨ k = 17) with rfl | rfl | rfl | rfl | rfl | rfl | rfl | rfl | rfl | rfl | rfl | rfl | rfl | rfl | rfl | rfl | rfl
  · unfold ofN; rw [hy]; rfl
  · unfold ofN; rw [hn 1 (by omega) (by omega), hy]; rfl
  · unfold ofN; rw [hn 1 (by omega) (by omega), hn 2 (by omega) (by omega), hy]; rfl
  · unfold ofN; rw [hn 1 (by omega) (by omega), hn 2 (by omega) (by omega), hn 3 (by omega) (by omega), hy]; rfl
  · unfold ofN; rw [hn 1 (by omega) (by omega), hn 2 (by omega) (by omega), hn 3 (by omega) (by omega), hn 4 (by omega) (by omega), hy]; rfl
  · unfold ofN; rw [hn 1 (by omega) (by omega), hn 2 (by omega) (by omega), hn 3 (by omega) (by omega), hn 4 (by omega) (by omega), hn 5 (by omega) (by omega), hy]; rfl
  · unfold ofN; rw [hn 1 (by omega) (by omega), hn 2 (by omega) (by omega), hn 3 (by omega) (by omega), hn 4 (by omega) (by omega), hn 5 (by omega) (by omega), hn 6 (by omega) (by omega), hy]; rfl
  · unfold ofN; rw [hn 1 (by omega) (by omega), hn 2 (by omega) (by omega), hn 3 (by omega) (by omega), hn 4 (by omega) (by omega), hn 5 (by omega) (by omega), hn 6 (by omega) (by omega), hn 7 (by omega) (by omega), hy]; rfl
  · unfold ofN; rw [hn 1 (by omega) (by omega), hn 2 (by omega) (by omega), hn 3 (by omega) (by omega), hn 4 (by omega) (by omega), hn 5 (by omega) (by omega), hn 6 (by omega) (by omega), hn 7 (by omega) (by omega), hn 8 (by omega) (by omega), hy]; rfl
  · unfold ofN; rw [hn 1 (by omega) (by omega), hn 2 (by omega) (by omega), hn 3 (by omega) (by omega), hn 4 (by omega) (by omega), hn 5 (by omega) (by omega), hn 6 (by omega) (by omega), hn 7 (by omega) (by omega), hn 8 (by omega) (by omega), hn 9 (by omega) (by omega), hy]; rfl
  · unfold ofN; rw [hn 1 (by omega) (by omega), hn 2 (by omega) (by omega), hn 3 (by omega) (by omega), hn 4 (by omega) (by omega), hn 5 (by omega) (by omega), hn 6 (by omega) (by omega), hn 7 (by omega) (by omega), hn 8 (by omega) (by omega), hn 9 (by omega) (by omega), hn 10 (by omega) (by omega), hy]; rfl
  · unfold ofN; rw [hn 1 (by omega) (by omega), hn 2 (by omega) (by omega), hn 3 (by omega) (by omega), hn 4 (by omega) (by omega), hn 5 (by omega) (by omega), hn 6 (by omega) (by omega), hn 7 (by omega) (by omega), hn 8 (by omega) (by omega), hn 9 (by omega) (by omega), hn 10 (by omega) (by omega), hn 11 (by omega) (by omega), hy]; rfl
  · unfold ofN; rw [hn 1 (by omega) (by omega), hn 2 (by omega) (by omega), hn 3 (by omega) (by omega), hn 4 (by omega) (by omega), hn 5 (by omega) (by omega), hn 6 (by omega) (by omega), hn 7 (by omega) (by omega), hn 8 (by omega) (by omega), hn 9 (by omega) (by omega), hn 10 (by omega) (by omega), hn 11 (by omega) (by omega), hn 12 (by omega) (by omega), hy]; rfl
  · unfold ofN; rw [hn 1 (by omega) (by omega), hn 2 (by omega) (by omega), hn 3 (by omega) (by omega), hn 4 (by omega) (by omega), hn 5 (by omega) (by omega), hn 6 (by omega) (by omega), hn 7 (by omega) (by omega), hn 8 (by omega) (by omega), hn 9 (by omega) (by omega), hn 10 (by omega) (by omega), hn 11 (by omega) (by omega), hn 12 (by omega) (by omega), hn 13 (by omega) (by omega), hy]; rfl
  · unfold ofN; rw [hn 1 (by omega) (by omega), hn 2 (by omega) (by omega), hn 3 (by omega) (by omega), hn 4 (by omega) (by omega), hn 5 (by omega) (by omega), hn 6 (by omega) (by omega), hn 7 (by omega) (by omega), hn 8 (by omega) (by omega), hn 9 (by omega) (by omega), hn 10 (by omega) (by omega), hn 11 (by omega) (by omega), hn 12 (by omega) (by omega), hn 13 (by omega) (by omega), hn 14 (by omega) (by omega), hy]; rfl
  · unfold ofN; rw [hn 1 (by omega) (by omega), hn 2 (by omega) (by omega), hn 3 (by omega) (by omega), hn 4 (by omega) (by omega), hn 5 (by omega) (by omega), hn 6 (by omega) (by omega), hn 7 (by omega) (by omega), hn 8 (by omega) (by omega), hn 9 (by omega) (by omega), hn 10 (by omega) (by omega), hn 11 (by omega) (by omega), hn 12 (by omega) (by omega), hn 13 (by omega) (by omega), hn 14 (by omega) (by omega), hn 15 (by omega) (by omega), hy]; rfl
  · unfold ofN; rw [hn 1 (by omega) (by omega), hn 2 (by omega) (by omega), hn 3 (by omega) (by omega), hn 4 (by omega) (by omega), hn 5 (by omega) (by omega), hn 6 (by omega) (by omega), hn 7 (by omega) (by omega), hn 8 (by omega) (by omega), hn 9 (by omega) (by omega), hn 10 (by omega) (by omega), hn 11 (by omega) (by omega), hn 12 (by omega) (by omega), hn 13 (by omega) (by omega), hn 14 (by omega) (by omega), hn 15 (by omega) (by omega), hn 16 (by omega) (by omega), hy]; rfl
theorem ofN_miss {l : List UInt8} (hn : ∀ j, 1 ≤ j → j < 18 → inB l (gN j) = false) : ofN l = 0 := by
  unfold ofN; rw [hn 1 (by omega) (by omega), hn 2 (by omega) (by omega), hn 3 (by omega) (by omega), hn 4 (by omega) (by omega), hn 5 (by omega) (by omega), hn 6 (by omega) (by omega), hn 7 (by omega) (by omega), hn 8 (by omega) (by omega), hn 9 (by omega) (by omega), hn 10 (by omega) (by omega), hn 11 (by omega) (by omega), hn 12 (by omega) (by omega), hn 13 (by omega) (by omega), hn 14 (by omega) (by omega), hn 15 (by omega) (by omega), hn 16 (by omega) (by omega), hn 17 (by omega) (by omega)]; rfl

set_option maxHeartbeats 1000000 in
theorem of_any (s : ByteArray) (w : World) :
    Calls Try.prog 8 #[.string s] w fun e w' => e = .returned (.int .i64 (ofN s.toList : Nat)) ∧ Below w.heap.size w w' := by
  go_enter Try.func8, Try.ntmps8
  go_wp2
  go_loopw [3] (fun i wr => ∃ k : Nat, 1 ≤ k ∧ k ≤ 18 ∧ i = .int .i64 k ∧ Below w.heap.size w wr ∧ ∀ j, 1 ≤ j → j < k → inB s.toList (gN j) = false) (fun i _ => 18 - (intOf i).toNat)
  case atStart => exact ⟨1, by omega, by omega, rfl, Below.refl _ _, fun j h1 h2 => by omega⟩
  case round =>
    obtain ⟨k, hk1, hk, rfl, hbw, hn⟩ := hrel
    have HN := hide hn
    clear hn
    by_cases hlt : k < 18
    · have hlti : (k : Int) < 18 := by omega
      have CG := hide (rgroup_any k hk1 hlt)
      cases hb : inB s.toList (gN k) with
      | true =>
        have HV := hide (ofN_hit hk1 hlt (unhide HN) hb)
        have CI := hide (fun v w h => hb ▸ in_any s v (gN k) w h)
        clear hb
        go_wp2_with fail
        refine (unhide CG _).mono ?_
        rintro e w1 ⟨v, rfl, hv, hb1⟩
        have HW := hide hv
        clear hv
        go_wp2_with fail
        refine (unhide CI _ _ (unhide HW)).mono ?_
        rintro e w2 ⟨rfl, hb2⟩
        go_wp2
        go_ret
        exact ⟨by rw [unhide HV]; rfl, tr3 hbw hb1 hb2⟩
      | false =>
        have HV := hide hb
        have CI := hide (fun v w h => hb ▸ in_any s v (gN k) w h)
        clear hb
        go_wp2_with fail
        refine (unhide CG _).mono ?_
        rintro e w1 ⟨v, rfl, hv, hb1⟩
        have HW := hide hv
        clear hv
        go_wp2_with fail
        refine (unhide CI _ _ (unhide HW)).mono ?_
        rintro e w2 ⟨rfl, hb2⟩
        go_wp2
        go_roundw
        case rel => exact ⟨k + 1, by omega, by omega, by go_num, tr3 hbw hb1 hb2, fun j h1 h2 => by
          by_cases hjk : j = k
          · subst hjk; exact unhide HV
          · exact unhide HN j h1 (by omega)⟩
        case measure => simp [intOf]; omega
    · have hk18 : k = 18 := by omega
      subst hk18
      have HV := hide (ofN_miss (unhide HN))
      clear hlt
      go_wp2
      go_ret
      exact ⟨by rw [unhide HV]; rfl, hbw⟩

theorem rvoid_any (s : ByteArray) (w : World) :
    Calls Try.prog 10 #[.string s] w fun e w' => e = .returned (.bool (inB s.toList voidNs)) ∧ Below w.heap.size w w' := by
  have CI := hide (fun v w h => in_any s v voidNs w h)
  go_enter Try.func10, Try.ntmps10
  go_wp2_with fail
  refine (unhide CI _ _ (view_lit w voidNs _ (by decide) _ rfl)).mono ?_
  rintro e w2 ⟨rfl, hb2⟩
  go_wp2
  go_ret
  exact ⟨rfl, bel_of hb2⟩

theorem rbreaks_any (s : ByteArray) (w : World) :
    Calls Try.prog 17 #[.string s] w fun e w' => e = .returned (.bool (inB s.toList brkNs)) ∧ Below w.heap.size w w' := by
  have CI := hide (fun v w h => in_any s v brkNs w h)
  go_enter Try.func17, Try.ntmps17
  go_wp2_with fail
  refine (unhide CI _ _ (view_lit w brkNs _ (by decide) _ rfl)).mono ?_
  rintro e w2 ⟨rfl, hb2⟩
  go_wp2
  go_ret
  exact ⟨rfl, bel_of hb2⟩
end Go.Proofs.Ytheblofbglalfaa
