/-
  What 'toks.value' does.
-/
import Derived.Test.YtakjlolmmoladaaGreatDoorTCu
namespace Go.Proofs.YtakjlolmmoladaaGreatDoor
open Go.RowKit
set_option linter.unusedVariables false

theorem quote_0 (w : World) : Sem.run Tryz.prog (Instr.index 103 (.agg #[.string ⟨#[34]⟩, .string ⟨#[39]⟩]) (.int .i64 0)) w = .ok (.string ⟨#[34]⟩) w := by kernel_rfl
theorem quote_1 (w : World) : Sem.run Tryz.prog (Instr.index 103 (.agg #[.string ⟨#[34]⟩, .string ⟨#[39]⟩]) (.int .i64 1)) w = .ok (.string ⟨#[39]⟩) w := by kernel_rfl

set_option maxHeartbeats 4000000 in
set_option maxRecDepth 100000 in
theorem value_dq (s : ByteArray) (i : Nat) (w : World) (hm : Mx w) (hi : i ≤ s.size) (hs : s.size ≤ 100000) (hp : [34].isPrefixOf (s.data.toList.drop i) = true) :
    Calls Tryz.prog 67 #[.string s, .int .i64 (i : Int)] w fun e w' => e = .returned (.tuple #[.string (bs (cutL s (i + 1) [34])), .int .i64 (cutE s (i + 1) [34] : Int)]) ∧ Below w.heap.size w w' := by
  have hii : (i : Int) ≤ (s.size : Int) := by omega
  have hx := rest_of s i
  have hxd : (s.extract i s.size).data.toList = s.data.toList.drop i := by rw [hx, bs_toList]
  have C1 : Hid (∀ w, Calls Tryz.prog 46 #[.string (s.extract i s.size), .string ⟨#[34]⟩] w fun e w' => e = .returned (.bool true) ∧ w' = w) := fun w => by
    have := prefix_any (s.extract i s.size) [34] w
    rw [hxd, hp] at this
    exact this
  have hlt : i + 1 ≤ s.size := by
    have : 0 < (s.data.toList.drop i).length := by
      cases h : s.data.toList.drop i with
      | nil => rw [h] at hp; simp [List.isPrefixOf] at hp
      | cons c t => simp
    rw [List.length_drop, data_len] at this; omega
  have C2 : Hid (∀ w, Mx w → Calls Tryz.prog 76 #[.string s, .int .i64 ((i : Int) + 1), .string ⟨#[34]⟩] w fun e w' => e = .returned (.tuple #[.string (bs (cutL s (i + 1) [34])), .int .i64 (cutE s (i + 1) [34] : Int)]) ∧ Below w.heap.size w w') := fun w h => by
    have := tcut_any s (i + 1) [34] w h hlt hs (by decide)
    rw [Int.natCast_add] at this
    exact this
  have HM := hide hm
  have q0 := quote_0
  generalize bs (cutL s (i + 1) [34]) = A at *
  generalize cutE s (i + 1) [34] = E at *
  clear hx hxd hp hm
  go_enter Tryz.func67, Tryz.ntmps67
  go_wp2
  refine wp_loop_rounds 3 ?_
  rw [rounds_succ]; go_wp2_with fail
  refine (unhide C1 _).mono ?_
  rintro e w1 ⟨rfl, hw1⟩
  have hb1 : Below w.heap.size w w1 := by rw [hw1]; exact (Below.refl _ _).alloc (Nat.le_refl _) _
  have k0 : w1.cell? ⟨w.heap.size, 0, none⟩ = some (.string s) := by rw [hw1]; exact World.cell?_alloc_at _ _ _ _ rfl
  clear hw1
  go_wp2_with fail
  refine (unhide C2 _ ((unhide HM).below hb1)).mono ?_
  rintro e w2 ⟨rfl, hb2⟩
  go_wp2
  go_ret2
  exact ⟨rfl, tr2 hb1 hb2⟩

set_option maxHeartbeats 4000000 in
set_option maxRecDepth 100000 in
theorem value_sq (s : ByteArray) (i : Nat) (w : World) (hm : Mx w) (hi : i ≤ s.size) (hs : s.size ≤ 100000) (hp : [34].isPrefixOf (s.data.toList.drop i) = false) (hp2 : [39].isPrefixOf (s.data.toList.drop i) = true) :
    Calls Tryz.prog 67 #[.string s, .int .i64 (i : Int)] w fun e w' => e = .returned (.tuple #[.string (bs (cutL s (i + 1) [39])), .int .i64 (cutE s (i + 1) [39] : Int)]) ∧ Below w.heap.size w w' := by
  have hii : (i : Int) ≤ (s.size : Int) := by omega
  have hx := rest_of s i
  have hxd : (s.extract i s.size).data.toList = s.data.toList.drop i := by rw [hx, bs_toList]
  have C1 : Hid (∀ w, Calls Tryz.prog 46 #[.string (s.extract i s.size), .string ⟨#[34]⟩] w fun e w' => e = .returned (.bool false) ∧ w' = w) := fun w => by
    have := prefix_any (s.extract i s.size) [34] w
    rw [hxd, hp] at this
    exact this
  have C3 : Hid (∀ w, Calls Tryz.prog 46 #[.string (s.extract i s.size), .string ⟨#[39]⟩] w fun e w' => e = .returned (.bool true) ∧ w' = w) := fun w => by
    have := prefix_any (s.extract i s.size) [39] w
    rw [hxd, hp2] at this
    exact this
  have hlt : i + 1 ≤ s.size := by
    have : 0 < (s.data.toList.drop i).length := by
      cases h : s.data.toList.drop i with
      | nil => rw [h] at hp2; simp [List.isPrefixOf] at hp2
      | cons c t => simp
    rw [List.length_drop, data_len] at this; omega
  have C2 : Hid (∀ w, Mx w → Calls Tryz.prog 76 #[.string s, .int .i64 ((i : Int) + 1), .string ⟨#[39]⟩] w fun e w' => e = .returned (.tuple #[.string (bs (cutL s (i + 1) [39])), .int .i64 (cutE s (i + 1) [39] : Int)]) ∧ Below w.heap.size w w') := fun w h => by
    have := tcut_any s (i + 1) [39] w h hlt hs (by decide)
    rw [Int.natCast_add] at this
    exact this
  have HM := hide hm
  have q0 := quote_0
  have q1 := quote_1
  generalize bs (cutL s (i + 1) [39]) = A at *
  generalize cutE s (i + 1) [39] = E at *
  clear hx hxd hp hm hp2
  go_enter Tryz.func67, Tryz.ntmps67
  go_wp2
  refine wp_loop_rounds 3 ?_
  rw [rounds_succ]; go_wp2_with fail
  refine (unhide C1 _).mono ?_
  rintro e w1 ⟨rfl, hw1⟩
  have hb1 : Below w.heap.size w w1 := by rw [hw1]; exact (Below.refl _ _).alloc (Nat.le_refl _) _
  have k0 : w1.cell? ⟨w.heap.size, 0, none⟩ = some (.string s) := by rw [hw1]; exact World.cell?_alloc_at _ _ _ _ rfl
  clear hw1
  go_wp2
  rw [rounds_succ]; go_wp2_with fail
  refine (unhide C3 _).mono ?_
  rintro e w3 ⟨rfl, hw3⟩
  obtain rfl : w1 = w3 := hw3.symm
  go_wp2_with fail
  refine (unhide C2 _ ((unhide HM).below hb1)).mono ?_
  rintro e w2 ⟨rfl, hb2⟩
  go_wp2
  go_ret2
  exact ⟨rfl, tr2 hb1 hb2⟩

set_option maxHeartbeats 4000000 in
set_option maxRecDepth 100000 in
theorem value_un (s : ByteArray) (i : Nat) (w : World) (hi : i ≤ s.size) (hs : s.size ≤ 100000) (hp : [34].isPrefixOf (s.data.toList.drop i) = false) (hp2 : [39].isPrefixOf (s.data.toList.drop i) = false) :
    Calls Tryz.prog 67 #[.string s, .int .i64 (i : Int)] w fun e w' => e = .returned (.tuple #[.string (s.extract i (seekN (uvP s) s.size i)), .int .i64 (seekN (uvP s) s.size i : Int)]) ∧ Below w.heap.size w w' := by
  have hii : (i : Int) ≤ (s.size : Int) := by omega
  have hx := rest_of s i
  have hxd : (s.extract i s.size).data.toList = s.data.toList.drop i := by rw [hx, bs_toList]
  have C1 : Hid (∀ w, Calls Tryz.prog 46 #[.string (s.extract i s.size), .string ⟨#[34]⟩] w fun e w' => e = .returned (.bool false) ∧ w' = w) := fun w => by
    have := prefix_any (s.extract i s.size) [34] w
    rw [hxd, hp] at this
    exact this
  have C3 : Hid (∀ w, Calls Tryz.prog 46 #[.string (s.extract i s.size), .string ⟨#[39]⟩] w fun e w' => e = .returned (.bool false) ∧ w' = w) := fun w => by
    have := prefix_any (s.extract i s.size) [39] w
    rw [hxd, hp2] at this
    exact this
  have CS := hide (fun w g h => seek_val s i g w h hi (by omega))
  have hle := seekN_le (uvP s) (n := s.size) (k := i) hi
  have q0 := quote_0
  have q1 := quote_1
  generalize seekN (uvP s) s.size i = E at *
  have hle1 : (i : Int) ≤ (E : Int) := by omega
  have hle2 : (E : Int) ≤ (s.size : Int) := by omega
  clear hx hxd hp hp2
  go_enter Tryz.func67, Tryz.ntmps67
  go_wp2
  refine wp_loop_rounds 3 ?_
  rw [rounds_succ]; go_wp2_with fail
  refine (unhide C1 _).mono ?_
  rintro e w1 ⟨rfl, hw1⟩
  have hb1 : Below w.heap.size w w1 := by rw [hw1]; exact (Below.refl _ _).alloc (Nat.le_refl _) _
  have k0 : w1.cell? ⟨w.heap.size, 0, none⟩ = some (.string s) := by rw [hw1]; exact World.cell?_alloc_at _ _ _ _ rfl
  clear hw1
  go_wp2
  rw [rounds_succ]; go_wp2_with fail
  refine (unhide C3 _).mono ?_
  rintro e w3 ⟨rfl, hw3⟩
  obtain rfl : w1 = w3 := hw3.symm
  go_wp2
  rw [rounds_succ]; go_wp2_with fail
  refine (unhide CS _ _ k0).mono ?_
  rintro e w4 ⟨rfl, hw4⟩
  obtain rfl : w1 = w4 := hw4.symm
  go_wp2
  go_ret2
  exact ⟨rfl, hb1⟩
end Go.Proofs.YtakjlolmmoladaaGreatDoor
