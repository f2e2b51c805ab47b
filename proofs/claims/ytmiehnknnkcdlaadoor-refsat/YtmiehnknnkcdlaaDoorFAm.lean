/-
  What the reference's 'At' of layer 4 does where an & stands.
-/
import Derived.Test.YtmiehnknnkcdlaaDoorFAt
namespace Go.Proofs.YtmiehnknnkcdlaaDoor
open Go.RowKit
set_option linter.unusedVariables false

theorem cell_far (w : World) (b b' o o' : Nat) (v : Value) (h : b ≠ b') : (w.setCell ⟨b, o, none⟩ v).cell? ⟨b', o', none⟩ = w.cell? ⟨b', o', none⟩ := by
  have h' : ¬ b = b' := h
  simp [World.cell?, World.setCell, Array.getElem?_modify, h']

set_option maxHeartbeats 4000000 in
set_option maxRecDepth 100000 in
theorem ramp_nam_yes (s : ByteArray) (i a1 a2 : Nat) (v : Bool) (x : List UInt8) (m : Int) (w : World) (hs : s.size ≤ 100000) (hi : i < s.size) (h38 : dgt s.data.toList i = 38)
    (CA1 : Hid (∀ w, Calls Tryd.prog 28 #[.string s, .int .i64 ((i : Int) + 1)] w fun e w' => e = .returned (.int .u8 (a1 : Int)) ∧ w' = w))
    (CA2 : Hid (∀ w, Calls Tryd.prog 28 #[.string s, .int .i64 ((i : Int) + 2)] w fun e w' => e = .returned (.int .u8 (a2 : Int)) ∧ w' = w))
    (hN : Hid (∀ w, Calls Tryd.prog 29 #[.string s, .int .i64 ((i : Int) + 1), .bool v] w fun e w' => e = .returned (gotR x m) ∧ Below w.heap.size w w')) (n1 : ((a1 : Int) == 35) = false) (hm : 0 ≤ m) :
    Calls Tryd.prog 11 #[.string s, .int .i64 (i : Int), .bool v] w fun e w' => e = .returned (gotR x m) ∧ Below w.heap.size w w' := by
  have i0 : ¬ (i : Int) < 0 := by omega
  have i1 : (i : Int) < (s.size : Int) := by omega
  have i2 : ¬ (s.size : Int) ≤ (i : Int) := by omega
  have e := dgt_at s i hi
  rw [h38] at e
  unfold gotR at hN
  have hm2 : ¬ m < 0 := by omega
  clear h38
  go_enter Tryd.func11, Tryd.ntmps11
  go_wp2_with fail
  refine (unhide CA1 _).mono ?_
  rintro e1 w1 ⟨rfl, rfl⟩
  go_wp2_with fail
  refine (unhide hN _).mono ?_
  rintro e1 w2 ⟨rfl, hb2⟩
  have hz2 : w.heap.size + 2 < w2.heap.size := by have := hb2.size; simp at this; omega
  have hz1 : w.heap.size + 1 < w2.heap.size := by omega
  have hz0 : w.heap.size < w2.heap.size := by omega
  obtain ⟨hc, hf⟩ := bcell hb2
  have hb02 : Below w.heap.size w w2 := ((((Below.refl w.heap.size w).alloc (Nat.le_refl _) _).alloc (by simp) _).alloc (by simp; omega) _).trans (hb2.mono (by simp; omega))
  have fX0 : ∀ X Y, ((w2.setCell ⟨w.heap.size + 1 + 1, 0, none⟩ X).setCell ⟨w.heap.size + 1 + 1, 1, none⟩ Y).cell? ⟨w.heap.size, 0, none⟩ = some (.string ⟨#[]⟩) := fun X Y => by
    rw [cell_far _ _ _ _ _ _ (by omega), cell_far _ _ _ _ _ _ (by omega), hc w.heap.size 0 (by simp <;> omega)]; simp [go_sem]
  have fX1 : ∀ X Y, ((w2.setCell ⟨w.heap.size + 1 + 1, 0, none⟩ X).setCell ⟨w.heap.size + 1 + 1, 1, none⟩ Y).cell? ⟨w.heap.size, 1, none⟩ = some (.int .i64 0) := fun X Y => by
    rw [cell_far _ _ _ _ _ _ (by omega), cell_far _ _ _ _ _ _ (by omega), hc w.heap.size 1 (by simp <;> omega)]; simp [go_sem]
  have FX0 := hide fX0
  have FX1 := hide fX1
  clear fX0 fX1
  go_wp2
  have fX0 := unhide FX0
  have fX1 := unhide FX1
  exact bodyPost_ret (v := gotR x m) (by simp [results, Tryd.results11, go_sem, gotR, bs, fX0, fX1]) rfl ⟨rfl, (((hb02.setCell (by simp <;> omega) _).setCell (by simp <;> omega) _).setCell (by simp) _).setCell (by simp) _⟩

set_option maxHeartbeats 4000000 in
set_option maxRecDepth 100000 in
theorem ramp_nam_no (s : ByteArray) (i a1 a2 : Nat) (v : Bool) (x : List UInt8) (m : Int) (w : World) (hs : s.size ≤ 100000) (hi : i < s.size) (h38 : dgt s.data.toList i = 38)
    (CA1 : Hid (∀ w, Calls Tryd.prog 28 #[.string s, .int .i64 ((i : Int) + 1)] w fun e w' => e = .returned (.int .u8 (a1 : Int)) ∧ w' = w))
    (CA2 : Hid (∀ w, Calls Tryd.prog 28 #[.string s, .int .i64 ((i : Int) + 2)] w fun e w' => e = .returned (.int .u8 (a2 : Int)) ∧ w' = w))
    (hN : Hid (∀ w, Calls Tryd.prog 29 #[.string s, .int .i64 ((i : Int) + 1), .bool v] w fun e w' => e = .returned (gotR x m) ∧ Below w.heap.size w w')) (n1 : ((a1 : Int) == 35) = false) (hm : m < 0) :
    Calls Tryd.prog 11 #[.string s, .int .i64 (i : Int), .bool v] w fun e w' => e = .returned (gotR [38] ((i : Int) + 1)) ∧ Below w.heap.size w w' := by
  have i0 : ¬ (i : Int) < 0 := by omega
  have i1 : (i : Int) < (s.size : Int) := by omega
  have i2 : ¬ (s.size : Int) ≤ (i : Int) := by omega
  have e := dgt_at s i hi
  rw [h38] at e
  unfold gotR at hN
  have hm2 : ¬ 0 ≤ m := by omega
  clear h38
  go_enter Tryd.func11, Tryd.ntmps11
  go_wp2_with fail
  refine (unhide CA1 _).mono ?_
  rintro e1 w1 ⟨rfl, rfl⟩
  go_wp2_with fail
  refine (unhide hN _).mono ?_
  rintro e1 w2 ⟨rfl, hb2⟩
  have hz2 : w.heap.size + 2 < w2.heap.size := by have := hb2.size; simp at this; omega
  have hz1 : w.heap.size + 1 < w2.heap.size := by omega
  have hz0 : w.heap.size < w2.heap.size := by omega
  obtain ⟨hc, hf⟩ := bcell hb2
  have hb02 : Below w.heap.size w w2 := ((((Below.refl w.heap.size w).alloc (Nat.le_refl _) _).alloc (by simp) _).alloc (by simp; omega) _).trans (hb2.mono (by simp; omega))
  have fX0 : ∀ X Y, ((w2.setCell ⟨w.heap.size + 1 + 1, 0, none⟩ X).setCell ⟨w.heap.size + 1 + 1, 1, none⟩ Y).cell? ⟨w.heap.size, 0, none⟩ = some (.string ⟨#[]⟩) := fun X Y => by
    rw [cell_far _ _ _ _ _ _ (by omega), cell_far _ _ _ _ _ _ (by omega), hc w.heap.size 0 (by simp <;> omega)]; simp [go_sem]
  have fX1 : ∀ X Y, ((w2.setCell ⟨w.heap.size + 1 + 1, 0, none⟩ X).setCell ⟨w.heap.size + 1 + 1, 1, none⟩ Y).cell? ⟨w.heap.size, 1, none⟩ = some (.int .i64 0) := fun X Y => by
    rw [cell_far _ _ _ _ _ _ (by omega), cell_far _ _ _ _ _ _ (by omega), hc w.heap.size 1 (by simp <;> omega)]; simp [go_sem]
  have FX0 := hide fX0
  have FX1 := hide fX1
  clear fX0 fX1
  go_wp2
  have fX0 := unhide FX0
  have fX1 := unhide FX1
  exact bodyPost_ret (v := gotR [38] ((i : Int) + 1)) (by simp [results, Tryd.results11, go_sem, gotR, bs, fX0, fX1]) rfl ⟨rfl, (((hb02.setCell (by simp <;> omega) _).setCell (by simp <;> omega) _).setCell (by simp) _).setCell (by simp) _⟩

set_option maxHeartbeats 4000000 in
set_option maxRecDepth 100000 in
theorem ramp_hex_yes (s : ByteArray) (i a1 a2 : Nat) (v : Bool) (x : List UInt8) (m : Int) (w : World) (hs : s.size ≤ 100000) (hi : i < s.size) (h38 : dgt s.data.toList i = 38)
    (CA1 : Hid (∀ w, Calls Tryd.prog 28 #[.string s, .int .i64 ((i : Int) + 1)] w fun e w' => e = .returned (.int .u8 (a1 : Int)) ∧ w' = w))
    (CA2 : Hid (∀ w, Calls Tryd.prog 28 #[.string s, .int .i64 ((i : Int) + 2)] w fun e w' => e = .returned (.int .u8 (a2 : Int)) ∧ w' = w))
    (hN : Hid (∀ w, Calls Tryd.prog 30 #[.string s, .int .i64 ((i : Int) + 3), .int .i64 16] w fun e w' => e = .returned (gotR x m) ∧ Below w.heap.size w w')) (n1 : a1 = 35) (n2 : a2 = 120) (hm : 0 ≤ m) :
    Calls Tryd.prog 11 #[.string s, .int .i64 (i : Int), .bool v] w fun e w' => e = .returned (gotR x m) ∧ Below w.heap.size w w' := by
  have i0 : ¬ (i : Int) < 0 := by omega
  have i1 : (i : Int) < (s.size : Int) := by omega
  have i2 : ¬ (s.size : Int) ≤ (i : Int) := by omega
  have e := dgt_at s i hi
  rw [h38] at e
  unfold gotR at hN
  have hm2 : ¬ m < 0 := by omega
  subst n1
  subst n2
  clear h38
  go_enter Tryd.func11, Tryd.ntmps11
  go_wp2_with fail
  refine (unhide CA1 _).mono ?_
  rintro e1 w1 ⟨rfl, rfl⟩
  go_wp2_with fail
  refine (unhide CA2 _).mono ?_
  rintro e1 w1 ⟨rfl, rfl⟩
  go_wp2_with fail
  refine (unhide hN _).mono ?_
  rintro e1 w2 ⟨rfl, hb2⟩
  have hz2 : w.heap.size + 2 < w2.heap.size := by have := hb2.size; simp at this; omega
  have hz1 : w.heap.size + 1 < w2.heap.size := by omega
  have hz0 : w.heap.size < w2.heap.size := by omega
  obtain ⟨hc, hf⟩ := bcell hb2
  have hb02 : Below w.heap.size w w2 := ((((Below.refl w.heap.size w).alloc (Nat.le_refl _) _).alloc (by simp) _).alloc (by simp; omega) _).trans (hb2.mono (by simp; omega))
  have fX0 : ∀ X Y, ((w2.setCell ⟨w.heap.size + 1 + 1, 0, none⟩ X).setCell ⟨w.heap.size + 1 + 1, 1, none⟩ Y).cell? ⟨w.heap.size, 0, none⟩ = some (.string ⟨#[]⟩) := fun X Y => by
    rw [cell_far _ _ _ _ _ _ (by omega), cell_far _ _ _ _ _ _ (by omega), hc w.heap.size 0 (by simp <;> omega)]; simp [go_sem]
  have fX1 : ∀ X Y, ((w2.setCell ⟨w.heap.size + 1 + 1, 0, none⟩ X).setCell ⟨w.heap.size + 1 + 1, 1, none⟩ Y).cell? ⟨w.heap.size, 1, none⟩ = some (.int .i64 0) := fun X Y => by
    rw [cell_far _ _ _ _ _ _ (by omega), cell_far _ _ _ _ _ _ (by omega), hc w.heap.size 1 (by simp <;> omega)]; simp [go_sem]
  have FX0 := hide fX0
  have FX1 := hide fX1
  clear fX0 fX1
  go_wp2
  have fX0 := unhide FX0
  have fX1 := unhide FX1
  exact bodyPost_ret (v := gotR x m) (by simp [results, Tryd.results11, go_sem, gotR, bs, fX0, fX1]) rfl ⟨rfl, (((hb02.setCell (by simp <;> omega) _).setCell (by simp <;> omega) _).setCell (by simp) _).setCell (by simp) _⟩

set_option maxHeartbeats 4000000 in
set_option maxRecDepth 100000 in
theorem ramp_hex_no (s : ByteArray) (i a1 a2 : Nat) (v : Bool) (x : List UInt8) (m : Int) (w : World) (hs : s.size ≤ 100000) (hi : i < s.size) (h38 : dgt s.data.toList i = 38)
    (CA1 : Hid (∀ w, Calls Tryd.prog 28 #[.string s, .int .i64 ((i : Int) + 1)] w fun e w' => e = .returned (.int .u8 (a1 : Int)) ∧ w' = w))
    (CA2 : Hid (∀ w, Calls Tryd.prog 28 #[.string s, .int .i64 ((i : Int) + 2)] w fun e w' => e = .returned (.int .u8 (a2 : Int)) ∧ w' = w))
    (hN : Hid (∀ w, Calls Tryd.prog 30 #[.string s, .int .i64 ((i : Int) + 3), .int .i64 16] w fun e w' => e = .returned (gotR x m) ∧ Below w.heap.size w w')) (n1 : a1 = 35) (n2 : a2 = 120) (hm : m < 0) :
    Calls Tryd.prog 11 #[.string s, .int .i64 (i : Int), .bool v] w fun e w' => e = .returned (gotR [38] ((i : Int) + 1)) ∧ Below w.heap.size w w' := by
  have i0 : ¬ (i : Int) < 0 := by omega
  have i1 : (i : Int) < (s.size : Int) := by omega
  have i2 : ¬ (s.size : Int) ≤ (i : Int) := by omega
  have e := dgt_at s i hi
  rw [h38] at e
  unfold gotR at hN
  have hm2 : ¬ 0 ≤ m := by omega
  subst n1
  subst n2
  clear h38
  go_enter Tryd.func11, Tryd.ntmps11
  go_wp2_with fail
  refine (unhide CA1 _).mono ?_
  rintro e1 w1 ⟨rfl, rfl⟩
  go_wp2_with fail
  refine (unhide CA2 _).mono ?_
  rintro e1 w1 ⟨rfl, rfl⟩
  go_wp2_with fail
  refine (unhide hN _).mono ?_
  rintro e1 w2 ⟨rfl, hb2⟩
  have hz2 : w.heap.size + 2 < w2.heap.size := by have := hb2.size; simp at this; omega
  have hz1 : w.heap.size + 1 < w2.heap.size := by omega
  have hz0 : w.heap.size < w2.heap.size := by omega
  obtain ⟨hc, hf⟩ := bcell hb2
  have hb02 : Below w.heap.size w w2 := ((((Below.refl w.heap.size w).alloc (Nat.le_refl _) _).alloc (by simp) _).alloc (by simp; omega) _).trans (hb2.mono (by simp; omega))
  have fX0 : ∀ X Y, ((w2.setCell ⟨w.heap.size + 1 + 1, 0, none⟩ X).setCell ⟨w.heap.size + 1 + 1, 1, none⟩ Y).cell? ⟨w.heap.size, 0, none⟩ = some (.string ⟨#[]⟩) := fun X Y => by
    rw [cell_far _ _ _ _ _ _ (by omega), cell_far _ _ _ _ _ _ (by omega), hc w.heap.size 0 (by simp <;> omega)]; simp [go_sem]
  have fX1 : ∀ X Y, ((w2.setCell ⟨w.heap.size + 1 + 1, 0, none⟩ X).setCell ⟨w.heap.size + 1 + 1, 1, none⟩ Y).cell? ⟨w.heap.size, 1, none⟩ = some (.int .i64 0) := fun X Y => by
    rw [cell_far _ _ _ _ _ _ (by omega), cell_far _ _ _ _ _ _ (by omega), hc w.heap.size 1 (by simp <;> omega)]; simp [go_sem]
  have FX0 := hide fX0
  have FX1 := hide fX1
  clear fX0 fX1
  go_wp2
  have fX0 := unhide FX0
  have fX1 := unhide FX1
  exact bodyPost_ret (v := gotR [38] ((i : Int) + 1)) (by simp [results, Tryd.results11, go_sem, gotR, bs, fX0, fX1]) rfl ⟨rfl, (((hb02.setCell (by simp <;> omega) _).setCell (by simp <;> omega) _).setCell (by simp) _).setCell (by simp) _⟩

set_option maxHeartbeats 4000000 in
set_option maxRecDepth 100000 in
theorem ramp_heX_yes (s : ByteArray) (i a1 a2 : Nat) (v : Bool) (x : List UInt8) (m : Int) (w : World) (hs : s.size ≤ 100000) (hi : i < s.size) (h38 : dgt s.data.toList i = 38)
    (CA1 : Hid (∀ w, Calls Tryd.prog 28 #[.string s, .int .i64 ((i : Int) + 1)] w fun e w' => e = .returned (.int .u8 (a1 : Int)) ∧ w' = w))
    (CA2 : Hid (∀ w, Calls Tryd.prog 28 #[.string s, .int .i64 ((i : Int) + 2)] w fun e w' => e = .returned (.int .u8 (a2 : Int)) ∧ w' = w))
    (hN : Hid (∀ w, Calls Tryd.prog 30 #[.string s, .int .i64 ((i : Int) + 3), .int .i64 16] w fun e w' => e = .returned (gotR x m) ∧ Below w.heap.size w w')) (n1 : a1 = 35) (n2 : a2 = 88) (hm : 0 ≤ m) :
    Calls Tryd.prog 11 #[.string s, .int .i64 (i : Int), .bool v] w fun e w' => e = .returned (gotR x m) ∧ Below w.heap.size w w' := by
  have i0 : ¬ (i : Int) < 0 := by omega
  have i1 : (i : Int) < (s.size : Int) := by omega
  have i2 : ¬ (s.size : Int) ≤ (i : Int) := by omega
  have e := dgt_at s i hi
  rw [h38] at e
  unfold gotR at hN
  have hm2 : ¬ m < 0 := by omega
  subst n1
  subst n2
  clear h38
  go_enter Tryd.func11, Tryd.ntmps11
  go_wp2_with fail
  refine (unhide CA1 _).mono ?_
  rintro e1 w1 ⟨rfl, rfl⟩
  go_wp2_with fail
  refine (unhide CA2 _).mono ?_
  rintro e1 w1 ⟨rfl, rfl⟩
  go_wp2_with fail
  refine (unhide CA2 _).mono ?_
  rintro e1 w1 ⟨rfl, rfl⟩
  go_wp2_with fail
  refine (unhide hN _).mono ?_
  rintro e1 w2 ⟨rfl, hb2⟩
  have hz2 : w.heap.size + 2 < w2.heap.size := by have := hb2.size; simp at this; omega
  have hz1 : w.heap.size + 1 < w2.heap.size := by omega
  have hz0 : w.heap.size < w2.heap.size := by omega
  obtain ⟨hc, hf⟩ := bcell hb2
  have hb02 : Below w.heap.size w w2 := ((((Below.refl w.heap.size w).alloc (Nat.le_refl _) _).alloc (by simp) _).alloc (by simp; omega) _).trans (hb2.mono (by simp; omega))
  have fX0 : ∀ X Y, ((w2.setCell ⟨w.heap.size + 1 + 1, 0, none⟩ X).setCell ⟨w.heap.size + 1 + 1, 1, none⟩ Y).cell? ⟨w.heap.size, 0, none⟩ = some (.string ⟨#[]⟩) := fun X Y => by
    rw [cell_far _ _ _ _ _ _ (by omega), cell_far _ _ _ _ _ _ (by omega), hc w.heap.size 0 (by simp <;> omega)]; simp [go_sem]
  have fX1 : ∀ X Y, ((w2.setCell ⟨w.heap.size + 1 + 1, 0, none⟩ X).setCell ⟨w.heap.size + 1 + 1, 1, none⟩ Y).cell? ⟨w.heap.size, 1, none⟩ = some (.int .i64 0) := fun X Y => by
    rw [cell_far _ _ _ _ _ _ (by omega), cell_far _ _ _ _ _ _ (by omega), hc w.heap.size 1 (by simp <;> omega)]; simp [go_sem]
  have FX0 := hide fX0
  have FX1 := hide fX1
  clear fX0 fX1
  go_wp2
  have fX0 := unhide FX0
  have fX1 := unhide FX1
  exact bodyPost_ret (v := gotR x m) (by simp [results, Tryd.results11, go_sem, gotR, bs, fX0, fX1]) rfl ⟨rfl, (((hb02.setCell (by simp <;> omega) _).setCell (by simp <;> omega) _).setCell (by simp) _).setCell (by simp) _⟩

set_option maxHeartbeats 4000000 in
set_option maxRecDepth 100000 in
theorem ramp_heX_no (s : ByteArray) (i a1 a2 : Nat) (v : Bool) (x : List UInt8) (m : Int) (w : World) (hs : s.size ≤ 100000) (hi : i < s.size) (h38 : dgt s.data.toList i = 38)
    (CA1 : Hid (∀ w, Calls Tryd.prog 28 #[.string s, .int .i64 ((i : Int) + 1)] w fun e w' => e = .returned (.int .u8 (a1 : Int)) ∧ w' = w))
    (CA2 : Hid (∀ w, Calls Tryd.prog 28 #[.string s, .int .i64 ((i : Int) + 2)] w fun e w' => e = .returned (.int .u8 (a2 : Int)) ∧ w' = w))
    (hN : Hid (∀ w, Calls Tryd.prog 30 #[.string s, .int .i64 ((i : Int) + 3), .int .i64 16] w fun e w' => e = .returned (gotR x m) ∧ Below w.heap.size w w')) (n1 : a1 = 35) (n2 : a2 = 88) (hm : m < 0) :
    Calls Tryd.prog 11 #[.string s, .int .i64 (i : Int), .bool v] w fun e w' => e = .returned (gotR [38] ((i : Int) + 1)) ∧ Below w.heap.size w w' := by
  have i0 : ¬ (i : Int) < 0 := by omega
  have i1 : (i : Int) < (s.size : Int) := by omega
  have i2 : ¬ (s.size : Int) ≤ (i : Int) := by omega
  have e := dgt_at s i hi
  rw [h38] at e
  unfold gotR at hN
  have hm2 : ¬ 0 ≤ m := by omega
  subst n1
  subst n2
  clear h38
  go_enter Tryd.func11, Tryd.ntmps11
  go_wp2_with fail
  refine (unhide CA1 _).mono ?_
  rintro e1 w1 ⟨rfl, rfl⟩
  go_wp2_with fail
  refine (unhide CA2 _).mono ?_
  rintro e1 w1 ⟨rfl, rfl⟩
  go_wp2_with fail
  refine (unhide CA2 _).mono ?_
  rintro e1 w1 ⟨rfl, rfl⟩
  go_wp2_with fail
  refine (unhide hN _).mono ?_
  rintro e1 w2 ⟨rfl, hb2⟩
  have hz2 : w.heap.size + 2 < w2.heap.size := by have := hb2.size; simp at this; omega
  have hz1 : w.heap.size + 1 < w2.heap.size := by omega
  have hz0 : w.heap.size < w2.heap.size := by omega
  obtain ⟨hc, hf⟩ := bcell hb2
  have hb02 : Below w.heap.size w w2 := ((((Below.refl w.heap.size w).alloc (Nat.le_refl _) _).alloc (by simp) _).alloc (by simp; omega) _).trans (hb2.mono (by simp; omega))
  have fX0 : ∀ X Y, ((w2.setCell ⟨w.heap.size + 1 + 1, 0, none⟩ X).setCell ⟨w.heap.size + 1 + 1, 1, none⟩ Y).cell? ⟨w.heap.size, 0, none⟩ = some (.string ⟨#[]⟩) := fun X Y => by
    rw [cell_far _ _ _ _ _ _ (by omega), cell_far _ _ _ _ _ _ (by omega), hc w.heap.size 0 (by simp <;> omega)]; simp [go_sem]
  have fX1 : ∀ X Y, ((w2.setCell ⟨w.heap.size + 1 + 1, 0, none⟩ X).setCell ⟨w.heap.size + 1 + 1, 1, none⟩ Y).cell? ⟨w.heap.size, 1, none⟩ = some (.int .i64 0) := fun X Y => by
    rw [cell_far _ _ _ _ _ _ (by omega), cell_far _ _ _ _ _ _ (by omega), hc w.heap.size 1 (by simp <;> omega)]; simp [go_sem]
  have FX0 := hide fX0
  have FX1 := hide fX1
  clear fX0 fX1
  go_wp2
  have fX0 := unhide FX0
  have fX1 := unhide FX1
  exact bodyPost_ret (v := gotR [38] ((i : Int) + 1)) (by simp [results, Tryd.results11, go_sem, gotR, bs, fX0, fX1]) rfl ⟨rfl, (((hb02.setCell (by simp <;> omega) _).setCell (by simp <;> omega) _).setCell (by simp) _).setCell (by simp) _⟩

set_option maxHeartbeats 4000000 in
set_option maxRecDepth 100000 in
theorem ramp_ten_yes (s : ByteArray) (i a1 a2 : Nat) (v : Bool) (x : List UInt8) (m : Int) (w : World) (hs : s.size ≤ 100000) (hi : i < s.size) (h38 : dgt s.data.toList i = 38)
    (CA1 : Hid (∀ w, Calls Tryd.prog 28 #[.string s, .int .i64 ((i : Int) + 1)] w fun e w' => e = .returned (.int .u8 (a1 : Int)) ∧ w' = w))
    (CA2 : Hid (∀ w, Calls Tryd.prog 28 #[.string s, .int .i64 ((i : Int) + 2)] w fun e w' => e = .returned (.int .u8 (a2 : Int)) ∧ w' = w))
    (hN : Hid (∀ w, Calls Tryd.prog 30 #[.string s, .int .i64 ((i : Int) + 2), .int .i64 10] w fun e w' => e = .returned (gotR x m) ∧ Below w.heap.size w w')) (n1 : a1 = 35) (n2 : ((a2 : Int) == 120) = false) (n3 : ((a2 : Int) == 88) = false) (hm : 0 ≤ m) :
    Calls Tryd.prog 11 #[.string s, .int .i64 (i : Int), .bool v] w fun e w' => e = .returned (gotR x m) ∧ Below w.heap.size w w' := by
  have i0 : ¬ (i : Int) < 0 := by omega
  have i1 : (i : Int) < (s.size : Int) := by omega
  have i2 : ¬ (s.size : Int) ≤ (i : Int) := by omega
  have e := dgt_at s i hi
  rw [h38] at e
  unfold gotR at hN
  have hm2 : ¬ m < 0 := by omega
  subst n1
  clear h38
  go_enter Tryd.func11, Tryd.ntmps11
  go_wp2_with fail
  refine (unhide CA1 _).mono ?_
  rintro e1 w1 ⟨rfl, rfl⟩
  go_wp2_with fail
  refine (unhide CA2 _).mono ?_
  rintro e1 w1 ⟨rfl, rfl⟩
  go_wp2_with fail
  refine (unhide CA2 _).mono ?_
  rintro e1 w1 ⟨rfl, rfl⟩
  go_wp2_with fail
  refine (unhide hN _).mono ?_
  rintro e1 w2 ⟨rfl, hb2⟩
  have hz2 : w.heap.size + 2 < w2.heap.size := by have := hb2.size; simp at this; omega
  have hz1 : w.heap.size + 1 < w2.heap.size := by omega
  have hz0 : w.heap.size < w2.heap.size := by omega
  obtain ⟨hc, hf⟩ := bcell hb2
  have hb02 : Below w.heap.size w w2 := ((((Below.refl w.heap.size w).alloc (Nat.le_refl _) _).alloc (by simp) _).alloc (by simp; omega) _).trans (hb2.mono (by simp; omega))
  have fX0 : ∀ X Y, ((w2.setCell ⟨w.heap.size + 1 + 1, 0, none⟩ X).setCell ⟨w.heap.size + 1 + 1, 1, none⟩ Y).cell? ⟨w.heap.size, 0, none⟩ = some (.string ⟨#[]⟩) := fun X Y => by
    rw [cell_far _ _ _ _ _ _ (by omega), cell_far _ _ _ _ _ _ (by omega), hc w.heap.size 0 (by simp <;> omega)]; simp [go_sem]
  have fX1 : ∀ X Y, ((w2.setCell ⟨w.heap.size + 1 + 1, 0, none⟩ X).setCell ⟨w.heap.size + 1 + 1, 1, none⟩ Y).cell? ⟨w.heap.size, 1, none⟩ = some (.int .i64 0) := fun X Y => by
    rw [cell_far _ _ _ _ _ _ (by omega), cell_far _ _ _ _ _ _ (by omega), hc w.heap.size 1 (by simp <;> omega)]; simp [go_sem]
  have FX0 := hide fX0
  have FX1 := hide fX1
  clear fX0 fX1
  go_wp2
  have fX0 := unhide FX0
  have fX1 := unhide FX1
  exact bodyPost_ret (v := gotR x m) (by simp [results, Tryd.results11, go_sem, gotR, bs, fX0, fX1]) rfl ⟨rfl, (((hb02.setCell (by simp <;> omega) _).setCell (by simp <;> omega) _).setCell (by simp) _).setCell (by simp) _⟩

set_option maxHeartbeats 4000000 in
set_option maxRecDepth 100000 in
theorem ramp_ten_no (s : ByteArray) (i a1 a2 : Nat) (v : Bool) (x : List UInt8) (m : Int) (w : World) (hs : s.size ≤ 100000) (hi : i < s.size) (h38 : dgt s.data.toList i = 38)
    (CA1 : Hid (∀ w, Calls Tryd.prog 28 #[.string s, .int .i64 ((i : Int) + 1)] w fun e w' => e = .returned (.int .u8 (a1 : Int)) ∧ w' = w))
    (CA2 : Hid (∀ w, Calls Tryd.prog 28 #[.string s, .int .i64 ((i : Int) + 2)] w fun e w' => e = .returned (.int .u8 (a2 : Int)) ∧ w' = w))
    (hN : Hid (∀ w, Calls Tryd.prog 30 #[.string s, .int .i64 ((i : Int) + 2), .int .i64 10] w fun e w' => e = .returned (gotR x m) ∧ Below w.heap.size w w')) (n1 : a1 = 35) (n2 : ((a2 : Int) == 120) = false) (n3 : ((a2 : Int) == 88) = false) (hm : m < 0) :
    Calls Tryd.prog 11 #[.string s, .int .i64 (i : Int), .bool v] w fun e w' => e = .returned (gotR [38] ((i : Int) + 1)) ∧ Below w.heap.size w w' := by
  have i0 : ¬ (i : Int) < 0 := by omega
  have i1 : (i : Int) < (s.size : Int) := by omega
  have i2 : ¬ (s.size : Int) ≤ (i : Int) := by omega
  have e := dgt_at s i hi
  rw [h38] at e
  unfold gotR at hN
  have hm2 : ¬ 0 ≤ m := by omega
  subst n1
  clear h38
  go_enter Tryd.func11, Tryd.ntmps11
  go_wp2_with fail
  refine (unhide CA1 _).mono ?_
  rintro e1 w1 ⟨rfl, rfl⟩
  go_wp2_with fail
  refine (unhide CA2 _).mono ?_
  rintro e1 w1 ⟨rfl, rfl⟩
  go_wp2_with fail
  refine (unhide CA2 _).mono ?_
  rintro e1 w1 ⟨rfl, rfl⟩
  go_wp2_with fail
  refine (unhide hN _).mono ?_
  rintro e1 w2 ⟨rfl, hb2⟩
  have hz2 : w.heap.size + 2 < w2.heap.size := by have := hb2.size; simp at this; omega
  have hz1 : w.heap.size + 1 < w2.heap.size := by omega
  have hz0 : w.heap.size < w2.heap.size := by omega
  obtain ⟨hc, hf⟩ := bcell hb2
  have hb02 : Below w.heap.size w w2 := ((((Below.refl w.heap.size w).alloc (Nat.le_refl _) _).alloc (by simp) _).alloc (by simp; omega) _).trans (hb2.mono (by simp; omega))
  have fX0 : ∀ X Y, ((w2.setCell ⟨w.heap.size + 1 + 1, 0, none⟩ X).setCell ⟨w.heap.size + 1 + 1, 1, none⟩ Y).cell? ⟨w.heap.size, 0, none⟩ = some (.string ⟨#[]⟩) := fun X Y => by
    rw [cell_far _ _ _ _ _ _ (by omega), cell_far _ _ _ _ _ _ (by omega), hc w.heap.size 0 (by simp <;> omega)]; simp [go_sem]
  have fX1 : ∀ X Y, ((w2.setCell ⟨w.heap.size + 1 + 1, 0, none⟩ X).setCell ⟨w.heap.size + 1 + 1, 1, none⟩ Y).cell? ⟨w.heap.size, 1, none⟩ = some (.int .i64 0) := fun X Y => by
    rw [cell_far _ _ _ _ _ _ (by omega), cell_far _ _ _ _ _ _ (by omega), hc w.heap.size 1 (by simp <;> omega)]; simp [go_sem]
  have FX0 := hide fX0
  have FX1 := hide fX1
  clear fX0 fX1
  go_wp2
  have fX0 := unhide FX0
  have fX1 := unhide FX1
  exact bodyPost_ret (v := gotR [38] ((i : Int) + 1)) (by simp [results, Tryd.results11, go_sem, gotR, bs, fX0, fX1]) rfl ⟨rfl, (((hb02.setCell (by simp <;> omega) _).setCell (by simp <;> omega) _).setCell (by simp) _).setCell (by simp) _⟩

end Go.Proofs.YtmiehnknnkcdlaaDoor
