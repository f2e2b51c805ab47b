/-
  What 'toks.declared' does.
-/
import Derived.Test.YtakjlolmmoladaaGreatDoorTNp
namespace Go.Proofs.YtakjlolmmoladaaGreatDoor
open Go.RowKit
set_option linter.unusedVariables false

def cdO : List UInt8 := [60, 33, 91, 67, 68, 65, 84, 65, 91]
def cdB (s : ByteArray) (i : Nat) (cd : Bool) : Bool := cd && cdO.isPrefixOf (s.data.toList.drop i)
def notB (s : ByteArray) (i : Nat) : Bool := [60, 33, 45, 45].isPrefixOf (s.data.toList.drop i)
def declK (s : ByteArray) (i : Nat) (cd : Bool) : Int := if notB s i = true then 4 else if docB (s.data.toList.drop (i + 2)) = true then 5 else if cdB s i cd = true then (if cutL s (i + 9) [93, 93, 62] = [] then 0 else 3) else 4
def declX (s : ByteArray) (i : Nat) (cd : Bool) : ByteArray := if notB s i = true then noteX s (i + 4) else if docB (s.data.toList.drop (i + 2)) = true then ⟨#[]⟩ else if cdB s i cd = true then (if cutL s (i + 9) [93, 93, 62] = [] then ⟨#[]⟩ else bs (cutL s (i + 9) [93, 93, 62])) else bs (cutL s (i + 2) [62])
def declE (s : ByteArray) (i : Nat) (cd : Bool) : Nat := if notB s i = true then noteE s (i + 4) else if docB (s.data.toList.drop (i + 2)) = true then cutE s i [62] else if cdB s i cd = true then cutE s (i + 9) [93, 93, 62] else cutE s (i + 2) [62]

set_option maxHeartbeats 4000000 in
set_option maxRecDepth 100000 in
theorem declared_note (s : ByteArray) (i : Nat) (cd : Bool) (w : World) (hm : Mx w) (hi : i + 2 ≤ s.size) (hs : s.size ≤ 100000) (h1 : notB s i = true) :
    Calls Tryz.prog 53 #[.string s, .int .i64 (i : Int), .bool cd] w fun e w' => e = .returned (.tuple #[.agg #[.int .i64 4, .string ⟨#[]⟩, .slice none 0 0, .bool false, .string (noteX s (i + 4))], .int .i64 (noteE s (i + 4) : Int)]) ∧ Below w.heap.size w w' := by
  have hii : (i : Int) ≤ (s.size : Int) := by omega
  have HM := hide hm
  clear hm
  have C1 : Hid (∀ w, Calls Tryz.prog 46 #[.string (s.extract i s.size), .string ⟨#[60, 33, 45, 45]⟩] w fun e w' => e = .returned (.bool true) ∧ w' = w) := fun w => by
    have := prefix_any (s.extract i s.size) [60, 33, 45, 45] w
    rw [rest_of, bs_toList] at this
    rw [show ([60, 33, 45, 45] : List UInt8).isPrefixOf (s.data.toList.drop i) = true from h1] at this
    rw [rest_of]; exact this
  have h4 : i + 4 ≤ s.size := by
    have := (List.isPrefixOf_iff_prefix.1 h1).length_le
    rw [List.length_drop, data_len] at this
    simp at this; omega
  have CN : Hid (∀ w, Calls Tryz.prog 74 #[.string s, .int .i64 ((i : Int) + 4)] w fun e w' => e = .returned (.tuple #[.agg #[.int .i64 4, .string ⟨#[]⟩, .slice none 0 0, .bool false, .string (noteX s (i + 4))], .int .i64 (noteE s (i + 4) : Int)]) ∧ Below w.heap.size w w') := fun w => by
    have := note_any s (i + 4) w h4 hs
    rw [Int.natCast_add] at this; exact this
  generalize noteX s (i + 4) = X at *
  generalize noteE s (i + 4) = E at *
  clear h1
  have hbA : Below w.heap.size w (w.alloc (Obj.cells #[.int .i64 0, .string ⟨#[]⟩, .slice none 0 0, .bool false, .string ⟨#[]⟩] 27)) := (Below.refl _ _).alloc (Nat.le_refl _) _
  have kk := Blk.new w #[.int .i64 0, .string ⟨#[]⟩, .slice none 0 0, .bool false, .string ⟨#[]⟩] 27
  go_enter Tryz.func53, Tryz.ntmps53
  go_wp2_with fail
  refine calls_from (fun W => Blk W w.heap.size #[.int .i64 0, .string ⟨#[]⟩, .slice none 0 0, .bool false, .string ⟨#[]⟩] 27 ∧ Below w.heap.size w W) ⟨kk, hbA⟩ ?_
  clear kk hbA
  rintro W ⟨k1, hb⟩
  refine (unhide C1 _).mono ?_
  rintro e w1 ⟨rfl, hw1⟩
  obtain rfl : W = w1 := hw1.symm
  generalize s.extract i s.size = H at *
  go_wp2_with fail
  refine (unhide CN _).mono ?_
  rintro e W2 ⟨rfl, hb'⟩
  replace k1 := k1.later hb'
  replace hb := tr2 hb hb'
  clear hb'
  have c0 : W2.cell? ⟨w.heap.size, 0, none⟩ = some (.int .i64 0) := k1.cell 0
  have c1 : W2.cell? ⟨w.heap.size, 1, none⟩ = some (.string ⟨#[]⟩) := k1.cell 1
  have c2 : W2.cell? ⟨w.heap.size, 2, none⟩ = some (.slice none 0 0) := k1.cell 2
  have c3 : W2.cell? ⟨w.heap.size, 3, none⟩ = some (.bool false) := k1.cell 3
  have c4 : W2.cell? ⟨w.heap.size, 4, none⟩ = some (.string ⟨#[]⟩) := k1.cell 4
  have f0 : W2.frozen? ⟨w.heap.size, 0, none⟩ = false := k1.frozen 0
  have f1 : W2.frozen? ⟨w.heap.size, 1, none⟩ = false := k1.frozen 1
  have f2 : W2.frozen? ⟨w.heap.size, 2, none⟩ = false := k1.frozen 2
  have f3 : W2.frozen? ⟨w.heap.size, 3, none⟩ = false := k1.frozen 3
  have f4 : W2.frozen? ⟨w.heap.size, 4, none⟩ = false := k1.frozen 4
  have K1 := hide k1
  clear k1
  go_wp2
  have k1 := (((((unhide K1).set 0 (by simp) (.int .i64 4)).set 1 (by simp) (.string ⟨#[]⟩)).set 2 (by simp) (.slice none 0 0)).set 3 (by simp) (.bool false)).set 4 (by simp) (.string X)
  have d0 := k1.cell 0
  have d1 := k1.cell 1
  have d2 := k1.cell 2
  have d3 := k1.cell 3
  have d4 := k1.cell 4
  exact bodyPost_ret (v := .tuple #[.agg #[.int .i64 4, .string ⟨#[]⟩, .slice none 0 0, .bool false, .string X], .int .i64 (E : Int)]) (by simp [results, Tryz.results53, go_sem, d0, d1, d2, d3, d4]) rfl ⟨rfl, ((((hb.setCell (by simp) _).setCell (by simp) _).setCell (by simp) _).setCell (by simp) _).setCell (by simp) _⟩

set_option maxHeartbeats 4000000 in
set_option maxRecDepth 100000 in
theorem declared_doc (s : ByteArray) (i : Nat) (cd : Bool) (w : World) (hm : Mx w) (hi : i + 2 ≤ s.size) (hs : s.size ≤ 100000) (h1 : notB s i = false) (h2 : docB (s.data.toList.drop (i + 2)) = true) :
    Calls Tryz.prog 53 #[.string s, .int .i64 (i : Int), .bool cd] w fun e w' => e = .returned (.tuple #[.agg #[.int .i64 5, .string ⟨#[]⟩, .slice none 0 0, .bool false, .string ⟨#[]⟩], .int .i64 (cutE s i [62] : Int)]) ∧ Below w.heap.size w w' := by
  have hii : (i : Int) ≤ (s.size : Int) := by omega
  have HM := hide hm
  clear hm
  have C1 : Hid (∀ w, Calls Tryz.prog 46 #[.string (s.extract i s.size), .string ⟨#[60, 33, 45, 45]⟩] w fun e w' => e = .returned (.bool false) ∧ w' = w) := fun w => by
    have := prefix_any (s.extract i s.size) [60, 33, 45, 45] w
    rw [rest_of, bs_toList] at this
    rw [show ([60, 33, 45, 45] : List UInt8).isPrefixOf (s.data.toList.drop i) = false from h1] at this
    rw [rest_of]; exact this
  have hx2 : (2 : Int) ≤ ((s.extract i s.size).size : Int) := by simp; omega
  have CD : Hid (∀ w, Calls Tryz.prog 75 #[.string ((s.extract i s.size).extract 2 (s.extract i s.size).size)] w fun e w' => e = .returned (.bool true) ∧ Below w.heap.size w w') := fun w => by
    have hd : ((s.extract i s.size).extract 2 (s.extract i s.size).size).data.toList = s.data.toList.drop (i + 2) := by
      rw [rest_of, bs_toList, rest_of, bs_toList, List.drop_drop]
    have := isDoctype_any ((s.extract i s.size).extract 2 (s.extract i s.size).size) w (by simp; omega)
    rw [hd, h2] at this
    exact this
  have CC : Hid (∀ w, Mx w → Calls Tryz.prog 76 #[.string s, .int .i64 (i : Int), .string ⟨#[62]⟩] w fun e w' => e = .returned (.tuple #[.string (bs (cutL s i [62])), .int .i64 (cutE s i [62] : Int)]) ∧ Below w.heap.size w w') := fun w h => tcut_any s i [62] w h (by omega) hs (by decide)
  generalize bs (cutL s i [62]) = X at *
  generalize cutE s i [62] = E at *
  clear h1 h2
  have hbA : Below w.heap.size w (w.alloc (Obj.cells #[.int .i64 0, .string ⟨#[]⟩, .slice none 0 0, .bool false, .string ⟨#[]⟩] 27)) := (Below.refl _ _).alloc (Nat.le_refl _) _
  have kk := Blk.new w #[.int .i64 0, .string ⟨#[]⟩, .slice none 0 0, .bool false, .string ⟨#[]⟩] 27
  go_enter Tryz.func53, Tryz.ntmps53
  go_wp2_with fail
  refine calls_from (fun W => Blk W w.heap.size #[.int .i64 0, .string ⟨#[]⟩, .slice none 0 0, .bool false, .string ⟨#[]⟩] 27 ∧ Below w.heap.size w W) ⟨kk, hbA⟩ ?_
  clear kk hbA
  rintro W ⟨k1, hb⟩
  refine (unhide C1 _).mono ?_
  rintro e w1 ⟨rfl, hw1⟩
  obtain rfl : W = w1 := hw1.symm
  generalize s.extract i s.size = H at *
  go_wp2_with fail
  refine (unhide CD _).mono ?_
  rintro e W2 ⟨rfl, hb'⟩
  replace k1 := k1.later hb'
  replace hb := tr2 hb hb'
  clear hb'
  go_wp2_with fail
  refine (unhide CC _ ((unhide HM).below hb)).mono ?_
  rintro e W3 ⟨rfl, hb'⟩
  replace k1 := k1.later hb'
  replace hb := tr2 hb hb'
  clear hb'
  have c0 : W3.cell? ⟨w.heap.size, 0, none⟩ = some (.int .i64 0) := k1.cell 0
  have c1 : W3.cell? ⟨w.heap.size, 1, none⟩ = some (.string ⟨#[]⟩) := k1.cell 1
  have c2 : W3.cell? ⟨w.heap.size, 2, none⟩ = some (.slice none 0 0) := k1.cell 2
  have c3 : W3.cell? ⟨w.heap.size, 3, none⟩ = some (.bool false) := k1.cell 3
  have c4 : W3.cell? ⟨w.heap.size, 4, none⟩ = some (.string ⟨#[]⟩) := k1.cell 4
  have f0 : W3.frozen? ⟨w.heap.size, 0, none⟩ = false := k1.frozen 0
  have f1 : W3.frozen? ⟨w.heap.size, 1, none⟩ = false := k1.frozen 1
  have f2 : W3.frozen? ⟨w.heap.size, 2, none⟩ = false := k1.frozen 2
  have f3 : W3.frozen? ⟨w.heap.size, 3, none⟩ = false := k1.frozen 3
  have f4 : W3.frozen? ⟨w.heap.size, 4, none⟩ = false := k1.frozen 4
  have K1 := hide k1
  clear k1
  go_wp2
  have k1 := (((((unhide K1).set 0 (by simp) (.int .i64 5)).set 1 (by simp) (.string ⟨#[]⟩)).set 2 (by simp) (.slice none 0 0)).set 3 (by simp) (.bool false)).set 4 (by simp) (.string ⟨#[]⟩)
  have d0 := k1.cell 0
  have d1 := k1.cell 1
  have d2 := k1.cell 2
  have d3 := k1.cell 3
  have d4 := k1.cell 4
  exact bodyPost_ret (v := .tuple #[.agg #[.int .i64 5, .string ⟨#[]⟩, .slice none 0 0, .bool false, .string ⟨#[]⟩], .int .i64 (E : Int)]) (by simp [results, Tryz.results53, go_sem, d0, d1, d2, d3, d4]) rfl ⟨rfl, ((((hb.setCell (by simp) _).setCell (by simp) _).setCell (by simp) _).setCell (by simp) _).setCell (by simp) _⟩

set_option maxHeartbeats 4000000 in
set_option maxRecDepth 100000 in
theorem declared_cd0 (s : ByteArray) (i : Nat) (w : World) (hm : Mx w) (hi : i + 2 ≤ s.size) (hs : s.size ≤ 100000) (h1 : notB s i = false) (h2 : docB (s.data.toList.drop (i + 2)) = false) (h3 : cdO.isPrefixOf (s.data.toList.drop i) = true) (h4 : cutL s (i + 9) [93, 93, 62] = []) :
    Calls Tryz.prog 53 #[.string s, .int .i64 (i : Int), .bool true] w fun e w' => e = .returned (.tuple #[.agg #[.int .i64 0, .string ⟨#[]⟩, .slice none 0 0, .bool false, .string ⟨#[]⟩], .int .i64 (cutE s (i + 9) [93, 93, 62] : Int)]) ∧ Below w.heap.size w w' := by
  have hii : (i : Int) ≤ (s.size : Int) := by omega
  have HM := hide hm
  clear hm
  have C1 : Hid (∀ w, Calls Tryz.prog 46 #[.string (s.extract i s.size), .string ⟨#[60, 33, 45, 45]⟩] w fun e w' => e = .returned (.bool false) ∧ w' = w) := fun w => by
    have := prefix_any (s.extract i s.size) [60, 33, 45, 45] w
    rw [rest_of, bs_toList] at this
    rw [show ([60, 33, 45, 45] : List UInt8).isPrefixOf (s.data.toList.drop i) = false from h1] at this
    rw [rest_of]; exact this
  have hx2 : (2 : Int) ≤ ((s.extract i s.size).size : Int) := by simp; omega
  have CD : Hid (∀ w, Calls Tryz.prog 75 #[.string ((s.extract i s.size).extract 2 (s.extract i s.size).size)] w fun e w' => e = .returned (.bool false) ∧ Below w.heap.size w w') := fun w => by
    have hd : ((s.extract i s.size).extract 2 (s.extract i s.size).size).data.toList = s.data.toList.drop (i + 2) := by
      rw [rest_of, bs_toList, rest_of, bs_toList, List.drop_drop]
    have := isDoctype_any ((s.extract i s.size).extract 2 (s.extract i s.size).size) w (by simp; omega)
    rw [hd, h2] at this
    exact this
  have C2 : Hid (∀ w, Calls Tryz.prog 46 #[.string (s.extract i s.size), .string ⟨#[60, 33, 91, 67, 68, 65, 84, 65, 91]⟩] w fun e w' => e = .returned (.bool true) ∧ w' = w) := fun w => by
    have := prefix_any (s.extract i s.size) [60, 33, 91, 67, 68, 65, 84, 65, 91] w
    rw [rest_of, bs_toList] at this
    rw [show ([60, 33, 91, 67, 68, 65, 84, 65, 91] : List UInt8).isPrefixOf (s.data.toList.drop i) = true from h3] at this
    rw [rest_of]; exact this
  have h9 : i + 9 ≤ s.size := by
    have := (List.isPrefixOf_iff_prefix.1 h3).length_le
    rw [List.length_drop, data_len] at this
    simp [cdO] at this; omega
  have CC : Hid (∀ w, Mx w → Calls Tryz.prog 76 #[.string s, .int .i64 ((i : Int) + 9), .string ⟨#[93, 93, 62]⟩] w fun e w' => e = .returned (.tuple #[.string (bs (cutL s (i + 9) [93, 93, 62])), .int .i64 (cutE s (i + 9) [93, 93, 62] : Int)]) ∧ Below w.heap.size w w') := fun w h => by
    have := tcut_any s (i + 9) [93, 93, 62] w h h9 hs (by decide)
    rw [Int.natCast_add] at this; exact this
  have hx : bs (cutL s (i + 9) [93, 93, 62]) = ⟨#[]⟩ := by rw [h4]; rfl
  rw [hx] at CC
  generalize cutE s (i + 9) [93, 93, 62] = E at *
  clear h1 h2 h3 h4 hx
  have hbA : Below w.heap.size w (w.alloc (Obj.cells #[.int .i64 0, .string ⟨#[]⟩, .slice none 0 0, .bool false, .string ⟨#[]⟩] 27)) := (Below.refl _ _).alloc (Nat.le_refl _) _
  have kk := Blk.new w #[.int .i64 0, .string ⟨#[]⟩, .slice none 0 0, .bool false, .string ⟨#[]⟩] 27
  go_enter Tryz.func53, Tryz.ntmps53
  go_wp2_with fail
  refine calls_from (fun W => Blk W w.heap.size #[.int .i64 0, .string ⟨#[]⟩, .slice none 0 0, .bool false, .string ⟨#[]⟩] 27 ∧ Below w.heap.size w W) ⟨kk, hbA⟩ ?_
  clear kk hbA
  rintro W ⟨k1, hb⟩
  refine (unhide C1 _).mono ?_
  rintro e w1 ⟨rfl, hw1⟩
  obtain rfl : W = w1 := hw1.symm
  generalize s.extract i s.size = H at *
  go_wp2_with fail
  refine (unhide CD _).mono ?_
  rintro e W2 ⟨rfl, hb'⟩
  replace k1 := k1.later hb'
  replace hb := tr2 hb hb'
  clear hb'
  go_wp2_with fail
  refine (unhide C2 _).mono ?_
  rintro e w1 ⟨rfl, hw1⟩
  obtain rfl : W2 = w1 := hw1.symm
  go_wp2_with fail
  refine (unhide CC _ ((unhide HM).below hb)).mono ?_
  rintro e W3 ⟨rfl, hb'⟩
  replace k1 := k1.later hb'
  replace hb := tr2 hb hb'
  clear hb'
  have c0 : W3.cell? ⟨w.heap.size, 0, none⟩ = some (.int .i64 0) := k1.cell 0
  have c1 : W3.cell? ⟨w.heap.size, 1, none⟩ = some (.string ⟨#[]⟩) := k1.cell 1
  have c2 : W3.cell? ⟨w.heap.size, 2, none⟩ = some (.slice none 0 0) := k1.cell 2
  have c3 : W3.cell? ⟨w.heap.size, 3, none⟩ = some (.bool false) := k1.cell 3
  have c4 : W3.cell? ⟨w.heap.size, 4, none⟩ = some (.string ⟨#[]⟩) := k1.cell 4
  have f0 : W3.frozen? ⟨w.heap.size, 0, none⟩ = false := k1.frozen 0
  have f1 : W3.frozen? ⟨w.heap.size, 1, none⟩ = false := k1.frozen 1
  have f2 : W3.frozen? ⟨w.heap.size, 2, none⟩ = false := k1.frozen 2
  have f3 : W3.frozen? ⟨w.heap.size, 3, none⟩ = false := k1.frozen 3
  have f4 : W3.frozen? ⟨w.heap.size, 4, none⟩ = false := k1.frozen 4
  have K1 := hide k1
  clear k1
  go_wp2
  have k1 := (((((unhide K1).set 0 (by simp) (.int .i64 0)).set 1 (by simp) (.string ⟨#[]⟩)).set 2 (by simp) (.slice none 0 0)).set 3 (by simp) (.bool false)).set 4 (by simp) (.string ⟨#[]⟩)
  have d0 := k1.cell 0
  have d1 := k1.cell 1
  have d2 := k1.cell 2
  have d3 := k1.cell 3
  have d4 := k1.cell 4
  exact bodyPost_ret (v := .tuple #[.agg #[.int .i64 0, .string ⟨#[]⟩, .slice none 0 0, .bool false, .string ⟨#[]⟩], .int .i64 (E : Int)]) (by simp [results, Tryz.results53, go_sem, d0, d1, d2, d3, d4]) rfl ⟨rfl, ((((hb.setCell (by simp) _).setCell (by simp) _).setCell (by simp) _).setCell (by simp) _).setCell (by simp) _⟩

set_option maxHeartbeats 4000000 in
set_option maxRecDepth 100000 in
theorem declared_cd (s : ByteArray) (i : Nat) (w : World) (hm : Mx w) (hi : i + 2 ≤ s.size) (hs : s.size ≤ 100000) (h1 : notB s i = false) (h2 : docB (s.data.toList.drop (i + 2)) = false) (h3 : cdO.isPrefixOf (s.data.toList.drop i) = true) (h4 : ¬ cutL s (i + 9) [93, 93, 62] = []) :
    Calls Tryz.prog 53 #[.string s, .int .i64 (i : Int), .bool true] w fun e w' => e = .returned (.tuple #[.agg #[.int .i64 3, .string ⟨#[]⟩, .slice none 0 0, .bool false, .string (bs (cutL s (i + 9) [93, 93, 62]))], .int .i64 (cutE s (i + 9) [93, 93, 62] : Int)]) ∧ Below w.heap.size w w' := by
  have hii : (i : Int) ≤ (s.size : Int) := by omega
  have HM := hide hm
  clear hm
  have C1 : Hid (∀ w, Calls Tryz.prog 46 #[.string (s.extract i s.size), .string ⟨#[60, 33, 45, 45]⟩] w fun e w' => e = .returned (.bool false) ∧ w' = w) := fun w => by
    have := prefix_any (s.extract i s.size) [60, 33, 45, 45] w
    rw [rest_of, bs_toList] at this
    rw [show ([60, 33, 45, 45] : List UInt8).isPrefixOf (s.data.toList.drop i) = false from h1] at this
    rw [rest_of]; exact this
  have hx2 : (2 : Int) ≤ ((s.extract i s.size).size : Int) := by simp; omega
  have CD : Hid (∀ w, Calls Tryz.prog 75 #[.string ((s.extract i s.size).extract 2 (s.extract i s.size).size)] w fun e w' => e = .returned (.bool false) ∧ Below w.heap.size w w') := fun w => by
    have hd : ((s.extract i s.size).extract 2 (s.extract i s.size).size).data.toList = s.data.toList.drop (i + 2) := by
      rw [rest_of, bs_toList, rest_of, bs_toList, List.drop_drop]
    have := isDoctype_any ((s.extract i s.size).extract 2 (s.extract i s.size).size) w (by simp; omega)
    rw [hd, h2] at this
    exact this
  have C2 : Hid (∀ w, Calls Tryz.prog 46 #[.string (s.extract i s.size), .string ⟨#[60, 33, 91, 67, 68, 65, 84, 65, 91]⟩] w fun e w' => e = .returned (.bool true) ∧ w' = w) := fun w => by
    have := prefix_any (s.extract i s.size) [60, 33, 91, 67, 68, 65, 84, 65, 91] w
    rw [rest_of, bs_toList] at this
    rw [show ([60, 33, 91, 67, 68, 65, 84, 65, 91] : List UInt8).isPrefixOf (s.data.toList.drop i) = true from h3] at this
    rw [rest_of]; exact this
  have h9 : i + 9 ≤ s.size := by
    have := (List.isPrefixOf_iff_prefix.1 h3).length_le
    rw [List.length_drop, data_len] at this
    simp [cdO] at this; omega
  have CC : Hid (∀ w, Mx w → Calls Tryz.prog 76 #[.string s, .int .i64 ((i : Int) + 9), .string ⟨#[93, 93, 62]⟩] w fun e w' => e = .returned (.tuple #[.string (bs (cutL s (i + 9) [93, 93, 62])), .int .i64 (cutE s (i + 9) [93, 93, 62] : Int)]) ∧ Below w.heap.size w w') := fun w h => by
    have := tcut_any s (i + 9) [93, 93, 62] w h h9 hs (by decide)
    rw [Int.natCast_add] at this; exact this
  have hx : (bs (cutL s (i + 9) [93, 93, 62])).toList.isEmpty = false := by
    rw [Lib.toList_data, bs_toList]
    cases h : cutL s (i + 9) [93, 93, 62] with
    | nil => exact absurd h h4
    | cons a b => rfl
  generalize bs (cutL s (i + 9) [93, 93, 62]) = X at *
  generalize cutE s (i + 9) [93, 93, 62] = E at *
  clear h1 h2 h3 h4
  have hbA : Below w.heap.size w (w.alloc (Obj.cells #[.int .i64 0, .string ⟨#[]⟩, .slice none 0 0, .bool false, .string ⟨#[]⟩] 27)) := (Below.refl _ _).alloc (Nat.le_refl _) _
  have kk := Blk.new w #[.int .i64 0, .string ⟨#[]⟩, .slice none 0 0, .bool false, .string ⟨#[]⟩] 27
  go_enter Tryz.func53, Tryz.ntmps53
  go_wp2_with fail
  refine calls_from (fun W => Blk W w.heap.size #[.int .i64 0, .string ⟨#[]⟩, .slice none 0 0, .bool false, .string ⟨#[]⟩] 27 ∧ Below w.heap.size w W) ⟨kk, hbA⟩ ?_
  clear kk hbA
  rintro W ⟨k1, hb⟩
  refine (unhide C1 _).mono ?_
  rintro e w1 ⟨rfl, hw1⟩
  obtain rfl : W = w1 := hw1.symm
  generalize s.extract i s.size = H at *
  go_wp2_with fail
  refine (unhide CD _).mono ?_
  rintro e W2 ⟨rfl, hb'⟩
  replace k1 := k1.later hb'
  replace hb := tr2 hb hb'
  clear hb'
  go_wp2_with fail
  refine (unhide C2 _).mono ?_
  rintro e w1 ⟨rfl, hw1⟩
  obtain rfl : W2 = w1 := hw1.symm
  go_wp2_with fail
  refine (unhide CC _ ((unhide HM).below hb)).mono ?_
  rintro e W3 ⟨rfl, hb'⟩
  replace k1 := k1.later hb'
  replace hb := tr2 hb hb'
  clear hb'
  have c0 : W3.cell? ⟨w.heap.size, 0, none⟩ = some (.int .i64 0) := k1.cell 0
  have c1 : W3.cell? ⟨w.heap.size, 1, none⟩ = some (.string ⟨#[]⟩) := k1.cell 1
  have c2 : W3.cell? ⟨w.heap.size, 2, none⟩ = some (.slice none 0 0) := k1.cell 2
  have c3 : W3.cell? ⟨w.heap.size, 3, none⟩ = some (.bool false) := k1.cell 3
  have c4 : W3.cell? ⟨w.heap.size, 4, none⟩ = some (.string ⟨#[]⟩) := k1.cell 4
  have f0 : W3.frozen? ⟨w.heap.size, 0, none⟩ = false := k1.frozen 0
  have f1 : W3.frozen? ⟨w.heap.size, 1, none⟩ = false := k1.frozen 1
  have f2 : W3.frozen? ⟨w.heap.size, 2, none⟩ = false := k1.frozen 2
  have f3 : W3.frozen? ⟨w.heap.size, 3, none⟩ = false := k1.frozen 3
  have f4 : W3.frozen? ⟨w.heap.size, 4, none⟩ = false := k1.frozen 4
  have K1 := hide k1
  clear k1
  go_wp2
  have k1 := (((((unhide K1).set 0 (by simp) (.int .i64 3)).set 1 (by simp) (.string ⟨#[]⟩)).set 2 (by simp) (.slice none 0 0)).set 3 (by simp) (.bool false)).set 4 (by simp) (.string X)
  have d0 := k1.cell 0
  have d1 := k1.cell 1
  have d2 := k1.cell 2
  have d3 := k1.cell 3
  have d4 := k1.cell 4
  exact bodyPost_ret (v := .tuple #[.agg #[.int .i64 3, .string ⟨#[]⟩, .slice none 0 0, .bool false, .string X], .int .i64 (E : Int)]) (by simp [results, Tryz.results53, go_sem, d0, d1, d2, d3, d4]) rfl ⟨rfl, ((((hb.setCell (by simp) _).setCell (by simp) _).setCell (by simp) _).setCell (by simp) _).setCell (by simp) _⟩

set_option maxHeartbeats 4000000 in
set_option maxRecDepth 100000 in
theorem declared_odd0 (s : ByteArray) (i : Nat) (w : World) (hm : Mx w) (hi : i + 2 ≤ s.size) (hs : s.size ≤ 100000) (h1 : notB s i = false) (h2 : docB (s.data.toList.drop (i + 2)) = false) :
    Calls Tryz.prog 53 #[.string s, .int .i64 (i : Int), .bool false] w fun e w' => e = .returned (.tuple #[.agg #[.int .i64 4, .string ⟨#[]⟩, .slice none 0 0, .bool false, .string (bs (cutL s (i + 2) [62]))], .int .i64 (cutE s (i + 2) [62] : Int)]) ∧ Below w.heap.size w w' := by
  have hii : (i : Int) ≤ (s.size : Int) := by omega
  have HM := hide hm
  clear hm
  have C1 : Hid (∀ w, Calls Tryz.prog 46 #[.string (s.extract i s.size), .string ⟨#[60, 33, 45, 45]⟩] w fun e w' => e = .returned (.bool false) ∧ w' = w) := fun w => by
    have := prefix_any (s.extract i s.size) [60, 33, 45, 45] w
    rw [rest_of, bs_toList] at this
    rw [show ([60, 33, 45, 45] : List UInt8).isPrefixOf (s.data.toList.drop i) = false from h1] at this
    rw [rest_of]; exact this
  have hx2 : (2 : Int) ≤ ((s.extract i s.size).size : Int) := by simp; omega
  have CD : Hid (∀ w, Calls Tryz.prog 75 #[.string ((s.extract i s.size).extract 2 (s.extract i s.size).size)] w fun e w' => e = .returned (.bool false) ∧ Below w.heap.size w w') := fun w => by
    have hd : ((s.extract i s.size).extract 2 (s.extract i s.size).size).data.toList = s.data.toList.drop (i + 2) := by
      rw [rest_of, bs_toList, rest_of, bs_toList, List.drop_drop]
    have := isDoctype_any ((s.extract i s.size).extract 2 (s.extract i s.size).size) w (by simp; omega)
    rw [hd, h2] at this
    exact this
  have CO : Hid (∀ w, Mx w → Calls Tryz.prog 54 #[.string s, .int .i64 ((i : Int) + 2)] w fun e w' => e = .returned (.tuple #[.agg #[.int .i64 4, .string ⟨#[]⟩, .slice none 0 0, .bool false, .string (bs (cutL s (i + 2) [62]))], .int .i64 (cutE s (i + 2) [62] : Int)]) ∧ Below w.heap.size w w') := fun w h => by
    have := oddNote_any s (i + 2) w h hi hs
    rw [Int.natCast_add] at this; exact this
  generalize bs (cutL s (i + 2) [62]) = X at *
  generalize cutE s (i + 2) [62] = E at *
  clear h1 h2
  have hbA : Below w.heap.size w (w.alloc (Obj.cells #[.int .i64 0, .string ⟨#[]⟩, .slice none 0 0, .bool false, .string ⟨#[]⟩] 27)) := (Below.refl _ _).alloc (Nat.le_refl _) _
  have kk := Blk.new w #[.int .i64 0, .string ⟨#[]⟩, .slice none 0 0, .bool false, .string ⟨#[]⟩] 27
  go_enter Tryz.func53, Tryz.ntmps53
  go_wp2_with fail
  refine calls_from (fun W => Blk W w.heap.size #[.int .i64 0, .string ⟨#[]⟩, .slice none 0 0, .bool false, .string ⟨#[]⟩] 27 ∧ Below w.heap.size w W) ⟨kk, hbA⟩ ?_
  clear kk hbA
  rintro W ⟨k1, hb⟩
  refine (unhide C1 _).mono ?_
  rintro e w1 ⟨rfl, hw1⟩
  obtain rfl : W = w1 := hw1.symm
  generalize s.extract i s.size = H at *
  go_wp2_with fail
  refine (unhide CD _).mono ?_
  rintro e W2 ⟨rfl, hb'⟩
  replace k1 := k1.later hb'
  replace hb := tr2 hb hb'
  clear hb'
  go_wp2_with fail
  refine (unhide CO _ ((unhide HM).below hb)).mono ?_
  rintro e W3 ⟨rfl, hb'⟩
  replace k1 := k1.later hb'
  replace hb := tr2 hb hb'
  clear hb'
  have c0 : W3.cell? ⟨w.heap.size, 0, none⟩ = some (.int .i64 0) := k1.cell 0
  have c1 : W3.cell? ⟨w.heap.size, 1, none⟩ = some (.string ⟨#[]⟩) := k1.cell 1
  have c2 : W3.cell? ⟨w.heap.size, 2, none⟩ = some (.slice none 0 0) := k1.cell 2
  have c3 : W3.cell? ⟨w.heap.size, 3, none⟩ = some (.bool false) := k1.cell 3
  have c4 : W3.cell? ⟨w.heap.size, 4, none⟩ = some (.string ⟨#[]⟩) := k1.cell 4
  have f0 : W3.frozen? ⟨w.heap.size, 0, none⟩ = false := k1.frozen 0
  have f1 : W3.frozen? ⟨w.heap.size, 1, none⟩ = false := k1.frozen 1
  have f2 : W3.frozen? ⟨w.heap.size, 2, none⟩ = false := k1.frozen 2
  have f3 : W3.frozen? ⟨w.heap.size, 3, none⟩ = false := k1.frozen 3
  have f4 : W3.frozen? ⟨w.heap.size, 4, none⟩ = false := k1.frozen 4
  have K1 := hide k1
  clear k1
  go_wp2
  have k1 := (((((unhide K1).set 0 (by simp) (.int .i64 4)).set 1 (by simp) (.string ⟨#[]⟩)).set 2 (by simp) (.slice none 0 0)).set 3 (by simp) (.bool false)).set 4 (by simp) (.string X)
  have d0 := k1.cell 0
  have d1 := k1.cell 1
  have d2 := k1.cell 2
  have d3 := k1.cell 3
  have d4 := k1.cell 4
  exact bodyPost_ret (v := .tuple #[.agg #[.int .i64 4, .string ⟨#[]⟩, .slice none 0 0, .bool false, .string X], .int .i64 (E : Int)]) (by simp [results, Tryz.results53, go_sem, d0, d1, d2, d3, d4]) rfl ⟨rfl, ((((hb.setCell (by simp) _).setCell (by simp) _).setCell (by simp) _).setCell (by simp) _).setCell (by simp) _⟩

set_option maxHeartbeats 4000000 in
set_option maxRecDepth 100000 in
theorem declared_odd1 (s : ByteArray) (i : Nat) (w : World) (hm : Mx w) (hi : i + 2 ≤ s.size) (hs : s.size ≤ 100000) (h1 : notB s i = false) (h2 : docB (s.data.toList.drop (i + 2)) = false) (h3 : cdO.isPrefixOf (s.data.toList.drop i) = false) :
    Calls Tryz.prog 53 #[.string s, .int .i64 (i : Int), .bool true] w fun e w' => e = .returned (.tuple #[.agg #[.int .i64 4, .string ⟨#[]⟩, .slice none 0 0, .bool false, .string (bs (cutL s (i + 2) [62]))], .int .i64 (cutE s (i + 2) [62] : Int)]) ∧ Below w.heap.size w w' := by
  have hii : (i : Int) ≤ (s.size : Int) := by omega
  have HM := hide hm
  clear hm
  have C1 : Hid (∀ w, Calls Tryz.prog 46 #[.string (s.extract i s.size), .string ⟨#[60, 33, 45, 45]⟩] w fun e w' => e = .returned (.bool false) ∧ w' = w) := fun w => by
    have := prefix_any (s.extract i s.size) [60, 33, 45, 45] w
    rw [rest_of, bs_toList] at this
    rw [show ([60, 33, 45, 45] : List UInt8).isPrefixOf (s.data.toList.drop i) = false from h1] at this
    rw [rest_of]; exact this
  have hx2 : (2 : Int) ≤ ((s.extract i s.size).size : Int) := by simp; omega
  have CD : Hid (∀ w, Calls Tryz.prog 75 #[.string ((s.extract i s.size).extract 2 (s.extract i s.size).size)] w fun e w' => e = .returned (.bool false) ∧ Below w.heap.size w w') := fun w => by
    have hd : ((s.extract i s.size).extract 2 (s.extract i s.size).size).data.toList = s.data.toList.drop (i + 2) := by
      rw [rest_of, bs_toList, rest_of, bs_toList, List.drop_drop]
    have := isDoctype_any ((s.extract i s.size).extract 2 (s.extract i s.size).size) w (by simp; omega)
    rw [hd, h2] at this
    exact this
  have C2 : Hid (∀ w, Calls Tryz.prog 46 #[.string (s.extract i s.size), .string ⟨#[60, 33, 91, 67, 68, 65, 84, 65, 91]⟩] w fun e w' => e = .returned (.bool false) ∧ w' = w) := fun w => by
    have := prefix_any (s.extract i s.size) [60, 33, 91, 67, 68, 65, 84, 65, 91] w
    rw [rest_of, bs_toList] at this
    rw [show ([60, 33, 91, 67, 68, 65, 84, 65, 91] : List UInt8).isPrefixOf (s.data.toList.drop i) = false from h3] at this
    rw [rest_of]; exact this
  have CO : Hid (∀ w, Mx w → Calls Tryz.prog 54 #[.string s, .int .i64 ((i : Int) + 2)] w fun e w' => e = .returned (.tuple #[.agg #[.int .i64 4, .string ⟨#[]⟩, .slice none 0 0, .bool false, .string (bs (cutL s (i + 2) [62]))], .int .i64 (cutE s (i + 2) [62] : Int)]) ∧ Below w.heap.size w w') := fun w h => by
    have := oddNote_any s (i + 2) w h hi hs
    rw [Int.natCast_add] at this; exact this
  generalize bs (cutL s (i + 2) [62]) = X at *
  generalize cutE s (i + 2) [62] = E at *
  clear h1 h2 h3
  have hbA : Below w.heap.size w (w.alloc (Obj.cells #[.int .i64 0, .string ⟨#[]⟩, .slice none 0 0, .bool false, .string ⟨#[]⟩] 27)) := (Below.refl _ _).alloc (Nat.le_refl _) _
  have kk := Blk.new w #[.int .i64 0, .string ⟨#[]⟩, .slice none 0 0, .bool false, .string ⟨#[]⟩] 27
  go_enter Tryz.func53, Tryz.ntmps53
  go_wp2_with fail
  refine calls_from (fun W => Blk W w.heap.size #[.int .i64 0, .string ⟨#[]⟩, .slice none 0 0, .bool false, .string ⟨#[]⟩] 27 ∧ Below w.heap.size w W) ⟨kk, hbA⟩ ?_
  clear kk hbA
  rintro W ⟨k1, hb⟩
  refine (unhide C1 _).mono ?_
  rintro e w1 ⟨rfl, hw1⟩
  obtain rfl : W = w1 := hw1.symm
  generalize s.extract i s.size = H at *
  go_wp2_with fail
  refine (unhide CD _).mono ?_
  rintro e W2 ⟨rfl, hb'⟩
  replace k1 := k1.later hb'
  replace hb := tr2 hb hb'
  clear hb'
  go_wp2_with fail
  refine (unhide C2 _).mono ?_
  rintro e w1 ⟨rfl, hw1⟩
  obtain rfl : W2 = w1 := hw1.symm
  go_wp2_with fail
  refine (unhide CO _ ((unhide HM).below hb)).mono ?_
  rintro e W3 ⟨rfl, hb'⟩
  replace k1 := k1.later hb'
  replace hb := tr2 hb hb'
  clear hb'
  have c0 : W3.cell? ⟨w.heap.size, 0, none⟩ = some (.int .i64 0) := k1.cell 0
  have c1 : W3.cell? ⟨w.heap.size, 1, none⟩ = some (.string ⟨#[]⟩) := k1.cell 1
  have c2 : W3.cell? ⟨w.heap.size, 2, none⟩ = some (.slice none 0 0) := k1.cell 2
  have c3 : W3.cell? ⟨w.heap.size, 3, none⟩ = some (.bool false) := k1.cell 3
  have c4 : W3.cell? ⟨w.heap.size, 4, none⟩ = some (.string ⟨#[]⟩) := k1.cell 4
  have f0 : W3.frozen? ⟨w.heap.size, 0, none⟩ = false := k1.frozen 0
  have f1 : W3.frozen? ⟨w.heap.size, 1, none⟩ = false := k1.frozen 1
  have f2 : W3.frozen? ⟨w.heap.size, 2, none⟩ = false := k1.frozen 2
  have f3 : W3.frozen? ⟨w.heap.size, 3, none⟩ = false := k1.frozen 3
  have f4 : W3.frozen? ⟨w.heap.size, 4, none⟩ = false := k1.frozen 4
  have K1 := hide k1
  clear k1
  go_wp2
  have k1 := (((((unhide K1).set 0 (by simp) (.int .i64 4)).set 1 (by simp) (.string ⟨#[]⟩)).set 2 (by simp) (.slice none 0 0)).set 3 (by simp) (.bool false)).set 4 (by simp) (.string X)
  have d0 := k1.cell 0
  have d1 := k1.cell 1
  have d2 := k1.cell 2
  have d3 := k1.cell 3
  have d4 := k1.cell 4
  exact bodyPost_ret (v := .tuple #[.agg #[.int .i64 4, .string ⟨#[]⟩, .slice none 0 0, .bool false, .string X], .int .i64 (E : Int)]) (by simp [results, Tryz.results53, go_sem, d0, d1, d2, d3, d4]) rfl ⟨rfl, ((((hb.setCell (by simp) _).setCell (by simp) _).setCell (by simp) _).setCell (by simp) _).setCell (by simp) _⟩

theorem declared_any (s : ByteArray) (i : Nat) (cd : Bool) (w : World) (hm : Mx w) (hi : i + 2 ≤ s.size) (hs : s.size ≤ 100000) :
    Calls Tryz.prog 53 #[.string s, .int .i64 (i : Int), .bool cd] w fun e w' => e = .returned (.tuple #[.agg #[.int .i64 (declK s i cd), .string ⟨#[]⟩, .slice none 0 0, .bool false, .string (declX s i cd)], .int .i64 (declE s i cd : Int)]) ∧ Below w.heap.size w w' := by
  unfold declK declX declE
  cases h1 : notB s i with
  | true => rw [if_pos (rfl : true = true), if_pos (rfl : true = true), if_pos (rfl : true = true)]; exact declared_note s i cd w hm hi hs h1
  | false =>
    rw [if_neg Bool.false_ne_true, if_neg Bool.false_ne_true, if_neg Bool.false_ne_true]
    cases h2 : docB (s.data.toList.drop (i + 2)) with
    | true => rw [if_pos (rfl : true = true), if_pos (rfl : true = true), if_pos (rfl : true = true)]; exact declared_doc s i cd w hm hi hs h1 h2
    | false =>
      rw [if_neg Bool.false_ne_true, if_neg Bool.false_ne_true, if_neg Bool.false_ne_true]
      unfold cdB
      cases cd with
      | false => rw [Bool.false_and, if_neg Bool.false_ne_true, if_neg Bool.false_ne_true, if_neg Bool.false_ne_true]; exact declared_odd0 s i w hm hi hs h1 h2
      | true =>
        rw [Bool.true_and]
        cases h3 : cdO.isPrefixOf (s.data.toList.drop i) with
        | false => rw [if_neg Bool.false_ne_true, if_neg Bool.false_ne_true, if_neg Bool.false_ne_true]; exact declared_odd1 s i w hm hi hs h1 h2 h3
        | true =>
          rw [if_pos (rfl : true = true), if_pos (rfl : true = true), if_pos (rfl : true = true)]
          by_cases h4 : cutL s (i + 9) [93, 93, 62] = []
          · rw [if_pos h4, if_pos h4]; exact declared_cd0 s i w hm hi hs h1 h2 h3 h4
          · rw [if_neg h4, if_neg h4]; exact declared_cd s i w hm hi hs h1 h2 h3 h4
end Go.Proofs.YtakjlolmmoladaaGreatDoor
