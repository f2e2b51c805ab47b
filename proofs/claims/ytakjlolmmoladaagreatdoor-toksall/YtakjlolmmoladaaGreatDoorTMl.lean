/-
  What 'toks.markup' does, on the whole.
-/
import Derived.Test.YtakjlolmmoladaaGreatDoorTMk
namespace Go.Proofs.YtakjlolmmoladaaGreatDoor
open Go.RowKit
set_option linter.unusedVariables false

set_option maxHeartbeats 4000000 in
set_option maxRecDepth 100000 in
theorem markup_pi (s : ByteArray) (i : Nat) (cd : Bool) (w : World) (ht : Tab4 w) (hm : Mx w) (hs : s.size ≤ 100000) (hi : i + 1 < s.size) (h : dgt s.data.toList (i + 1) = 63) :
    Calls Tryz.prog 28 #[.string s, .int .i64 (i : Int), .bool cd] w (Told w (oddT s (i + 1)) (cutE s (i + 1) [62])) := by
  have i1 : (i : Int) + 1 < (s.size : Int) := by omega
  have e1 := dgt_at s (i + 1) hi
  rw [h] at e1
  have CO : Hid (∀ w, Mx w → Calls Tryz.prog 54 #[.string s, .int .i64 ((i : Int) + 1)] w fun e w' => e = .returned (.tuple #[.agg #[.int .i64 4, .string ⟨#[]⟩, .slice none 0 0, .bool false, .string (bs (cutL s (i + 1) [62]))], .int .i64 (cutE s (i + 1) [62] : Int)]) ∧ Below w.heap.size w w') := fun w h => by
    have := oddNote_any s (i + 1) w h (by omega) hs
    rw [Int.natCast_add] at this; exact this
  unfold oddT
  generalize bs (cutL s (i + 1) [62]) = X at *
  generalize cutE s (i + 1) [62] = E at *
  clear h
  have HM := hide hm
  have HT := hide ht
  clear hm ht
  have hbA : Below w.heap.size w (w.alloc (Obj.cells #[.int .i64 0, .string ⟨#[]⟩, .slice none 0 0, .bool false, .string ⟨#[]⟩] 27)) := (Below.refl _ _).alloc (Nat.le_refl _) _
  have kk := Blk.new w #[.int .i64 0, .string ⟨#[]⟩, .slice none 0 0, .bool false, .string ⟨#[]⟩] 27
  go_enter Tryz.func28, Tryz.ntmps28
  go_wp2_with fail
  refine calls_from (fun W => Blk W w.heap.size #[.int .i64 0, .string ⟨#[]⟩, .slice none 0 0, .bool false, .string ⟨#[]⟩] 27 ∧ Below w.heap.size w W) ⟨kk, hbA⟩ ?_
  clear kk hbA
  rintro W ⟨k1, hb⟩
  refine (unhide CO _ ((unhide HM).below hb)).mono ?_
  rintro e W2 ⟨rfl, hb'⟩
  replace k1 := k1.later hb'
  replace hb := tr2 hb hb'
  clear hb'
  have c0 : W2.cell? ⟨w.heap.size, 0, none⟩ = some (.int .i64 0) := k1.cell 0
  have c1 : W2.cell? ⟨w.heap.size, 1, none⟩ = some (.string ⟨#[]⟩) := k1.cell 1
  have c2 : W2.cell? ⟨w.heap.size, 2, none⟩ = some (.slice none 0 0) := k1.cell 2
  have c3 : W2.cell? ⟨w.heap.size, 3, none⟩ = some (.bool false) := k1.cell 3
  have c4 : W2.cell? ⟨w.heap.size, 4, none⟩ = some (.string ⟨#[]⟩) := k1.cell 4
  have f0 : W2.frozen? ⟨w.heap.size, 0, none⟩ = false := k1.frozen 0
  have f1 : W2.frozen? ⟨w.heap.size, 1, none⟩ = false := k1.frozen 1
  have f2 : W2.frozen? ⟨w.heap.size, 2, none⟩ = false := k1.frozen 2
  have f3 : W2.frozen? ⟨w.heap.size, 3, none⟩ = false := k1.frozen 3
  have f4 : W2.frozen? ⟨w.heap.size, 4, none⟩ = false := k1.frozen 4
  have K1 := hide k1
  clear k1
  go_wp2
  have k1 := (((((unhide K1).set 0 (by simp) (.int .i64 4)).set 1 (by simp) (.string ⟨#[]⟩)).set 2 (by simp) (.slice none 0 0)).set 3 (by simp) (.bool false)).set 4 (by simp) (.string X)
  have d0 := k1.cell 0
  have d1 := k1.cell 1
  have d2 := k1.cell 2
  have d3 := k1.cell 3
  have d4 := k1.cell 4
  exact bodyPost_ret (v := .tuple #[.agg #[.int .i64 4, .string ⟨#[]⟩, .slice none 0 0, .bool false, .string X], .int .i64 (E : Int)]) (by simp [results, Tryz.results28, go_sem, d0, d1, d2, d3, d4]) rfl ⟨none, 0, rfl, slN_nil _ _ _, ((((hb.setCell (Nat.le_refl _) _).setCell (Nat.le_refl _) _).setCell (Nat.le_refl _) _).setCell (Nat.le_refl _) _).setCell (Nat.le_refl _) _⟩

set_option maxHeartbeats 4000000 in
set_option maxRecDepth 100000 in
theorem markup_shut (s : ByteArray) (i : Nat) (cd : Bool) (w : World) (ht : Tab4 w) (hm : Mx w) (hs : s.size ≤ 100000) (hi : i + 1 < s.size) (h : dgt s.data.toList (i + 1) = 47) (h2 : i + 2 < s.size) (h3 : dgt s.data.toList (i + 2) = 62) :
    Calls Tryz.prog 28 #[.string s, .int .i64 (i : Int), .bool cd] w (Told w noT (i + 3)) := by
  have i1 : (i : Int) + 1 < (s.size : Int) := by omega
  have e1 := dgt_at s (i + 1) hi
  have i2 : (i : Int) + 2 < (s.size : Int) := by omega
  have e2 := dgt_at s (i + 2) h2
  rw [h] at e1
  rw [h3] at e2
  clear h h3
  have HM := hide hm
  have HT := hide ht
  clear hm ht
  have hbA : Below w.heap.size w (w.alloc (Obj.cells #[.int .i64 0, .string ⟨#[]⟩, .slice none 0 0, .bool false, .string ⟨#[]⟩] 27)) := (Below.refl _ _).alloc (Nat.le_refl _) _
  have kk := Blk.new w #[.int .i64 0, .string ⟨#[]⟩, .slice none 0 0, .bool false, .string ⟨#[]⟩] 27
  go_enter Tryz.func28, Tryz.ntmps28
  clear kk
  go_wp2
  exact bodyPost_ret (v := .tuple #[.agg #[.int .i64 0, .string ⟨#[]⟩, .slice none 0 0, .bool false, .string ⟨#[]⟩], .int .i64 ((i : Int) + 3)]) (by simp [results, Tryz.results28, go_sem]) rfl ⟨none, 0, rfl, slN_nil _ _ _, hbA⟩

set_option maxHeartbeats 4000000 in
set_option maxRecDepth 100000 in
theorem markup_oddslash (s : ByteArray) (i : Nat) (cd : Bool) (w : World) (ht : Tab4 w) (hm : Mx w) (hs : s.size ≤ 100000) (hi : i + 1 < s.size) (h : dgt s.data.toList (i + 1) = 47) (h2 : i + 2 < s.size) (h3 : ¬ dgt s.data.toList (i + 2) = 62) (h4 : ltN (dgt s.data.toList (i + 2)) = false) :
    Calls Tryz.prog 28 #[.string s, .int .i64 (i : Int), .bool cd] w (Told w (oddT s (i + 2)) (cutE s (i + 2) [62])) := by
  have i1 : (i : Int) + 1 < (s.size : Int) := by omega
  have e1 := dgt_at s (i + 1) hi
  have i2 : (i : Int) + 2 < (s.size : Int) := by omega
  have e2 := dgt_at s (i + 2) h2
  rw [h] at e1
  have CO : Hid (∀ w, Mx w → Calls Tryz.prog 54 #[.string s, .int .i64 ((i : Int) + 2)] w fun e w' => e = .returned (.tuple #[.agg #[.int .i64 4, .string ⟨#[]⟩, .slice none 0 0, .bool false, .string (bs (cutL s (i + 2) [62]))], .int .i64 (cutE s (i + 2) [62] : Int)]) ∧ Below w.heap.size w w') := fun w h => by
    have := oddNote_any s (i + 2) w h (by omega) hs
    rw [Int.natCast_add] at this; exact this
  unfold oddT
  generalize bs (cutL s (i + 2) [62]) = X at *
  generalize cutE s (i + 2) [62] = E at *
  have CL := hide (fun w => letter_any (dgt s.data.toList (i + 2)) w)
  rw [h4] at CL
  generalize dgt s.data.toList (i + 2) = b2 at *
  have n62 : ((b2 : Int) == 62) = false := bneI (by omega)
  clear h h3 h4
  have HM := hide hm
  have HT := hide ht
  clear hm ht
  have hbA : Below w.heap.size w (w.alloc (Obj.cells #[.int .i64 0, .string ⟨#[]⟩, .slice none 0 0, .bool false, .string ⟨#[]⟩] 27)) := (Below.refl _ _).alloc (Nat.le_refl _) _
  have kk := Blk.new w #[.int .i64 0, .string ⟨#[]⟩, .slice none 0 0, .bool false, .string ⟨#[]⟩] 27
  go_enter Tryz.func28, Tryz.ntmps28
  go_wp2_with fail
  refine calls_from (fun W => Blk W w.heap.size #[.int .i64 0, .string ⟨#[]⟩, .slice none 0 0, .bool false, .string ⟨#[]⟩] 27 ∧ Below w.heap.size w W) ⟨kk, hbA⟩ ?_
  clear kk hbA
  rintro W ⟨k1, hb⟩
  refine (unhide CL _).mono ?_
  rintro e w1 ⟨rfl, hw1⟩
  obtain rfl : W = w1 := hw1.symm
  go_wp2_with fail
  refine (unhide CO _ ((unhide HM).below hb)).mono ?_
  rintro e W2 ⟨rfl, hb'⟩
  replace k1 := k1.later hb'
  replace hb := tr2 hb hb'
  clear hb'
  have c0 : W2.cell? ⟨w.heap.size, 0, none⟩ = some (.int .i64 0) := k1.cell 0
  have c1 : W2.cell? ⟨w.heap.size, 1, none⟩ = some (.string ⟨#[]⟩) := k1.cell 1
  have c2 : W2.cell? ⟨w.heap.size, 2, none⟩ = some (.slice none 0 0) := k1.cell 2
  have c3 : W2.cell? ⟨w.heap.size, 3, none⟩ = some (.bool false) := k1.cell 3
  have c4 : W2.cell? ⟨w.heap.size, 4, none⟩ = some (.string ⟨#[]⟩) := k1.cell 4
  have f0 : W2.frozen? ⟨w.heap.size, 0, none⟩ = false := k1.frozen 0
  have f1 : W2.frozen? ⟨w.heap.size, 1, none⟩ = false := k1.frozen 1
  have f2 : W2.frozen? ⟨w.heap.size, 2, none⟩ = false := k1.frozen 2
  have f3 : W2.frozen? ⟨w.heap.size, 3, none⟩ = false := k1.frozen 3
  have f4 : W2.frozen? ⟨w.heap.size, 4, none⟩ = false := k1.frozen 4
  have K1 := hide k1
  clear k1
  go_wp2
  have k1 := (((((unhide K1).set 0 (by simp) (.int .i64 4)).set 1 (by simp) (.string ⟨#[]⟩)).set 2 (by simp) (.slice none 0 0)).set 3 (by simp) (.bool false)).set 4 (by simp) (.string X)
  have d0 := k1.cell 0
  have d1 := k1.cell 1
  have d2 := k1.cell 2
  have d3 := k1.cell 3
  have d4 := k1.cell 4
  exact bodyPost_ret (v := .tuple #[.agg #[.int .i64 4, .string ⟨#[]⟩, .slice none 0 0, .bool false, .string X], .int .i64 (E : Int)]) (by simp [results, Tryz.results28, go_sem, d0, d1, d2, d3, d4]) rfl ⟨none, 0, rfl, slN_nil _ _ _, ((((hb.setCell (Nat.le_refl _) _).setCell (Nat.le_refl _) _).setCell (Nat.le_refl _) _).setCell (Nat.le_refl _) _).setCell (Nat.le_refl _) _⟩

set_option maxHeartbeats 4000000 in
set_option maxRecDepth 100000 in
theorem markup_end (s : ByteArray) (i : Nat) (cd : Bool) (w : World) (ht : Tab4 w) (hm : Mx w) (hs : s.size ≤ 100000) (hi : i + 1 < s.size) (h : dgt s.data.toList (i + 1) = 47) (h2 : i + 2 < s.size) (h3 : ¬ dgt s.data.toList (i + 2) = 62) (h4 : ltN (dgt s.data.toList (i + 2)) = true) :
    Calls Tryz.prog 28 #[.string s, .int .i64 (i : Int), .bool cd] w (Told w (tagT s i) (tagE s i)) := by
  have i1 : (i : Int) + 1 < (s.size : Int) := by omega
  have e1 := dgt_at s (i + 1) hi
  have i2 : (i : Int) + 2 < (s.size : Int) := by omega
  have e2 := dgt_at s (i + 2) h2
  rw [h] at e1
  have CT := hide (fun w ht hm => tag_any s i w ht hm hs hi)
  generalize tagT s i = t at *
  generalize tagE s i = E at *
  obtain ⟨tk, tn, ta, tf, tx⟩ := t
  have CL := hide (fun w => letter_any (dgt s.data.toList (i + 2)) w)
  rw [h4] at CL
  generalize dgt s.data.toList (i + 2) = b2 at *
  have n62 : ((b2 : Int) == 62) = false := bneI (by omega)
  clear h h3 h4
  have HM := hide hm
  have HT := hide ht
  clear hm ht
  have hbA : Below w.heap.size w (w.alloc (Obj.cells #[.int .i64 0, .string ⟨#[]⟩, .slice none 0 0, .bool false, .string ⟨#[]⟩] 27)) := (Below.refl _ _).alloc (Nat.le_refl _) _
  have kk := Blk.new w #[.int .i64 0, .string ⟨#[]⟩, .slice none 0 0, .bool false, .string ⟨#[]⟩] 27
  go_enter Tryz.func28, Tryz.ntmps28
  go_wp2_with fail
  refine calls_from (fun W => Blk W w.heap.size #[.int .i64 0, .string ⟨#[]⟩, .slice none 0 0, .bool false, .string ⟨#[]⟩] 27 ∧ Below w.heap.size w W) ⟨kk, hbA⟩ ?_
  clear kk hbA
  rintro W ⟨k1, hb⟩
  refine (unhide CL _).mono ?_
  rintro e w1 ⟨rfl, hw1⟩
  obtain rfl : W = w1 := hw1.symm
  go_wp2_with fail
  refine (unhide CT _ ((unhide HT).below hb) ((unhide HM).below hb)).mono ?_
  rintro e W2 ⟨q, cap, rfl, hsl, hb'⟩
  have hsl2 := hide (hsl.mono (b' := w.heap.size + 1) (by have := k1.lt; omega))
  have HT2 := hide hsl
  clear hsl
  replace k1 := k1.later hb'
  replace hb := tr2 hb hb'
  clear hb'
  have c0 : W2.cell? ⟨w.heap.size, 0, none⟩ = some (.int .i64 0) := k1.cell 0
  have c1 : W2.cell? ⟨w.heap.size, 1, none⟩ = some (.string ⟨#[]⟩) := k1.cell 1
  have c2 : W2.cell? ⟨w.heap.size, 2, none⟩ = some (.slice none 0 0) := k1.cell 2
  have c3 : W2.cell? ⟨w.heap.size, 3, none⟩ = some (.bool false) := k1.cell 3
  have c4 : W2.cell? ⟨w.heap.size, 4, none⟩ = some (.string ⟨#[]⟩) := k1.cell 4
  have f0 : W2.frozen? ⟨w.heap.size, 0, none⟩ = false := k1.frozen 0
  have f1 : W2.frozen? ⟨w.heap.size, 1, none⟩ = false := k1.frozen 1
  have f2 : W2.frozen? ⟨w.heap.size, 2, none⟩ = false := k1.frozen 2
  have f3 : W2.frozen? ⟨w.heap.size, 3, none⟩ = false := k1.frozen 3
  have f4 : W2.frozen? ⟨w.heap.size, 4, none⟩ = false := k1.frozen 4
  have K1 := hide k1
  clear k1
  go_wp2
  have k1 := (((((unhide K1).set 0 (by simp) (.int .i64 tk)).set 1 (by simp) (.string tn)).set 2 (by simp) (.slice q ta.length cap)).set 3 (by simp) (.bool tf)).set 4 (by simp) (.string tx)
  have d0 := k1.cell 0
  have d1 := k1.cell 1
  have d2 := k1.cell 2
  have d3 := k1.cell 3
  have d4 := k1.cell 4
  exact bodyPost_ret (v := .tuple #[.agg #[.int .i64 tk, .string tn, .slice q ta.length cap, .bool tf, .string tx], .int .i64 (E : Int)]) (by simp [results, Tryz.results28, go_sem, d0, d1, d2, d3, d4]) rfl ⟨q, cap, rfl, ((((((unhide hsl2).away (Nat.lt_succ_self _) _).away (Nat.lt_succ_self _) _).away (Nat.lt_succ_self _) _).away (Nat.lt_succ_self _) _).away (Nat.lt_succ_self _) _).mono (Nat.le_succ _), ((((hb.setCell (Nat.le_refl _) _).setCell (Nat.le_refl _) _).setCell (Nat.le_refl _) _).setCell (Nat.le_refl _) _).setCell (Nat.le_refl _) _⟩

set_option maxHeartbeats 4000000 in
set_option maxRecDepth 100000 in
theorem markup_start (s : ByteArray) (i : Nat) (cd : Bool) (w : World) (ht : Tab4 w) (hm : Mx w) (hs : s.size ≤ 100000) (hi : i + 1 < s.size) (h : ¬ dgt s.data.toList (i + 1) = 33) (h2 : ¬ dgt s.data.toList (i + 1) = 63) (h3 : ¬ dgt s.data.toList (i + 1) = 47) :
    Calls Tryz.prog 28 #[.string s, .int .i64 (i : Int), .bool cd] w (Told w (tagT s i) (tagE s i)) := by
  have i1 : (i : Int) + 1 < (s.size : Int) := by omega
  have e1 := dgt_at s (i + 1) hi
  have n1 : ((dgt s.data.toList (i + 1) : Int) == 33) = false := bneI (by omega)
  have n2 : ((dgt s.data.toList (i + 1) : Int) == 63) = false := bneI (by omega)
  have n3 : ((dgt s.data.toList (i + 1) : Int) == 47) = false := bneI (by omega)
  have CT := hide (fun w ht hm => tag_any s i w ht hm hs hi)
  generalize tagT s i = t at *
  generalize tagE s i = E at *
  obtain ⟨tk, tn, ta, tf, tx⟩ := t
  generalize dgt s.data.toList (i + 1) = b1 at *
  clear h h2 h3
  have HM := hide hm
  have HT := hide ht
  clear hm ht
  have hbA : Below w.heap.size w (w.alloc (Obj.cells #[.int .i64 0, .string ⟨#[]⟩, .slice none 0 0, .bool false, .string ⟨#[]⟩] 27)) := (Below.refl _ _).alloc (Nat.le_refl _) _
  have kk := Blk.new w #[.int .i64 0, .string ⟨#[]⟩, .slice none 0 0, .bool false, .string ⟨#[]⟩] 27
  go_enter Tryz.func28, Tryz.ntmps28
  go_wp2_with fail
  refine calls_from (fun W => Blk W w.heap.size #[.int .i64 0, .string ⟨#[]⟩, .slice none 0 0, .bool false, .string ⟨#[]⟩] 27 ∧ Below w.heap.size w W) ⟨kk, hbA⟩ ?_
  clear kk hbA
  rintro W ⟨k1, hb⟩
  refine (unhide CT _ ((unhide HT).below hb) ((unhide HM).below hb)).mono ?_
  rintro e W2 ⟨q, cap, rfl, hsl, hb'⟩
  have hsl2 := hide (hsl.mono (b' := w.heap.size + 1) (by have := k1.lt; omega))
  have HT2 := hide hsl
  clear hsl
  replace k1 := k1.later hb'
  replace hb := tr2 hb hb'
  clear hb'
  have c0 : W2.cell? ⟨w.heap.size, 0, none⟩ = some (.int .i64 0) := k1.cell 0
  have c1 : W2.cell? ⟨w.heap.size, 1, none⟩ = some (.string ⟨#[]⟩) := k1.cell 1
  have c2 : W2.cell? ⟨w.heap.size, 2, none⟩ = some (.slice none 0 0) := k1.cell 2
  have c3 : W2.cell? ⟨w.heap.size, 3, none⟩ = some (.bool false) := k1.cell 3
  have c4 : W2.cell? ⟨w.heap.size, 4, none⟩ = some (.string ⟨#[]⟩) := k1.cell 4
  have f0 : W2.frozen? ⟨w.heap.size, 0, none⟩ = false := k1.frozen 0
  have f1 : W2.frozen? ⟨w.heap.size, 1, none⟩ = false := k1.frozen 1
  have f2 : W2.frozen? ⟨w.heap.size, 2, none⟩ = false := k1.frozen 2
  have f3 : W2.frozen? ⟨w.heap.size, 3, none⟩ = false := k1.frozen 3
  have f4 : W2.frozen? ⟨w.heap.size, 4, none⟩ = false := k1.frozen 4
  have K1 := hide k1
  clear k1
  go_wp2
  have k1 := (((((unhide K1).set 0 (by simp) (.int .i64 tk)).set 1 (by simp) (.string tn)).set 2 (by simp) (.slice q ta.length cap)).set 3 (by simp) (.bool tf)).set 4 (by simp) (.string tx)
  have d0 := k1.cell 0
  have d1 := k1.cell 1
  have d2 := k1.cell 2
  have d3 := k1.cell 3
  have d4 := k1.cell 4
  exact bodyPost_ret (v := .tuple #[.agg #[.int .i64 tk, .string tn, .slice q ta.length cap, .bool tf, .string tx], .int .i64 (E : Int)]) (by simp [results, Tryz.results28, go_sem, d0, d1, d2, d3, d4]) rfl ⟨q, cap, rfl, ((((((unhide hsl2).away (Nat.lt_succ_self _) _).away (Nat.lt_succ_self _) _).away (Nat.lt_succ_self _) _).away (Nat.lt_succ_self _) _).away (Nat.lt_succ_self _) _).mono (Nat.le_succ _), ((((hb.setCell (Nat.le_refl _) _).setCell (Nat.le_refl _) _).setCell (Nat.le_refl _) _).setCell (Nat.le_refl _) _).setCell (Nat.le_refl _) _⟩

theorem markup_any (s : ByteArray) (i : Nat) (cd : Bool) (w : World) (ht : Tab4 w) (hm : Mx w) (hs : s.size ≤ 100000) (hi : i + 1 < s.size) (h2 : dgt s.data.toList (i + 1) = 47 → i + 2 < s.size) :
    Calls Tryz.prog 28 #[.string s, .int .i64 (i : Int), .bool cd] w (Told w (markT s i cd) (markE s i cd)) := by
  unfold markT markE
  by_cases a1 : dgt s.data.toList (i + 1) = 33
  · rw [if_pos a1, if_pos a1]; exact markup_decl s i cd w hm hs hi a1
  rw [if_neg a1, if_neg a1]
  by_cases a2 : dgt s.data.toList (i + 1) = 63
  · rw [if_pos a2, if_pos a2]; exact markup_pi s i cd w ht hm hs hi a2
  rw [if_neg a2, if_neg a2]
  by_cases a3 : dgt s.data.toList (i + 1) = 47
  · by_cases a4 : dgt s.data.toList (i + 2) = 62
    · rw [if_pos ⟨a3, a4⟩, if_pos ⟨a3, a4⟩]; exact markup_shut s i cd w ht hm hs hi a3 (h2 a3) a4
    have n4 : ¬ (dgt s.data.toList (i + 1) = 47 ∧ dgt s.data.toList (i + 2) = 62) := fun h => a4 h.2
    rw [if_neg n4, if_neg n4]
    by_cases a5 : ltN (dgt s.data.toList (i + 2)) = false
    · have y5 : dgt s.data.toList (i + 1) = 47 ∧ ltN (dgt s.data.toList (i + 2)) = false := ⟨a3, a5⟩
      rw [if_pos y5, if_pos y5]; exact markup_oddslash s i cd w ht hm hs hi a3 (h2 a3) a4 a5
    · have n5 : ¬ (dgt s.data.toList (i + 1) = 47 ∧ ltN (dgt s.data.toList (i + 2)) = false) := fun h => a5 h.2
      rw [if_neg n5, if_neg n5]; exact markup_end s i cd w ht hm hs hi a3 (h2 a3) a4 (by simpa using a5)
  · have n4 : ¬ (dgt s.data.toList (i + 1) = 47 ∧ dgt s.data.toList (i + 2) = 62) := fun h => a3 h.1
    have n5 : ¬ (dgt s.data.toList (i + 1) = 47 ∧ ltN (dgt s.data.toList (i + 2)) = false) := fun h => a3 h.1
    rw [if_neg n4, if_neg n4, if_neg n5, if_neg n5]
    exact markup_start s i cd w ht hm hs hi a1 a2 a3
end Go.Proofs.YtakjlolmmoladaaGreatDoor
