/-
  What 'toks.note' does of a comment that has no end, and on the whole.
-/
import Derived.Test.YtakjlolmmoladaaGreatDoorTNo
namespace Go.Proofs.YtakjlolmmoladaaGreatDoor
open Go.RowKit
set_option linter.unusedVariables false

set_option maxHeartbeats 4000000 in
set_option maxRecDepth 100000 in
theorem note_last (s : ByteArray) (i : Nat) (w : World) (hi : i ≤ s.size) (hs : s.size ≤ 100000) (h1 : [62].isPrefixOf (s.data.toList.drop i) = false) (h2 : [45, 62].isPrefixOf (s.data.toList.drop i) = false) (h3 : noteZ s i = s.size) :
    Calls Tryz.prog 74 #[.string s, .int .i64 (i : Int)] w fun e w' => e = .returned (.tuple #[.agg #[.int .i64 4, .string ⟨#[]⟩, .slice none 0 0, .bool false, .string (bs (woL ((s.data.toList.drop i).take (noteZ s i - i))))], .int .i64 ((noteZ s i + neN (s.data.toList.drop (noteZ s i)) : Nat) : Int)]) ∧ Below w.heap.size w w' := by
  have q0 := begs_0
  have q1 := begs_1
  have hii : (i : Int) ≤ (s.size : Int) := by omega
  have C1 : Hid (∀ w, Calls Tryz.prog 46 #[.string (s.extract i s.size), .string ⟨#[62]⟩] w fun e w' => e = .returned (.bool false) ∧ w' = w) := fun w => by
    have := prefix_any (s.extract i s.size) [62] w
    rw [rest_of, bs_toList, h1] at this
    rw [rest_of]; exact this
  have C2 : Hid (∀ w, Calls Tryz.prog 46 #[.string (s.extract i s.size), .string ⟨#[45, 62]⟩] w fun e w' => e = .returned (.bool false) ∧ w' = w) := fun w => by
    have := prefix_any (s.extract i s.size) [45, 62] w
    rw [rest_of, bs_toList, h2] at this
    rw [rest_of]; exact this
  have CS := hide (fun w g h => seek_note s i g w h hi hs)
  have hz := seekN_le (nePos s) (n := s.size) (k := i) hi
  have hzd : seekN (nePos s) s.size i = noteZ s i := rfl
  rw [hzd] at CS hz
  have hcx := extract_take s i (noteZ s i - i)
  rw [show i + (noteZ s i - i) = noteZ s i by omega] at hcx
  have CN := hide (fun w => noteEnd_any (s.extract (noteZ s i) s.size) w)
  have hxd : (s.extract (noteZ s i) s.size).data.toList = s.data.toList.drop (noteZ s i) := by rw [rest_of, bs_toList]
  rw [hxd] at CN
  rw [Int.natCast_add]
  have hnz := neN_le (s.data.toList.drop (noteZ s i))
  generalize neN (s.data.toList.drop (noteZ s i)) = ne at *
  have hyd : (s.extract i (noteZ s i)).data.toList = (s.data.toList.drop i).take (noteZ s i - i) := by rw [hcx, bs_toList]
  have CW := hide (fun w => without_any (s.extract i (noteZ s i)) w (by simp; omega))
  rw [hyd] at CW
  generalize bs (woL ((s.data.toList.drop i).take (noteZ s i - i))) = X at *
  generalize noteZ s i = Z at *
  have z1 : (i : Int) ≤ (Z : Int) := by omega
  have z2 : (Z : Int) ≤ (s.size : Int) := by omega
  have z3 : ((Z : Int) == (s.size : Int)) = true := by rw [h3]; simp
  clear h1 h2 hcx hxd hzd hyd h3
  have kk0 : Blk ((w.alloc (Obj.cells #[.string s] 9)).alloc (Obj.cells #[.int .i64 0, .string ⟨#[]⟩, .slice none 0 0, .bool false, .string ⟨#[]⟩] 27)) w.heap.size #[.string s] 9 := (Blk.new w _ _).alloc _
  have kk1 : Blk ((w.alloc (Obj.cells #[.string s] 9)).alloc (Obj.cells #[.int .i64 0, .string ⟨#[]⟩, .slice none 0 0, .bool false, .string ⟨#[]⟩] 27)) (w.heap.size + 1) #[.int .i64 0, .string ⟨#[]⟩, .slice none 0 0, .bool false, .string ⟨#[]⟩] 27 := by
    have := Blk.new (w.alloc (Obj.cells #[.string s] 9)) #[.int .i64 0, .string ⟨#[]⟩, .slice none 0 0, .bool false, .string ⟨#[]⟩] 27
    simpa using this
  have hbb : Below w.heap.size w ((w.alloc (Obj.cells #[.string s] 9)).alloc (Obj.cells #[.int .i64 0, .string ⟨#[]⟩, .slice none 0 0, .bool false, .string ⟨#[]⟩] 27)) := ((Below.refl w.heap.size w).alloc (Nat.le_refl _) _).alloc (by simp) _
  go_enter Tryz.func74, Tryz.ntmps74
  go_wp2
  refine wp_loop_rounds 3 ?_
  rw [rounds_succ]; go_wp2_with fail
  refine calls_from (fun W => Blk W w.heap.size #[.string s] 9 ∧ Blk W (w.heap.size + 1) #[.int .i64 0, .string ⟨#[]⟩, .slice none 0 0, .bool false, .string ⟨#[]⟩] 27 ∧ Below w.heap.size w W) ⟨kk0, kk1, hbb⟩ ?_
  clear kk0 kk1 hbb
  rintro W ⟨k0, k1, hb⟩
  refine (unhide C1 _).mono ?_
  rintro e w1 ⟨rfl, hw1⟩
  obtain rfl : W = w1 := hw1.symm
  have c0 : W.cell? ⟨w.heap.size + 1, 0, none⟩ = some (.int .i64 0) := k1.cell 0
  have c1 : W.cell? ⟨w.heap.size + 1, 1, none⟩ = some (.string ⟨#[]⟩) := k1.cell 1
  have c2 : W.cell? ⟨w.heap.size + 1, 2, none⟩ = some (.slice none 0 0) := k1.cell 2
  have c3 : W.cell? ⟨w.heap.size + 1, 3, none⟩ = some (.bool false) := k1.cell 3
  have c4 : W.cell? ⟨w.heap.size + 1, 4, none⟩ = some (.string ⟨#[]⟩) := k1.cell 4
  have f0 : W.frozen? ⟨w.heap.size + 1, 0, none⟩ = false := k1.frozen 0
  have f1 : W.frozen? ⟨w.heap.size + 1, 1, none⟩ = false := k1.frozen 1
  have f2 : W.frozen? ⟨w.heap.size + 1, 2, none⟩ = false := k1.frozen 2
  have f3 : W.frozen? ⟨w.heap.size + 1, 3, none⟩ = false := k1.frozen 3
  have f4 : W.frozen? ⟨w.heap.size + 1, 4, none⟩ = false := k1.frozen 4
  have cs : W.cell? ⟨w.heap.size, 0, none⟩ = some (.string s) := k0.cell 0
  have K1 := hide k1
  clear k0 k1
  go_wp2
  rw [rounds_succ]; go_wp2_with fail
  refine (unhide C2 _).mono ?_
  rintro e w1 ⟨rfl, hw1⟩
  obtain rfl : W = w1 := hw1.symm
  go_wp2
  rw [rounds_succ]; go_wp2_with fail
  refine (unhide CS _ _ cs).mono ?_
  rintro e w1 ⟨rfl, hw1⟩
  obtain rfl : W = w1 := hw1.symm
  go_wp2_with fail
  refine (unhide CW _).mono ?_
  rintro e w1 ⟨rfl, hw1⟩
  obtain rfl : W = w1 := hw1.symm
  go_wp2_with fail
  refine (unhide CN _).mono ?_
  rintro e w1 ⟨rfl, hw1⟩
  obtain rfl : W = w1 := hw1.symm
  go_wp2
  have k1 := (((((unhide K1).set 0 (by simp) (.int .i64 4)).set 1 (by simp) (.string ⟨#[]⟩)).set 2 (by simp) (.slice none 0 0)).set 3 (by simp) (.bool false)).set 4 (by simp) (.string X)
  have d0 := k1.cell 0
  have d1 := k1.cell 1
  have d2 := k1.cell 2
  have d3 := k1.cell 3
  have d4 := k1.cell 4
  exact bodyPost_ret (v := .tuple #[.agg #[.int .i64 4, .string ⟨#[]⟩, .slice none 0 0, .bool false, .string X], .int .i64 ((Z : Int) + (ne : Int))]) (by simp [results, Tryz.results74, go_sem, d0, d1, d2, d3, d4]) rfl ⟨rfl, ((((hb.setCell (by simp) _).setCell (by simp) _).setCell (by simp) _).setCell (by simp) _).setCell (by simp) _⟩

theorem note_any (s : ByteArray) (i : Nat) (w : World) (hi : i ≤ s.size) (hs : s.size ≤ 100000) :
    Calls Tryz.prog 74 #[.string s, .int .i64 (i : Int)] w fun e w' => e = .returned (.tuple #[.agg #[.int .i64 4, .string ⟨#[]⟩, .slice none 0 0, .bool false, .string (noteX s i)], .int .i64 (noteE s i : Int)]) ∧ Below w.heap.size w w' := by
  cases h1 : [62].isPrefixOf (s.data.toList.drop i) with
  | true =>
    have e1 : noteX s i = ⟨#[]⟩ := by unfold noteX; rw [if_pos h1]
    have e2 : noteE s i = i + 1 := by unfold noteE; rw [if_pos h1]
    rw [e1, e2]; exact note_gt s i w hi hs h1
  | false =>
    have n1 : ¬ [62].isPrefixOf (s.data.toList.drop i) = true := by rw [h1]; decide
    cases h2 : [45, 62].isPrefixOf (s.data.toList.drop i) with
    | true =>
      have e1 : noteX s i = ⟨#[]⟩ := by unfold noteX; rw [if_neg n1, if_pos h2]
      have e2 : noteE s i = i + 2 := by unfold noteE; rw [if_neg n1, if_pos h2]
      rw [e1, e2]; exact note_dgt s i w hi hs h1 h2
    | false =>
      have n2 : ¬ [45, 62].isPrefixOf (s.data.toList.drop i) = true := by rw [h2]; decide
      have e2 : noteE s i = noteZ s i + neN (s.data.toList.drop (noteZ s i)) := by unfold noteE; rw [if_neg n1, if_neg n2]
      by_cases h3 : noteZ s i = s.size
      · have e1 : noteX s i = bs (woL ((s.data.toList.drop i).take (noteZ s i - i))) := by unfold noteX; rw [if_neg n1, if_neg n2, if_pos h3]
        rw [e1, e2]; exact note_last s i w hi hs h1 h2 h3
      · have e1 : noteX s i = bs ((s.data.toList.drop i).take (noteZ s i - i)) := by unfold noteX; rw [if_neg n1, if_neg n2, if_neg h3]
        rw [e1, e2]; exact note_mid s i w hi hs h1 h2 h3
end Go.Proofs.YtakjlolmmoladaaGreatDoor
