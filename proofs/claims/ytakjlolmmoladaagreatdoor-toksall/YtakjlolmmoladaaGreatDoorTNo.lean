/-
  What 'toks.oddNote', 'isDoctype', 'note' and 'declared' do.
-/
import Derived.Test.YtakjlolmmoladaaGreatDoorTNt
namespace Go.Proofs.YtakjlolmmoladaaGreatDoor
open Go.RowKit
set_option linter.unusedVariables false

set_option maxHeartbeats 2000000 in
set_option maxRecDepth 100000 in
theorem oddNote_any (s : ByteArray) (i : Nat) (w : World) (hm : Mx w) (hi : i ≤ s.size) (hs : s.size ≤ 100000) :
    Calls Tryz.prog 54 #[.string s, .int .i64 (i : Int)] w fun e w' => e = .returned (.tuple #[.agg #[.int .i64 4, .string ⟨#[]⟩, .slice none 0 0, .bool false, .string (bs (cutL s i [62]))], .int .i64 (cutE s i [62] : Int)]) ∧ Below w.heap.size w w' := by
  have C : Hid (∀ w, Mx w → Calls Tryz.prog 76 #[.string s, .int .i64 (i : Int), .string ⟨#[62]⟩] w fun e w' => e = .returned (.tuple #[.string (bs (cutL s i [62])), .int .i64 (cutE s i [62] : Int)]) ∧ Below w.heap.size w w') := fun w h => tcut_any s i [62] w h hi hs (by decide)
  have HM := hide hm
  generalize bs (cutL s i [62]) = x at *
  generalize cutE s i [62] = E at *
  clear hm
  go_enter Tryz.func54, Tryz.ntmps54
  go_wp2_with fail
  have hbA : Below w.heap.size w (w.alloc (Obj.cells #[.int .i64 0, .string ⟨#[]⟩, .slice none 0 0, .bool false, .string ⟨#[]⟩] 27)) := (Below.refl _ _).alloc (Nat.le_refl _) _
  refine (unhide C _ ((unhide HM).below hbA)).mono ?_
  rintro e w1 ⟨rfl, hb1⟩
  have k1 := (Blk.new w #[.int .i64 0, .string ⟨#[]⟩, .slice none 0 0, .bool false, .string ⟨#[]⟩] 27).later hb1
  have hb := tr2 hbA hb1
  have c0 : w1.cell? ⟨w.heap.size, 0, none⟩ = some (.int .i64 0) := k1.cell 0
  have c1 : w1.cell? ⟨w.heap.size, 1, none⟩ = some (.string ⟨#[]⟩) := k1.cell 1
  have c2 : w1.cell? ⟨w.heap.size, 2, none⟩ = some (.slice none 0 0) := k1.cell 2
  have c3 : w1.cell? ⟨w.heap.size, 3, none⟩ = some (.bool false) := k1.cell 3
  have c4 : w1.cell? ⟨w.heap.size, 4, none⟩ = some (.string ⟨#[]⟩) := k1.cell 4
  have f0 : w1.frozen? ⟨w.heap.size, 0, none⟩ = false := k1.frozen 0
  have f1 : w1.frozen? ⟨w.heap.size, 1, none⟩ = false := k1.frozen 1
  have f2 : w1.frozen? ⟨w.heap.size, 2, none⟩ = false := k1.frozen 2
  have f3 : w1.frozen? ⟨w.heap.size, 3, none⟩ = false := k1.frozen 3
  have f4 : w1.frozen? ⟨w.heap.size, 4, none⟩ = false := k1.frozen 4
  have K1 := hide k1
  clear k1 hb1 hbA
  go_wp2
  have k1 := (((((unhide K1).set 0 (by simp) (.int .i64 4)).set 1 (by simp) (.string ⟨#[]⟩)).set 2 (by simp) (.slice none 0 0)).set 3 (by simp) (.bool false)).set 4 (by simp) (.string x)
  have d0 := k1.cell 0
  have d1 := k1.cell 1
  have d2 := k1.cell 2
  have d3 := k1.cell 3
  have d4 := k1.cell 4
  exact bodyPost_ret (v := .tuple #[.agg #[.int .i64 4, .string ⟨#[]⟩, .slice none 0 0, .bool false, .string x], .int .i64 (E : Int)]) (by simp [results, Tryz.results54, go_sem, d0, d1, d2, d3, d4]) rfl ⟨rfl, ((((hb.setCell (Nat.le_refl _) _).setCell (Nat.le_refl _) _).setCell (Nat.le_refl _) _).setCell (Nat.le_refl _) _).setCell (Nat.le_refl _) _⟩

/-- Does a text begin with the word doctype? -/
def docW : List UInt8 := [100, 111, 99, 116, 121, 112, 101]
def docB (l : List UInt8) : Bool := decide (7 ≤ l.length) && (lowL (l.take 7) == docW)
theorem isDoctype_any (s : ByteArray) (w : World) (hs : s.size ≤ 100000) :
    Calls Tryz.prog 75 #[.string s] w fun e w' => e = .returned (.bool (docB s.data.toList)) ∧ Below w.heap.size w w' := by
  unfold docB
  by_cases h7 : 7 ≤ s.size
  · rw [decide_eq_true (by rw [data_len]; exact h7), Bool.true_and]
    have i7 : (7 : Int) ≤ (s.size : Int) := by omega
    have hxd : (s.extract 0 7).data.toList = s.data.toList.take 7 := by
      have := extract_take s 0 7
      rw [Nat.zero_add] at this
      rw [this, bs_toList, List.drop_zero]
    have CL := hide (fun w => lower_any (s.extract 0 7) w (by simp; omega))
    rw [hxd] at CL
    have hq : (lowL (s.data.toList.take 7) == docW) = ((bs (lowL (s.data.toList.take 7))).toList == [100, 111, 99, 116, 121, 112, 101]) := by
      rw [Lib.toList_data, bs_toList]; rfl
    rw [hq]
    generalize bs (lowL (s.data.toList.take 7)) = Y at *
    clear hq hxd h7
    go_enter Tryz.func75, Tryz.ntmps75
    go_wp2_with fail
    refine (unhide CL _).mono ?_
    rintro e w1 ⟨rfl, hb1⟩
    go_wp2
    go_ret
    exact ⟨rfl, hb1⟩
  · rw [decide_eq_false (by rw [data_len]; exact h7), Bool.false_and]
    have i7 : decide ((7 : Int) ≤ (s.size : Int)) = false := decide_eq_false (by omega)
    clear h7
    go_enter Tryz.func75, Tryz.ntmps75
    go_wp2
    go_ret
    exact ⟨rfl, Below.refl _ _⟩

/-! ### a comment -/
theorem neN_le (l : List UInt8) : neN l ≤ 4 := by unfold neN; split <;> (try split) <;> omega
theorem begs_0 (w : World) : Sem.run Tryz.prog (Instr.index 103 (.agg #[.string ⟨#[62]⟩, .string ⟨#[45, 62]⟩]) (.int .i64 0)) w = .ok (.string ⟨#[62]⟩) w := by kernel_rfl
theorem begs_1 (w : World) : Sem.run Tryz.prog (Instr.index 103 (.agg #[.string ⟨#[62]⟩, .string ⟨#[45, 62]⟩]) (.int .i64 1)) w = .ok (.string ⟨#[45, 62]⟩) w := by kernel_rfl
def noteZ (s : ByteArray) (i : Nat) : Nat := seekN (nePos s) s.size i
def noteX (s : ByteArray) (i : Nat) : ByteArray := if [62].isPrefixOf (s.data.toList.drop i) = true then ⟨#[]⟩ else if [45, 62].isPrefixOf (s.data.toList.drop i) = true then ⟨#[]⟩ else if noteZ s i = s.size then bs (woL ((s.data.toList.drop i).take (noteZ s i - i))) else bs ((s.data.toList.drop i).take (noteZ s i - i))
def noteE (s : ByteArray) (i : Nat) : Nat := if [62].isPrefixOf (s.data.toList.drop i) = true then i + 1 else if [45, 62].isPrefixOf (s.data.toList.drop i) = true then i + 2 else noteZ s i + neN (s.data.toList.drop (noteZ s i))

set_option maxHeartbeats 4000000 in
set_option maxRecDepth 100000 in
theorem note_gt (s : ByteArray) (i : Nat) (w : World) (hi : i ≤ s.size) (hs : s.size ≤ 100000) (h1 : [62].isPrefixOf (s.data.toList.drop i) = true) :
    Calls Tryz.prog 74 #[.string s, .int .i64 (i : Int)] w fun e w' => e = .returned (.tuple #[.agg #[.int .i64 4, .string ⟨#[]⟩, .slice none 0 0, .bool false, .string ⟨#[]⟩], .int .i64 ((i : Int) + 1)]) ∧ Below w.heap.size w w' := by
  have q0 := begs_0
  have q1 := begs_1
  have hii : (i : Int) ≤ (s.size : Int) := by omega
  have C1 : Hid (∀ w, Calls Tryz.prog 46 #[.string (s.extract i s.size), .string ⟨#[62]⟩] w fun e w' => e = .returned (.bool true) ∧ w' = w) := fun w => by
    have := prefix_any (s.extract i s.size) [62] w
    rw [rest_of, bs_toList, h1] at this
    rw [rest_of]; exact this
  clear h1
  have kk0 : Blk ((w.alloc (Obj.cells #[.string s] 9)).alloc (Obj.cells #[.int .i64 0, .string ⟨#[]⟩, .slice none 0 0, .bool false, .string ⟨#[]⟩] 27)) w.heap.size #[.string s] 9 := (Blk.new w _ _).alloc _
  have kk1 : Blk ((w.alloc (Obj.cells #[.string s] 9)).alloc (Obj.cells #[.int .i64 0, .string ⟨#[]⟩, .slice none 0 0, .bool false, .string ⟨#[]⟩] 27)) (w.heap.size + 1) #[.int .i64 0, .string ⟨#[]⟩, .slice none 0 0, .bool false, .string ⟨#[]⟩] 27 := by
    have := Blk.new (w.alloc (Obj.cells #[.string s] 9)) #[.int .i64 0, .string ⟨#[]⟩, .slice none 0 0, .bool false, .string ⟨#[]⟩] 27
    simpa using this
  have hbb : Below w.heap.size w ((w.alloc (Obj.cells #[.string s] 9)).alloc (Obj.cells #[.int .i64 0, .string ⟨#[]⟩, .slice none 0 0, .bool false, .string ⟨#[]⟩] 27)) := ((Below.refl w.heap.size w).alloc (Nat.le_refl _) _).alloc (by simp) _
  go_enter Tryz.func74, Tryz.ntmps74
  go_wp2
  refine wp_loop_rounds 3 ?_
  rw [rounds_succ]; go_wp2_with fail
  refine calls_from (fun W => Blk W w.heap.size #[.string s] 9 ∧ Blk W (w.heap.size + 1) #[.int .i64 0, .string ⟨#[]⟩, .slice none 0 0, .bool false, .string ⟨#[]⟩] 27 ∧ Below w.heap.size w W) ⟨kk0, kk1, hbb⟩ ?_
  clear kk0 kk1 hbb
  rintro W ⟨k0, k1, hb⟩
  refine (unhide C1 _).mono ?_
  rintro e w1 ⟨rfl, hw1⟩
  obtain rfl : W = w1 := hw1.symm
  have c0 : W.cell? ⟨w.heap.size + 1, 0, none⟩ = some (.int .i64 0) := k1.cell 0
  have c1 : W.cell? ⟨w.heap.size + 1, 1, none⟩ = some (.string ⟨#[]⟩) := k1.cell 1
  have c2 : W.cell? ⟨w.heap.size + 1, 2, none⟩ = some (.slice none 0 0) := k1.cell 2
  have c3 : W.cell? ⟨w.heap.size + 1, 3, none⟩ = some (.bool false) := k1.cell 3
  have c4 : W.cell? ⟨w.heap.size + 1, 4, none⟩ = some (.string ⟨#[]⟩) := k1.cell 4
  have f0 : W.frozen? ⟨w.heap.size + 1, 0, none⟩ = false := k1.frozen 0
  have f1 : W.frozen? ⟨w.heap.size + 1, 1, none⟩ = false := k1.frozen 1
  have f2 : W.frozen? ⟨w.heap.size + 1, 2, none⟩ = false := k1.frozen 2
  have f3 : W.frozen? ⟨w.heap.size + 1, 3, none⟩ = false := k1.frozen 3
  have f4 : W.frozen? ⟨w.heap.size + 1, 4, none⟩ = false := k1.frozen 4
  have K1 := hide k1
  clear k0 k1
  go_wp2
  have k1 := (((((unhide K1).set 0 (by simp) (.int .i64 4)).set 1 (by simp) (.string ⟨#[]⟩)).set 2 (by simp) (.slice none 0 0)).set 3 (by simp) (.bool false)).set 4 (by simp) (.string ⟨#[]⟩)
  have d0 := k1.cell 0
  have d1 := k1.cell 1
  have d2 := k1.cell 2
  have d3 := k1.cell 3
  have d4 := k1.cell 4
  exact bodyPost_ret (v := .tuple #[.agg #[.int .i64 4, .string ⟨#[]⟩, .slice none 0 0, .bool false, .string ⟨#[]⟩], .int .i64 ((i : Int) + 1)]) (by simp [results, Tryz.results74, go_sem, d0, d1, d2, d3, d4]) rfl ⟨rfl, ((((hb.setCell (by simp) _).setCell (by simp) _).setCell (by simp) _).setCell (by simp) _).setCell (by simp) _⟩

set_option maxHeartbeats 4000000 in
set_option maxRecDepth 100000 in
theorem note_dgt (s : ByteArray) (i : Nat) (w : World) (hi : i ≤ s.size) (hs : s.size ≤ 100000) (h1 : [62].isPrefixOf (s.data.toList.drop i) = false) (h2 : [45, 62].isPrefixOf (s.data.toList.drop i) = true) :
    Calls Tryz.prog 74 #[.string s, .int .i64 (i : Int)] w fun e w' => e = .returned (.tuple #[.agg #[.int .i64 4, .string ⟨#[]⟩, .slice none 0 0, .bool false, .string ⟨#[]⟩], .int .i64 ((i : Int) + 2)]) ∧ Below w.heap.size w w' := by
  have q0 := begs_0
  have q1 := begs_1
  have hii : (i : Int) ≤ (s.size : Int) := by omega
  have C1 : Hid (∀ w, Calls Tryz.prog 46 #[.string (s.extract i s.size), .string ⟨#[62]⟩] w fun e w' => e = .returned (.bool false) ∧ w' = w) := fun w => by
    have := prefix_any (s.extract i s.size) [62] w
    rw [rest_of, bs_toList, h1] at this
    rw [rest_of]; exact this
  have C2 : Hid (∀ w, Calls Tryz.prog 46 #[.string (s.extract i s.size), .string ⟨#[45, 62]⟩] w fun e w' => e = .returned (.bool true) ∧ w' = w) := fun w => by
    have := prefix_any (s.extract i s.size) [45, 62] w
    rw [rest_of, bs_toList, h2] at this
    rw [rest_of]; exact this
  clear h1 h2
  have kk0 : Blk ((w.alloc (Obj.cells #[.string s] 9)).alloc (Obj.cells #[.int .i64 0, .string ⟨#[]⟩, .slice none 0 0, .bool false, .string ⟨#[]⟩] 27)) w.heap.size #[.string s] 9 := (Blk.new w _ _).alloc _
  have kk1 : Blk ((w.alloc (Obj.cells #[.string s] 9)).alloc (Obj.cells #[.int .i64 0, .string ⟨#[]⟩, .slice none 0 0, .bool false, .string ⟨#[]⟩] 27)) (w.heap.size + 1) #[.int .i64 0, .string ⟨#[]⟩, .slice none 0 0, .bool false, .string ⟨#[]⟩] 27 := by
    have := Blk.new (w.alloc (Obj.cells #[.string s] 9)) #[.int .i64 0, .string ⟨#[]⟩, .slice none 0 0, .bool false, .string ⟨#[]⟩] 27
    simpa using this
  have hbb : Below w.heap.size w ((w.alloc (Obj.cells #[.string s] 9)).alloc (Obj.cells #[.int .i64 0, .string ⟨#[]⟩, .slice none 0 0, .bool false, .string ⟨#[]⟩] 27)) := ((Below.refl w.heap.size w).alloc (Nat.le_refl _) _).alloc (by simp) _
  go_enter Tryz.func74, Tryz.ntmps74
  go_wp2
  refine wp_loop_rounds 3 ?_
  rw [rounds_succ]; go_wp2_with fail
  refine calls_from (fun W => Blk W w.heap.size #[.string s] 9 ∧ Blk W (w.heap.size + 1) #[.int .i64 0, .string ⟨#[]⟩, .slice none 0 0, .bool false, .string ⟨#[]⟩] 27 ∧ Below w.heap.size w W) ⟨kk0, kk1, hbb⟩ ?_
  clear kk0 kk1 hbb
  rintro W ⟨k0, k1, hb⟩
  refine (unhide C1 _).mono ?_
  rintro e w1 ⟨rfl, hw1⟩
  obtain rfl : W = w1 := hw1.symm
  have c0 : W.cell? ⟨w.heap.size + 1, 0, none⟩ = some (.int .i64 0) := k1.cell 0
  have c1 : W.cell? ⟨w.heap.size + 1, 1, none⟩ = some (.string ⟨#[]⟩) := k1.cell 1
  have c2 : W.cell? ⟨w.heap.size + 1, 2, none⟩ = some (.slice none 0 0) := k1.cell 2
  have c3 : W.cell? ⟨w.heap.size + 1, 3, none⟩ = some (.bool false) := k1.cell 3
  have c4 : W.cell? ⟨w.heap.size + 1, 4, none⟩ = some (.string ⟨#[]⟩) := k1.cell 4
  have f0 : W.frozen? ⟨w.heap.size + 1, 0, none⟩ = false := k1.frozen 0
  have f1 : W.frozen? ⟨w.heap.size + 1, 1, none⟩ = false := k1.frozen 1
  have f2 : W.frozen? ⟨w.heap.size + 1, 2, none⟩ = false := k1.frozen 2
  have f3 : W.frozen? ⟨w.heap.size + 1, 3, none⟩ = false := k1.frozen 3
  have f4 : W.frozen? ⟨w.heap.size + 1, 4, none⟩ = false := k1.frozen 4
  have cs : W.cell? ⟨w.heap.size, 0, none⟩ = some (.string s) := k0.cell 0
  have K1 := hide k1
  clear k0 k1
  go_wp2
  rw [rounds_succ]; go_wp2_with fail
  refine (unhide C2 _).mono ?_
  rintro e w1 ⟨rfl, hw1⟩
  obtain rfl : W = w1 := hw1.symm
  go_wp2
  have k1 := (((((unhide K1).set 0 (by simp) (.int .i64 4)).set 1 (by simp) (.string ⟨#[]⟩)).set 2 (by simp) (.slice none 0 0)).set 3 (by simp) (.bool false)).set 4 (by simp) (.string ⟨#[]⟩)
  have d0 := k1.cell 0
  have d1 := k1.cell 1
  have d2 := k1.cell 2
  have d3 := k1.cell 3
  have d4 := k1.cell 4
  exact bodyPost_ret (v := .tuple #[.agg #[.int .i64 4, .string ⟨#[]⟩, .slice none 0 0, .bool false, .string ⟨#[]⟩], .int .i64 ((i : Int) + 2)]) (by simp [results, Tryz.results74, go_sem, d0, d1, d2, d3, d4]) rfl ⟨rfl, ((((hb.setCell (by simp) _).setCell (by simp) _).setCell (by simp) _).setCell (by simp) _).setCell (by simp) _⟩

set_option maxHeartbeats 4000000 in
set_option maxRecDepth 100000 in
theorem note_mid (s : ByteArray) (i : Nat) (w : World) (hi : i ≤ s.size) (hs : s.size ≤ 100000) (h1 : [62].isPrefixOf (s.data.toList.drop i) = false) (h2 : [45, 62].isPrefixOf (s.data.toList.drop i) = false) (h3 : ¬ noteZ s i = s.size) :
    Calls Tryz.prog 74 #[.string s, .int .i64 (i : Int)] w fun e w' => e = .returned (.tuple #[.agg #[.int .i64 4, .string ⟨#[]⟩, .slice none 0 0, .bool false, .string (bs ((s.data.toList.drop i).take (noteZ s i - i)))], .int .i64 ((noteZ s i + neN (s.data.toList.drop (noteZ s i)) : Nat) : Int)]) ∧ Below w.heap.size w w' := by
  have q0 := begs_0
  have q1 := begs_1
  have hii : (i : Int) ≤ (s.size : Int) := by omega
  have C1 : Hid (∀ w, Calls Tryz.prog 46 #[.string (s.extract i s.size), .string ⟨#[62]⟩] w fun e w' => e = .returned (.bool false) ∧ w' = w) := fun w => by
    have := prefix_any (s.extract i s.size) [62] w
    rw [rest_of, bs_toList, h1] at this
    rw [rest_of]; exact this
  have C2 : Hid (∀ w, Calls Tryz.prog 46 #[.string (s.extract i s.size), .string ⟨#[45, 62]⟩] w fun e w' => e = .returned (.bool false) ∧ w' = w) := fun w => by
    have := prefix_any (s.extract i s.size) [45, 62] w
    rw [rest_of, bs_toList, h2] at this
    rw [rest_of]; exact this
  have CS := hide (fun w g h => seek_note s i g w h hi hs)
  have hz := seekN_le (nePos s) (n := s.size) (k := i) hi
  have hzd : seekN (nePos s) s.size i = noteZ s i := rfl
  rw [hzd] at CS hz
  have hcx := extract_take s i (noteZ s i - i)
  rw [show i + (noteZ s i - i) = noteZ s i by omega] at hcx
  have CN := hide (fun w => noteEnd_any (s.extract (noteZ s i) s.size) w)
  have hxd : (s.extract (noteZ s i) s.size).data.toList = s.data.toList.drop (noteZ s i) := by rw [rest_of, bs_toList]
  rw [hxd] at CN
  rw [Int.natCast_add]
  have hnz := neN_le (s.data.toList.drop (noteZ s i))
  generalize neN (s.data.toList.drop (noteZ s i)) = ne at *
  rw [← hcx]
  generalize noteZ s i = Z at *
  have z1 : (i : Int) ≤ (Z : Int) := by omega
  have z2 : (Z : Int) ≤ (s.size : Int) := by omega
  clear h1 h2 hcx hxd hzd
  have z3 : ((Z : Int) == (s.size : Int)) = false := bneI (by omega)
  have kk0 : Blk ((w.alloc (Obj.cells #[.string s] 9)).alloc (Obj.cells #[.int .i64 0, .string ⟨#[]⟩, .slice none 0 0, .bool false, .string ⟨#[]⟩] 27)) w.heap.size #[.string s] 9 := (Blk.new w _ _).alloc _
  have kk1 : Blk ((w.alloc (Obj.cells #[.string s] 9)).alloc (Obj.cells #[.int .i64 0, .string ⟨#[]⟩, .slice none 0 0, .bool false, .string ⟨#[]⟩] 27)) (w.heap.size + 1) #[.int .i64 0, .string ⟨#[]⟩, .slice none 0 0, .bool false, .string ⟨#[]⟩] 27 := by
    have := Blk.new (w.alloc (Obj.cells #[.string s] 9)) #[.int .i64 0, .string ⟨#[]⟩, .slice none 0 0, .bool false, .string ⟨#[]⟩] 27
    simpa using this
  have hbb : Below w.heap.size w ((w.alloc (Obj.cells #[.string s] 9)).alloc (Obj.cells #[.int .i64 0, .string ⟨#[]⟩, .slice none 0 0, .bool false, .string ⟨#[]⟩] 27)) := ((Below.refl w.heap.size w).alloc (Nat.le_refl _) _).alloc (by simp) _
  go_enter Tryz.func74, Tryz.ntmps74
  go_wp2
  refine wp_loop_rounds 3 ?_
  rw [rounds_succ]; go_wp2_with fail
  refine calls_from (fun W => Blk W w.heap.size #[.string s] 9 ∧ Blk W (w.heap.size + 1) #[.int .i64 0, .string ⟨#[]⟩, .slice none 0 0, .bool false, .string ⟨#[]⟩] 27 ∧ Below w.heap.size w W) ⟨kk0, kk1, hbb⟩ ?_
  clear kk0 kk1 hbb
  rintro W ⟨k0, k1, hb⟩
  refine (unhide C1 _).mono ?_
  rintro e w1 ⟨rfl, hw1⟩
  obtain rfl : W = w1 := hw1.symm
  have c0 : W.cell? ⟨w.heap.size + 1, 0, none⟩ = some (.int .i64 0) := k1.cell 0
  have c1 : W.cell? ⟨w.heap.size + 1, 1, none⟩ = some (.string ⟨#[]⟩) := k1.cell 1
  have c2 : W.cell? ⟨w.heap.size + 1, 2, none⟩ = some (.slice none 0 0) := k1.cell 2
  have c3 : W.cell? ⟨w.heap.size + 1, 3, none⟩ = some (.bool false) := k1.cell 3
  have c4 : W.cell? ⟨w.heap.size + 1, 4, none⟩ = some (.string ⟨#[]⟩) := k1.cell 4
  have f0 : W.frozen? ⟨w.heap.size + 1, 0, none⟩ = false := k1.frozen 0
  have f1 : W.frozen? ⟨w.heap.size + 1, 1, none⟩ = false := k1.frozen 1
  have f2 : W.frozen? ⟨w.heap.size + 1, 2, none⟩ = false := k1.frozen 2
  have f3 : W.frozen? ⟨w.heap.size + 1, 3, none⟩ = false := k1.frozen 3
  have f4 : W.frozen? ⟨w.heap.size + 1, 4, none⟩ = false := k1.frozen 4
  have cs : W.cell? ⟨w.heap.size, 0, none⟩ = some (.string s) := k0.cell 0
  have K1 := hide k1
  clear k0 k1
  go_wp2
  rw [rounds_succ]; go_wp2_with fail
  refine (unhide C2 _).mono ?_
  rintro e w1 ⟨rfl, hw1⟩
  obtain rfl : W = w1 := hw1.symm
  go_wp2
  rw [rounds_succ]; go_wp2_with fail
  refine (unhide CS _ _ cs).mono ?_
  rintro e w1 ⟨rfl, hw1⟩
  obtain rfl : W = w1 := hw1.symm
  go_wp2_with fail
  refine (unhide CN _).mono ?_
  rintro e w1 ⟨rfl, hw1⟩
  obtain rfl : W = w1 := hw1.symm
  go_wp2
  have k1 := (((((unhide K1).set 0 (by simp) (.int .i64 4)).set 1 (by simp) (.string ⟨#[]⟩)).set 2 (by simp) (.slice none 0 0)).set 3 (by simp) (.bool false)).set 4 (by simp) (.string (s.extract i Z))
  have d0 := k1.cell 0
  have d1 := k1.cell 1
  have d2 := k1.cell 2
  have d3 := k1.cell 3
  have d4 := k1.cell 4
  exact bodyPost_ret (v := .tuple #[.agg #[.int .i64 4, .string ⟨#[]⟩, .slice none 0 0, .bool false, .string (s.extract i Z)], .int .i64 ((Z : Int) + (ne : Int))]) (by simp [results, Tryz.results74, go_sem, d0, d1, d2, d3, d4]) rfl ⟨rfl, ((((hb.setCell (by simp) _).setCell (by simp) _).setCell (by simp) _).setCell (by simp) _).setCell (by simp) _⟩
end Go.Proofs.YtakjlolmmoladaaGreatDoor
