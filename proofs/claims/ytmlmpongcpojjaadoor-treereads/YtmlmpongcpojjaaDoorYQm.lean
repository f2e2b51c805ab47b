/-
  The reference's 'many' (made by mk_yqm.py).
-/
import Derived.Test.YtmlmpongcpojjaaDoorYQe
namespace Go.Proofs.YtmlmpongcpojjaaDoor
open Go.RowKit
set_option linter.unusedVariables false
set_option linter.unusedSimpArgs false

set_option maxHeartbeats 4000000 in
set_option maxRecDepth 100000 in
theorem many_bad (b : ByteArray) (dd : Int) (w : World) (k e1 : Int) (l1 : List UInt8) (h : e1 = 4 ∨ (e1 = 0 ∧ (300 < k ∨ (¬ 300 < k ∧ dd < 0))))
    (CN : Hid (Calls Tryd.prog 68 #[.string b] (w.alloc (Obj.cells #[.int .i64 0, .int .i64 0, .string ⟨#[]⟩, .slice none 0 0, .string ⟨#[]⟩, .slice none 0 0, .slice none 0 0, .string ⟨#[]⟩, .bool false] 72)) fun e w' => e = .returned (.agg #[.int .i64 k, .string ⟨#[]⟩, .slice none 0 0, .string (bs l1), .int .i64 e1]) ∧ Below (w.alloc (Obj.cells #[.int .i64 0, .int .i64 0, .string ⟨#[]⟩, .slice none 0 0, .string ⟨#[]⟩, .slice none 0 0, .slice none 0 0, .string ⟨#[]⟩, .bool false] 72)).heap.size (w.alloc (Obj.cells #[.int .i64 0, .int .i64 0, .string ⟨#[]⟩, .slice none 0 0, .string ⟨#[]⟩, .slice none 0 0, .slice none 0 0, .string ⟨#[]⟩, .bool false] 72)) w')) :
    Calls Tryd.prog 48 #[.string b, .int .i64 dd] w (ManySaid w none) := by
  have HZ0 : Hid (Blk (w.alloc (Obj.cells #[.int .i64 0, .int .i64 0, .string ⟨#[]⟩, .slice none 0 0, .string ⟨#[]⟩, .slice none 0 0, .slice none 0 0, .string ⟨#[]⟩, .bool false] 72)) w.heap.size #[.int .i64 0, .int .i64 0, .string ⟨#[]⟩, .slice none 0 0, .string ⟨#[]⟩, .slice none 0 0, .slice none 0 0, .string ⟨#[]⟩, .bool false] 72 ∧ Below w.heap.size w (w.alloc (Obj.cells #[.int .i64 0, .int .i64 0, .string ⟨#[]⟩, .slice none 0 0, .string ⟨#[]⟩, .slice none 0 0, .slice none 0 0, .string ⟨#[]⟩, .bool false] 72)) ∧ (w.alloc (Obj.cells #[.int .i64 0, .int .i64 0, .string ⟨#[]⟩, .slice none 0 0, .string ⟨#[]⟩, .slice none 0 0, .slice none 0 0, .string ⟨#[]⟩, .bool false] 72)).heap.size = w.heap.size + 1) := hide ⟨Blk.new w _ _, (Below.refl _ _).alloc (Nat.le_refl _) _, by simp⟩
  rcases h with rfl | ⟨rfl, h | ⟨h, hd⟩⟩
  · skip
    go_enter Tryd.func48, Tryd.ntmps48
    go_wp2_with fail
    refine (unhide CN).mono ?_
    rintro e w1 ⟨rfl, hb1⟩
    have hz1 : Blk w1 w.heap.size #[.int .i64 0, .int .i64 0, .string ⟨#[]⟩, .slice none 0 0, .string ⟨#[]⟩, .slice none 0 0, .slice none 0 0, .string ⟨#[]⟩, .bool false] 72 := Blk.later (unhide HZ0).1 hb1
    have hw1 : w.heap.size < w1.heap.size := by have h2 := hb1.size; have h3 := (unhide HZ0).2.2; omega
    have hB1 : Below w.heap.size w w1 := tr2 (unhide HZ0).2.1 hb1
    go_upto_region 3 with fail
    obtain ⟨W, hW⟩ : ∃ W, w1.alloc (Obj.cells #[.int .i64 k, .string ⟨#[]⟩, .slice none 0 0, .string (bs l1), .int .i64 4] 96) = W := ⟨_, rfl⟩
    have hz : Blk W w.heap.size #[.int .i64 0, .int .i64 0, .string ⟨#[]⟩, .slice none 0 0, .string ⟨#[]⟩, .slice none 0 0, .slice none 0 0, .string ⟨#[]⟩, .bool false] 72 := by rw [← hW]; exact Blk.alloc hz1 _
    have HBW : Hid (Below w.heap.size w W) := hide (by rw [← hW]; exact hB1.alloc hB1.size _)
    simp only [hW]
    obtain ⟨Z, hZ⟩ : ∃ Z, w.heap.size = Z := ⟨_, rfl⟩
    have HZO : Hid (w.heap.size = Z ∧ w.heap.size ≤ Z) := hide ⟨hZ, Nat.le_of_eq hZ⟩
    rw [hZ] at hz
    simp only [hZ]
    clear hW hz1 hw1 hB1 hb1 CN HZ0 hZ
    have z0 : W.cell? ⟨Z, 0, none⟩ = some (.int .i64 0) := hz.cell 0
    have zf0 : W.frozen? ⟨Z, 0, none⟩ = false := hz.frozen 0
    have z1 : W.cell? ⟨Z, 1, none⟩ = some (.int .i64 0) := hz.cell 1
    have zf1 : W.frozen? ⟨Z, 1, none⟩ = false := hz.frozen 1
    have z2 : W.cell? ⟨Z, 2, none⟩ = some (.string ⟨#[]⟩) := hz.cell 2
    have zf2 : W.frozen? ⟨Z, 2, none⟩ = false := hz.frozen 2
    have z3 : W.cell? ⟨Z, 3, none⟩ = some (.slice none 0 0) := hz.cell 3
    have zf3 : W.frozen? ⟨Z, 3, none⟩ = false := hz.frozen 3
    have z4 : W.cell? ⟨Z, 4, none⟩ = some (.string ⟨#[]⟩) := hz.cell 4
    have zf4 : W.frozen? ⟨Z, 4, none⟩ = false := hz.frozen 4
    have z5 : W.cell? ⟨Z, 5, none⟩ = some (.slice none 0 0) := hz.cell 5
    have zf5 : W.frozen? ⟨Z, 5, none⟩ = false := hz.frozen 5
    have z6 : W.cell? ⟨Z, 6, none⟩ = some (.slice none 0 0) := hz.cell 6
    have zf6 : W.frozen? ⟨Z, 6, none⟩ = false := hz.frozen 6
    have z7 : W.cell? ⟨Z, 7, none⟩ = some (.string ⟨#[]⟩) := hz.cell 7
    have zf7 : W.frozen? ⟨Z, 7, none⟩ = false := hz.frozen 7
    have z8 : W.cell? ⟨Z, 8, none⟩ = some (.bool false) := hz.cell 8
    have zf8 : W.frozen? ⟨Z, 8, none⟩ = false := hz.frozen 8
    have bk0 : Blk W Z #[.int .i64 0, .int .i64 0, .string ⟨#[]⟩, .slice none 0 0, .string ⟨#[]⟩, .slice none 0 0, .slice none 0 0, .string ⟨#[]⟩, .bool false] 72 := hz
    have bk1 : Blk (W.setCell ⟨Z, 0, none⟩ (.int .i64 0)) Z #[.int .i64 0, .int .i64 0, .string ⟨#[]⟩, .slice none 0 0, .string ⟨#[]⟩, .slice none 0 0, .slice none 0 0, .string ⟨#[]⟩, .bool false] 72 := Blk.set (vs := #[.int .i64 0, .int .i64 0, .string ⟨#[]⟩, .slice none 0 0, .string ⟨#[]⟩, .slice none 0 0, .slice none 0 0, .string ⟨#[]⟩, .bool false]) bk0 0 (by simp) _
    have r0 : (W.setCell ⟨Z, 0, none⟩ (.int .i64 0)).cell? ⟨Z, 0, none⟩ = some (.int .i64 0) := bk1.cell 0
    have bk2 : Blk ((W.setCell ⟨Z, 0, none⟩ (.int .i64 0)).setCell ⟨Z, 1, none⟩ (.int .i64 0)) Z #[.int .i64 0, .int .i64 0, .string ⟨#[]⟩, .slice none 0 0, .string ⟨#[]⟩, .slice none 0 0, .slice none 0 0, .string ⟨#[]⟩, .bool false] 72 := Blk.set (vs := #[.int .i64 0, .int .i64 0, .string ⟨#[]⟩, .slice none 0 0, .string ⟨#[]⟩, .slice none 0 0, .slice none 0 0, .string ⟨#[]⟩, .bool false]) bk1 1 (by simp) _
    have r1 : ((W.setCell ⟨Z, 0, none⟩ (.int .i64 0)).setCell ⟨Z, 1, none⟩ (.int .i64 0)).cell? ⟨Z, 1, none⟩ = some (.int .i64 0) := bk2.cell 1
    have bk3 : Blk (((W.setCell ⟨Z, 0, none⟩ (.int .i64 0)).setCell ⟨Z, 1, none⟩ (.int .i64 0)).setCell ⟨Z, 2, none⟩ (.string ⟨#[]⟩)) Z #[.int .i64 0, .int .i64 0, .string ⟨#[]⟩, .slice none 0 0, .string ⟨#[]⟩, .slice none 0 0, .slice none 0 0, .string ⟨#[]⟩, .bool false] 72 := Blk.set (vs := #[.int .i64 0, .int .i64 0, .string ⟨#[]⟩, .slice none 0 0, .string ⟨#[]⟩, .slice none 0 0, .slice none 0 0, .string ⟨#[]⟩, .bool false]) bk2 2 (by simp) _
    have r2 : (((W.setCell ⟨Z, 0, none⟩ (.int .i64 0)).setCell ⟨Z, 1, none⟩ (.int .i64 0)).setCell ⟨Z, 2, none⟩ (.string ⟨#[]⟩)).cell? ⟨Z, 2, none⟩ = some (.string ⟨#[]⟩) := bk3.cell 2
    have bk4 : Blk ((((W.setCell ⟨Z, 0, none⟩ (.int .i64 0)).setCell ⟨Z, 1, none⟩ (.int .i64 0)).setCell ⟨Z, 2, none⟩ (.string ⟨#[]⟩)).setCell ⟨Z, 3, none⟩ (.slice none 0 0)) Z #[.int .i64 0, .int .i64 0, .string ⟨#[]⟩, .slice none 0 0, .string ⟨#[]⟩, .slice none 0 0, .slice none 0 0, .string ⟨#[]⟩, .bool false] 72 := Blk.set (vs := #[.int .i64 0, .int .i64 0, .string ⟨#[]⟩, .slice none 0 0, .string ⟨#[]⟩, .slice none 0 0, .slice none 0 0, .string ⟨#[]⟩, .bool false]) bk3 3 (by simp) _
    have r3 : ((((W.setCell ⟨Z, 0, none⟩ (.int .i64 0)).setCell ⟨Z, 1, none⟩ (.int .i64 0)).setCell ⟨Z, 2, none⟩ (.string ⟨#[]⟩)).setCell ⟨Z, 3, none⟩ (.slice none 0 0)).cell? ⟨Z, 3, none⟩ = some (.slice none 0 0) := bk4.cell 3
    have bk5 : Blk (((((W.setCell ⟨Z, 0, none⟩ (.int .i64 0)).setCell ⟨Z, 1, none⟩ (.int .i64 0)).setCell ⟨Z, 2, none⟩ (.string ⟨#[]⟩)).setCell ⟨Z, 3, none⟩ (.slice none 0 0)).setCell ⟨Z, 4, none⟩ (.string ⟨#[]⟩)) Z #[.int .i64 0, .int .i64 0, .string ⟨#[]⟩, .slice none 0 0, .string ⟨#[]⟩, .slice none 0 0, .slice none 0 0, .string ⟨#[]⟩, .bool false] 72 := Blk.set (vs := #[.int .i64 0, .int .i64 0, .string ⟨#[]⟩, .slice none 0 0, .string ⟨#[]⟩, .slice none 0 0, .slice none 0 0, .string ⟨#[]⟩, .bool false]) bk4 4 (by simp) _
    have r4 : (((((W.setCell ⟨Z, 0, none⟩ (.int .i64 0)).setCell ⟨Z, 1, none⟩ (.int .i64 0)).setCell ⟨Z, 2, none⟩ (.string ⟨#[]⟩)).setCell ⟨Z, 3, none⟩ (.slice none 0 0)).setCell ⟨Z, 4, none⟩ (.string ⟨#[]⟩)).cell? ⟨Z, 4, none⟩ = some (.string ⟨#[]⟩) := bk5.cell 4
    have bk6 : Blk ((((((W.setCell ⟨Z, 0, none⟩ (.int .i64 0)).setCell ⟨Z, 1, none⟩ (.int .i64 0)).setCell ⟨Z, 2, none⟩ (.string ⟨#[]⟩)).setCell ⟨Z, 3, none⟩ (.slice none 0 0)).setCell ⟨Z, 4, none⟩ (.string ⟨#[]⟩)).setCell ⟨Z, 5, none⟩ (.slice none 0 0)) Z #[.int .i64 0, .int .i64 0, .string ⟨#[]⟩, .slice none 0 0, .string ⟨#[]⟩, .slice none 0 0, .slice none 0 0, .string ⟨#[]⟩, .bool false] 72 := Blk.set (vs := #[.int .i64 0, .int .i64 0, .string ⟨#[]⟩, .slice none 0 0, .string ⟨#[]⟩, .slice none 0 0, .slice none 0 0, .string ⟨#[]⟩, .bool false]) bk5 5 (by simp) _
    have r5 : ((((((W.setCell ⟨Z, 0, none⟩ (.int .i64 0)).setCell ⟨Z, 1, none⟩ (.int .i64 0)).setCell ⟨Z, 2, none⟩ (.string ⟨#[]⟩)).setCell ⟨Z, 3, none⟩ (.slice none 0 0)).setCell ⟨Z, 4, none⟩ (.string ⟨#[]⟩)).setCell ⟨Z, 5, none⟩ (.slice none 0 0)).cell? ⟨Z, 5, none⟩ = some (.slice none 0 0) := bk6.cell 5
    have bk7 : Blk (((((((W.setCell ⟨Z, 0, none⟩ (.int .i64 0)).setCell ⟨Z, 1, none⟩ (.int .i64 0)).setCell ⟨Z, 2, none⟩ (.string ⟨#[]⟩)).setCell ⟨Z, 3, none⟩ (.slice none 0 0)).setCell ⟨Z, 4, none⟩ (.string ⟨#[]⟩)).setCell ⟨Z, 5, none⟩ (.slice none 0 0)).setCell ⟨Z, 6, none⟩ (.slice none 0 0)) Z #[.int .i64 0, .int .i64 0, .string ⟨#[]⟩, .slice none 0 0, .string ⟨#[]⟩, .slice none 0 0, .slice none 0 0, .string ⟨#[]⟩, .bool false] 72 := Blk.set (vs := #[.int .i64 0, .int .i64 0, .string ⟨#[]⟩, .slice none 0 0, .string ⟨#[]⟩, .slice none 0 0, .slice none 0 0, .string ⟨#[]⟩, .bool false]) bk6 6 (by simp) _
    have r6 : (((((((W.setCell ⟨Z, 0, none⟩ (.int .i64 0)).setCell ⟨Z, 1, none⟩ (.int .i64 0)).setCell ⟨Z, 2, none⟩ (.string ⟨#[]⟩)).setCell ⟨Z, 3, none⟩ (.slice none 0 0)).setCell ⟨Z, 4, none⟩ (.string ⟨#[]⟩)).setCell ⟨Z, 5, none⟩ (.slice none 0 0)).setCell ⟨Z, 6, none⟩ (.slice none 0 0)).cell? ⟨Z, 6, none⟩ = some (.slice none 0 0) := bk7.cell 6
    have bk8 : Blk ((((((((W.setCell ⟨Z, 0, none⟩ (.int .i64 0)).setCell ⟨Z, 1, none⟩ (.int .i64 0)).setCell ⟨Z, 2, none⟩ (.string ⟨#[]⟩)).setCell ⟨Z, 3, none⟩ (.slice none 0 0)).setCell ⟨Z, 4, none⟩ (.string ⟨#[]⟩)).setCell ⟨Z, 5, none⟩ (.slice none 0 0)).setCell ⟨Z, 6, none⟩ (.slice none 0 0)).setCell ⟨Z, 7, none⟩ (.string ⟨#[]⟩)) Z #[.int .i64 0, .int .i64 0, .string ⟨#[]⟩, .slice none 0 0, .string ⟨#[]⟩, .slice none 0 0, .slice none 0 0, .string ⟨#[]⟩, .bool false] 72 := Blk.set (vs := #[.int .i64 0, .int .i64 0, .string ⟨#[]⟩, .slice none 0 0, .string ⟨#[]⟩, .slice none 0 0, .slice none 0 0, .string ⟨#[]⟩, .bool false]) bk7 7 (by simp) _
    have r7 : ((((((((W.setCell ⟨Z, 0, none⟩ (.int .i64 0)).setCell ⟨Z, 1, none⟩ (.int .i64 0)).setCell ⟨Z, 2, none⟩ (.string ⟨#[]⟩)).setCell ⟨Z, 3, none⟩ (.slice none 0 0)).setCell ⟨Z, 4, none⟩ (.string ⟨#[]⟩)).setCell ⟨Z, 5, none⟩ (.slice none 0 0)).setCell ⟨Z, 6, none⟩ (.slice none 0 0)).setCell ⟨Z, 7, none⟩ (.string ⟨#[]⟩)).cell? ⟨Z, 7, none⟩ = some (.string ⟨#[]⟩) := bk8.cell 7
    have bk9 : Blk (((((((((W.setCell ⟨Z, 0, none⟩ (.int .i64 0)).setCell ⟨Z, 1, none⟩ (.int .i64 0)).setCell ⟨Z, 2, none⟩ (.string ⟨#[]⟩)).setCell ⟨Z, 3, none⟩ (.slice none 0 0)).setCell ⟨Z, 4, none⟩ (.string ⟨#[]⟩)).setCell ⟨Z, 5, none⟩ (.slice none 0 0)).setCell ⟨Z, 6, none⟩ (.slice none 0 0)).setCell ⟨Z, 7, none⟩ (.string ⟨#[]⟩)).setCell ⟨Z, 8, none⟩ (.bool true)) Z #[.int .i64 0, .int .i64 0, .string ⟨#[]⟩, .slice none 0 0, .string ⟨#[]⟩, .slice none 0 0, .slice none 0 0, .string ⟨#[]⟩, .bool true] 72 := Blk.set (vs := #[.int .i64 0, .int .i64 0, .string ⟨#[]⟩, .slice none 0 0, .string ⟨#[]⟩, .slice none 0 0, .slice none 0 0, .string ⟨#[]⟩, .bool false]) bk8 8 (by simp) _
    have r8 : (((((((((W.setCell ⟨Z, 0, none⟩ (.int .i64 0)).setCell ⟨Z, 1, none⟩ (.int .i64 0)).setCell ⟨Z, 2, none⟩ (.string ⟨#[]⟩)).setCell ⟨Z, 3, none⟩ (.slice none 0 0)).setCell ⟨Z, 4, none⟩ (.string ⟨#[]⟩)).setCell ⟨Z, 5, none⟩ (.slice none 0 0)).setCell ⟨Z, 6, none⟩ (.slice none 0 0)).setCell ⟨Z, 7, none⟩ (.string ⟨#[]⟩)).setCell ⟨Z, 8, none⟩ (.bool true)).cell? ⟨Z, 8, none⟩ = some (.bool true) := bk9.cell 8
    have HRS := hide (And.intro r0 (And.intro r1 (And.intro r2 (And.intro r3 (And.intro r4 (And.intro r5 (And.intro r6 (And.intro r7 r8))))))))
    have HE : Hid (ManySaid w none (.returned (.agg #[.int .i64 0, .int .i64 0, .string ⟨#[]⟩, .slice none 0 0, .string ⟨#[]⟩, .slice none 0 0, .slice none 0 0, .string ⟨#[]⟩, .bool true])) (((((((((W.setCell ⟨Z, 0, none⟩ (.int .i64 0)).setCell ⟨Z, 1, none⟩ (.int .i64 0)).setCell ⟨Z, 2, none⟩ (.string ⟨#[]⟩)).setCell ⟨Z, 3, none⟩ (.slice none 0 0)).setCell ⟨Z, 4, none⟩ (.string ⟨#[]⟩)).setCell ⟨Z, 5, none⟩ (.slice none 0 0)).setCell ⟨Z, 6, none⟩ (.slice none 0 0)).setCell ⟨Z, 7, none⟩ (.string ⟨#[]⟩)).setCell ⟨Z, 8, none⟩ (.bool true))) := hide ⟨none, 0, 0, ⟨#[]⟩, true, rfl, ((((((((((unhide HBW).setCell (p := ⟨Z, 0, none⟩) (Nat.le_of_eq (unhide HZO).1) (.int .i64 0)).setCell (p := ⟨Z, 1, none⟩) (Nat.le_of_eq (unhide HZO).1) (.int .i64 0)).setCell (p := ⟨Z, 2, none⟩) (Nat.le_of_eq (unhide HZO).1) (.string ⟨#[]⟩)).setCell (p := ⟨Z, 3, none⟩) (Nat.le_of_eq (unhide HZO).1) (.slice none 0 0)).setCell (p := ⟨Z, 4, none⟩) (Nat.le_of_eq (unhide HZO).1) (.string ⟨#[]⟩)).setCell (p := ⟨Z, 5, none⟩) (Nat.le_of_eq (unhide HZO).1) (.slice none 0 0)).setCell (p := ⟨Z, 6, none⟩) (Nat.le_of_eq (unhide HZO).1) (.slice none 0 0)).setCell (p := ⟨Z, 7, none⟩) (Nat.le_of_eq (unhide HZO).1) (.string ⟨#[]⟩)).setCell (p := ⟨Z, 8, none⟩) (Nat.le_of_eq (unhide HZO).1) (.bool true)), rfl⟩
    clear bk0 bk1 bk2 bk3 bk4 bk5 bk6 bk7 bk8 bk9 r0 r1 r2 r3 r4 r5 r6 r7 r8 hz 
    go_wp2
    obtain ⟨r0, r1, r2, r3, r4, r5, r6, r7, r8⟩ := unhide HRS
    refine bodyPost_ret (v := .agg #[.int .i64 0, .int .i64 0, .string ⟨#[]⟩, .slice none 0 0, .string ⟨#[]⟩, .slice none 0 0, .slice none 0 0, .string ⟨#[]⟩, .bool true]) (by simp [results, Tryd.results48, go_sem, r0, r1, r2, r3, r4, r5, r6, r7, r8]) rfl ?_
    exact unhide HE
  · skip
    go_enter Tryd.func48, Tryd.ntmps48
    go_wp2_with fail
    refine (unhide CN).mono ?_
    rintro e w1 ⟨rfl, hb1⟩
    have hz1 : Blk w1 w.heap.size #[.int .i64 0, .int .i64 0, .string ⟨#[]⟩, .slice none 0 0, .string ⟨#[]⟩, .slice none 0 0, .slice none 0 0, .string ⟨#[]⟩, .bool false] 72 := Blk.later (unhide HZ0).1 hb1
    have hw1 : w.heap.size < w1.heap.size := by have h2 := hb1.size; have h3 := (unhide HZ0).2.2; omega
    have hB1 : Below w.heap.size w w1 := tr2 (unhide HZ0).2.1 hb1
    go_upto_region 3 with fail
    obtain ⟨W, hW⟩ : ∃ W, w1.alloc (Obj.cells #[.int .i64 k, .string ⟨#[]⟩, .slice none 0 0, .string (bs l1), .int .i64 0] 96) = W := ⟨_, rfl⟩
    have hz : Blk W w.heap.size #[.int .i64 0, .int .i64 0, .string ⟨#[]⟩, .slice none 0 0, .string ⟨#[]⟩, .slice none 0 0, .slice none 0 0, .string ⟨#[]⟩, .bool false] 72 := by rw [← hW]; exact Blk.alloc hz1 _
    have HBW : Hid (Below w.heap.size w W) := hide (by rw [← hW]; exact hB1.alloc hB1.size _)
    simp only [hW]
    obtain ⟨Z, hZ⟩ : ∃ Z, w.heap.size = Z := ⟨_, rfl⟩
    have HZO : Hid (w.heap.size = Z ∧ w.heap.size ≤ Z) := hide ⟨hZ, Nat.le_of_eq hZ⟩
    rw [hZ] at hz
    simp only [hZ]
    clear hW hz1 hw1 hB1 hb1 CN HZ0 hZ
    have z0 : W.cell? ⟨Z, 0, none⟩ = some (.int .i64 0) := hz.cell 0
    have zf0 : W.frozen? ⟨Z, 0, none⟩ = false := hz.frozen 0
    have z1 : W.cell? ⟨Z, 1, none⟩ = some (.int .i64 0) := hz.cell 1
    have zf1 : W.frozen? ⟨Z, 1, none⟩ = false := hz.frozen 1
    have z2 : W.cell? ⟨Z, 2, none⟩ = some (.string ⟨#[]⟩) := hz.cell 2
    have zf2 : W.frozen? ⟨Z, 2, none⟩ = false := hz.frozen 2
    have z3 : W.cell? ⟨Z, 3, none⟩ = some (.slice none 0 0) := hz.cell 3
    have zf3 : W.frozen? ⟨Z, 3, none⟩ = false := hz.frozen 3
    have z4 : W.cell? ⟨Z, 4, none⟩ = some (.string ⟨#[]⟩) := hz.cell 4
    have zf4 : W.frozen? ⟨Z, 4, none⟩ = false := hz.frozen 4
    have z5 : W.cell? ⟨Z, 5, none⟩ = some (.slice none 0 0) := hz.cell 5
    have zf5 : W.frozen? ⟨Z, 5, none⟩ = false := hz.frozen 5
    have z6 : W.cell? ⟨Z, 6, none⟩ = some (.slice none 0 0) := hz.cell 6
    have zf6 : W.frozen? ⟨Z, 6, none⟩ = false := hz.frozen 6
    have z7 : W.cell? ⟨Z, 7, none⟩ = some (.string ⟨#[]⟩) := hz.cell 7
    have zf7 : W.frozen? ⟨Z, 7, none⟩ = false := hz.frozen 7
    have z8 : W.cell? ⟨Z, 8, none⟩ = some (.bool false) := hz.cell 8
    have zf8 : W.frozen? ⟨Z, 8, none⟩ = false := hz.frozen 8
    have bk0 : Blk W Z #[.int .i64 0, .int .i64 0, .string ⟨#[]⟩, .slice none 0 0, .string ⟨#[]⟩, .slice none 0 0, .slice none 0 0, .string ⟨#[]⟩, .bool false] 72 := hz
    have bk1 : Blk (W.setCell ⟨Z, 0, none⟩ (.int .i64 0)) Z #[.int .i64 0, .int .i64 0, .string ⟨#[]⟩, .slice none 0 0, .string ⟨#[]⟩, .slice none 0 0, .slice none 0 0, .string ⟨#[]⟩, .bool false] 72 := Blk.set (vs := #[.int .i64 0, .int .i64 0, .string ⟨#[]⟩, .slice none 0 0, .string ⟨#[]⟩, .slice none 0 0, .slice none 0 0, .string ⟨#[]⟩, .bool false]) bk0 0 (by simp) _
    have r0 : (W.setCell ⟨Z, 0, none⟩ (.int .i64 0)).cell? ⟨Z, 0, none⟩ = some (.int .i64 0) := bk1.cell 0
    have bk2 : Blk ((W.setCell ⟨Z, 0, none⟩ (.int .i64 0)).setCell ⟨Z, 1, none⟩ (.int .i64 0)) Z #[.int .i64 0, .int .i64 0, .string ⟨#[]⟩, .slice none 0 0, .string ⟨#[]⟩, .slice none 0 0, .slice none 0 0, .string ⟨#[]⟩, .bool false] 72 := Blk.set (vs := #[.int .i64 0, .int .i64 0, .string ⟨#[]⟩, .slice none 0 0, .string ⟨#[]⟩, .slice none 0 0, .slice none 0 0, .string ⟨#[]⟩, .bool false]) bk1 1 (by simp) _
    have r1 : ((W.setCell ⟨Z, 0, none⟩ (.int .i64 0)).setCell ⟨Z, 1, none⟩ (.int .i64 0)).cell? ⟨Z, 1, none⟩ = some (.int .i64 0) := bk2.cell 1
    have bk3 : Blk (((W.setCell ⟨Z, 0, none⟩ (.int .i64 0)).setCell ⟨Z, 1, none⟩ (.int .i64 0)).setCell ⟨Z, 2, none⟩ (.string ⟨#[]⟩)) Z #[.int .i64 0, .int .i64 0, .string ⟨#[]⟩, .slice none 0 0, .string ⟨#[]⟩, .slice none 0 0, .slice none 0 0, .string ⟨#[]⟩, .bool false] 72 := Blk.set (vs := #[.int .i64 0, .int .i64 0, .string ⟨#[]⟩, .slice none 0 0, .string ⟨#[]⟩, .slice none 0 0, .slice none 0 0, .string ⟨#[]⟩, .bool false]) bk2 2 (by simp) _
    have r2 : (((W.setCell ⟨Z, 0, none⟩ (.int .i64 0)).setCell ⟨Z, 1, none⟩ (.int .i64 0)).setCell ⟨Z, 2, none⟩ (.string ⟨#[]⟩)).cell? ⟨Z, 2, none⟩ = some (.string ⟨#[]⟩) := bk3.cell 2
    have bk4 : Blk ((((W.setCell ⟨Z, 0, none⟩ (.int .i64 0)).setCell ⟨Z, 1, none⟩ (.int .i64 0)).setCell ⟨Z, 2, none⟩ (.string ⟨#[]⟩)).setCell ⟨Z, 3, none⟩ (.slice none 0 0)) Z #[.int .i64 0, .int .i64 0, .string ⟨#[]⟩, .slice none 0 0, .string ⟨#[]⟩, .slice none 0 0, .slice none 0 0, .string ⟨#[]⟩, .bool false] 72 := Blk.set (vs := #[.int .i64 0, .int .i64 0, .string ⟨#[]⟩, .slice none 0 0, .string ⟨#[]⟩, .slice none 0 0, .slice none 0 0, .string ⟨#[]⟩, .bool false]) bk3 3 (by simp) _
    have r3 : ((((W.setCell ⟨Z, 0, none⟩ (.int .i64 0)).setCell ⟨Z, 1, none⟩ (.int .i64 0)).setCell ⟨Z, 2, none⟩ (.string ⟨#[]⟩)).setCell ⟨Z, 3, none⟩ (.slice none 0 0)).cell? ⟨Z, 3, none⟩ = some (.slice none 0 0) := bk4.cell 3
    have bk5 : Blk (((((W.setCell ⟨Z, 0, none⟩ (.int .i64 0)).setCell ⟨Z, 1, none⟩ (.int .i64 0)).setCell ⟨Z, 2, none⟩ (.string ⟨#[]⟩)).setCell ⟨Z, 3, none⟩ (.slice none 0 0)).setCell ⟨Z, 4, none⟩ (.string ⟨#[]⟩)) Z #[.int .i64 0, .int .i64 0, .string ⟨#[]⟩, .slice none 0 0, .string ⟨#[]⟩, .slice none 0 0, .slice none 0 0, .string ⟨#[]⟩, .bool false] 72 := Blk.set (vs := #[.int .i64 0, .int .i64 0, .string ⟨#[]⟩, .slice none 0 0, .string ⟨#[]⟩, .slice none 0 0, .slice none 0 0, .string ⟨#[]⟩, .bool false]) bk4 4 (by simp) _
    have r4 : (((((W.setCell ⟨Z, 0, none⟩ (.int .i64 0)).setCell ⟨Z, 1, none⟩ (.int .i64 0)).setCell ⟨Z, 2, none⟩ (.string ⟨#[]⟩)).setCell ⟨Z, 3, none⟩ (.slice none 0 0)).setCell ⟨Z, 4, none⟩ (.string ⟨#[]⟩)).cell? ⟨Z, 4, none⟩ = some (.string ⟨#[]⟩) := bk5.cell 4
    have bk6 : Blk ((((((W.setCell ⟨Z, 0, none⟩ (.int .i64 0)).setCell ⟨Z, 1, none⟩ (.int .i64 0)).setCell ⟨Z, 2, none⟩ (.string ⟨#[]⟩)).setCell ⟨Z, 3, none⟩ (.slice none 0 0)).setCell ⟨Z, 4, none⟩ (.string ⟨#[]⟩)).setCell ⟨Z, 5, none⟩ (.slice none 0 0)) Z #[.int .i64 0, .int .i64 0, .string ⟨#[]⟩, .slice none 0 0, .string ⟨#[]⟩, .slice none 0 0, .slice none 0 0, .string ⟨#[]⟩, .bool false] 72 := Blk.set (vs := #[.int .i64 0, .int .i64 0, .string ⟨#[]⟩, .slice none 0 0, .string ⟨#[]⟩, .slice none 0 0, .slice none 0 0, .string ⟨#[]⟩, .bool false]) bk5 5 (by simp) _
    have r5 : ((((((W.setCell ⟨Z, 0, none⟩ (.int .i64 0)).setCell ⟨Z, 1, none⟩ (.int .i64 0)).setCell ⟨Z, 2, none⟩ (.string ⟨#[]⟩)).setCell ⟨Z, 3, none⟩ (.slice none 0 0)).setCell ⟨Z, 4, none⟩ (.string ⟨#[]⟩)).setCell ⟨Z, 5, none⟩ (.slice none 0 0)).cell? ⟨Z, 5, none⟩ = some (.slice none 0 0) := bk6.cell 5
    have bk7 : Blk (((((((W.setCell ⟨Z, 0, none⟩ (.int .i64 0)).setCell ⟨Z, 1, none⟩ (.int .i64 0)).setCell ⟨Z, 2, none⟩ (.string ⟨#[]⟩)).setCell ⟨Z, 3, none⟩ (.slice none 0 0)).setCell ⟨Z, 4, none⟩ (.string ⟨#[]⟩)).setCell ⟨Z, 5, none⟩ (.slice none 0 0)).setCell ⟨Z, 6, none⟩ (.slice none 0 0)) Z #[.int .i64 0, .int .i64 0, .string ⟨#[]⟩, .slice none 0 0, .string ⟨#[]⟩, .slice none 0 0, .slice none 0 0, .string ⟨#[]⟩, .bool false] 72 := Blk.set (vs := #[.int .i64 0, .int .i64 0, .string ⟨#[]⟩, .slice none 0 0, .string ⟨#[]⟩, .slice none 0 0, .slice none 0 0, .string ⟨#[]⟩, .bool false]) bk6 6 (by simp) _
    have r6 : (((((((W.setCell ⟨Z, 0, none⟩ (.int .i64 0)).setCell ⟨Z, 1, none⟩ (.int .i64 0)).setCell ⟨Z, 2, none⟩ (.string ⟨#[]⟩)).setCell ⟨Z, 3, none⟩ (.slice none 0 0)).setCell ⟨Z, 4, none⟩ (.string ⟨#[]⟩)).setCell ⟨Z, 5, none⟩ (.slice none 0 0)).setCell ⟨Z, 6, none⟩ (.slice none 0 0)).cell? ⟨Z, 6, none⟩ = some (.slice none 0 0) := bk7.cell 6
    have bk8 : Blk ((((((((W.setCell ⟨Z, 0, none⟩ (.int .i64 0)).setCell ⟨Z, 1, none⟩ (.int .i64 0)).setCell ⟨Z, 2, none⟩ (.string ⟨#[]⟩)).setCell ⟨Z, 3, none⟩ (.slice none 0 0)).setCell ⟨Z, 4, none⟩ (.string ⟨#[]⟩)).setCell ⟨Z, 5, none⟩ (.slice none 0 0)).setCell ⟨Z, 6, none⟩ (.slice none 0 0)).setCell ⟨Z, 7, none⟩ (.string ⟨#[]⟩)) Z #[.int .i64 0, .int .i64 0, .string ⟨#[]⟩, .slice none 0 0, .string ⟨#[]⟩, .slice none 0 0, .slice none 0 0, .string ⟨#[]⟩, .bool false] 72 := Blk.set (vs := #[.int .i64 0, .int .i64 0, .string ⟨#[]⟩, .slice none 0 0, .string ⟨#[]⟩, .slice none 0 0, .slice none 0 0, .string ⟨#[]⟩, .bool false]) bk7 7 (by simp) _
    have r7 : ((((((((W.setCell ⟨Z, 0, none⟩ (.int .i64 0)).setCell ⟨Z, 1, none⟩ (.int .i64 0)).setCell ⟨Z, 2, none⟩ (.string ⟨#[]⟩)).setCell ⟨Z, 3, none⟩ (.slice none 0 0)).setCell ⟨Z, 4, none⟩ (.string ⟨#[]⟩)).setCell ⟨Z, 5, none⟩ (.slice none 0 0)).setCell ⟨Z, 6, none⟩ (.slice none 0 0)).setCell ⟨Z, 7, none⟩ (.string ⟨#[]⟩)).cell? ⟨Z, 7, none⟩ = some (.string ⟨#[]⟩) := bk8.cell 7
    have bk9 : Blk (((((((((W.setCell ⟨Z, 0, none⟩ (.int .i64 0)).setCell ⟨Z, 1, none⟩ (.int .i64 0)).setCell ⟨Z, 2, none⟩ (.string ⟨#[]⟩)).setCell ⟨Z, 3, none⟩ (.slice none 0 0)).setCell ⟨Z, 4, none⟩ (.string ⟨#[]⟩)).setCell ⟨Z, 5, none⟩ (.slice none 0 0)).setCell ⟨Z, 6, none⟩ (.slice none 0 0)).setCell ⟨Z, 7, none⟩ (.string ⟨#[]⟩)).setCell ⟨Z, 8, none⟩ (.bool true)) Z #[.int .i64 0, .int .i64 0, .string ⟨#[]⟩, .slice none 0 0, .string ⟨#[]⟩, .slice none 0 0, .slice none 0 0, .string ⟨#[]⟩, .bool true] 72 := Blk.set (vs := #[.int .i64 0, .int .i64 0, .string ⟨#[]⟩, .slice none 0 0, .string ⟨#[]⟩, .slice none 0 0, .slice none 0 0, .string ⟨#[]⟩, .bool false]) bk8 8 (by simp) _
    have r8 : (((((((((W.setCell ⟨Z, 0, none⟩ (.int .i64 0)).setCell ⟨Z, 1, none⟩ (.int .i64 0)).setCell ⟨Z, 2, none⟩ (.string ⟨#[]⟩)).setCell ⟨Z, 3, none⟩ (.slice none 0 0)).setCell ⟨Z, 4, none⟩ (.string ⟨#[]⟩)).setCell ⟨Z, 5, none⟩ (.slice none 0 0)).setCell ⟨Z, 6, none⟩ (.slice none 0 0)).setCell ⟨Z, 7, none⟩ (.string ⟨#[]⟩)).setCell ⟨Z, 8, none⟩ (.bool true)).cell? ⟨Z, 8, none⟩ = some (.bool true) := bk9.cell 8
    have HRS := hide (And.intro r0 (And.intro r1 (And.intro r2 (And.intro r3 (And.intro r4 (And.intro r5 (And.intro r6 (And.intro r7 r8))))))))
    have HE : Hid (ManySaid w none (.returned (.agg #[.int .i64 0, .int .i64 0, .string ⟨#[]⟩, .slice none 0 0, .string ⟨#[]⟩, .slice none 0 0, .slice none 0 0, .string ⟨#[]⟩, .bool true])) (((((((((W.setCell ⟨Z, 0, none⟩ (.int .i64 0)).setCell ⟨Z, 1, none⟩ (.int .i64 0)).setCell ⟨Z, 2, none⟩ (.string ⟨#[]⟩)).setCell ⟨Z, 3, none⟩ (.slice none 0 0)).setCell ⟨Z, 4, none⟩ (.string ⟨#[]⟩)).setCell ⟨Z, 5, none⟩ (.slice none 0 0)).setCell ⟨Z, 6, none⟩ (.slice none 0 0)).setCell ⟨Z, 7, none⟩ (.string ⟨#[]⟩)).setCell ⟨Z, 8, none⟩ (.bool true))) := hide ⟨none, 0, 0, ⟨#[]⟩, true, rfl, ((((((((((unhide HBW).setCell (p := ⟨Z, 0, none⟩) (Nat.le_of_eq (unhide HZO).1) (.int .i64 0)).setCell (p := ⟨Z, 1, none⟩) (Nat.le_of_eq (unhide HZO).1) (.int .i64 0)).setCell (p := ⟨Z, 2, none⟩) (Nat.le_of_eq (unhide HZO).1) (.string ⟨#[]⟩)).setCell (p := ⟨Z, 3, none⟩) (Nat.le_of_eq (unhide HZO).1) (.slice none 0 0)).setCell (p := ⟨Z, 4, none⟩) (Nat.le_of_eq (unhide HZO).1) (.string ⟨#[]⟩)).setCell (p := ⟨Z, 5, none⟩) (Nat.le_of_eq (unhide HZO).1) (.slice none 0 0)).setCell (p := ⟨Z, 6, none⟩) (Nat.le_of_eq (unhide HZO).1) (.slice none 0 0)).setCell (p := ⟨Z, 7, none⟩) (Nat.le_of_eq (unhide HZO).1) (.string ⟨#[]⟩)).setCell (p := ⟨Z, 8, none⟩) (Nat.le_of_eq (unhide HZO).1) (.bool true)), rfl⟩
    clear bk0 bk1 bk2 bk3 bk4 bk5 bk6 bk7 bk8 bk9 r0 r1 r2 r3 r4 r5 r6 r7 r8 hz 
    go_wp2
    obtain ⟨r0, r1, r2, r3, r4, r5, r6, r7, r8⟩ := unhide HRS
    refine bodyPost_ret (v := .agg #[.int .i64 0, .int .i64 0, .string ⟨#[]⟩, .slice none 0 0, .string ⟨#[]⟩, .slice none 0 0, .slice none 0 0, .string ⟨#[]⟩, .bool true]) (by simp [results, Tryd.results48, go_sem, r0, r1, r2, r3, r4, r5, r6, r7, r8]) rfl ?_
    exact unhide HE
  · have hk' : decide (300 < k) = false := decide_eq_false h
    go_enter Tryd.func48, Tryd.ntmps48
    go_wp2_with fail
    refine (unhide CN).mono ?_
    rintro e w1 ⟨rfl, hb1⟩
    have hz1 : Blk w1 w.heap.size #[.int .i64 0, .int .i64 0, .string ⟨#[]⟩, .slice none 0 0, .string ⟨#[]⟩, .slice none 0 0, .slice none 0 0, .string ⟨#[]⟩, .bool false] 72 := Blk.later (unhide HZ0).1 hb1
    have hw1 : w.heap.size < w1.heap.size := by have h2 := hb1.size; have h3 := (unhide HZ0).2.2; omega
    have hB1 : Below w.heap.size w w1 := tr2 (unhide HZ0).2.1 hb1
    go_upto_region 3 with fail
    obtain ⟨W, hW⟩ : ∃ W, w1.alloc (Obj.cells #[.int .i64 k, .string ⟨#[]⟩, .slice none 0 0, .string (bs l1), .int .i64 0] 96) = W := ⟨_, rfl⟩
    have hz : Blk W w.heap.size #[.int .i64 0, .int .i64 0, .string ⟨#[]⟩, .slice none 0 0, .string ⟨#[]⟩, .slice none 0 0, .slice none 0 0, .string ⟨#[]⟩, .bool false] 72 := by rw [← hW]; exact Blk.alloc hz1 _
    have HBW : Hid (Below w.heap.size w W) := hide (by rw [← hW]; exact hB1.alloc hB1.size _)
    simp only [hW]
    obtain ⟨Z, hZ⟩ : ∃ Z, w.heap.size = Z := ⟨_, rfl⟩
    have HZO : Hid (w.heap.size = Z ∧ w.heap.size ≤ Z) := hide ⟨hZ, Nat.le_of_eq hZ⟩
    rw [hZ] at hz
    simp only [hZ]
    clear hW hz1 hw1 hB1 hb1 CN HZ0 hZ
    have z0 : W.cell? ⟨Z, 0, none⟩ = some (.int .i64 0) := hz.cell 0
    have zf0 : W.frozen? ⟨Z, 0, none⟩ = false := hz.frozen 0
    have z1 : W.cell? ⟨Z, 1, none⟩ = some (.int .i64 0) := hz.cell 1
    have zf1 : W.frozen? ⟨Z, 1, none⟩ = false := hz.frozen 1
    have z2 : W.cell? ⟨Z, 2, none⟩ = some (.string ⟨#[]⟩) := hz.cell 2
    have zf2 : W.frozen? ⟨Z, 2, none⟩ = false := hz.frozen 2
    have z3 : W.cell? ⟨Z, 3, none⟩ = some (.slice none 0 0) := hz.cell 3
    have zf3 : W.frozen? ⟨Z, 3, none⟩ = false := hz.frozen 3
    have z4 : W.cell? ⟨Z, 4, none⟩ = some (.string ⟨#[]⟩) := hz.cell 4
    have zf4 : W.frozen? ⟨Z, 4, none⟩ = false := hz.frozen 4
    have z5 : W.cell? ⟨Z, 5, none⟩ = some (.slice none 0 0) := hz.cell 5
    have zf5 : W.frozen? ⟨Z, 5, none⟩ = false := hz.frozen 5
    have z6 : W.cell? ⟨Z, 6, none⟩ = some (.slice none 0 0) := hz.cell 6
    have zf6 : W.frozen? ⟨Z, 6, none⟩ = false := hz.frozen 6
    have z7 : W.cell? ⟨Z, 7, none⟩ = some (.string ⟨#[]⟩) := hz.cell 7
    have zf7 : W.frozen? ⟨Z, 7, none⟩ = false := hz.frozen 7
    have z8 : W.cell? ⟨Z, 8, none⟩ = some (.bool false) := hz.cell 8
    have zf8 : W.frozen? ⟨Z, 8, none⟩ = false := hz.frozen 8
    have bk0 : Blk W Z #[.int .i64 0, .int .i64 0, .string ⟨#[]⟩, .slice none 0 0, .string ⟨#[]⟩, .slice none 0 0, .slice none 0 0, .string ⟨#[]⟩, .bool false] 72 := hz
    have bk1 : Blk (W.setCell ⟨Z, 0, none⟩ (.int .i64 0)) Z #[.int .i64 0, .int .i64 0, .string ⟨#[]⟩, .slice none 0 0, .string ⟨#[]⟩, .slice none 0 0, .slice none 0 0, .string ⟨#[]⟩, .bool false] 72 := Blk.set (vs := #[.int .i64 0, .int .i64 0, .string ⟨#[]⟩, .slice none 0 0, .string ⟨#[]⟩, .slice none 0 0, .slice none 0 0, .string ⟨#[]⟩, .bool false]) bk0 0 (by simp) _
    have r0 : (W.setCell ⟨Z, 0, none⟩ (.int .i64 0)).cell? ⟨Z, 0, none⟩ = some (.int .i64 0) := bk1.cell 0
    have bk2 : Blk ((W.setCell ⟨Z, 0, none⟩ (.int .i64 0)).setCell ⟨Z, 1, none⟩ (.int .i64 0)) Z #[.int .i64 0, .int .i64 0, .string ⟨#[]⟩, .slice none 0 0, .string ⟨#[]⟩, .slice none 0 0, .slice none 0 0, .string ⟨#[]⟩, .bool false] 72 := Blk.set (vs := #[.int .i64 0, .int .i64 0, .string ⟨#[]⟩, .slice none 0 0, .string ⟨#[]⟩, .slice none 0 0, .slice none 0 0, .string ⟨#[]⟩, .bool false]) bk1 1 (by simp) _
    have r1 : ((W.setCell ⟨Z, 0, none⟩ (.int .i64 0)).setCell ⟨Z, 1, none⟩ (.int .i64 0)).cell? ⟨Z, 1, none⟩ = some (.int .i64 0) := bk2.cell 1
    have bk3 : Blk (((W.setCell ⟨Z, 0, none⟩ (.int .i64 0)).setCell ⟨Z, 1, none⟩ (.int .i64 0)).setCell ⟨Z, 2, none⟩ (.string ⟨#[]⟩)) Z #[.int .i64 0, .int .i64 0, .string ⟨#[]⟩, .slice none 0 0, .string ⟨#[]⟩, .slice none 0 0, .slice none 0 0, .string ⟨#[]⟩, .bool false] 72 := Blk.set (vs := #[.int .i64 0, .int .i64 0, .string ⟨#[]⟩, .slice none 0 0, .string ⟨#[]⟩, .slice none 0 0, .slice none 0 0, .string ⟨#[]⟩, .bool false]) bk2 2 (by simp) _
    have r2 : (((W.setCell ⟨Z, 0, none⟩ (.int .i64 0)).setCell ⟨Z, 1, none⟩ (.int .i64 0)).setCell ⟨Z, 2, none⟩ (.string ⟨#[]⟩)).cell? ⟨Z, 2, none⟩ = some (.string ⟨#[]⟩) := bk3.cell 2
    have bk4 : Blk ((((W.setCell ⟨Z, 0, none⟩ (.int .i64 0)).setCell ⟨Z, 1, none⟩ (.int .i64 0)).setCell ⟨Z, 2, none⟩ (.string ⟨#[]⟩)).setCell ⟨Z, 3, none⟩ (.slice none 0 0)) Z #[.int .i64 0, .int .i64 0, .string ⟨#[]⟩, .slice none 0 0, .string ⟨#[]⟩, .slice none 0 0, .slice none 0 0, .string ⟨#[]⟩, .bool false] 72 := Blk.set (vs := #[.int .i64 0, .int .i64 0, .string ⟨#[]⟩, .slice none 0 0, .string ⟨#[]⟩, .slice none 0 0, .slice none 0 0, .string ⟨#[]⟩, .bool false]) bk3 3 (by simp) _
    have r3 : ((((W.setCell ⟨Z, 0, none⟩ (.int .i64 0)).setCell ⟨Z, 1, none⟩ (.int .i64 0)).setCell ⟨Z, 2, none⟩ (.string ⟨#[]⟩)).setCell ⟨Z, 3, none⟩ (.slice none 0 0)).cell? ⟨Z, 3, none⟩ = some (.slice none 0 0) := bk4.cell 3
    have bk5 : Blk (((((W.setCell ⟨Z, 0, none⟩ (.int .i64 0)).setCell ⟨Z, 1, none⟩ (.int .i64 0)).setCell ⟨Z, 2, none⟩ (.string ⟨#[]⟩)).setCell ⟨Z, 3, none⟩ (.slice none 0 0)).setCell ⟨Z, 4, none⟩ (.string ⟨#[]⟩)) Z #[.int .i64 0, .int .i64 0, .string ⟨#[]⟩, .slice none 0 0, .string ⟨#[]⟩, .slice none 0 0, .slice none 0 0, .string ⟨#[]⟩, .bool false] 72 := Blk.set (vs := #[.int .i64 0, .int .i64 0, .string ⟨#[]⟩, .slice none 0 0, .string ⟨#[]⟩, .slice none 0 0, .slice none 0 0, .string ⟨#[]⟩, .bool false]) bk4 4 (by simp) _
    have r4 : (((((W.setCell ⟨Z, 0, none⟩ (.int .i64 0)).setCell ⟨Z, 1, none⟩ (.int .i64 0)).setCell ⟨Z, 2, none⟩ (.string ⟨#[]⟩)).setCell ⟨Z, 3, none⟩ (.slice none 0 0)).setCell ⟨Z, 4, none⟩ (.string ⟨#[]⟩)).cell? ⟨Z, 4, none⟩ = some (.string ⟨#[]⟩) := bk5.cell 4
    have bk6 : Blk ((((((W.setCell ⟨Z, 0, none⟩ (.int .i64 0)).setCell ⟨Z, 1, none⟩ (.int .i64 0)).setCell ⟨Z, 2, none⟩ (.string ⟨#[]⟩)).setCell ⟨Z, 3, none⟩ (.slice none 0 0)).setCell ⟨Z, 4, none⟩ (.string ⟨#[]⟩)).setCell ⟨Z, 5, none⟩ (.slice none 0 0)) Z #[.int .i64 0, .int .i64 0, .string ⟨#[]⟩, .slice none 0 0, .string ⟨#[]⟩, .slice none 0 0, .slice none 0 0, .string ⟨#[]⟩, .bool false] 72 := Blk.set (vs := #[.int .i64 0, .int .i64 0, .string ⟨#[]⟩, .slice none 0 0, .string ⟨#[]⟩, .slice none 0 0, .slice none 0 0, .string ⟨#[]⟩, .bool false]) bk5 5 (by simp) _
    have r5 : ((((((W.setCell ⟨Z, 0, none⟩ (.int .i64 0)).setCell ⟨Z, 1, none⟩ (.int .i64 0)).setCell ⟨Z, 2, none⟩ (.string ⟨#[]⟩)).setCell ⟨Z, 3, none⟩ (.slice none 0 0)).setCell ⟨Z, 4, none⟩ (.string ⟨#[]⟩)).setCell ⟨Z, 5, none⟩ (.slice none 0 0)).cell? ⟨Z, 5, none⟩ = some (.slice none 0 0) := bk6.cell 5
    have bk7 : Blk (((((((W.setCell ⟨Z, 0, none⟩ (.int .i64 0)).setCell ⟨Z, 1, none⟩ (.int .i64 0)).setCell ⟨Z, 2, none⟩ (.string ⟨#[]⟩)).setCell ⟨Z, 3, none⟩ (.slice none 0 0)).setCell ⟨Z, 4, none⟩ (.string ⟨#[]⟩)).setCell ⟨Z, 5, none⟩ (.slice none 0 0)).setCell ⟨Z, 6, none⟩ (.slice none 0 0)) Z #[.int .i64 0, .int .i64 0, .string ⟨#[]⟩, .slice none 0 0, .string ⟨#[]⟩, .slice none 0 0, .slice none 0 0, .string ⟨#[]⟩, .bool false] 72 := Blk.set (vs := #[.int .i64 0, .int .i64 0, .string ⟨#[]⟩, .slice none 0 0, .string ⟨#[]⟩, .slice none 0 0, .slice none 0 0, .string ⟨#[]⟩, .bool false]) bk6 6 (by simp) _
    have r6 : (((((((W.setCell ⟨Z, 0, none⟩ (.int .i64 0)).setCell ⟨Z, 1, none⟩ (.int .i64 0)).setCell ⟨Z, 2, none⟩ (.string ⟨#[]⟩)).setCell ⟨Z, 3, none⟩ (.slice none 0 0)).setCell ⟨Z, 4, none⟩ (.string ⟨#[]⟩)).setCell ⟨Z, 5, none⟩ (.slice none 0 0)).setCell ⟨Z, 6, none⟩ (.slice none 0 0)).cell? ⟨Z, 6, none⟩ = some (.slice none 0 0) := bk7.cell 6
    have bk8 : Blk ((((((((W.setCell ⟨Z, 0, none⟩ (.int .i64 0)).setCell ⟨Z, 1, none⟩ (.int .i64 0)).setCell ⟨Z, 2, none⟩ (.string ⟨#[]⟩)).setCell ⟨Z, 3, none⟩ (.slice none 0 0)).setCell ⟨Z, 4, none⟩ (.string ⟨#[]⟩)).setCell ⟨Z, 5, none⟩ (.slice none 0 0)).setCell ⟨Z, 6, none⟩ (.slice none 0 0)).setCell ⟨Z, 7, none⟩ (.string ⟨#[]⟩)) Z #[.int .i64 0, .int .i64 0, .string ⟨#[]⟩, .slice none 0 0, .string ⟨#[]⟩, .slice none 0 0, .slice none 0 0, .string ⟨#[]⟩, .bool false] 72 := Blk.set (vs := #[.int .i64 0, .int .i64 0, .string ⟨#[]⟩, .slice none 0 0, .string ⟨#[]⟩, .slice none 0 0, .slice none 0 0, .string ⟨#[]⟩, .bool false]) bk7 7 (by simp) _
    have r7 : ((((((((W.setCell ⟨Z, 0, none⟩ (.int .i64 0)).setCell ⟨Z, 1, none⟩ (.int .i64 0)).setCell ⟨Z, 2, none⟩ (.string ⟨#[]⟩)).setCell ⟨Z, 3, none⟩ (.slice none 0 0)).setCell ⟨Z, 4, none⟩ (.string ⟨#[]⟩)).setCell ⟨Z, 5, none⟩ (.slice none 0 0)).setCell ⟨Z, 6, none⟩ (.slice none 0 0)).setCell ⟨Z, 7, none⟩ (.string ⟨#[]⟩)).cell? ⟨Z, 7, none⟩ = some (.string ⟨#[]⟩) := bk8.cell 7
    have bk9 : Blk (((((((((W.setCell ⟨Z, 0, none⟩ (.int .i64 0)).setCell ⟨Z, 1, none⟩ (.int .i64 0)).setCell ⟨Z, 2, none⟩ (.string ⟨#[]⟩)).setCell ⟨Z, 3, none⟩ (.slice none 0 0)).setCell ⟨Z, 4, none⟩ (.string ⟨#[]⟩)).setCell ⟨Z, 5, none⟩ (.slice none 0 0)).setCell ⟨Z, 6, none⟩ (.slice none 0 0)).setCell ⟨Z, 7, none⟩ (.string ⟨#[]⟩)).setCell ⟨Z, 8, none⟩ (.bool true)) Z #[.int .i64 0, .int .i64 0, .string ⟨#[]⟩, .slice none 0 0, .string ⟨#[]⟩, .slice none 0 0, .slice none 0 0, .string ⟨#[]⟩, .bool true] 72 := Blk.set (vs := #[.int .i64 0, .int .i64 0, .string ⟨#[]⟩, .slice none 0 0, .string ⟨#[]⟩, .slice none 0 0, .slice none 0 0, .string ⟨#[]⟩, .bool false]) bk8 8 (by simp) _
    have r8 : (((((((((W.setCell ⟨Z, 0, none⟩ (.int .i64 0)).setCell ⟨Z, 1, none⟩ (.int .i64 0)).setCell ⟨Z, 2, none⟩ (.string ⟨#[]⟩)).setCell ⟨Z, 3, none⟩ (.slice none 0 0)).setCell ⟨Z, 4, none⟩ (.string ⟨#[]⟩)).setCell ⟨Z, 5, none⟩ (.slice none 0 0)).setCell ⟨Z, 6, none⟩ (.slice none 0 0)).setCell ⟨Z, 7, none⟩ (.string ⟨#[]⟩)).setCell ⟨Z, 8, none⟩ (.bool true)).cell? ⟨Z, 8, none⟩ = some (.bool true) := bk9.cell 8
    have HRS := hide (And.intro r0 (And.intro r1 (And.intro r2 (And.intro r3 (And.intro r4 (And.intro r5 (And.intro r6 (And.intro r7 r8))))))))
    have HE : Hid (ManySaid w none (.returned (.agg #[.int .i64 0, .int .i64 0, .string ⟨#[]⟩, .slice none 0 0, .string ⟨#[]⟩, .slice none 0 0, .slice none 0 0, .string ⟨#[]⟩, .bool true])) (((((((((W.setCell ⟨Z, 0, none⟩ (.int .i64 0)).setCell ⟨Z, 1, none⟩ (.int .i64 0)).setCell ⟨Z, 2, none⟩ (.string ⟨#[]⟩)).setCell ⟨Z, 3, none⟩ (.slice none 0 0)).setCell ⟨Z, 4, none⟩ (.string ⟨#[]⟩)).setCell ⟨Z, 5, none⟩ (.slice none 0 0)).setCell ⟨Z, 6, none⟩ (.slice none 0 0)).setCell ⟨Z, 7, none⟩ (.string ⟨#[]⟩)).setCell ⟨Z, 8, none⟩ (.bool true))) := hide ⟨none, 0, 0, ⟨#[]⟩, true, rfl, ((((((((((unhide HBW).setCell (p := ⟨Z, 0, none⟩) (Nat.le_of_eq (unhide HZO).1) (.int .i64 0)).setCell (p := ⟨Z, 1, none⟩) (Nat.le_of_eq (unhide HZO).1) (.int .i64 0)).setCell (p := ⟨Z, 2, none⟩) (Nat.le_of_eq (unhide HZO).1) (.string ⟨#[]⟩)).setCell (p := ⟨Z, 3, none⟩) (Nat.le_of_eq (unhide HZO).1) (.slice none 0 0)).setCell (p := ⟨Z, 4, none⟩) (Nat.le_of_eq (unhide HZO).1) (.string ⟨#[]⟩)).setCell (p := ⟨Z, 5, none⟩) (Nat.le_of_eq (unhide HZO).1) (.slice none 0 0)).setCell (p := ⟨Z, 6, none⟩) (Nat.le_of_eq (unhide HZO).1) (.slice none 0 0)).setCell (p := ⟨Z, 7, none⟩) (Nat.le_of_eq (unhide HZO).1) (.string ⟨#[]⟩)).setCell (p := ⟨Z, 8, none⟩) (Nat.le_of_eq (unhide HZO).1) (.bool true)), rfl⟩
    clear bk0 bk1 bk2 bk3 bk4 bk5 bk6 bk7 bk8 bk9 r0 r1 r2 r3 r4 r5 r6 r7 r8 hz 
    go_wp2
    obtain ⟨r0, r1, r2, r3, r4, r5, r6, r7, r8⟩ := unhide HRS
    refine bodyPost_ret (v := .agg #[.int .i64 0, .int .i64 0, .string ⟨#[]⟩, .slice none 0 0, .string ⟨#[]⟩, .slice none 0 0, .slice none 0 0, .string ⟨#[]⟩, .bool true]) (by simp [results, Tryd.results48, go_sem, r0, r1, r2, r3, r4, r5, r6, r7, r8]) rfl ?_
    exact unhide HE

def MAt (kp : List UInt8 → Option (Forest × List UInt8)) (w : World) (O K Z B c : Nat) (l1 : List UInt8) (i : Value) (wr : World) : Prop :=
  ∃ (j : Nat) (acc : Forest) (xs : List Value) (l : List UInt8) (p : Nat → Bool) (va : Value), j ≤ c ∧ i = .int .i64 j ∧ acc.len = j ∧ wr.ownsRow B 49 6 va acc.len xs ∧ Desc acc xs (mask p wr) ∧ (∀ k, k < B → p k = true) ∧ (∀ k, va.ownBlock = some k → p k = true) ∧ (∀ k, p k = true → k < wr.heap.size) ∧ Blk wr O #[.int .i64 0, .int .i64 0, .string ⟨#[]⟩, .slice none 0 0, .string ⟨#[]⟩, .slice none 0 0, va, .string (bs l), .bool false] 72 ∧ Blk wr K #[.int .i64 (c : Nat), .string ⟨#[]⟩, .slice none 0 0, .string (bs l1), .int .i64 0] 96 ∧ Blk wr Z #[.int .i64 0, .int .i64 0, .string ⟨#[]⟩, .slice none 0 0, .string ⟨#[]⟩, .slice none 0 0, .slice none 0 0, .string ⟨#[]⟩, .bool false] 72 ∧ Below w.heap.size w wr ∧ B ≤ wr.heap.size ∧ l.length ≤ 5000 ∧ pMany kp c l1 = (pMany kp (c - j) l).map fun z => (acc.app z.1, z.2)
set_option maxHeartbeats 8000000 in
set_option maxRecDepth 100000 in
theorem many_ok (kp : List UInt8 → Option (Forest × List UInt8)) (b : ByteArray) (dd : Int) (w : World) (c : Nat) (l1 : List UInt8) (o : Option (Forest × List UInt8)) (ho' : o = pMany kp c l1) (hc : c ≤ 300) (hdd : ¬ dd < 0) (hl1 : l1.length ≤ 5000)
    (HPK : Hid (∀ l x r, pOne kp l = some (x, r) → PNk l x r))
    (CN : Hid (Calls Tryd.prog 68 #[.string b] (w.alloc (Obj.cells #[.int .i64 0, .int .i64 0, .string ⟨#[]⟩, .slice none 0 0, .string ⟨#[]⟩, .slice none 0 0, .slice none 0 0, .string ⟨#[]⟩, .bool false] 72)) fun e w' => e = .returned (.agg #[.int .i64 (c : Nat), .string ⟨#[]⟩, .slice none 0 0, .string (bs l1), .int .i64 0]) ∧ Below (w.alloc (Obj.cells #[.int .i64 0, .int .i64 0, .string ⟨#[]⟩, .slice none 0 0, .string ⟨#[]⟩, .slice none 0 0, .slice none 0 0, .string ⟨#[]⟩, .bool false] 72)).heap.size (w.alloc (Obj.cells #[.int .i64 0, .int .i64 0, .string ⟨#[]⟩, .slice none 0 0, .string ⟨#[]⟩, .slice none 0 0, .slice none 0 0, .string ⟨#[]⟩, .bool false] 72)) w'))
    (HONE : Hid (∀ (l : List UInt8) (W : World), l.length ≤ 5000 → Calls Tryd.prog 69 #[.string (bs l), .int .i64 dd] W (OneSaid W (pOne kp l)))) :
    Calls Tryd.prog 48 #[.string b, .int .i64 dd] w (ManySaid w o) := by
  obtain ⟨i0, hi0, hi1, hi2, hi3⟩ := info_parts infoNode0
  have HO' := hide ho'
  have hck : ¬ (300 : Int) < (c : Int) := by omega
  have hck' : decide ((300 : Int) < (c : Int)) = false := decide_eq_false hck
  clear ho'
  have HZ0 : Hid (Blk (w.alloc (Obj.cells #[.int .i64 0, .int .i64 0, .string ⟨#[]⟩, .slice none 0 0, .string ⟨#[]⟩, .slice none 0 0, .slice none 0 0, .string ⟨#[]⟩, .bool false] 72)) w.heap.size #[.int .i64 0, .int .i64 0, .string ⟨#[]⟩, .slice none 0 0, .string ⟨#[]⟩, .slice none 0 0, .slice none 0 0, .string ⟨#[]⟩, .bool false] 72 ∧ Below w.heap.size w (w.alloc (Obj.cells #[.int .i64 0, .int .i64 0, .string ⟨#[]⟩, .slice none 0 0, .string ⟨#[]⟩, .slice none 0 0, .slice none 0 0, .string ⟨#[]⟩, .bool false] 72)) ∧ (w.alloc (Obj.cells #[.int .i64 0, .int .i64 0, .string ⟨#[]⟩, .slice none 0 0, .string ⟨#[]⟩, .slice none 0 0, .slice none 0 0, .string ⟨#[]⟩, .bool false] 72)).heap.size = w.heap.size + 1) := hide ⟨Blk.new w _ _, (Below.refl _ _).alloc (Nat.le_refl _) _, by simp⟩
  go_enter Tryd.func48, Tryd.ntmps48
  go_wp2_with fail
  refine (unhide CN).mono ?_
  rintro e w1 ⟨rfl, hb1⟩
  have hz1 : Blk w1 w.heap.size #[.int .i64 0, .int .i64 0, .string ⟨#[]⟩, .slice none 0 0, .string ⟨#[]⟩, .slice none 0 0, .slice none 0 0, .string ⟨#[]⟩, .bool false] 72 := Blk.later (unhide HZ0).1 hb1
  have hw1 : w.heap.size < w1.heap.size := by have h2 := hb1.size; have h3 := (unhide HZ0).2.2; omega
  have hB1 : Below w.heap.size w w1 := tr2 (unhide HZ0).2.1 hb1
  go_upto_region 5 with fail
  obtain ⟨W, hW⟩ : ∃ W, ((w1.alloc (Obj.cells #[.int .i64 (c : Nat), .string ⟨#[]⟩, .slice none 0 0, .string (bs l1), .int .i64 0] 96)).alloc (Obj.cells #[.int .i64 0, .int .i64 0, .string ⟨#[]⟩, .slice none 0 0, .string ⟨#[]⟩, .slice none 0 0, .slice none 0 0, .string (bs l1), .bool false] 72)) = W := ⟨_, rfl⟩
  have hA1 : Below w1.heap.size w1 W := by rw [← hW]; exact ((Below.refl _ _).alloc (Nat.le_refl _) _).alloc (by simp) _
  have hz : Blk W w.heap.size #[.int .i64 0, .int .i64 0, .string ⟨#[]⟩, .slice none 0 0, .string ⟨#[]⟩, .slice none 0 0, .slice none 0 0, .string ⟨#[]⟩, .bool false] 72 := Blk.later hz1 hA1
  have hkB : Blk W w1.heap.size #[.int .i64 (c : Nat), .string ⟨#[]⟩, .slice none 0 0, .string (bs l1), .int .i64 0] 96 := by rw [← hW]; exact Blk.alloc (Blk.new _ _ _) _
  have ho : Blk W (w1.heap.size + 1) #[.int .i64 0, .int .i64 0, .string ⟨#[]⟩, .slice none 0 0, .string ⟨#[]⟩, .slice none 0 0, .slice none 0 0, .string (bs l1), .bool false] 72 := by
    rw [← hW]
    have := Blk.new (w1.alloc (Obj.cells #[.int .i64 (c : Nat), .string ⟨#[]⟩, .slice none 0 0, .string (bs l1), .int .i64 0] 96)) #[.int .i64 0, .int .i64 0, .string ⟨#[]⟩, .slice none 0 0, .string ⟨#[]⟩, .slice none 0 0, .slice none 0 0, .string (bs l1), .bool false] 72
    simpa using this
  have hBW : Below w.heap.size w W := tr2 hB1 hA1
  have hWs : W.heap.size = w1.heap.size + 2 := by rw [← hW]; simp
  simp only [hW]
  clear hW hz1 hb1 hB1 CN HZ0 hA1
  obtain ⟨Z, hZ⟩ : ∃ Z, w.heap.size = Z := ⟨_, rfl⟩
  obtain ⟨O, hO⟩ : ∃ O, w1.heap.size + 1 = O := ⟨_, rfl⟩
  obtain ⟨K, hK⟩ : ∃ Q, w1.heap.size = Q := ⟨_, rfl⟩
  obtain ⟨B, hB⟩ : ∃ B, W.heap.size = B := ⟨_, rfl⟩
  have HZO : Hid (w.heap.size = Z ∧ w.heap.size ≤ O) := hide ⟨hZ, by omega⟩
  have HLB : Hid (Z < O ∧ K < O ∧ O < B ∧ Z < B ∧ K < B) := hide (by omega)
  have hZO : Z ≠ O := by omega
  have hOZ : O ≠ Z := by omega
  have hKO : K ≠ O := by omega
  rw [hZ] at hz
  rw [hO] at ho
  rw [hK] at hkB
  have k0 : W.cell? ⟨K, 0, none⟩ = some (.int .i64 (c : Nat)) := hkB.cell 0
  have HMA : Hid (MAt kp w O K Z B c l1 (.int .i64 0) W) := hide ⟨0, .nil, [], l1, hiP B, .slice none 0 0, Nat.zero_le _, rfl, rfl, World.ownsRow_nil _ _ _ _, rfl, fun k hk => hiP_at hk, (fun k hk => by cases hk), (fun k hk => by have := of_decide_eq_true hk; omega), ho, hkB, hz, hBW, by omega, hl1, by rw [Nat.sub_zero]; cases pMany kp c l1 with
    | none => rfl
    | some a => rfl⟩
  simp only [hO]
  simp only [hZ, hK]
  clear hZ hO hK hw1 hWs ho hkB hz hBW hB
  go_wp2
  go_loopw [7] (fun i wr => MAt kp w O K Z B c l1 i wr) (fun i _ => c - (intOf i).toNat)
  case atStart => exact unhide HMA
  case round =>
    clear HMA k0
    obtain ⟨j, acc, xs, l, p, va, hj, rfl, hal, hrow, hdes, hpl, hpo, hpu, hO, hkB, hZ, hbw, hBs, hll, hres⟩ := hrel
    obtain ⟨q0, c0, rfl⟩ := slice_n hrow
    have k0 : wr.cell? ⟨K, 0, none⟩ = some (.int .i64 (c : Nat)) := hkB.cell 0
    by_cases hp : j < c
    · have hpi : (j : Int) < (c : Int) := by omega
      have o7 : wr.cell? ⟨O, 7, none⟩ = some (.string (bs l)) := hO.cell 7
      have CO := hide (unhide HONE l wr hll)
      have HRS2 : Hid (pMany kp (c - j) l = (pOne kp l).bind fun x => (pMany kp (c - (j + 1)) x.2).map fun z => (x.1.cons z.1, z.2)) := hide (by rw [show c - j = (c - (j + 1)) + 1 by omega, pMany])
      have HRES := hide hres
      have HIN := hide (And.intro hrow (And.intro hdes (And.intro hpl (And.intro hpo (And.intro hpu (And.intro hO (And.intro hkB (And.intro hZ (And.intro hbw hBs)))))))))
      clear hrow hdes hpl hpo hpu hO hkB hZ hbw hBs hres
      go_wp2_with fail
      refine (unhide CO).mono ?_
      rintro e w5 ⟨xk, xs', xn, qa, al, ca, xt, qk, kl, ck, xr, bad, rfl, hb5, hoi⟩
      go_upto_region 9 with fail
      obtain ⟨V, hV⟩ : ∃ V, w5.alloc (Obj.cells #[.int .i64 xk, .int .i64 xs', .string xn, .slice qa al ca, .string xt, .slice qk kl ck, .slice none 0 0, .string xr, .bool bad] 72) = V := ⟨_, rfl⟩
      have hA5 : Below w5.heap.size w5 V := by rw [← hV]; exact (Below.refl _ _).alloc (Nat.le_refl _) _
      have hxB : Blk V w5.heap.size #[.int .i64 xk, .int .i64 xs', .string xn, .slice qa al ca, .string xt, .slice qk kl ck, .slice none 0 0, .string xr, .bool bad] 72 := by rw [← hV]; exact Blk.new _ _ _
      have hall : Below wr.heap.size wr V := tr2 hb5 hA5
      obtain ⟨hrow, hdes, hpl, hpo, hpu, hO, hkB, hZ, hbw, hBs⟩ := unhide HIN
      have hrowV := ownsRow_below hrow hall
      have hdV : Desc acc xs (mask p V) := hdes.le (mask_kept fun k hk h => ⟨h, hall.block k hk⟩)
      have ho : Blk V O #[.int .i64 0, .int .i64 0, .string ⟨#[]⟩, .slice none 0 0, .string ⟨#[]⟩, .slice none 0 0, .slice q0 acc.len c0, .string (bs l), .bool false] 72 := Blk.later hO hall
      have hkV := Blk.later hkB hall
      have hz : Blk V Z #[.int .i64 0, .int .i64 0, .string ⟨#[]⟩, .slice none 0 0, .string ⟨#[]⟩, .slice none 0 0, .slice none 0 0, .string ⟨#[]⟩, .bool false] 72 := Blk.later hZ hall
      have HBW : Hid (Below w.heap.size w V) := hide (tr2 hbw hall)
      have hBV : B ≤ V.heap.size := by have := hall.size; omega
      have hw5 : wr.heap.size ≤ w5.heap.size := hb5.size
      have hV5 : V.heap.size = w5.heap.size + 1 := by rw [← hV]; simp
      have HRL : Hid (∀ k, (Value.slice q0 j c0).ownBlock = some k → k < wr.heap.size) := hide (fun k hk => (hrow.lt k (by rw [hal]; exact hk)).2)
      have HOI : Hid (OneIs wr.heap.size (pOne kp l) xk xs' xn qa al xt qk kl ck xr bad w5 ∧ CellLe (mask (hiP wr.heap.size) w5) (mask (hiP wr.heap.size) V)) := hide ⟨hoi, mask_kept fun k hk h => ⟨h, hA5.block k hk⟩⟩
      have HPP := hide (And.intro hpl (And.intro hpo hpu))
      simp only [hV]
      rw [hal] at ho hrowV
      obtain ⟨P, hP⟩ : ∃ Q, w5.heap.size = Q := ⟨_, rfl⟩
      have hPO : P ≠ O := by have := unhide HLB; omega
      have HPW : Hid (wr.heap.size ≤ P ∧ V.heap.size = P + 1 ∧ wr.heap.size ≤ V.heap.size) := hide (by omega)
      rw [hP] at hxB
      simp only [hP]
      have x8 : V.cell? ⟨P, 8, none⟩ = some (.bool bad) := hxB.cell 8
      clear hV hA5 hb5 hoi HIN hrow hdes hpl hpo hpu hO hkB hZ hbw hBs hall CO o7 k0 hP hw5 hV5
      cases hone : pOne kp l with
      | none =>
        have hbad : bad = true := by have h := (unhide HOI).1; rw [hone] at h; exact h
        subst hbad
        have HON : Hid (o = none) := hide (by rw [unhide HO', unhide HRES, unhide HRS2, hone]; rfl)
        clear HOI HRS2 HRES hone HPP hxB ho hkV hrowV hdV
        go_upto_region 10 with fail
        clear x8
        have z0 : V.cell? ⟨Z, 0, none⟩ = some (.int .i64 0) := hz.cell 0
        have zf0 : V.frozen? ⟨Z, 0, none⟩ = false := hz.frozen 0
        have z1 : V.cell? ⟨Z, 1, none⟩ = some (.int .i64 0) := hz.cell 1
        have zf1 : V.frozen? ⟨Z, 1, none⟩ = false := hz.frozen 1
        have z2 : V.cell? ⟨Z, 2, none⟩ = some (.string ⟨#[]⟩) := hz.cell 2
        have zf2 : V.frozen? ⟨Z, 2, none⟩ = false := hz.frozen 2
        have z3 : V.cell? ⟨Z, 3, none⟩ = some (.slice none 0 0) := hz.cell 3
        have zf3 : V.frozen? ⟨Z, 3, none⟩ = false := hz.frozen 3
        have z4 : V.cell? ⟨Z, 4, none⟩ = some (.string ⟨#[]⟩) := hz.cell 4
        have zf4 : V.frozen? ⟨Z, 4, none⟩ = false := hz.frozen 4
        have z5 : V.cell? ⟨Z, 5, none⟩ = some (.slice none 0 0) := hz.cell 5
        have zf5 : V.frozen? ⟨Z, 5, none⟩ = false := hz.frozen 5
        have z6 : V.cell? ⟨Z, 6, none⟩ = some (.slice none 0 0) := hz.cell 6
        have zf6 : V.frozen? ⟨Z, 6, none⟩ = false := hz.frozen 6
        have z7 : V.cell? ⟨Z, 7, none⟩ = some (.string ⟨#[]⟩) := hz.cell 7
        have zf7 : V.frozen? ⟨Z, 7, none⟩ = false := hz.frozen 7
        have z8 : V.cell? ⟨Z, 8, none⟩ = some (.bool false) := hz.cell 8
        have zf8 : V.frozen? ⟨Z, 8, none⟩ = false := hz.frozen 8
        have bk0 : Blk V Z #[.int .i64 0, .int .i64 0, .string ⟨#[]⟩, .slice none 0 0, .string ⟨#[]⟩, .slice none 0 0, .slice none 0 0, .string ⟨#[]⟩, .bool false] 72 := hz
        have bk1 : Blk (V.setCell ⟨Z, 0, none⟩ (.int .i64 0)) Z #[.int .i64 0, .int .i64 0, .string ⟨#[]⟩, .slice none 0 0, .string ⟨#[]⟩, .slice none 0 0, .slice none 0 0, .string ⟨#[]⟩, .bool false] 72 := Blk.set (vs := #[.int .i64 0, .int .i64 0, .string ⟨#[]⟩, .slice none 0 0, .string ⟨#[]⟩, .slice none 0 0, .slice none 0 0, .string ⟨#[]⟩, .bool false]) bk0 0 (by simp) _
        have r0 : (V.setCell ⟨Z, 0, none⟩ (.int .i64 0)).cell? ⟨Z, 0, none⟩ = some (.int .i64 0) := bk1.cell 0
        have bk2 : Blk ((V.setCell ⟨Z, 0, none⟩ (.int .i64 0)).setCell ⟨Z, 1, none⟩ (.int .i64 0)) Z #[.int .i64 0, .int .i64 0, .string ⟨#[]⟩, .slice none 0 0, .string ⟨#[]⟩, .slice none 0 0, .slice none 0 0, .string ⟨#[]⟩, .bool false] 72 := Blk.set (vs := #[.int .i64 0, .int .i64 0, .string ⟨#[]⟩, .slice none 0 0, .string ⟨#[]⟩, .slice none 0 0, .slice none 0 0, .string ⟨#[]⟩, .bool false]) bk1 1 (by simp) _
        have r1 : ((V.setCell ⟨Z, 0, none⟩ (.int .i64 0)).setCell ⟨Z, 1, none⟩ (.int .i64 0)).cell? ⟨Z, 1, none⟩ = some (.int .i64 0) := bk2.cell 1
        have bk3 : Blk (((V.setCell ⟨Z, 0, none⟩ (.int .i64 0)).setCell ⟨Z, 1, none⟩ (.int .i64 0)).setCell ⟨Z, 2, none⟩ (.string ⟨#[]⟩)) Z #[.int .i64 0, .int .i64 0, .string ⟨#[]⟩, .slice none 0 0, .string ⟨#[]⟩, .slice none 0 0, .slice none 0 0, .string ⟨#[]⟩, .bool false] 72 := Blk.set (vs := #[.int .i64 0, .int .i64 0, .string ⟨#[]⟩, .slice none 0 0, .string ⟨#[]⟩, .slice none 0 0, .slice none 0 0, .string ⟨#[]⟩, .bool false]) bk2 2 (by simp) _
        have r2 : (((V.setCell ⟨Z, 0, none⟩ (.int .i64 0)).setCell ⟨Z, 1, none⟩ (.int .i64 0)).setCell ⟨Z, 2, none⟩ (.string ⟨#[]⟩)).cell? ⟨Z, 2, none⟩ = some (.string ⟨#[]⟩) := bk3.cell 2
        have bk4 : Blk ((((V.setCell ⟨Z, 0, none⟩ (.int .i64 0)).setCell ⟨Z, 1, none⟩ (.int .i64 0)).setCell ⟨Z, 2, none⟩ (.string ⟨#[]⟩)).setCell ⟨Z, 3, none⟩ (.slice none 0 0)) Z #[.int .i64 0, .int .i64 0, .string ⟨#[]⟩, .slice none 0 0, .string ⟨#[]⟩, .slice none 0 0, .slice none 0 0, .string ⟨#[]⟩, .bool false] 72 := Blk.set (vs := #[.int .i64 0, .int .i64 0, .string ⟨#[]⟩, .slice none 0 0, .string ⟨#[]⟩, .slice none 0 0, .slice none 0 0, .string ⟨#[]⟩, .bool false]) bk3 3 (by simp) _
        have r3 : ((((V.setCell ⟨Z, 0, none⟩ (.int .i64 0)).setCell ⟨Z, 1, none⟩ (.int .i64 0)).setCell ⟨Z, 2, none⟩ (.string ⟨#[]⟩)).setCell ⟨Z, 3, none⟩ (.slice none 0 0)).cell? ⟨Z, 3, none⟩ = some (.slice none 0 0) := bk4.cell 3
        have bk5 : Blk (((((V.setCell ⟨Z, 0, none⟩ (.int .i64 0)).setCell ⟨Z, 1, none⟩ (.int .i64 0)).setCell ⟨Z, 2, none⟩ (.string ⟨#[]⟩)).setCell ⟨Z, 3, none⟩ (.slice none 0 0)).setCell ⟨Z, 4, none⟩ (.string ⟨#[]⟩)) Z #[.int .i64 0, .int .i64 0, .string ⟨#[]⟩, .slice none 0 0, .string ⟨#[]⟩, .slice none 0 0, .slice none 0 0, .string ⟨#[]⟩, .bool false] 72 := Blk.set (vs := #[.int .i64 0, .int .i64 0, .string ⟨#[]⟩, .slice none 0 0, .string ⟨#[]⟩, .slice none 0 0, .slice none 0 0, .string ⟨#[]⟩, .bool false]) bk4 4 (by simp) _
        have r4 : (((((V.setCell ⟨Z, 0, none⟩ (.int .i64 0)).setCell ⟨Z, 1, none⟩ (.int .i64 0)).setCell ⟨Z, 2, none⟩ (.string ⟨#[]⟩)).setCell ⟨Z, 3, none⟩ (.slice none 0 0)).setCell ⟨Z, 4, none⟩ (.string ⟨#[]⟩)).cell? ⟨Z, 4, none⟩ = some (.string ⟨#[]⟩) := bk5.cell 4
        have bk6 : Blk ((((((V.setCell ⟨Z, 0, none⟩ (.int .i64 0)).setCell ⟨Z, 1, none⟩ (.int .i64 0)).setCell ⟨Z, 2, none⟩ (.string ⟨#[]⟩)).setCell ⟨Z, 3, none⟩ (.slice none 0 0)).setCell ⟨Z, 4, none⟩ (.string ⟨#[]⟩)).setCell ⟨Z, 5, none⟩ (.slice none 0 0)) Z #[.int .i64 0, .int .i64 0, .string ⟨#[]⟩, .slice none 0 0, .string ⟨#[]⟩, .slice none 0 0, .slice none 0 0, .string ⟨#[]⟩, .bool false] 72 := Blk.set (vs := #[.int .i64 0, .int .i64 0, .string ⟨#[]⟩, .slice none 0 0, .string ⟨#[]⟩, .slice none 0 0, .slice none 0 0, .string ⟨#[]⟩, .bool false]) bk5 5 (by simp) _
        have r5 : ((((((V.setCell ⟨Z, 0, none⟩ (.int .i64 0)).setCell ⟨Z, 1, none⟩ (.int .i64 0)).setCell ⟨Z, 2, none⟩ (.string ⟨#[]⟩)).setCell ⟨Z, 3, none⟩ (.slice none 0 0)).setCell ⟨Z, 4, none⟩ (.string ⟨#[]⟩)).setCell ⟨Z, 5, none⟩ (.slice none 0 0)).cell? ⟨Z, 5, none⟩ = some (.slice none 0 0) := bk6.cell 5
        have bk7 : Blk (((((((V.setCell ⟨Z, 0, none⟩ (.int .i64 0)).setCell ⟨Z, 1, none⟩ (.int .i64 0)).setCell ⟨Z, 2, none⟩ (.string ⟨#[]⟩)).setCell ⟨Z, 3, none⟩ (.slice none 0 0)).setCell ⟨Z, 4, none⟩ (.string ⟨#[]⟩)).setCell ⟨Z, 5, none⟩ (.slice none 0 0)).setCell ⟨Z, 6, none⟩ (.slice none 0 0)) Z #[.int .i64 0, .int .i64 0, .string ⟨#[]⟩, .slice none 0 0, .string ⟨#[]⟩, .slice none 0 0, .slice none 0 0, .string ⟨#[]⟩, .bool false] 72 := Blk.set (vs := #[.int .i64 0, .int .i64 0, .string ⟨#[]⟩, .slice none 0 0, .string ⟨#[]⟩, .slice none 0 0, .slice none 0 0, .string ⟨#[]⟩, .bool false]) bk6 6 (by simp) _
        have r6 : (((((((V.setCell ⟨Z, 0, none⟩ (.int .i64 0)).setCell ⟨Z, 1, none⟩ (.int .i64 0)).setCell ⟨Z, 2, none⟩ (.string ⟨#[]⟩)).setCell ⟨Z, 3, none⟩ (.slice none 0 0)).setCell ⟨Z, 4, none⟩ (.string ⟨#[]⟩)).setCell ⟨Z, 5, none⟩ (.slice none 0 0)).setCell ⟨Z, 6, none⟩ (.slice none 0 0)).cell? ⟨Z, 6, none⟩ = some (.slice none 0 0) := bk7.cell 6
        have bk8 : Blk ((((((((V.setCell ⟨Z, 0, none⟩ (.int .i64 0)).setCell ⟨Z, 1, none⟩ (.int .i64 0)).setCell ⟨Z, 2, none⟩ (.string ⟨#[]⟩)).setCell ⟨Z, 3, none⟩ (.slice none 0 0)).setCell ⟨Z, 4, none⟩ (.string ⟨#[]⟩)).setCell ⟨Z, 5, none⟩ (.slice none 0 0)).setCell ⟨Z, 6, none⟩ (.slice none 0 0)).setCell ⟨Z, 7, none⟩ (.string ⟨#[]⟩)) Z #[.int .i64 0, .int .i64 0, .string ⟨#[]⟩, .slice none 0 0, .string ⟨#[]⟩, .slice none 0 0, .slice none 0 0, .string ⟨#[]⟩, .bool false] 72 := Blk.set (vs := #[.int .i64 0, .int .i64 0, .string ⟨#[]⟩, .slice none 0 0, .string ⟨#[]⟩, .slice none 0 0, .slice none 0 0, .string ⟨#[]⟩, .bool false]) bk7 7 (by simp) _
        have r7 : ((((((((V.setCell ⟨Z, 0, none⟩ (.int .i64 0)).setCell ⟨Z, 1, none⟩ (.int .i64 0)).setCell ⟨Z, 2, none⟩ (.string ⟨#[]⟩)).setCell ⟨Z, 3, none⟩ (.slice none 0 0)).setCell ⟨Z, 4, none⟩ (.string ⟨#[]⟩)).setCell ⟨Z, 5, none⟩ (.slice none 0 0)).setCell ⟨Z, 6, none⟩ (.slice none 0 0)).setCell ⟨Z, 7, none⟩ (.string ⟨#[]⟩)).cell? ⟨Z, 7, none⟩ = some (.string ⟨#[]⟩) := bk8.cell 7
        have bk9 : Blk (((((((((V.setCell ⟨Z, 0, none⟩ (.int .i64 0)).setCell ⟨Z, 1, none⟩ (.int .i64 0)).setCell ⟨Z, 2, none⟩ (.string ⟨#[]⟩)).setCell ⟨Z, 3, none⟩ (.slice none 0 0)).setCell ⟨Z, 4, none⟩ (.string ⟨#[]⟩)).setCell ⟨Z, 5, none⟩ (.slice none 0 0)).setCell ⟨Z, 6, none⟩ (.slice none 0 0)).setCell ⟨Z, 7, none⟩ (.string ⟨#[]⟩)).setCell ⟨Z, 8, none⟩ (.bool true)) Z #[.int .i64 0, .int .i64 0, .string ⟨#[]⟩, .slice none 0 0, .string ⟨#[]⟩, .slice none 0 0, .slice none 0 0, .string ⟨#[]⟩, .bool true] 72 := Blk.set (vs := #[.int .i64 0, .int .i64 0, .string ⟨#[]⟩, .slice none 0 0, .string ⟨#[]⟩, .slice none 0 0, .slice none 0 0, .string ⟨#[]⟩, .bool false]) bk8 8 (by simp) _
        have r8 : (((((((((V.setCell ⟨Z, 0, none⟩ (.int .i64 0)).setCell ⟨Z, 1, none⟩ (.int .i64 0)).setCell ⟨Z, 2, none⟩ (.string ⟨#[]⟩)).setCell ⟨Z, 3, none⟩ (.slice none 0 0)).setCell ⟨Z, 4, none⟩ (.string ⟨#[]⟩)).setCell ⟨Z, 5, none⟩ (.slice none 0 0)).setCell ⟨Z, 6, none⟩ (.slice none 0 0)).setCell ⟨Z, 7, none⟩ (.string ⟨#[]⟩)).setCell ⟨Z, 8, none⟩ (.bool true)).cell? ⟨Z, 8, none⟩ = some (.bool true) := bk9.cell 8
        have HRS := hide (And.intro r0 (And.intro r1 (And.intro r2 (And.intro r3 (And.intro r4 (And.intro r5 (And.intro r6 (And.intro r7 r8))))))))
        have HE : Hid (ManySaid w o (.returned (.agg #[.int .i64 0, .int .i64 0, .string ⟨#[]⟩, .slice none 0 0, .string ⟨#[]⟩, .slice none 0 0, .slice none 0 0, .string ⟨#[]⟩, .bool true])) (((((((((V.setCell ⟨Z, 0, none⟩ (.int .i64 0)).setCell ⟨Z, 1, none⟩ (.int .i64 0)).setCell ⟨Z, 2, none⟩ (.string ⟨#[]⟩)).setCell ⟨Z, 3, none⟩ (.slice none 0 0)).setCell ⟨Z, 4, none⟩ (.string ⟨#[]⟩)).setCell ⟨Z, 5, none⟩ (.slice none 0 0)).setCell ⟨Z, 6, none⟩ (.slice none 0 0)).setCell ⟨Z, 7, none⟩ (.string ⟨#[]⟩)).setCell ⟨Z, 8, none⟩ (.bool true))) := hide (by rw [unhide HON]; exact ⟨none, 0, 0, ⟨#[]⟩, true, rfl, ((((((((((unhide HBW).setCell (p := ⟨Z, 0, none⟩) (Nat.le_of_eq (unhide HZO).1) (.int .i64 0)).setCell (p := ⟨Z, 1, none⟩) (Nat.le_of_eq (unhide HZO).1) (.int .i64 0)).setCell (p := ⟨Z, 2, none⟩) (Nat.le_of_eq (unhide HZO).1) (.string ⟨#[]⟩)).setCell (p := ⟨Z, 3, none⟩) (Nat.le_of_eq (unhide HZO).1) (.slice none 0 0)).setCell (p := ⟨Z, 4, none⟩) (Nat.le_of_eq (unhide HZO).1) (.string ⟨#[]⟩)).setCell (p := ⟨Z, 5, none⟩) (Nat.le_of_eq (unhide HZO).1) (.slice none 0 0)).setCell (p := ⟨Z, 6, none⟩) (Nat.le_of_eq (unhide HZO).1) (.slice none 0 0)).setCell (p := ⟨Z, 7, none⟩) (Nat.le_of_eq (unhide HZO).1) (.string ⟨#[]⟩)).setCell (p := ⟨Z, 8, none⟩) (Nat.le_of_eq (unhide HZO).1) (.bool true)), rfl⟩)
        clear bk0 bk1 bk2 bk3 bk4 bk5 bk6 bk7 bk8 bk9 r0 r1 r2 r3 r4 r5 r6 r7 r8 hz 
        go_wp2
        obtain ⟨r0, r1, r2, r3, r4, r5, r6, r7, r8⟩ := unhide HRS
        refine bodyPost_ret (v := .agg #[.int .i64 0, .int .i64 0, .string ⟨#[]⟩, .slice none 0 0, .string ⟨#[]⟩, .slice none 0 0, .slice none 0 0, .string ⟨#[]⟩, .bool true]) (by simp [results, Tryd.results48, go_sem, r0, r1, r2, r3, r4, r5, r6, r7, r8]) rfl ?_
        exact unhide HE
      | some y =>
        obtain ⟨x, r⟩ := y
        have hoi := (unhide HOI).1
        have hle := (unhide HOI).2
        rw [hone] at hoi
        obtain ⟨i0', i1, i2, i3, i4, i5, i6, i7, i8, i9, i10⟩ := hoi
        subst i0' i8
        have hxr : r.length ≤ 5000 := by have := (unhide HPK l x r hone).cnt; omega
        have HRES3 : Hid (pMany kp c l1 = (pMany kp (c - (j + 1)) r).map fun z => ((acc.app (x.cons .nil)).app z.1, z.2)) := hide (by
          rw [unhide HRES, unhide HRS2, hone]
          show Option.map _ (Option.map _ (pMany kp (c - (j + 1)) r)) = _
          cases pMany kp (c - (j + 1)) r with
          | none => rfl
          | some a => show some (_, _) = some (_, _); rw [app_assoc]; rfl)
        have hd4 : Desc (acc.app (x.cons .nil)) (xs ++ [.int .i64 x.k, .int .i64 x.sp, .string x.n, .slice qa x.ats.length ca, .string x.tx, .slice qk x.kids.len ck]) (mask p V) :=
          hdV.snoc x qa ca qk ck (by rw [← i6]; exact i7) ((i9.le hle).le (mask_less V fun i hi => hiP_at ((unhide HPP).2.2 i hi))) ((i10.le hle).le (mask_less V fun i hi => hiP_at ((unhide HPP).2.2 i hi)))
        rw [← i1, ← i2, ← i3, ← i4, ← i5, ← i6] at hd4
        have x0 : V.cell? ⟨P, 0, none⟩ = some (.int .i64 xk) := hxB.cell 0
        have x1 : V.cell? ⟨P, 1, none⟩ = some (.int .i64 xs') := hxB.cell 1
        have x2 : V.cell? ⟨P, 2, none⟩ = some (.string xn) := hxB.cell 2
        have x3 : V.cell? ⟨P, 3, none⟩ = some (.slice qa al ca) := hxB.cell 3
        have x4 : V.cell? ⟨P, 4, none⟩ = some (.string xt) := hxB.cell 4
        have x5 : V.cell? ⟨P, 5, none⟩ = some (.slice qk kl ck) := hxB.cell 5
        have o6 : V.cell? ⟨O, 6, none⟩ = some (.slice q0 j c0) := ho.cell 6
        have of6 : V.frozen? ⟨O, 6, none⟩ = false := ho.frozen 6
        have hOl : O < V.heap.size := ho.lt
        have HD4 := hide hd4
        have HY := hide (And.intro ho (And.intro hkV (And.intro hz hxB)))
        clear HOI HRS2 HRES hone hle i1 i2 i3 i4 i5 i6 i7 i9 i10 hd4 hdV ho hkV hz hxB
        go_wp2_with (at_builtin; refine wpList_append_own_at _ rfl _ _ 22 rfl B 49 i0 (.agg #[.int .i64 0, .int .i64 0, .string ⟨#[]⟩, .slice none 0 0, .string ⟨#[]⟩, .slice none 0 0]) 6 96 Tryd.underlying22 hi0 hi1 hi2 hi3 rfl (by decide) _ _ _ rfl (hrowV.alloc (Obj.cells #[.int .i64 xk, .int .i64 xs', .string xn, .slice qa al ca, .string xt, .slice qk kl ck] 49)) ⟨V.heap.size, 0, none⟩ 1 1 [.int .i64 xk, .int .i64 xs', .string xn, .slice qa al ca, .string xt, .slice qk kl ck] rfl rfl (fun j u hj => lit2 rfl hj) (by intro u hu; simp at hu; rcases hu with rfl | rfl | rfl | rfl | rfl | rfl <;> rfl) (by unfold maxLen; omega) (by omega) (by simp; omega) ?_)
        intro v' w7 hrow7 hgrow7 _ hob7
        obtain ⟨a6, c6, hv7⟩ := slice_n hrow7
        subst hv7
        have hown := fun k hk => (hrowV.lt k hk).1
        have keep : ∀ (b : Nat) (vs : Array Value) (t : TypeId), b < B → Blk V b vs t → Blk w7 b vs t := fun b vs t hb hbk => (hgrow7.block b (by have := hbk.lt; simp; omega) (fun e => by have := hown b e.symm; omega)).trans (Blk.alloc hbk (Obj.cells #[.int .i64 xk, .int .i64 xs', .string xn, .slice qa al ca, .string xt, .slice qk kl ck] 49))
        have ho7 := keep O _ _ (by have := unhide HLB; omega) (unhide HY).1
        have hk7 := keep K _ _ (by have := unhide HLB; omega) (unhide HY).2.1
        have hz7 := keep Z _ _ (by have := unhide HLB; omega) (unhide HY).2.2.1
        have hwB : w.heap.size ≤ B := by have h8 := (unhide HZO).2; have h9 := unhide HLB; omega
        have hb7 : Below w.heap.size w w7 := ((unhide HBW).alloc (unhide HBW).size (Obj.cells #[.int .i64 xk, .int .i64 xs', .string xn, .slice qa al ca, .string xt, .slice qk kl ck] 49)).grown hgrow7 ((unhide HBW).alloc (unhide HBW).size (Obj.cells #[.int .i64 xk, .int .i64 xs', .string xn, .slice qa al ca, .string xt, .slice qk kl ck] 49)).size (fun k hk => by have := hown k hk; omega)
        have hP7 : Blk w7 P #[.int .i64 xk, .int .i64 xs', .string xn, .slice qa al ca, .string xt, .slice qk kl ck, .slice none 0 0, .string (bs r), .bool false] 72 := (hgrow7.block P (by have := (unhide HY).2.2.2.lt; simp; omega) (fun e => by have h1 := unhide HRL P e.symm; have h2 := unhide HPW; omega)).trans (Blk.alloc (unhide HY).2.2.2 (Obj.cells #[.int .i64 xk, .int .i64 xs', .string xn, .slice qa al ca, .string xt, .slice qk kl ck] 49))
        have hq6 : w7.cell? ⟨O, 6, none⟩ = some (.slice q0 j c0) := ho7.cell 6
        have hqf6 : w7.frozen? ⟨O, 6, none⟩ = false := ho7.frozen 6
        have hq7 : w7.cell? ⟨O, 7, none⟩ = some (.string (bs l)) := ho7.cell 7
        have hqf7 : w7.frozen? ⟨O, 7, none⟩ = false := ho7.frozen 7
        have xx7 : w7.cell? ⟨P, 7, none⟩ = some (.string (bs r)) := hP7.cell 7
        have hB7 : B ≤ w7.heap.size := by have := hgrow7.size; simp at this; omega
        have hle : CellLe (mask p V) (mask (fun i => p i || decide ((Value.slice a6 (j + 1) c6).ownBlock = some i)) w7) := mask_kept fun k hkl hpk => by
          have hne : some k ≠ (Value.slice q0 j c0).ownBlock := fun e => by rw [(unhide HPP).2.1 k (by rw [hal]; exact e.symm)] at hpk; cases hpk
          refine ⟨?_, (hgrow7.block k (by simp; omega) hne).trans (by have := (Below.refl V.heap.size V).alloc (Nat.le_refl _) (Obj.cells #[.int .i64 xk, .int .i64 xs', .string xn, .slice qa al ca, .string xt, .slice qk kl ck] 49); exact this.block k hkl)⟩
          rw [hpk, Bool.false_or]
          refine decide_eq_false fun e => ?_
          rcases hob7 with h | h
          · exact hne (by rw [← e, h])
          · rw [h] at e; simp at e; omega
        have hpO : (fun i => p i || decide ((Value.slice a6 (j + 1) c6).ownBlock = some i)) O = true := by show (p O || _) = true; rw [(unhide HPP).1 O (by have := unhide HLB; omega)]; rfl
        have hd7 := ((unhide HD4).le hle).le (mask_set (o := 6) (v := .slice a6 (j + 1) c6) hpO)
        have hd8 := hd7.le (mask_set (o := 7) (v := .string (bs r)) hpO)
        have ho8 : Blk (w7.setCell ⟨O, 6, none⟩ (.slice a6 (j + 1) c6)) O #[.int .i64 0, .int .i64 0, .string ⟨#[]⟩, .slice none 0 0, .string ⟨#[]⟩, .slice none 0 0, .slice a6 (j + 1) c6, .string (bs l), .bool false] 72 := Blk.set (vs := #[.int .i64 0, .int .i64 0, .string ⟨#[]⟩, .slice none 0 0, .string ⟨#[]⟩, .slice none 0 0, .slice q0 j c0, .string (bs l), .bool false]) ho7 6 (by simp) _
        have ho9 : Blk ((w7.setCell ⟨O, 6, none⟩ (.slice a6 (j + 1) c6)).setCell ⟨O, 7, none⟩ (.string (bs r))) O #[.int .i64 0, .int .i64 0, .string ⟨#[]⟩, .slice none 0 0, .string ⟨#[]⟩, .slice none 0 0, .slice a6 (j + 1) c6, .string (bs r), .bool false] 72 := Blk.set (vs := #[.int .i64 0, .int .i64 0, .string ⟨#[]⟩, .slice none 0 0, .string ⟨#[]⟩, .slice none 0 0, .slice a6 (j + 1) c6, .string (bs l), .bool false]) ho8 7 (by simp) _
        have hrow8 := ownsRow_kpr (R := O) hrow7 (((KpR.refl O w7).set 6 (.slice a6 (j + 1) c6)).set 7 (.string (bs r))) (by have := unhide HLB; omega)
        have HEV : Hid (MAt kp w O K Z B c l1 (.int .i64 ((j : Int) + 1)) ((w7.setCell ⟨O, 6, none⟩ (.slice a6 (j + 1) c6)).setCell ⟨O, 7, none⟩ (.string (bs r)))) := hide ⟨j + 1, acc.app (x.cons .nil), _, r, _, .slice a6 (j + 1) c6, by omega, by congr 1, by rw [app_len, hal]; rfl, by rw [app_len, hal]; exact hrow8, hd8, fun k hk => by simp [(unhide HPP).1 k hk], fun k hk => by simp [hk], fun k hk => by
            rcases Bool.or_eq_true _ _ ▸ hk with h | h
            · have h7 := (unhide HPP).2.2 k h
              have h8 := hgrow7.size
              have h9 := unhide HPW
              simp at h8 ⊢
              omega
            · have := (hrow7.lt k (of_decide_eq_true h)).2
              simp
              exact this, ho9, Blk.away (Blk.away hk7 hKO _) hKO _, Blk.away (Blk.away hz7 hZO _) hZO _, (hb7.setCell (p := ⟨O, 6, none⟩) (unhide HZO).2 _).setCell (p := ⟨O, 7, none⟩) (unhide HZO).2 _, by simp; omega, hxr, unhide HRES3⟩
        clear hrow7 hgrow7 hown keep ho7 hk7 hz7 hb7 hrow8 ho8 ho9 hrowV HY HRES3 HBW hle hpO hd7 hd8 HD4 hob7 hP7
        go_wp2
        go_roundw
        case rel => exact unhide HEV
        case measure => simp [intOf]; omega
    · have hpi : ¬ (j : Int) < (c : Int) := by omega
      have hjc : c - j = 0 := by omega
      rw [hjc, pMany] at hres
      have hoq : o = some (acc, l) := by rw [unhide HO', hres]; show some (acc.app .nil, l) = _; rw [app_nil]
      obtain ⟨q1, cap1, hv1, hcap, hfo⟩ := fo_of_row hrow hdes hpl
      injection hv1 with e1 e2 e3
      subst e1 e3
      have HFO : Hid (o = some (acc, l) ∧ acc.len ≤ c0 ∧ Fo q0 acc (mask (hiP B) wr)) := hide ⟨hoq, hcap, hfo⟩
      have ho : Blk wr O #[.int .i64 0, .int .i64 0, .string ⟨#[]⟩, .slice none 0 0, .string ⟨#[]⟩, .slice none 0 0, .slice q0 acc.len c0, .string (bs l), .bool false] 72 := hO
      have hz : Blk wr Z #[.int .i64 0, .int .i64 0, .string ⟨#[]⟩, .slice none 0 0, .string ⟨#[]⟩, .slice none 0 0, .slice none 0 0, .string ⟨#[]⟩, .bool false] 72 := hZ
      have HBW := hide hbw
      rw [hal] at ho
      clear hres hoq hrow hdes hpl hpo hpu hO hkB hZ hbw hBs hfo hcap
      have o0 : wr.cell? ⟨O, 0, none⟩ = some (.int .i64 0) := ho.cell 0
      have o1 : wr.cell? ⟨O, 1, none⟩ = some (.int .i64 0) := ho.cell 1
      have o2 : wr.cell? ⟨O, 2, none⟩ = some (.string ⟨#[]⟩) := ho.cell 2
      have o3 : wr.cell? ⟨O, 3, none⟩ = some (.slice none 0 0) := ho.cell 3
      have o4 : wr.cell? ⟨O, 4, none⟩ = some (.string ⟨#[]⟩) := ho.cell 4
      have o5 : wr.cell? ⟨O, 5, none⟩ = some (.slice none 0 0) := ho.cell 5
      have o6 : wr.cell? ⟨O, 6, none⟩ = some (.slice q0 j c0) := ho.cell 6
      have o7 : wr.cell? ⟨O, 7, none⟩ = some (.string (bs l)) := ho.cell 7
      have o8 : wr.cell? ⟨O, 8, none⟩ = some (.bool false) := ho.cell 8
      have z0 : wr.cell? ⟨Z, 0, none⟩ = some (.int .i64 0) := hz.cell 0
      have zf0 : wr.frozen? ⟨Z, 0, none⟩ = false := hz.frozen 0
      have z1 : wr.cell? ⟨Z, 1, none⟩ = some (.int .i64 0) := hz.cell 1
      have zf1 : wr.frozen? ⟨Z, 1, none⟩ = false := hz.frozen 1
      have z2 : wr.cell? ⟨Z, 2, none⟩ = some (.string ⟨#[]⟩) := hz.cell 2
      have zf2 : wr.frozen? ⟨Z, 2, none⟩ = false := hz.frozen 2
      have z3 : wr.cell? ⟨Z, 3, none⟩ = some (.slice none 0 0) := hz.cell 3
      have zf3 : wr.frozen? ⟨Z, 3, none⟩ = false := hz.frozen 3
      have z4 : wr.cell? ⟨Z, 4, none⟩ = some (.string ⟨#[]⟩) := hz.cell 4
      have zf4 : wr.frozen? ⟨Z, 4, none⟩ = false := hz.frozen 4
      have z5 : wr.cell? ⟨Z, 5, none⟩ = some (.slice none 0 0) := hz.cell 5
      have zf5 : wr.frozen? ⟨Z, 5, none⟩ = false := hz.frozen 5
      have z6 : wr.cell? ⟨Z, 6, none⟩ = some (.slice none 0 0) := hz.cell 6
      have zf6 : wr.frozen? ⟨Z, 6, none⟩ = false := hz.frozen 6
      have z7 : wr.cell? ⟨Z, 7, none⟩ = some (.string ⟨#[]⟩) := hz.cell 7
      have zf7 : wr.frozen? ⟨Z, 7, none⟩ = false := hz.frozen 7
      have z8 : wr.cell? ⟨Z, 8, none⟩ = some (.bool false) := hz.cell 8
      have zf8 : wr.frozen? ⟨Z, 8, none⟩ = false := hz.frozen 8
      have bk0 : Blk wr Z #[.int .i64 0, .int .i64 0, .string ⟨#[]⟩, .slice none 0 0, .string ⟨#[]⟩, .slice none 0 0, .slice none 0 0, .string ⟨#[]⟩, .bool false] 72 := hz
      have bk1 : Blk (wr.setCell ⟨Z, 0, none⟩ (.int .i64 0)) Z #[.int .i64 0, .int .i64 0, .string ⟨#[]⟩, .slice none 0 0, .string ⟨#[]⟩, .slice none 0 0, .slice none 0 0, .string ⟨#[]⟩, .bool false] 72 := Blk.set (vs := #[.int .i64 0, .int .i64 0, .string ⟨#[]⟩, .slice none 0 0, .string ⟨#[]⟩, .slice none 0 0, .slice none 0 0, .string ⟨#[]⟩, .bool false]) bk0 0 (by simp) _
      have r0 : (wr.setCell ⟨Z, 0, none⟩ (.int .i64 0)).cell? ⟨Z, 0, none⟩ = some (.int .i64 0) := bk1.cell 0
      have bk2 : Blk ((wr.setCell ⟨Z, 0, none⟩ (.int .i64 0)).setCell ⟨Z, 1, none⟩ (.int .i64 0)) Z #[.int .i64 0, .int .i64 0, .string ⟨#[]⟩, .slice none 0 0, .string ⟨#[]⟩, .slice none 0 0, .slice none 0 0, .string ⟨#[]⟩, .bool false] 72 := Blk.set (vs := #[.int .i64 0, .int .i64 0, .string ⟨#[]⟩, .slice none 0 0, .string ⟨#[]⟩, .slice none 0 0, .slice none 0 0, .string ⟨#[]⟩, .bool false]) bk1 1 (by simp) _
      have r1 : ((wr.setCell ⟨Z, 0, none⟩ (.int .i64 0)).setCell ⟨Z, 1, none⟩ (.int .i64 0)).cell? ⟨Z, 1, none⟩ = some (.int .i64 0) := bk2.cell 1
      have bk3 : Blk (((wr.setCell ⟨Z, 0, none⟩ (.int .i64 0)).setCell ⟨Z, 1, none⟩ (.int .i64 0)).setCell ⟨Z, 2, none⟩ (.string ⟨#[]⟩)) Z #[.int .i64 0, .int .i64 0, .string ⟨#[]⟩, .slice none 0 0, .string ⟨#[]⟩, .slice none 0 0, .slice none 0 0, .string ⟨#[]⟩, .bool false] 72 := Blk.set (vs := #[.int .i64 0, .int .i64 0, .string ⟨#[]⟩, .slice none 0 0, .string ⟨#[]⟩, .slice none 0 0, .slice none 0 0, .string ⟨#[]⟩, .bool false]) bk2 2 (by simp) _
      have r2 : (((wr.setCell ⟨Z, 0, none⟩ (.int .i64 0)).setCell ⟨Z, 1, none⟩ (.int .i64 0)).setCell ⟨Z, 2, none⟩ (.string ⟨#[]⟩)).cell? ⟨Z, 2, none⟩ = some (.string ⟨#[]⟩) := bk3.cell 2
      have bk4 : Blk ((((wr.setCell ⟨Z, 0, none⟩ (.int .i64 0)).setCell ⟨Z, 1, none⟩ (.int .i64 0)).setCell ⟨Z, 2, none⟩ (.string ⟨#[]⟩)).setCell ⟨Z, 3, none⟩ (.slice none 0 0)) Z #[.int .i64 0, .int .i64 0, .string ⟨#[]⟩, .slice none 0 0, .string ⟨#[]⟩, .slice none 0 0, .slice none 0 0, .string ⟨#[]⟩, .bool false] 72 := Blk.set (vs := #[.int .i64 0, .int .i64 0, .string ⟨#[]⟩, .slice none 0 0, .string ⟨#[]⟩, .slice none 0 0, .slice none 0 0, .string ⟨#[]⟩, .bool false]) bk3 3 (by simp) _
      have r3 : ((((wr.setCell ⟨Z, 0, none⟩ (.int .i64 0)).setCell ⟨Z, 1, none⟩ (.int .i64 0)).setCell ⟨Z, 2, none⟩ (.string ⟨#[]⟩)).setCell ⟨Z, 3, none⟩ (.slice none 0 0)).cell? ⟨Z, 3, none⟩ = some (.slice none 0 0) := bk4.cell 3
      have bk5 : Blk (((((wr.setCell ⟨Z, 0, none⟩ (.int .i64 0)).setCell ⟨Z, 1, none⟩ (.int .i64 0)).setCell ⟨Z, 2, none⟩ (.string ⟨#[]⟩)).setCell ⟨Z, 3, none⟩ (.slice none 0 0)).setCell ⟨Z, 4, none⟩ (.string ⟨#[]⟩)) Z #[.int .i64 0, .int .i64 0, .string ⟨#[]⟩, .slice none 0 0, .string ⟨#[]⟩, .slice none 0 0, .slice none 0 0, .string ⟨#[]⟩, .bool false] 72 := Blk.set (vs := #[.int .i64 0, .int .i64 0, .string ⟨#[]⟩, .slice none 0 0, .string ⟨#[]⟩, .slice none 0 0, .slice none 0 0, .string ⟨#[]⟩, .bool false]) bk4 4 (by simp) _
      have r4 : (((((wr.setCell ⟨Z, 0, none⟩ (.int .i64 0)).setCell ⟨Z, 1, none⟩ (.int .i64 0)).setCell ⟨Z, 2, none⟩ (.string ⟨#[]⟩)).setCell ⟨Z, 3, none⟩ (.slice none 0 0)).setCell ⟨Z, 4, none⟩ (.string ⟨#[]⟩)).cell? ⟨Z, 4, none⟩ = some (.string ⟨#[]⟩) := bk5.cell 4
      have bk6 : Blk ((((((wr.setCell ⟨Z, 0, none⟩ (.int .i64 0)).setCell ⟨Z, 1, none⟩ (.int .i64 0)).setCell ⟨Z, 2, none⟩ (.string ⟨#[]⟩)).setCell ⟨Z, 3, none⟩ (.slice none 0 0)).setCell ⟨Z, 4, none⟩ (.string ⟨#[]⟩)).setCell ⟨Z, 5, none⟩ (.slice none 0 0)) Z #[.int .i64 0, .int .i64 0, .string ⟨#[]⟩, .slice none 0 0, .string ⟨#[]⟩, .slice none 0 0, .slice none 0 0, .string ⟨#[]⟩, .bool false] 72 := Blk.set (vs := #[.int .i64 0, .int .i64 0, .string ⟨#[]⟩, .slice none 0 0, .string ⟨#[]⟩, .slice none 0 0, .slice none 0 0, .string ⟨#[]⟩, .bool false]) bk5 5 (by simp) _
      have r5 : ((((((wr.setCell ⟨Z, 0, none⟩ (.int .i64 0)).setCell ⟨Z, 1, none⟩ (.int .i64 0)).setCell ⟨Z, 2, none⟩ (.string ⟨#[]⟩)).setCell ⟨Z, 3, none⟩ (.slice none 0 0)).setCell ⟨Z, 4, none⟩ (.string ⟨#[]⟩)).setCell ⟨Z, 5, none⟩ (.slice none 0 0)).cell? ⟨Z, 5, none⟩ = some (.slice none 0 0) := bk6.cell 5
      have bk7 : Blk (((((((wr.setCell ⟨Z, 0, none⟩ (.int .i64 0)).setCell ⟨Z, 1, none⟩ (.int .i64 0)).setCell ⟨Z, 2, none⟩ (.string ⟨#[]⟩)).setCell ⟨Z, 3, none⟩ (.slice none 0 0)).setCell ⟨Z, 4, none⟩ (.string ⟨#[]⟩)).setCell ⟨Z, 5, none⟩ (.slice none 0 0)).setCell ⟨Z, 6, none⟩ (.slice q0 j c0)) Z #[.int .i64 0, .int .i64 0, .string ⟨#[]⟩, .slice none 0 0, .string ⟨#[]⟩, .slice none 0 0, .slice q0 j c0, .string ⟨#[]⟩, .bool false] 72 := Blk.set (vs := #[.int .i64 0, .int .i64 0, .string ⟨#[]⟩, .slice none 0 0, .string ⟨#[]⟩, .slice none 0 0, .slice none 0 0, .string ⟨#[]⟩, .bool false]) bk6 6 (by simp) _
      have r6 : (((((((wr.setCell ⟨Z, 0, none⟩ (.int .i64 0)).setCell ⟨Z, 1, none⟩ (.int .i64 0)).setCell ⟨Z, 2, none⟩ (.string ⟨#[]⟩)).setCell ⟨Z, 3, none⟩ (.slice none 0 0)).setCell ⟨Z, 4, none⟩ (.string ⟨#[]⟩)).setCell ⟨Z, 5, none⟩ (.slice none 0 0)).setCell ⟨Z, 6, none⟩ (.slice q0 j c0)).cell? ⟨Z, 6, none⟩ = some (.slice q0 j c0) := bk7.cell 6
      have bk8 : Blk ((((((((wr.setCell ⟨Z, 0, none⟩ (.int .i64 0)).setCell ⟨Z, 1, none⟩ (.int .i64 0)).setCell ⟨Z, 2, none⟩ (.string ⟨#[]⟩)).setCell ⟨Z, 3, none⟩ (.slice none 0 0)).setCell ⟨Z, 4, none⟩ (.string ⟨#[]⟩)).setCell ⟨Z, 5, none⟩ (.slice none 0 0)).setCell ⟨Z, 6, none⟩ (.slice q0 j c0)).setCell ⟨Z, 7, none⟩ (.string (bs l))) Z #[.int .i64 0, .int .i64 0, .string ⟨#[]⟩, .slice none 0 0, .string ⟨#[]⟩, .slice none 0 0, .slice q0 j c0, .string (bs l), .bool false] 72 := Blk.set (vs := #[.int .i64 0, .int .i64 0, .string ⟨#[]⟩, .slice none 0 0, .string ⟨#[]⟩, .slice none 0 0, .slice q0 j c0, .string ⟨#[]⟩, .bool false]) bk7 7 (by simp) _
      have r7 : ((((((((wr.setCell ⟨Z, 0, none⟩ (.int .i64 0)).setCell ⟨Z, 1, none⟩ (.int .i64 0)).setCell ⟨Z, 2, none⟩ (.string ⟨#[]⟩)).setCell ⟨Z, 3, none⟩ (.slice none 0 0)).setCell ⟨Z, 4, none⟩ (.string ⟨#[]⟩)).setCell ⟨Z, 5, none⟩ (.slice none 0 0)).setCell ⟨Z, 6, none⟩ (.slice q0 j c0)).setCell ⟨Z, 7, none⟩ (.string (bs l))).cell? ⟨Z, 7, none⟩ = some (.string (bs l)) := bk8.cell 7
      have bk9 : Blk (((((((((wr.setCell ⟨Z, 0, none⟩ (.int .i64 0)).setCell ⟨Z, 1, none⟩ (.int .i64 0)).setCell ⟨Z, 2, none⟩ (.string ⟨#[]⟩)).setCell ⟨Z, 3, none⟩ (.slice none 0 0)).setCell ⟨Z, 4, none⟩ (.string ⟨#[]⟩)).setCell ⟨Z, 5, none⟩ (.slice none 0 0)).setCell ⟨Z, 6, none⟩ (.slice q0 j c0)).setCell ⟨Z, 7, none⟩ (.string (bs l))).setCell ⟨Z, 8, none⟩ (.bool false)) Z #[.int .i64 0, .int .i64 0, .string ⟨#[]⟩, .slice none 0 0, .string ⟨#[]⟩, .slice none 0 0, .slice q0 j c0, .string (bs l), .bool false] 72 := Blk.set (vs := #[.int .i64 0, .int .i64 0, .string ⟨#[]⟩, .slice none 0 0, .string ⟨#[]⟩, .slice none 0 0, .slice q0 j c0, .string (bs l), .bool false]) bk8 8 (by simp) _
      have r8 : (((((((((wr.setCell ⟨Z, 0, none⟩ (.int .i64 0)).setCell ⟨Z, 1, none⟩ (.int .i64 0)).setCell ⟨Z, 2, none⟩ (.string ⟨#[]⟩)).setCell ⟨Z, 3, none⟩ (.slice none 0 0)).setCell ⟨Z, 4, none⟩ (.string ⟨#[]⟩)).setCell ⟨Z, 5, none⟩ (.slice none 0 0)).setCell ⟨Z, 6, none⟩ (.slice q0 j c0)).setCell ⟨Z, 7, none⟩ (.string (bs l))).setCell ⟨Z, 8, none⟩ (.bool false)).cell? ⟨Z, 8, none⟩ = some (.bool false) := bk9.cell 8
      have HRS := hide (And.intro r0 (And.intro r1 (And.intro r2 (And.intro r3 (And.intro r4 (And.intro r5 (And.intro r6 (And.intro r7 r8))))))))
      have HE : Hid (ManySaid w o (.returned (.agg #[.int .i64 0, .int .i64 0, .string ⟨#[]⟩, .slice none 0 0, .string ⟨#[]⟩, .slice none 0 0, .slice q0 j c0, .string (bs l), .bool false])) (((((((((wr.setCell ⟨Z, 0, none⟩ (.int .i64 0)).setCell ⟨Z, 1, none⟩ (.int .i64 0)).setCell ⟨Z, 2, none⟩ (.string ⟨#[]⟩)).setCell ⟨Z, 3, none⟩ (.slice none 0 0)).setCell ⟨Z, 4, none⟩ (.string ⟨#[]⟩)).setCell ⟨Z, 5, none⟩ (.slice none 0 0)).setCell ⟨Z, 6, none⟩ (.slice q0 j c0)).setCell ⟨Z, 7, none⟩ (.string (bs l))).setCell ⟨Z, 8, none⟩ (.bool false))) := hide (by rw [(unhide HFO).1]; exact ⟨q0, j, c0, bs l, false, rfl, ((((((((((unhide HBW).setCell (p := ⟨Z, 0, none⟩) (Nat.le_of_eq (unhide HZO).1) (.int .i64 0)).setCell (p := ⟨Z, 1, none⟩) (Nat.le_of_eq (unhide HZO).1) (.int .i64 0)).setCell (p := ⟨Z, 2, none⟩) (Nat.le_of_eq (unhide HZO).1) (.string ⟨#[]⟩)).setCell (p := ⟨Z, 3, none⟩) (Nat.le_of_eq (unhide HZO).1) (.slice none 0 0)).setCell (p := ⟨Z, 4, none⟩) (Nat.le_of_eq (unhide HZO).1) (.string ⟨#[]⟩)).setCell (p := ⟨Z, 5, none⟩) (Nat.le_of_eq (unhide HZO).1) (.slice none 0 0)).setCell (p := ⟨Z, 6, none⟩) (Nat.le_of_eq (unhide HZO).1) (.slice q0 j c0)).setCell (p := ⟨Z, 7, none⟩) (Nat.le_of_eq (unhide HZO).1) (.string (bs l))).setCell (p := ⟨Z, 8, none⟩) (Nat.le_of_eq (unhide HZO).1) (.bool false)), rfl, hal.symm, by rw [← hal]; exact (unhide HFO).2.1, rfl, ((unhide HFO).2.2.le (CellLe.trans (mask_set (b := Z) (o := 0) (hiP_at (by have := unhide HLB; omega))) (CellLe.trans (mask_set (b := Z) (o := 1) (hiP_at (by have := unhide HLB; omega))) (CellLe.trans (mask_set (b := Z) (o := 2) (hiP_at (by have := unhide HLB; omega))) (CellLe.trans (mask_set (b := Z) (o := 3) (hiP_at (by have := unhide HLB; omega))) (CellLe.trans (mask_set (b := Z) (o := 4) (hiP_at (by have := unhide HLB; omega))) (CellLe.trans (mask_set (b := Z) (o := 5) (hiP_at (by have := unhide HLB; omega))) (CellLe.trans (mask_set (b := Z) (o := 6) (hiP_at (by have := unhide HLB; omega))) (CellLe.trans (mask_set (b := Z) (o := 7) (hiP_at (by have := unhide HLB; omega))) ((mask_set (b := Z) (o := 8) (hiP_at (by have := unhide HLB; omega))))))))))))).le (mask_less _ (hiP_less (by have h8 := (unhide HZO).2; have h9 := unhide HLB; omega)))⟩)
      clear bk0 bk1 bk2 bk3 bk4 bk5 bk6 bk7 bk8 bk9 r0 r1 r2 r3 r4 r5 r6 r7 r8 hz ho HFO
      go_wp2
      obtain ⟨r0, r1, r2, r3, r4, r5, r6, r7, r8⟩ := unhide HRS
      refine bodyPost_ret (v := .agg #[.int .i64 0, .int .i64 0, .string ⟨#[]⟩, .slice none 0 0, .string ⟨#[]⟩, .slice none 0 0, .slice q0 j c0, .string (bs l), .bool false]) (by simp [results, Tryd.results48, go_sem, r0, r1, r2, r3, r4, r5, r6, r7, r8]) rfl ?_
      exact unhide HE
end Go.Proofs.YtmlmpongcpojjaaDoor
