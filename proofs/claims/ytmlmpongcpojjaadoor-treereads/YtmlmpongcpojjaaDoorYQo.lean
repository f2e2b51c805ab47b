/-
  The reference's 'one': a leaf, and what can't be (made by mk_yqo.py).
-/
import Derived.Test.YtmlmpongcpojjaaDoorMgK
namespace Go.Proofs.YtmlmpongcpojjaaDoor
open Go.RowKit
set_option linter.unusedVariables false
set_option linter.unusedSimpArgs false

def OneIs (B : Nat) (o : Option (Nd × List UInt8)) (k sp : Int) (n : ByteArray) (qa : Option Addr) (al : Nat) (tx : ByteArray) (qk : Option Addr) (kl ck : Nat) (rest : ByteArray) (bad : Bool) (w' : World) : Prop :=
  match o with
  | none => bad = true
  | some (x, r) => bad = false ∧ k = x.k ∧ sp = x.sp ∧ n = x.n ∧ al = x.ats.length ∧ tx = x.tx ∧ kl = x.kids.len ∧ kl ≤ ck ∧ rest = bs r ∧ Sl qa x.ats (mask (hiP B) w') ∧ Fo qk x.kids (mask (hiP B) w')
def OneSaid (w : World) (o : Option (Nd × List UInt8)) (e : Ending) (w' : World) : Prop :=
  ∃ k sp n qa al ca tx qk kl ck rest bad, e = .returned (.agg #[.int .i64 k, .int .i64 sp, .string n, .slice qa al ca, .string tx, .slice qk kl ck, .slice none 0 0, .string rest, .bool bad]) ∧ Below w.heap.size w w' ∧ OneIs w.heap.size o k sp n qa al tx qk kl ck rest bad w'
set_option maxHeartbeats 4000000 in
set_option maxRecDepth 100000 in
theorem one_early (b : ByteArray) (dd : Int) (w : World) (k e1 : Int) (l1 : List UInt8) (h : e1 = 4 ∨ (e1 = 0 ∧ 3 < k))
    (CN : Hid (Calls Tryd.prog 68 #[.string b] (w.alloc (Obj.cells #[.int .i64 0, .int .i64 0, .string ⟨#[]⟩, .slice none 0 0, .string ⟨#[]⟩, .slice none 0 0, .slice none 0 0, .string ⟨#[]⟩, .bool false] 72)) fun e w' => e = .returned (.agg #[.int .i64 k, .string ⟨#[]⟩, .slice none 0 0, .string (bs l1), .int .i64 e1]) ∧ Below (w.alloc (Obj.cells #[.int .i64 0, .int .i64 0, .string ⟨#[]⟩, .slice none 0 0, .string ⟨#[]⟩, .slice none 0 0, .slice none 0 0, .string ⟨#[]⟩, .bool false] 72)).heap.size (w.alloc (Obj.cells #[.int .i64 0, .int .i64 0, .string ⟨#[]⟩, .slice none 0 0, .string ⟨#[]⟩, .slice none 0 0, .slice none 0 0, .string ⟨#[]⟩, .bool false] 72)) w')) :
    Calls Tryd.prog 69 #[.string b, .int .i64 dd] w (OneSaid w none) := by
  have HZ0 : Hid (Blk (w.alloc (Obj.cells #[.int .i64 0, .int .i64 0, .string ⟨#[]⟩, .slice none 0 0, .string ⟨#[]⟩, .slice none 0 0, .slice none 0 0, .string ⟨#[]⟩, .bool false] 72)) w.heap.size #[.int .i64 0, .int .i64 0, .string ⟨#[]⟩, .slice none 0 0, .string ⟨#[]⟩, .slice none 0 0, .slice none 0 0, .string ⟨#[]⟩, .bool false] 72 ∧ Below w.heap.size w (w.alloc (Obj.cells #[.int .i64 0, .int .i64 0, .string ⟨#[]⟩, .slice none 0 0, .string ⟨#[]⟩, .slice none 0 0, .slice none 0 0, .string ⟨#[]⟩, .bool false] 72)) ∧ (w.alloc (Obj.cells #[.int .i64 0, .int .i64 0, .string ⟨#[]⟩, .slice none 0 0, .string ⟨#[]⟩, .slice none 0 0, .slice none 0 0, .string ⟨#[]⟩, .bool false] 72)).heap.size = w.heap.size + 1) := hide ⟨Blk.new w _ _, (Below.refl _ _).alloc (Nat.le_refl _) _, by simp⟩
  rcases h with rfl | ⟨rfl, hk⟩
  · skip
    go_enter Tryd.func69, Tryd.ntmps69
    go_wp2_with fail
    refine (unhide CN).mono ?_
    rintro e w1 ⟨rfl, hb1⟩
    have hz1 : Blk w1 w.heap.size #[.int .i64 0, .int .i64 0, .string ⟨#[]⟩, .slice none 0 0, .string ⟨#[]⟩, .slice none 0 0, .slice none 0 0, .string ⟨#[]⟩, .bool false] 72 := Blk.later (unhide HZ0).1 hb1
    have hw1 : w.heap.size < w1.heap.size := by have h2 := hb1.size; have h3 := (unhide HZ0).2.2; omega
    have hB1 : Below w.heap.size w w1 := tr2 (unhide HZ0).2.1 hb1
    go_upto_region 3 with fail
    obtain ⟨W, hW⟩ : ∃ W, w1.alloc (Obj.cells #[.int .i64 k, .string ⟨#[]⟩, .slice none 0 0, .string (bs l1), .int .i64 4] 96) = W := ⟨_, rfl⟩
    have hz : Blk W w.heap.size #[.int .i64 0, .int .i64 0, .string ⟨#[]⟩, .slice none 0 0, .string ⟨#[]⟩, .slice none 0 0, .slice none 0 0, .string ⟨#[]⟩, .bool false] 72 := by rw [← hW]; exact Blk.alloc hz1 _
    have HBW : Hid (Below w.heap.size w W) := hide (by rw [← hW]; exact hB1.alloc hB1.size _)
    simp only [hW]
    obtain ⟨Z, hZ⟩ : ∃ Z, w.heap.size = Z := ⟨_, rfl⟩
    have HZO : Hid (w.heap.size = Z ∧ w.heap.size ≤ Z) := hide ⟨hZ, Nat.le_of_eq hZ⟩
    rw [hZ] at hz
    simp only [hZ]
    clear hW hz1 hw1 hB1 hb1 CN HZ0 hZ
    have z0 : W.cell? ⟨Z, 0, none⟩ = some (.int .i64 0) := hz.cell 0
    have zf0 : W.frozen? ⟨Z, 0, none⟩ = false := hz.frozen 0
    have z1 : W.cell? ⟨Z, 1, none⟩ = some (.int .i64 0) := hz.cell 1
    have zf1 : W.frozen? ⟨Z, 1, none⟩ = false := hz.frozen 1
    have z2 : W.cell? ⟨Z, 2, none⟩ = some (.string ⟨#[]⟩) := hz.cell 2
    have zf2 : W.frozen? ⟨Z, 2, none⟩ = false := hz.frozen 2
    have z3 : W.cell? ⟨Z, 3, none⟩ = some (.slice none 0 0) := hz.cell 3
    have zf3 : W.frozen? ⟨Z, 3, none⟩ = false := hz.frozen 3
    have z4 : W.cell? ⟨Z, 4, none⟩ = some (.string ⟨#[]⟩) := hz.cell 4
    have zf4 : W.frozen? ⟨Z, 4, none⟩ = false := hz.frozen 4
    have z5 : W.cell? ⟨Z, 5, none⟩ = some (.slice none 0 0) := hz.cell 5
    have zf5 : W.frozen? ⟨Z, 5, none⟩ = false := hz.frozen 5
    have z6 : W.cell? ⟨Z, 6, none⟩ = some (.slice none 0 0) := hz.cell 6
    have zf6 : W.frozen? ⟨Z, 6, none⟩ = false := hz.frozen 6
    have z7 : W.cell? ⟨Z, 7, none⟩ = some (.string ⟨#[]⟩) := hz.cell 7
    have zf7 : W.frozen? ⟨Z, 7, none⟩ = false := hz.frozen 7
    have z8 : W.cell? ⟨Z, 8, none⟩ = some (.bool false) := hz.cell 8
    have zf8 : W.frozen? ⟨Z, 8, none⟩ = false := hz.frozen 8
    have bk0 : Blk W Z #[.int .i64 0, .int .i64 0, .string ⟨#[]⟩, .slice none 0 0, .string ⟨#[]⟩, .slice none 0 0, .slice none 0 0, .string ⟨#[]⟩, .bool false] 72 := hz
    have bk1 : Blk (W.setCell ⟨Z, 0, none⟩ (.int .i64 0)) Z #[.int .i64 0, .int .i64 0, .string ⟨#[]⟩, .slice none 0 0, .string ⟨#[]⟩, .slice none 0 0, .slice none 0 0, .string ⟨#[]⟩, .bool false] 72 := Blk.set (vs := #[.int .i64 0, .int .i64 0, .string ⟨#[]⟩, .slice none 0 0, .string ⟨#[]⟩, .slice none 0 0, .slice none 0 0, .string ⟨#[]⟩, .bool false]) bk0 0 (by simp) _
    have r0 : (W.setCell ⟨Z, 0, none⟩ (.int .i64 0)).cell? ⟨Z, 0, none⟩ = some (.int .i64 0) := bk1.cell 0
    have bk2 : Blk ((W.setCell ⟨Z, 0, none⟩ (.int .i64 0)).setCell ⟨Z, 1, none⟩ (.int .i64 0)) Z #[.int .i64 0, .int .i64 0, .string ⟨#[]⟩, .slice none 0 0, .string ⟨#[]⟩, .slice none 0 0, .slice none 0 0, .string ⟨#[]⟩, .bool false] 72 := Blk.set (vs := #[.int .i64 0, .int .i64 0, .string ⟨#[]⟩, .slice none 0 0, .string ⟨#[]⟩, .slice none 0 0, .slice none 0 0, .string ⟨#[]⟩, .bool false]) bk1 1 (by simp) _
    have r1 : ((W.setCell ⟨Z, 0, none⟩ (.int .i64 0)).setCell ⟨Z, 1, none⟩ (.int .i64 0)).cell? ⟨Z, 1, none⟩ = some (.int .i64 0) := bk2.cell 1
    have bk3 : Blk (((W.setCell ⟨Z, 0, none⟩ (.int .i64 0)).setCell ⟨Z, 1, none⟩ (.int .i64 0)).setCell ⟨Z, 2, none⟩ (.string ⟨#[]⟩)) Z #[.int .i64 0, .int .i64 0, .string ⟨#[]⟩, .slice none 0 0, .string ⟨#[]⟩, .slice none 0 0, .slice none 0 0, .string ⟨#[]⟩, .bool false] 72 := Blk.set (vs := #[.int .i64 0, .int .i64 0, .string ⟨#[]⟩, .slice none 0 0, .string ⟨#[]⟩, .slice none 0 0, .slice none 0 0, .string ⟨#[]⟩, .bool false]) bk2 2 (by simp) _
    have r2 : (((W.setCell ⟨Z, 0, none⟩ (.int .i64 0)).setCell ⟨Z, 1, none⟩ (.int .i64 0)).setCell ⟨Z, 2, none⟩ (.string ⟨#[]⟩)).cell? ⟨Z, 2, none⟩ = some (.string ⟨#[]⟩) := bk3.cell 2
    have bk4 : Blk ((((W.setCell ⟨Z, 0, none⟩ (.int .i64 0)).setCell ⟨Z, 1, none⟩ (.int .i64 0)).setCell ⟨Z, 2, none⟩ (.string ⟨#[]⟩)).setCell ⟨Z, 3, none⟩ (.slice none 0 0)) Z #[.int .i64 0, .int .i64 0, .string ⟨#[]⟩, .slice none 0 0, .string ⟨#[]⟩, .slice none 0 0, .slice none 0 0, .string ⟨#[]⟩, .bool false] 72 := Blk.set (vs := #[.int .i64 0, .int .i64 0, .string ⟨#[]⟩, .slice none 0 0, .string ⟨#[]⟩, .slice none 0 0, .slice none 0 0, .string ⟨#[]⟩, .bool false]) bk3 3 (by simp) _
    have r3 : ((((W.setCell ⟨Z, 0, none⟩ (.int .i64 0)).setCell ⟨Z, 1, none⟩ (.int .i64 0)).setCell ⟨Z, 2, none⟩ (.string ⟨#[]⟩)).setCell ⟨Z, 3, none⟩ (.slice none 0 0)).cell? ⟨Z, 3, none⟩ = some (.slice none 0 0) := bk4.cell 3
    have bk5 : Blk (((((W.setCell ⟨Z, 0, none⟩ (.int .i64 0)).setCell ⟨Z, 1, none⟩ (.int .i64 0)).setCell ⟨Z, 2, none⟩ (.string ⟨#[]⟩)).setCell ⟨Z, 3, none⟩ (.slice none 0 0)).setCell ⟨Z, 4, none⟩ (.string ⟨#[]⟩)) Z #[.int .i64 0, .int .i64 0, .string ⟨#[]⟩, .slice none 0 0, .string ⟨#[]⟩, .slice none 0 0, .slice none 0 0, .string ⟨#[]⟩, .bool false] 72 := Blk.set (vs := #[.int .i64 0, .int .i64 0, .string ⟨#[]⟩, .slice none 0 0, .string ⟨#[]⟩, .slice none 0 0, .slice none 0 0, .string ⟨#[]⟩, .bool false]) bk4 4 (by simp) _
    have r4 : (((((W.setCell ⟨Z, 0, none⟩ (.int .i64 0)).setCell ⟨Z, 1, none⟩ (.int .i64 0)).setCell ⟨Z, 2, none⟩ (.string ⟨#[]⟩)).setCell ⟨Z, 3, none⟩ (.slice none 0 0)).setCell ⟨Z, 4, none⟩ (.string ⟨#[]⟩)).cell? ⟨Z, 4, none⟩ = some (.string ⟨#[]⟩) := bk5.cell 4
    have bk6 : Blk ((((((W.setCell ⟨Z, 0, none⟩ (.int .i64 0)).setCell ⟨Z, 1, none⟩ (.int .i64 0)).setCell ⟨Z, 2, none⟩ (.string ⟨#[]⟩)).setCell ⟨Z, 3, none⟩ (.slice none 0 0)).setCell ⟨Z, 4, none⟩ (.string ⟨#[]⟩)).setCell ⟨Z, 5, none⟩ (.slice none 0 0)) Z #[.int .i64 0, .int .i64 0, .string ⟨#[]⟩, .slice none 0 0, .string ⟨#[]⟩, .slice none 0 0, .slice none 0 0, .string ⟨#[]⟩, .bool false] 72 := Blk.set (vs := #[.int .i64 0, .int .i64 0, .string ⟨#[]⟩, .slice none 0 0, .string ⟨#[]⟩, .slice none 0 0, .slice none 0 0, .string ⟨#[]⟩, .bool false]) bk5 5 (by simp) _
    have r5 : ((((((W.setCell ⟨Z, 0, none⟩ (.int .i64 0)).setCell ⟨Z, 1, none⟩ (.int .i64 0)).setCell ⟨Z, 2, none⟩ (.string ⟨#[]⟩)).setCell ⟨Z, 3, none⟩ (.slice none 0 0)).setCell ⟨Z, 4, none⟩ (.string ⟨#[]⟩)).setCell ⟨Z, 5, none⟩ (.slice none 0 0)).cell? ⟨Z, 5, none⟩ = some (.slice none 0 0) := bk6.cell 5
    have bk7 : Blk (((((((W.setCell ⟨Z, 0, none⟩ (.int .i64 0)).setCell ⟨Z, 1, none⟩ (.int .i64 0)).setCell ⟨Z, 2, none⟩ (.string ⟨#[]⟩)).setCell ⟨Z, 3, none⟩ (.slice none 0 0)).setCell ⟨Z, 4, none⟩ (.string ⟨#[]⟩)).setCell ⟨Z, 5, none⟩ (.slice none 0 0)).setCell ⟨Z, 6, none⟩ (.slice none 0 0)) Z #[.int .i64 0, .int .i64 0, .string ⟨#[]⟩, .slice none 0 0, .string ⟨#[]⟩, .slice none 0 0, .slice none 0 0, .string ⟨#[]⟩, .bool false] 72 := Blk.set (vs := #[.int .i64 0, .int .i64 0, .string ⟨#[]⟩, .slice none 0 0, .string ⟨#[]⟩, .slice none 0 0, .slice none 0 0, .string ⟨#[]⟩, .bool false]) bk6 6 (by simp) _
    have r6 : (((((((W.setCell ⟨Z, 0, none⟩ (.int .i64 0)).setCell ⟨Z, 1, none⟩ (.int .i64 0)).setCell ⟨Z, 2, none⟩ (.string ⟨#[]⟩)).setCell ⟨Z, 3, none⟩ (.slice none 0 0)).setCell ⟨Z, 4, none⟩ (.string ⟨#[]⟩)).setCell ⟨Z, 5, none⟩ (.slice none 0 0)).setCell ⟨Z, 6, none⟩ (.slice none 0 0)).cell? ⟨Z, 6, none⟩ = some (.slice none 0 0) := bk7.cell 6
    have bk8 : Blk ((((((((W.setCell ⟨Z, 0, none⟩ (.int .i64 0)).setCell ⟨Z, 1, none⟩ (.int .i64 0)).setCell ⟨Z, 2, none⟩ (.string ⟨#[]⟩)).setCell ⟨Z, 3, none⟩ (.slice none 0 0)).setCell ⟨Z, 4, none⟩ (.string ⟨#[]⟩)).setCell ⟨Z, 5, none⟩ (.slice none 0 0)).setCell ⟨Z, 6, none⟩ (.slice none 0 0)).setCell ⟨Z, 7, none⟩ (.string ⟨#[]⟩)) Z #[.int .i64 0, .int .i64 0, .string ⟨#[]⟩, .slice none 0 0, .string ⟨#[]⟩, .slice none 0 0, .slice none 0 0, .string ⟨#[]⟩, .bool false] 72 := Blk.set (vs := #[.int .i64 0, .int .i64 0, .string ⟨#[]⟩, .slice none 0 0, .string ⟨#[]⟩, .slice none 0 0, .slice none 0 0, .string ⟨#[]⟩, .bool false]) bk7 7 (by simp) _
    have r7 : ((((((((W.setCell ⟨Z, 0, none⟩ (.int .i64 0)).setCell ⟨Z, 1, none⟩ (.int .i64 0)).setCell ⟨Z, 2, none⟩ (.string ⟨#[]⟩)).setCell ⟨Z, 3, none⟩ (.slice none 0 0)).setCell ⟨Z, 4, none⟩ (.string ⟨#[]⟩)).setCell ⟨Z, 5, none⟩ (.slice none 0 0)).setCell ⟨Z, 6, none⟩ (.slice none 0 0)).setCell ⟨Z, 7, none⟩ (.string ⟨#[]⟩)).cell? ⟨Z, 7, none⟩ = some (.string ⟨#[]⟩) := bk8.cell 7
    have bk9 : Blk (((((((((W.setCell ⟨Z, 0, none⟩ (.int .i64 0)).setCell ⟨Z, 1, none⟩ (.int .i64 0)).setCell ⟨Z, 2, none⟩ (.string ⟨#[]⟩)).setCell ⟨Z, 3, none⟩ (.slice none 0 0)).setCell ⟨Z, 4, none⟩ (.string ⟨#[]⟩)).setCell ⟨Z, 5, none⟩ (.slice none 0 0)).setCell ⟨Z, 6, none⟩ (.slice none 0 0)).setCell ⟨Z, 7, none⟩ (.string ⟨#[]⟩)).setCell ⟨Z, 8, none⟩ (.bool true)) Z #[.int .i64 0, .int .i64 0, .string ⟨#[]⟩, .slice none 0 0, .string ⟨#[]⟩, .slice none 0 0, .slice none 0 0, .string ⟨#[]⟩, .bool true] 72 := Blk.set (vs := #[.int .i64 0, .int .i64 0, .string ⟨#[]⟩, .slice none 0 0, .string ⟨#[]⟩, .slice none 0 0, .slice none 0 0, .string ⟨#[]⟩, .bool false]) bk8 8 (by simp) _
    have r8 : (((((((((W.setCell ⟨Z, 0, none⟩ (.int .i64 0)).setCell ⟨Z, 1, none⟩ (.int .i64 0)).setCell ⟨Z, 2, none⟩ (.string ⟨#[]⟩)).setCell ⟨Z, 3, none⟩ (.slice none 0 0)).setCell ⟨Z, 4, none⟩ (.string ⟨#[]⟩)).setCell ⟨Z, 5, none⟩ (.slice none 0 0)).setCell ⟨Z, 6, none⟩ (.slice none 0 0)).setCell ⟨Z, 7, none⟩ (.string ⟨#[]⟩)).setCell ⟨Z, 8, none⟩ (.bool true)).cell? ⟨Z, 8, none⟩ = some (.bool true) := bk9.cell 8
    have HRS := hide (And.intro r0 (And.intro r1 (And.intro r2 (And.intro r3 (And.intro r4 (And.intro r5 (And.intro r6 (And.intro r7 r8))))))))
    have HE : Hid (OneSaid w none (.returned (.agg #[.int .i64 0, .int .i64 0, .string ⟨#[]⟩, .slice none 0 0, .string ⟨#[]⟩, .slice none 0 0, .slice none 0 0, .string ⟨#[]⟩, .bool true])) (((((((((W.setCell ⟨Z, 0, none⟩ (.int .i64 0)).setCell ⟨Z, 1, none⟩ (.int .i64 0)).setCell ⟨Z, 2, none⟩ (.string ⟨#[]⟩)).setCell ⟨Z, 3, none⟩ (.slice none 0 0)).setCell ⟨Z, 4, none⟩ (.string ⟨#[]⟩)).setCell ⟨Z, 5, none⟩ (.slice none 0 0)).setCell ⟨Z, 6, none⟩ (.slice none 0 0)).setCell ⟨Z, 7, none⟩ (.string ⟨#[]⟩)).setCell ⟨Z, 8, none⟩ (.bool true))) := hide ⟨0, 0, ⟨#[]⟩, none, 0, 0, ⟨#[]⟩, none, 0, 0, ⟨#[]⟩, true, rfl, ((((((((((unhide HBW).setCell (p := ⟨Z, 0, none⟩) (Nat.le_of_eq (unhide HZO).1) (.int .i64 0)).setCell (p := ⟨Z, 1, none⟩) (Nat.le_of_eq (unhide HZO).1) (.int .i64 0)).setCell (p := ⟨Z, 2, none⟩) (Nat.le_of_eq (unhide HZO).1) (.string ⟨#[]⟩)).setCell (p := ⟨Z, 3, none⟩) (Nat.le_of_eq (unhide HZO).1) (.slice none 0 0)).setCell (p := ⟨Z, 4, none⟩) (Nat.le_of_eq (unhide HZO).1) (.string ⟨#[]⟩)).setCell (p := ⟨Z, 5, none⟩) (Nat.le_of_eq (unhide HZO).1) (.slice none 0 0)).setCell (p := ⟨Z, 6, none⟩) (Nat.le_of_eq (unhide HZO).1) (.slice none 0 0)).setCell (p := ⟨Z, 7, none⟩) (Nat.le_of_eq (unhide HZO).1) (.string ⟨#[]⟩)).setCell (p := ⟨Z, 8, none⟩) (Nat.le_of_eq (unhide HZO).1) (.bool true)), rfl⟩
    clear bk0 bk1 bk2 bk3 bk4 bk5 bk6 bk7 bk8 bk9 r0 r1 r2 r3 r4 r5 r6 r7 r8 hz 
    go_wp2
    obtain ⟨r0, r1, r2, r3, r4, r5, r6, r7, r8⟩ := unhide HRS
    refine bodyPost_ret (v := .agg #[.int .i64 0, .int .i64 0, .string ⟨#[]⟩, .slice none 0 0, .string ⟨#[]⟩, .slice none 0 0, .slice none 0 0, .string ⟨#[]⟩, .bool true]) (by simp [results, Tryd.results69, go_sem, r0, r1, r2, r3, r4, r5, r6, r7, r8]) rfl ?_
    exact unhide HE
  · skip
    go_enter Tryd.func69, Tryd.ntmps69
    go_wp2_with fail
    refine (unhide CN).mono ?_
    rintro e w1 ⟨rfl, hb1⟩
    have hz1 : Blk w1 w.heap.size #[.int .i64 0, .int .i64 0, .string ⟨#[]⟩, .slice none 0 0, .string ⟨#[]⟩, .slice none 0 0, .slice none 0 0, .string ⟨#[]⟩, .bool false] 72 := Blk.later (unhide HZ0).1 hb1
    have hw1 : w.heap.size < w1.heap.size := by have h2 := hb1.size; have h3 := (unhide HZ0).2.2; omega
    have hB1 : Below w.heap.size w w1 := tr2 (unhide HZ0).2.1 hb1
    go_upto_region 3 with fail
    obtain ⟨W, hW⟩ : ∃ W, w1.alloc (Obj.cells #[.int .i64 k, .string ⟨#[]⟩, .slice none 0 0, .string (bs l1), .int .i64 0] 96) = W := ⟨_, rfl⟩
    have hz : Blk W w.heap.size #[.int .i64 0, .int .i64 0, .string ⟨#[]⟩, .slice none 0 0, .string ⟨#[]⟩, .slice none 0 0, .slice none 0 0, .string ⟨#[]⟩, .bool false] 72 := by rw [← hW]; exact Blk.alloc hz1 _
    have HBW : Hid (Below w.heap.size w W) := hide (by rw [← hW]; exact hB1.alloc hB1.size _)
    simp only [hW]
    obtain ⟨Z, hZ⟩ : ∃ Z, w.heap.size = Z := ⟨_, rfl⟩
    have HZO : Hid (w.heap.size = Z ∧ w.heap.size ≤ Z) := hide ⟨hZ, Nat.le_of_eq hZ⟩
    rw [hZ] at hz
    simp only [hZ]
    clear hW hz1 hw1 hB1 hb1 CN HZ0 hZ
    have z0 : W.cell? ⟨Z, 0, none⟩ = some (.int .i64 0) := hz.cell 0
    have zf0 : W.frozen? ⟨Z, 0, none⟩ = false := hz.frozen 0
    have z1 : W.cell? ⟨Z, 1, none⟩ = some (.int .i64 0) := hz.cell 1
    have zf1 : W.frozen? ⟨Z, 1, none⟩ = false := hz.frozen 1
    have z2 : W.cell? ⟨Z, 2, none⟩ = some (.string ⟨#[]⟩) := hz.cell 2
    have zf2 : W.frozen? ⟨Z, 2, none⟩ = false := hz.frozen 2
    have z3 : W.cell? ⟨Z, 3, none⟩ = some (.slice none 0 0) := hz.cell 3
    have zf3 : W.frozen? ⟨Z, 3, none⟩ = false := hz.frozen 3
    have z4 : W.cell? ⟨Z, 4, none⟩ = some (.string ⟨#[]⟩) := hz.cell 4
    have zf4 : W.frozen? ⟨Z, 4, none⟩ = false := hz.frozen 4
    have z5 : W.cell? ⟨Z, 5, none⟩ = some (.slice none 0 0) := hz.cell 5
    have zf5 : W.frozen? ⟨Z, 5, none⟩ = false := hz.frozen 5
    have z6 : W.cell? ⟨Z, 6, none⟩ = some (.slice none 0 0) := hz.cell 6
    have zf6 : W.frozen? ⟨Z, 6, none⟩ = false := hz.frozen 6
    have z7 : W.cell? ⟨Z, 7, none⟩ = some (.string ⟨#[]⟩) := hz.cell 7
    have zf7 : W.frozen? ⟨Z, 7, none⟩ = false := hz.frozen 7
    have z8 : W.cell? ⟨Z, 8, none⟩ = some (.bool false) := hz.cell 8
    have zf8 : W.frozen? ⟨Z, 8, none⟩ = false := hz.frozen 8
    have bk0 : Blk W Z #[.int .i64 0, .int .i64 0, .string ⟨#[]⟩, .slice none 0 0, .string ⟨#[]⟩, .slice none 0 0, .slice none 0 0, .string ⟨#[]⟩, .bool false] 72 := hz
    have bk1 : Blk (W.setCell ⟨Z, 0, none⟩ (.int .i64 0)) Z #[.int .i64 0, .int .i64 0, .string ⟨#[]⟩, .slice none 0 0, .string ⟨#[]⟩, .slice none 0 0, .slice none 0 0, .string ⟨#[]⟩, .bool false] 72 := Blk.set (vs := #[.int .i64 0, .int .i64 0, .string ⟨#[]⟩, .slice none 0 0, .string ⟨#[]⟩, .slice none 0 0, .slice none 0 0, .string ⟨#[]⟩, .bool false]) bk0 0 (by simp) _
    have r0 : (W.setCell ⟨Z, 0, none⟩ (.int .i64 0)).cell? ⟨Z, 0, none⟩ = some (.int .i64 0) := bk1.cell 0
    have bk2 : Blk ((W.setCell ⟨Z, 0, none⟩ (.int .i64 0)).setCell ⟨Z, 1, none⟩ (.int .i64 0)) Z #[.int .i64 0, .int .i64 0, .string ⟨#[]⟩, .slice none 0 0, .string ⟨#[]⟩, .slice none 0 0, .slice none 0 0, .string ⟨#[]⟩, .bool false] 72 := Blk.set (vs := #[.int .i64 0, .int .i64 0, .string ⟨#[]⟩, .slice none 0 0, .string ⟨#[]⟩, .slice none 0 0, .slice none 0 0, .string ⟨#[]⟩, .bool false]) bk1 1 (by simp) _
    have r1 : ((W.setCell ⟨Z, 0, none⟩ (.int .i64 0)).setCell ⟨Z, 1, none⟩ (.int .i64 0)).cell? ⟨Z, 1, none⟩ = some (.int .i64 0) := bk2.cell 1
    have bk3 : Blk (((W.setCell ⟨Z, 0, none⟩ (.int .i64 0)).setCell ⟨Z, 1, none⟩ (.int .i64 0)).setCell ⟨Z, 2, none⟩ (.string ⟨#[]⟩)) Z #[.int .i64 0, .int .i64 0, .string ⟨#[]⟩, .slice none 0 0, .string ⟨#[]⟩, .slice none 0 0, .slice none 0 0, .string ⟨#[]⟩, .bool false] 72 := Blk.set (vs := #[.int .i64 0, .int .i64 0, .string ⟨#[]⟩, .slice none 0 0, .string ⟨#[]⟩, .slice none 0 0, .slice none 0 0, .string ⟨#[]⟩, .bool false]) bk2 2 (by simp) _
    have r2 : (((W.setCell ⟨Z, 0, none⟩ (.int .i64 0)).setCell ⟨Z, 1, none⟩ (.int .i64 0)).setCell ⟨Z, 2, none⟩ (.string ⟨#[]⟩)).cell? ⟨Z, 2, none⟩ = some (.string ⟨#[]⟩) := bk3.cell 2
    have bk4 : Blk ((((W.setCell ⟨Z, 0, none⟩ (.int .i64 0)).setCell ⟨Z, 1, none⟩ (.int .i64 0)).setCell ⟨Z, 2, none⟩ (.string ⟨#[]⟩)).setCell ⟨Z, 3, none⟩ (.slice none 0 0)) Z #[.int .i64 0, .int .i64 0, .string ⟨#[]⟩, .slice none 0 0, .string ⟨#[]⟩, .slice none 0 0, .slice none 0 0, .string ⟨#[]⟩, .bool false] 72 := Blk.set (vs := #[.int .i64 0, .int .i64 0, .string ⟨#[]⟩, .slice none 0 0, .string ⟨#[]⟩, .slice none 0 0, .slice none 0 0, .string ⟨#[]⟩, .bool false]) bk3 3 (by simp) _
    have r3 : ((((W.setCell ⟨Z, 0, none⟩ (.int .i64 0)).setCell ⟨Z, 1, none⟩ (.int .i64 0)).setCell ⟨Z, 2, none⟩ (.string ⟨#[]⟩)).setCell ⟨Z, 3, none⟩ (.slice none 0 0)).cell? ⟨Z, 3, none⟩ = some (.slice none 0 0) := bk4.cell 3
    have bk5 : Blk (((((W.setCell ⟨Z, 0, none⟩ (.int .i64 0)).setCell ⟨Z, 1, none⟩ (.int .i64 0)).setCell ⟨Z, 2, none⟩ (.string ⟨#[]⟩)).setCell ⟨Z, 3, none⟩ (.slice none 0 0)).setCell ⟨Z, 4, none⟩ (.string ⟨#[]⟩)) Z #[.int .i64 0, .int .i64 0, .string ⟨#[]⟩, .slice none 0 0, .string ⟨#[]⟩, .slice none 0 0, .slice none 0 0, .string ⟨#[]⟩, .bool false] 72 := Blk.set (vs := #[.int .i64 0, .int .i64 0, .string ⟨#[]⟩, .slice none 0 0, .string ⟨#[]⟩, .slice none 0 0, .slice none 0 0, .string ⟨#[]⟩, .bool false]) bk4 4 (by simp) _
    have r4 : (((((W.setCell ⟨Z, 0, none⟩ (.int .i64 0)).setCell ⟨Z, 1, none⟩ (.int .i64 0)).setCell ⟨Z, 2, none⟩ (.string ⟨#[]⟩)).setCell ⟨Z, 3, none⟩ (.slice none 0 0)).setCell ⟨Z, 4, none⟩ (.string ⟨#[]⟩)).cell? ⟨Z, 4, none⟩ = some (.string ⟨#[]⟩) := bk5.cell 4
    have bk6 : Blk ((((((W.setCell ⟨Z, 0, none⟩ (.int .i64 0)).setCell ⟨Z, 1, none⟩ (.int .i64 0)).setCell ⟨Z, 2, none⟩ (.string ⟨#[]⟩)).setCell ⟨Z, 3, none⟩ (.slice none 0 0)).setCell ⟨Z, 4, none⟩ (.string ⟨#[]⟩)).setCell ⟨Z, 5, none⟩ (.slice none 0 0)) Z #[.int .i64 0, .int .i64 0, .string ⟨#[]⟩, .slice none 0 0, .string ⟨#[]⟩, .slice none 0 0, .slice none 0 0, .string ⟨#[]⟩, .bool false] 72 := Blk.set (vs := #[.int .i64 0, .int .i64 0, .string ⟨#[]⟩, .slice none 0 0, .string ⟨#[]⟩, .slice none 0 0, .slice none 0 0, .string ⟨#[]⟩, .bool false]) bk5 5 (by simp) _
    have r5 : ((((((W.setCell ⟨Z, 0, none⟩ (.int .i64 0)).setCell ⟨Z, 1, none⟩ (.int .i64 0)).setCell ⟨Z, 2, none⟩ (.string ⟨#[]⟩)).setCell ⟨Z, 3, none⟩ (.slice none 0 0)).setCell ⟨Z, 4, none⟩ (.string ⟨#[]⟩)).setCell ⟨Z, 5, none⟩ (.slice none 0 0)).cell? ⟨Z, 5, none⟩ = some (.slice none 0 0) := bk6.cell 5
    have bk7 : Blk (((((((W.setCell ⟨Z, 0, none⟩ (.int .i64 0)).setCell ⟨Z, 1, none⟩ (.int .i64 0)).setCell ⟨Z, 2, none⟩ (.string ⟨#[]⟩)).setCell ⟨Z, 3, none⟩ (.slice none 0 0)).setCell ⟨Z, 4, none⟩ (.string ⟨#[]⟩)).setCell ⟨Z, 5, none⟩ (.slice none 0 0)).setCell ⟨Z, 6, none⟩ (.slice none 0 0)) Z #[.int .i64 0, .int .i64 0, .string ⟨#[]⟩, .slice none 0 0, .string ⟨#[]⟩, .slice none 0 0, .slice none 0 0, .string ⟨#[]⟩, .bool false] 72 := Blk.set (vs := #[.int .i64 0, .int .i64 0, .string ⟨#[]⟩, .slice none 0 0, .string ⟨#[]⟩, .slice none 0 0, .slice none 0 0, .string ⟨#[]⟩, .bool false]) bk6 6 (by simp) _
    have r6 : (((((((W.setCell ⟨Z, 0, none⟩ (.int .i64 0)).setCell ⟨Z, 1, none⟩ (.int .i64 0)).setCell ⟨Z, 2, none⟩ (.string ⟨#[]⟩)).setCell ⟨Z, 3, none⟩ (.slice none 0 0)).setCell ⟨Z, 4, none⟩ (.string ⟨#[]⟩)).setCell ⟨Z, 5, none⟩ (.slice none 0 0)).setCell ⟨Z, 6, none⟩ (.slice none 0 0)).cell? ⟨Z, 6, none⟩ = some (.slice none 0 0) := bk7.cell 6
    have bk8 : Blk ((((((((W.setCell ⟨Z, 0, none⟩ (.int .i64 0)).setCell ⟨Z, 1, none⟩ (.int .i64 0)).setCell ⟨Z, 2, none⟩ (.string ⟨#[]⟩)).setCell ⟨Z, 3, none⟩ (.slice none 0 0)).setCell ⟨Z, 4, none⟩ (.string ⟨#[]⟩)).setCell ⟨Z, 5, none⟩ (.slice none 0 0)).setCell ⟨Z, 6, none⟩ (.slice none 0 0)).setCell ⟨Z, 7, none⟩ (.string ⟨#[]⟩)) Z #[.int .i64 0, .int .i64 0, .string ⟨#[]⟩, .slice none 0 0, .string ⟨#[]⟩, .slice none 0 0, .slice none 0 0, .string ⟨#[]⟩, .bool false] 72 := Blk.set (vs := #[.int .i64 0, .int .i64 0, .string ⟨#[]⟩, .slice none 0 0, .string ⟨#[]⟩, .slice none 0 0, .slice none 0 0, .string ⟨#[]⟩, .bool false]) bk7 7 (by simp) _
    have r7 : ((((((((W.setCell ⟨Z, 0, none⟩ (.int .i64 0)).setCell ⟨Z, 1, none⟩ (.int .i64 0)).setCell ⟨Z, 2, none⟩ (.string ⟨#[]⟩)).setCell ⟨Z, 3, none⟩ (.slice none 0 0)).setCell ⟨Z, 4, none⟩ (.string ⟨#[]⟩)).setCell ⟨Z, 5, none⟩ (.slice none 0 0)).setCell ⟨Z, 6, none⟩ (.slice none 0 0)).setCell ⟨Z, 7, none⟩ (.string ⟨#[]⟩)).cell? ⟨Z, 7, none⟩ = some (.string ⟨#[]⟩) := bk8.cell 7
    have bk9 : Blk (((((((((W.setCell ⟨Z, 0, none⟩ (.int .i64 0)).setCell ⟨Z, 1, none⟩ (.int .i64 0)).setCell ⟨Z, 2, none⟩ (.string ⟨#[]⟩)).setCell ⟨Z, 3, none⟩ (.slice none 0 0)).setCell ⟨Z, 4, none⟩ (.string ⟨#[]⟩)).setCell ⟨Z, 5, none⟩ (.slice none 0 0)).setCell ⟨Z, 6, none⟩ (.slice none 0 0)).setCell ⟨Z, 7, none⟩ (.string ⟨#[]⟩)).setCell ⟨Z, 8, none⟩ (.bool true)) Z #[.int .i64 0, .int .i64 0, .string ⟨#[]⟩, .slice none 0 0, .string ⟨#[]⟩, .slice none 0 0, .slice none 0 0, .string ⟨#[]⟩, .bool true] 72 := Blk.set (vs := #[.int .i64 0, .int .i64 0, .string ⟨#[]⟩, .slice none 0 0, .string ⟨#[]⟩, .slice none 0 0, .slice none 0 0, .string ⟨#[]⟩, .bool false]) bk8 8 (by simp) _
    have r8 : (((((((((W.setCell ⟨Z, 0, none⟩ (.int .i64 0)).setCell ⟨Z, 1, none⟩ (.int .i64 0)).setCell ⟨Z, 2, none⟩ (.string ⟨#[]⟩)).setCell ⟨Z, 3, none⟩ (.slice none 0 0)).setCell ⟨Z, 4, none⟩ (.string ⟨#[]⟩)).setCell ⟨Z, 5, none⟩ (.slice none 0 0)).setCell ⟨Z, 6, none⟩ (.slice none 0 0)).setCell ⟨Z, 7, none⟩ (.string ⟨#[]⟩)).setCell ⟨Z, 8, none⟩ (.bool true)).cell? ⟨Z, 8, none⟩ = some (.bool true) := bk9.cell 8
    have HRS := hide (And.intro r0 (And.intro r1 (And.intro r2 (And.intro r3 (And.intro r4 (And.intro r5 (And.intro r6 (And.intro r7 r8))))))))
    have HE : Hid (OneSaid w none (.returned (.agg #[.int .i64 0, .int .i64 0, .string ⟨#[]⟩, .slice none 0 0, .string ⟨#[]⟩, .slice none 0 0, .slice none 0 0, .string ⟨#[]⟩, .bool true])) (((((((((W.setCell ⟨Z, 0, none⟩ (.int .i64 0)).setCell ⟨Z, 1, none⟩ (.int .i64 0)).setCell ⟨Z, 2, none⟩ (.string ⟨#[]⟩)).setCell ⟨Z, 3, none⟩ (.slice none 0 0)).setCell ⟨Z, 4, none⟩ (.string ⟨#[]⟩)).setCell ⟨Z, 5, none⟩ (.slice none 0 0)).setCell ⟨Z, 6, none⟩ (.slice none 0 0)).setCell ⟨Z, 7, none⟩ (.string ⟨#[]⟩)).setCell ⟨Z, 8, none⟩ (.bool true))) := hide ⟨0, 0, ⟨#[]⟩, none, 0, 0, ⟨#[]⟩, none, 0, 0, ⟨#[]⟩, true, rfl, ((((((((((unhide HBW).setCell (p := ⟨Z, 0, none⟩) (Nat.le_of_eq (unhide HZO).1) (.int .i64 0)).setCell (p := ⟨Z, 1, none⟩) (Nat.le_of_eq (unhide HZO).1) (.int .i64 0)).setCell (p := ⟨Z, 2, none⟩) (Nat.le_of_eq (unhide HZO).1) (.string ⟨#[]⟩)).setCell (p := ⟨Z, 3, none⟩) (Nat.le_of_eq (unhide HZO).1) (.slice none 0 0)).setCell (p := ⟨Z, 4, none⟩) (Nat.le_of_eq (unhide HZO).1) (.string ⟨#[]⟩)).setCell (p := ⟨Z, 5, none⟩) (Nat.le_of_eq (unhide HZO).1) (.slice none 0 0)).setCell (p := ⟨Z, 6, none⟩) (Nat.le_of_eq (unhide HZO).1) (.slice none 0 0)).setCell (p := ⟨Z, 7, none⟩) (Nat.le_of_eq (unhide HZO).1) (.string ⟨#[]⟩)).setCell (p := ⟨Z, 8, none⟩) (Nat.le_of_eq (unhide HZO).1) (.bool true)), rfl⟩
    clear bk0 bk1 bk2 bk3 bk4 bk5 bk6 bk7 bk8 bk9 r0 r1 r2 r3 r4 r5 r6 r7 r8 hz 
    go_wp2
    obtain ⟨r0, r1, r2, r3, r4, r5, r6, r7, r8⟩ := unhide HRS
    refine bodyPost_ret (v := .agg #[.int .i64 0, .int .i64 0, .string ⟨#[]⟩, .slice none 0 0, .string ⟨#[]⟩, .slice none 0 0, .slice none 0 0, .string ⟨#[]⟩, .bool true]) (by simp [results, Tryd.results69, go_sem, r0, r1, r2, r3, r4, r5, r6, r7, r8]) rfl ?_
    exact unhide HE

set_option maxHeartbeats 4000000 in
set_option maxRecDepth 100000 in
theorem one_leaf (b : ByteArray) (dd : Int) (w : World) (k : Int) (l1 l2 : List UInt8) (t1 : ByteArray) (hk : k = 2 ∨ k = 3)
    (CN : Hid (Calls Tryd.prog 68 #[.string b] (w.alloc (Obj.cells #[.int .i64 0, .int .i64 0, .string ⟨#[]⟩, .slice none 0 0, .string ⟨#[]⟩, .slice none 0 0, .slice none 0 0, .string ⟨#[]⟩, .bool false] 72)) fun e w' => e = .returned (.agg #[.int .i64 k, .string ⟨#[]⟩, .slice none 0 0, .string (bs l1), .int .i64 0]) ∧ Below (w.alloc (Obj.cells #[.int .i64 0, .int .i64 0, .string ⟨#[]⟩, .slice none 0 0, .string ⟨#[]⟩, .slice none 0 0, .slice none 0 0, .string ⟨#[]⟩, .bool false] 72)).heap.size (w.alloc (Obj.cells #[.int .i64 0, .int .i64 0, .string ⟨#[]⟩, .slice none 0 0, .string ⟨#[]⟩, .slice none 0 0, .slice none 0 0, .string ⟨#[]⟩, .bool false] 72)) w'))
    (CT : Hid (∀ W, Calls Tryd.prog 88 #[.string (bs l1)] W fun e w' => e = .returned (.agg #[.int .i64 0, .string t1, .slice none 0 0, .string (bs l2), .int .i64 0]) ∧ Below W.heap.size W w')) :
    Calls Tryd.prog 69 #[.string b, .int .i64 dd] w (OneSaid w (some (⟨k, 0, ⟨#[]⟩, [], t1, .nil⟩, l2))) := by
  have HZ0 : Hid (Blk (w.alloc (Obj.cells #[.int .i64 0, .int .i64 0, .string ⟨#[]⟩, .slice none 0 0, .string ⟨#[]⟩, .slice none 0 0, .slice none 0 0, .string ⟨#[]⟩, .bool false] 72)) w.heap.size #[.int .i64 0, .int .i64 0, .string ⟨#[]⟩, .slice none 0 0, .string ⟨#[]⟩, .slice none 0 0, .slice none 0 0, .string ⟨#[]⟩, .bool false] 72 ∧ Below w.heap.size w (w.alloc (Obj.cells #[.int .i64 0, .int .i64 0, .string ⟨#[]⟩, .slice none 0 0, .string ⟨#[]⟩, .slice none 0 0, .slice none 0 0, .string ⟨#[]⟩, .bool false] 72)) ∧ (w.alloc (Obj.cells #[.int .i64 0, .int .i64 0, .string ⟨#[]⟩, .slice none 0 0, .string ⟨#[]⟩, .slice none 0 0, .slice none 0 0, .string ⟨#[]⟩, .bool false] 72)).heap.size = w.heap.size + 1) := hide ⟨Blk.new w _ _, (Below.refl _ _).alloc (Nat.le_refl _) _, by simp⟩
  rcases hk with rfl | rfl
  · skip
    go_enter Tryd.func69, Tryd.ntmps69
    go_wp2_with fail
    refine (unhide CN).mono ?_
    rintro e w1 ⟨rfl, hb1⟩
    have hz1 : Blk w1 w.heap.size #[.int .i64 0, .int .i64 0, .string ⟨#[]⟩, .slice none 0 0, .string ⟨#[]⟩, .slice none 0 0, .slice none 0 0, .string ⟨#[]⟩, .bool false] 72 := Blk.later (unhide HZ0).1 hb1
    have hw1 : w.heap.size < w1.heap.size := by have h2 := hb1.size; have h3 := (unhide HZ0).2.2; omega
    have hB1 : Below w.heap.size w w1 := tr2 (unhide HZ0).2.1 hb1
    have hA1 : Below w1.heap.size w1 ((w1.alloc (Obj.cells #[.int .i64 2, .string ⟨#[]⟩, .slice none 0 0, .string (bs l1), .int .i64 0] 96)).alloc (Obj.cells #[.int .i64 2, .int .i64 0, .string ⟨#[]⟩, .slice none 0 0, .string ⟨#[]⟩, .slice none 0 0, .slice none 0 0, .string ⟨#[]⟩, .bool false] 72)) := ((Below.refl _ _).alloc (Nat.le_refl _) _).alloc (by simp) _
    have hz2 := Blk.later hz1 hA1
    have ho2 : Blk ((w1.alloc (Obj.cells #[.int .i64 2, .string ⟨#[]⟩, .slice none 0 0, .string (bs l1), .int .i64 0] 96)).alloc (Obj.cells #[.int .i64 2, .int .i64 0, .string ⟨#[]⟩, .slice none 0 0, .string ⟨#[]⟩, .slice none 0 0, .slice none 0 0, .string ⟨#[]⟩, .bool false] 72)) (w1.heap.size + 1) #[.int .i64 2, .int .i64 0, .string ⟨#[]⟩, .slice none 0 0, .string ⟨#[]⟩, .slice none 0 0, .slice none 0 0, .string ⟨#[]⟩, .bool false] 72 := by
      have := Blk.new (w1.alloc (Obj.cells #[.int .i64 2, .string ⟨#[]⟩, .slice none 0 0, .string (bs l1), .int .i64 0] 96)) #[.int .i64 2, .int .i64 0, .string ⟨#[]⟩, .slice none 0 0, .string ⟨#[]⟩, .slice none 0 0, .slice none 0 0, .string ⟨#[]⟩, .bool false] 72
      simpa using this
    have HY := hide (And.intro hz2 (And.intro ho2 (tr2 hB1 hA1)))
    clear CN hz1 hz2 ho2 hA1 hb1 hB1 HZ0
    go_wp2_with fail
    refine (unhide CT _).mono ?_
    rintro e w2 ⟨rfl, hb2⟩
    go_upto_region 7 with fail
    obtain ⟨W, hW⟩ : ∃ W, w2.alloc (Obj.cells #[.int .i64 0, .string t1, .slice none 0 0, .string (bs l2), .int .i64 0] 96) = W := ⟨_, rfl⟩
    have hAA : Below w2.heap.size w2 W := by rw [← hW]; exact (Below.refl _ _).alloc (Nat.le_refl _) _
    have hz : Blk W w.heap.size #[.int .i64 0, .int .i64 0, .string ⟨#[]⟩, .slice none 0 0, .string ⟨#[]⟩, .slice none 0 0, .slice none 0 0, .string ⟨#[]⟩, .bool false] 72 := Blk.later (Blk.later (unhide HY).1 hb2) hAA
    have ho : Blk W (w1.heap.size + 1) #[.int .i64 2, .int .i64 0, .string ⟨#[]⟩, .slice none 0 0, .string ⟨#[]⟩, .slice none 0 0, .slice none 0 0, .string ⟨#[]⟩, .bool false] 72 := Blk.later (Blk.later (unhide HY).2.1 hb2) hAA
    have HBW : Hid (Below w.heap.size w W) := hide (tr2 (tr2 (unhide HY).2.2 hb2) hAA)
    have hT : Blk W w2.heap.size #[.int .i64 0, .string t1, .slice none 0 0, .string (bs l2), .int .i64 0] 96 := by rw [← hW]; exact Blk.new _ _ _
    have t1' : W.cell? ⟨w2.heap.size, 1, none⟩ = some (.string t1) := hT.cell 1
    have t3' : W.cell? ⟨w2.heap.size, 3, none⟩ = some (.string (bs l2)) := hT.cell 3
    have t4' : W.cell? ⟨w2.heap.size, 4, none⟩ = some (.int .i64 0) := hT.cell 4
    have hlt2 : w1.heap.size + 1 < w2.heap.size := by
      have h5 := (Blk.later (unhide HY).2.1 hb2).lt
      exact h5
    simp only [hW]
    obtain ⟨Z, hZ⟩ : ∃ Z, w.heap.size = Z := ⟨_, rfl⟩
    obtain ⟨O, hO⟩ : ∃ O, w1.heap.size + 1 = O := ⟨_, rfl⟩
    obtain ⟨Q, hQ⟩ : ∃ Q, w2.heap.size = Q := ⟨_, rfl⟩
    have HZO : Hid (w.heap.size = Z ∧ w.heap.size ≤ O) := hide ⟨hZ, by omega⟩
    have hZO : Z ≠ O := by omega
    have hOZ : O ≠ Z := by omega
    have hOQ : O ≠ Q := by omega
    have hQO : Q ≠ O := by omega
    rw [hZ] at hz
    rw [hO] at ho
    rw [hQ] at t1' t3' t4'
    simp only [hZ, hO, hQ]
    clear hW hAA hw1 hb2 HY CT hZ hO hQ hT hlt2
    have o0 : W.cell? ⟨O, 0, none⟩ = some (.int .i64 2) := ho.cell 0
    have o1 : W.cell? ⟨O, 1, none⟩ = some (.int .i64 0) := ho.cell 1
    have o2 : W.cell? ⟨O, 2, none⟩ = some (.string ⟨#[]⟩) := ho.cell 2
    have o3 : W.cell? ⟨O, 3, none⟩ = some (.slice none 0 0) := ho.cell 3
    have o4 : W.cell? ⟨O, 4, none⟩ = some (.string ⟨#[]⟩) := ho.cell 4
    have o5 : W.cell? ⟨O, 5, none⟩ = some (.slice none 0 0) := ho.cell 5
    have o6 : W.cell? ⟨O, 6, none⟩ = some (.slice none 0 0) := ho.cell 6
    have o7 : W.cell? ⟨O, 7, none⟩ = some (.string ⟨#[]⟩) := ho.cell 7
    have o8 : W.cell? ⟨O, 8, none⟩ = some (.bool false) := ho.cell 8
    have of4 : W.frozen? ⟨O, 4, none⟩ = false := ho.frozen 4
    have of7 : W.frozen? ⟨O, 7, none⟩ = false := ho.frozen 7
    have of8 : W.frozen? ⟨O, 8, none⟩ = false := ho.frozen 8
    have z0 : W.cell? ⟨Z, 0, none⟩ = some (.int .i64 0) := hz.cell 0
    have zf0 : W.frozen? ⟨Z, 0, none⟩ = false := hz.frozen 0
    have z1 : W.cell? ⟨Z, 1, none⟩ = some (.int .i64 0) := hz.cell 1
    have zf1 : W.frozen? ⟨Z, 1, none⟩ = false := hz.frozen 1
    have z2 : W.cell? ⟨Z, 2, none⟩ = some (.string ⟨#[]⟩) := hz.cell 2
    have zf2 : W.frozen? ⟨Z, 2, none⟩ = false := hz.frozen 2
    have z3 : W.cell? ⟨Z, 3, none⟩ = some (.slice none 0 0) := hz.cell 3
    have zf3 : W.frozen? ⟨Z, 3, none⟩ = false := hz.frozen 3
    have z4 : W.cell? ⟨Z, 4, none⟩ = some (.string ⟨#[]⟩) := hz.cell 4
    have zf4 : W.frozen? ⟨Z, 4, none⟩ = false := hz.frozen 4
    have z5 : W.cell? ⟨Z, 5, none⟩ = some (.slice none 0 0) := hz.cell 5
    have zf5 : W.frozen? ⟨Z, 5, none⟩ = false := hz.frozen 5
    have z6 : W.cell? ⟨Z, 6, none⟩ = some (.slice none 0 0) := hz.cell 6
    have zf6 : W.frozen? ⟨Z, 6, none⟩ = false := hz.frozen 6
    have z7 : W.cell? ⟨Z, 7, none⟩ = some (.string ⟨#[]⟩) := hz.cell 7
    have zf7 : W.frozen? ⟨Z, 7, none⟩ = false := hz.frozen 7
    have z8 : W.cell? ⟨Z, 8, none⟩ = some (.bool false) := hz.cell 8
    have zf8 : W.frozen? ⟨Z, 8, none⟩ = false := hz.frozen 8
    have bk0 : Blk (((W.setCell ⟨O, 4, none⟩ (.string t1)).setCell ⟨O, 7, none⟩ (.string (bs l2))).setCell ⟨O, 8, none⟩ (.bool false)) Z #[.int .i64 0, .int .i64 0, .string ⟨#[]⟩, .slice none 0 0, .string ⟨#[]⟩, .slice none 0 0, .slice none 0 0, .string ⟨#[]⟩, .bool false] 72 := (Blk.away (Blk.away (Blk.away hz hZO _) hZO _) hZO _)
    have bk1 : Blk ((((W.setCell ⟨O, 4, none⟩ (.string t1)).setCell ⟨O, 7, none⟩ (.string (bs l2))).setCell ⟨O, 8, none⟩ (.bool false)).setCell ⟨Z, 0, none⟩ (.int .i64 2)) Z #[.int .i64 2, .int .i64 0, .string ⟨#[]⟩, .slice none 0 0, .string ⟨#[]⟩, .slice none 0 0, .slice none 0 0, .string ⟨#[]⟩, .bool false] 72 := Blk.set (vs := #[.int .i64 0, .int .i64 0, .string ⟨#[]⟩, .slice none 0 0, .string ⟨#[]⟩, .slice none 0 0, .slice none 0 0, .string ⟨#[]⟩, .bool false]) bk0 0 (by simp) _
    have r0 : ((((W.setCell ⟨O, 4, none⟩ (.string t1)).setCell ⟨O, 7, none⟩ (.string (bs l2))).setCell ⟨O, 8, none⟩ (.bool false)).setCell ⟨Z, 0, none⟩ (.int .i64 2)).cell? ⟨Z, 0, none⟩ = some (.int .i64 2) := bk1.cell 0
    have bk2 : Blk (((((W.setCell ⟨O, 4, none⟩ (.string t1)).setCell ⟨O, 7, none⟩ (.string (bs l2))).setCell ⟨O, 8, none⟩ (.bool false)).setCell ⟨Z, 0, none⟩ (.int .i64 2)).setCell ⟨Z, 1, none⟩ (.int .i64 0)) Z #[.int .i64 2, .int .i64 0, .string ⟨#[]⟩, .slice none 0 0, .string ⟨#[]⟩, .slice none 0 0, .slice none 0 0, .string ⟨#[]⟩, .bool false] 72 := Blk.set (vs := #[.int .i64 2, .int .i64 0, .string ⟨#[]⟩, .slice none 0 0, .string ⟨#[]⟩, .slice none 0 0, .slice none 0 0, .string ⟨#[]⟩, .bool false]) bk1 1 (by simp) _
    have r1 : (((((W.setCell ⟨O, 4, none⟩ (.string t1)).setCell ⟨O, 7, none⟩ (.string (bs l2))).setCell ⟨O, 8, none⟩ (.bool false)).setCell ⟨Z, 0, none⟩ (.int .i64 2)).setCell ⟨Z, 1, none⟩ (.int .i64 0)).cell? ⟨Z, 1, none⟩ = some (.int .i64 0) := bk2.cell 1
    have bk3 : Blk ((((((W.setCell ⟨O, 4, none⟩ (.string t1)).setCell ⟨O, 7, none⟩ (.string (bs l2))).setCell ⟨O, 8, none⟩ (.bool false)).setCell ⟨Z, 0, none⟩ (.int .i64 2)).setCell ⟨Z, 1, none⟩ (.int .i64 0)).setCell ⟨Z, 2, none⟩ (.string ⟨#[]⟩)) Z #[.int .i64 2, .int .i64 0, .string ⟨#[]⟩, .slice none 0 0, .string ⟨#[]⟩, .slice none 0 0, .slice none 0 0, .string ⟨#[]⟩, .bool false] 72 := Blk.set (vs := #[.int .i64 2, .int .i64 0, .string ⟨#[]⟩, .slice none 0 0, .string ⟨#[]⟩, .slice none 0 0, .slice none 0 0, .string ⟨#[]⟩, .bool false]) bk2 2 (by simp) _
    have r2 : ((((((W.setCell ⟨O, 4, none⟩ (.string t1)).setCell ⟨O, 7, none⟩ (.string (bs l2))).setCell ⟨O, 8, none⟩ (.bool false)).setCell ⟨Z, 0, none⟩ (.int .i64 2)).setCell ⟨Z, 1, none⟩ (.int .i64 0)).setCell ⟨Z, 2, none⟩ (.string ⟨#[]⟩)).cell? ⟨Z, 2, none⟩ = some (.string ⟨#[]⟩) := bk3.cell 2
    have bk4 : Blk (((((((W.setCell ⟨O, 4, none⟩ (.string t1)).setCell ⟨O, 7, none⟩ (.string (bs l2))).setCell ⟨O, 8, none⟩ (.bool false)).setCell ⟨Z, 0, none⟩ (.int .i64 2)).setCell ⟨Z, 1, none⟩ (.int .i64 0)).setCell ⟨Z, 2, none⟩ (.string ⟨#[]⟩)).setCell ⟨Z, 3, none⟩ (.slice none 0 0)) Z #[.int .i64 2, .int .i64 0, .string ⟨#[]⟩, .slice none 0 0, .string ⟨#[]⟩, .slice none 0 0, .slice none 0 0, .string ⟨#[]⟩, .bool false] 72 := Blk.set (vs := #[.int .i64 2, .int .i64 0, .string ⟨#[]⟩, .slice none 0 0, .string ⟨#[]⟩, .slice none 0 0, .slice none 0 0, .string ⟨#[]⟩, .bool false]) bk3 3 (by simp) _
    have r3 : (((((((W.setCell ⟨O, 4, none⟩ (.string t1)).setCell ⟨O, 7, none⟩ (.string (bs l2))).setCell ⟨O, 8, none⟩ (.bool false)).setCell ⟨Z, 0, none⟩ (.int .i64 2)).setCell ⟨Z, 1, none⟩ (.int .i64 0)).setCell ⟨Z, 2, none⟩ (.string ⟨#[]⟩)).setCell ⟨Z, 3, none⟩ (.slice none 0 0)).cell? ⟨Z, 3, none⟩ = some (.slice none 0 0) := bk4.cell 3
    have bk5 : Blk ((((((((W.setCell ⟨O, 4, none⟩ (.string t1)).setCell ⟨O, 7, none⟩ (.string (bs l2))).setCell ⟨O, 8, none⟩ (.bool false)).setCell ⟨Z, 0, none⟩ (.int .i64 2)).setCell ⟨Z, 1, none⟩ (.int .i64 0)).setCell ⟨Z, 2, none⟩ (.string ⟨#[]⟩)).setCell ⟨Z, 3, none⟩ (.slice none 0 0)).setCell ⟨Z, 4, none⟩ (.string t1)) Z #[.int .i64 2, .int .i64 0, .string ⟨#[]⟩, .slice none 0 0, .string t1, .slice none 0 0, .slice none 0 0, .string ⟨#[]⟩, .bool false] 72 := Blk.set (vs := #[.int .i64 2, .int .i64 0, .string ⟨#[]⟩, .slice none 0 0, .string ⟨#[]⟩, .slice none 0 0, .slice none 0 0, .string ⟨#[]⟩, .bool false]) bk4 4 (by simp) _
    have r4 : ((((((((W.setCell ⟨O, 4, none⟩ (.string t1)).setCell ⟨O, 7, none⟩ (.string (bs l2))).setCell ⟨O, 8, none⟩ (.bool false)).setCell ⟨Z, 0, none⟩ (.int .i64 2)).setCell ⟨Z, 1, none⟩ (.int .i64 0)).setCell ⟨Z, 2, none⟩ (.string ⟨#[]⟩)).setCell ⟨Z, 3, none⟩ (.slice none 0 0)).setCell ⟨Z, 4, none⟩ (.string t1)).cell? ⟨Z, 4, none⟩ = some (.string t1) := bk5.cell 4
    have bk6 : Blk (((((((((W.setCell ⟨O, 4, none⟩ (.string t1)).setCell ⟨O, 7, none⟩ (.string (bs l2))).setCell ⟨O, 8, none⟩ (.bool false)).setCell ⟨Z, 0, none⟩ (.int .i64 2)).setCell ⟨Z, 1, none⟩ (.int .i64 0)).setCell ⟨Z, 2, none⟩ (.string ⟨#[]⟩)).setCell ⟨Z, 3, none⟩ (.slice none 0 0)).setCell ⟨Z, 4, none⟩ (.string t1)).setCell ⟨Z, 5, none⟩ (.slice none 0 0)) Z #[.int .i64 2, .int .i64 0, .string ⟨#[]⟩, .slice none 0 0, .string t1, .slice none 0 0, .slice none 0 0, .string ⟨#[]⟩, .bool false] 72 := Blk.set (vs := #[.int .i64 2, .int .i64 0, .string ⟨#[]⟩, .slice none 0 0, .string t1, .slice none 0 0, .slice none 0 0, .string ⟨#[]⟩, .bool false]) bk5 5 (by simp) _
    have r5 : (((((((((W.setCell ⟨O, 4, none⟩ (.string t1)).setCell ⟨O, 7, none⟩ (.string (bs l2))).setCell ⟨O, 8, none⟩ (.bool false)).setCell ⟨Z, 0, none⟩ (.int .i64 2)).setCell ⟨Z, 1, none⟩ (.int .i64 0)).setCell ⟨Z, 2, none⟩ (.string ⟨#[]⟩)).setCell ⟨Z, 3, none⟩ (.slice none 0 0)).setCell ⟨Z, 4, none⟩ (.string t1)).setCell ⟨Z, 5, none⟩ (.slice none 0 0)).cell? ⟨Z, 5, none⟩ = some (.slice none 0 0) := bk6.cell 5
    have bk7 : Blk ((((((((((W.setCell ⟨O, 4, none⟩ (.string t1)).setCell ⟨O, 7, none⟩ (.string (bs l2))).setCell ⟨O, 8, none⟩ (.bool false)).setCell ⟨Z, 0, none⟩ (.int .i64 2)).setCell ⟨Z, 1, none⟩ (.int .i64 0)).setCell ⟨Z, 2, none⟩ (.string ⟨#[]⟩)).setCell ⟨Z, 3, none⟩ (.slice none 0 0)).setCell ⟨Z, 4, none⟩ (.string t1)).setCell ⟨Z, 5, none⟩ (.slice none 0 0)).setCell ⟨Z, 6, none⟩ (.slice none 0 0)) Z #[.int .i64 2, .int .i64 0, .string ⟨#[]⟩, .slice none 0 0, .string t1, .slice none 0 0, .slice none 0 0, .string ⟨#[]⟩, .bool false] 72 := Blk.set (vs := #[.int .i64 2, .int .i64 0, .string ⟨#[]⟩, .slice none 0 0, .string t1, .slice none 0 0, .slice none 0 0, .string ⟨#[]⟩, .bool false]) bk6 6 (by simp) _
    have r6 : ((((((((((W.setCell ⟨O, 4, none⟩ (.string t1)).setCell ⟨O, 7, none⟩ (.string (bs l2))).setCell ⟨O, 8, none⟩ (.bool false)).setCell ⟨Z, 0, none⟩ (.int .i64 2)).setCell ⟨Z, 1, none⟩ (.int .i64 0)).setCell ⟨Z, 2, none⟩ (.string ⟨#[]⟩)).setCell ⟨Z, 3, none⟩ (.slice none 0 0)).setCell ⟨Z, 4, none⟩ (.string t1)).setCell ⟨Z, 5, none⟩ (.slice none 0 0)).setCell ⟨Z, 6, none⟩ (.slice none 0 0)).cell? ⟨Z, 6, none⟩ = some (.slice none 0 0) := bk7.cell 6
    have bk8 : Blk (((((((((((W.setCell ⟨O, 4, none⟩ (.string t1)).setCell ⟨O, 7, none⟩ (.string (bs l2))).setCell ⟨O, 8, none⟩ (.bool false)).setCell ⟨Z, 0, none⟩ (.int .i64 2)).setCell ⟨Z, 1, none⟩ (.int .i64 0)).setCell ⟨Z, 2, none⟩ (.string ⟨#[]⟩)).setCell ⟨Z, 3, none⟩ (.slice none 0 0)).setCell ⟨Z, 4, none⟩ (.string t1)).setCell ⟨Z, 5, none⟩ (.slice none 0 0)).setCell ⟨Z, 6, none⟩ (.slice none 0 0)).setCell ⟨Z, 7, none⟩ (.string (bs l2))) Z #[.int .i64 2, .int .i64 0, .string ⟨#[]⟩, .slice none 0 0, .string t1, .slice none 0 0, .slice none 0 0, .string (bs l2), .bool false] 72 := Blk.set (vs := #[.int .i64 2, .int .i64 0, .string ⟨#[]⟩, .slice none 0 0, .string t1, .slice none 0 0, .slice none 0 0, .string ⟨#[]⟩, .bool false]) bk7 7 (by simp) _
    have r7 : (((((((((((W.setCell ⟨O, 4, none⟩ (.string t1)).setCell ⟨O, 7, none⟩ (.string (bs l2))).setCell ⟨O, 8, none⟩ (.bool false)).setCell ⟨Z, 0, none⟩ (.int .i64 2)).setCell ⟨Z, 1, none⟩ (.int .i64 0)).setCell ⟨Z, 2, none⟩ (.string ⟨#[]⟩)).setCell ⟨Z, 3, none⟩ (.slice none 0 0)).setCell ⟨Z, 4, none⟩ (.string t1)).setCell ⟨Z, 5, none⟩ (.slice none 0 0)).setCell ⟨Z, 6, none⟩ (.slice none 0 0)).setCell ⟨Z, 7, none⟩ (.string (bs l2))).cell? ⟨Z, 7, none⟩ = some (.string (bs l2)) := bk8.cell 7
    have bk9 : Blk ((((((((((((W.setCell ⟨O, 4, none⟩ (.string t1)).setCell ⟨O, 7, none⟩ (.string (bs l2))).setCell ⟨O, 8, none⟩ (.bool false)).setCell ⟨Z, 0, none⟩ (.int .i64 2)).setCell ⟨Z, 1, none⟩ (.int .i64 0)).setCell ⟨Z, 2, none⟩ (.string ⟨#[]⟩)).setCell ⟨Z, 3, none⟩ (.slice none 0 0)).setCell ⟨Z, 4, none⟩ (.string t1)).setCell ⟨Z, 5, none⟩ (.slice none 0 0)).setCell ⟨Z, 6, none⟩ (.slice none 0 0)).setCell ⟨Z, 7, none⟩ (.string (bs l2))).setCell ⟨Z, 8, none⟩ (.bool false)) Z #[.int .i64 2, .int .i64 0, .string ⟨#[]⟩, .slice none 0 0, .string t1, .slice none 0 0, .slice none 0 0, .string (bs l2), .bool false] 72 := Blk.set (vs := #[.int .i64 2, .int .i64 0, .string ⟨#[]⟩, .slice none 0 0, .string t1, .slice none 0 0, .slice none 0 0, .string (bs l2), .bool false]) bk8 8 (by simp) _
    have r8 : ((((((((((((W.setCell ⟨O, 4, none⟩ (.string t1)).setCell ⟨O, 7, none⟩ (.string (bs l2))).setCell ⟨O, 8, none⟩ (.bool false)).setCell ⟨Z, 0, none⟩ (.int .i64 2)).setCell ⟨Z, 1, none⟩ (.int .i64 0)).setCell ⟨Z, 2, none⟩ (.string ⟨#[]⟩)).setCell ⟨Z, 3, none⟩ (.slice none 0 0)).setCell ⟨Z, 4, none⟩ (.string t1)).setCell ⟨Z, 5, none⟩ (.slice none 0 0)).setCell ⟨Z, 6, none⟩ (.slice none 0 0)).setCell ⟨Z, 7, none⟩ (.string (bs l2))).setCell ⟨Z, 8, none⟩ (.bool false)).cell? ⟨Z, 8, none⟩ = some (.bool false) := bk9.cell 8
    have HRS := hide (And.intro r0 (And.intro r1 (And.intro r2 (And.intro r3 (And.intro r4 (And.intro r5 (And.intro r6 (And.intro r7 r8))))))))
    have HE : Hid (OneSaid w (some (⟨2, 0, ⟨#[]⟩, [], t1, .nil⟩, l2)) (.returned (.agg #[.int .i64 2, .int .i64 0, .string ⟨#[]⟩, .slice none 0 0, .string t1, .slice none 0 0, .slice none 0 0, .string (bs l2), .bool false])) ((((((((((((W.setCell ⟨O, 4, none⟩ (.string t1)).setCell ⟨O, 7, none⟩ (.string (bs l2))).setCell ⟨O, 8, none⟩ (.bool false)).setCell ⟨Z, 0, none⟩ (.int .i64 2)).setCell ⟨Z, 1, none⟩ (.int .i64 0)).setCell ⟨Z, 2, none⟩ (.string ⟨#[]⟩)).setCell ⟨Z, 3, none⟩ (.slice none 0 0)).setCell ⟨Z, 4, none⟩ (.string t1)).setCell ⟨Z, 5, none⟩ (.slice none 0 0)).setCell ⟨Z, 6, none⟩ (.slice none 0 0)).setCell ⟨Z, 7, none⟩ (.string (bs l2))).setCell ⟨Z, 8, none⟩ (.bool false))) := hide ⟨2, 0, ⟨#[]⟩, none, 0, 0, t1, none, 0, 0, bs l2, false, rfl, (((((((((((((unhide HBW).setCell (p := ⟨O, 4, none⟩) (unhide HZO).2 (.string t1)).setCell (p := ⟨O, 7, none⟩) (unhide HZO).2 (.string (bs l2))).setCell (p := ⟨O, 8, none⟩) (unhide HZO).2 (.bool false)).setCell (p := ⟨Z, 0, none⟩) (Nat.le_of_eq (unhide HZO).1) (.int .i64 2)).setCell (p := ⟨Z, 1, none⟩) (Nat.le_of_eq (unhide HZO).1) (.int .i64 0)).setCell (p := ⟨Z, 2, none⟩) (Nat.le_of_eq (unhide HZO).1) (.string ⟨#[]⟩)).setCell (p := ⟨Z, 3, none⟩) (Nat.le_of_eq (unhide HZO).1) (.slice none 0 0)).setCell (p := ⟨Z, 4, none⟩) (Nat.le_of_eq (unhide HZO).1) (.string t1)).setCell (p := ⟨Z, 5, none⟩) (Nat.le_of_eq (unhide HZO).1) (.slice none 0 0)).setCell (p := ⟨Z, 6, none⟩) (Nat.le_of_eq (unhide HZO).1) (.slice none 0 0)).setCell (p := ⟨Z, 7, none⟩) (Nat.le_of_eq (unhide HZO).1) (.string (bs l2))).setCell (p := ⟨Z, 8, none⟩) (Nat.le_of_eq (unhide HZO).1) (.bool false)), rfl, rfl, rfl, rfl, rfl, rfl, rfl, Nat.le_refl _, rfl, .inl rfl, .inl rfl⟩
    clear bk0 bk1 bk2 bk3 bk4 bk5 bk6 bk7 bk8 bk9 r0 r1 r2 r3 r4 r5 r6 r7 r8 hz ho 
    go_wp2
    obtain ⟨r0, r1, r2, r3, r4, r5, r6, r7, r8⟩ := unhide HRS
    refine bodyPost_ret (v := .agg #[.int .i64 2, .int .i64 0, .string ⟨#[]⟩, .slice none 0 0, .string t1, .slice none 0 0, .slice none 0 0, .string (bs l2), .bool false]) (by simp [results, Tryd.results69, go_sem, r0, r1, r2, r3, r4, r5, r6, r7, r8]) rfl ?_
    exact unhide HE
  · skip
    go_enter Tryd.func69, Tryd.ntmps69
    go_wp2_with fail
    refine (unhide CN).mono ?_
    rintro e w1 ⟨rfl, hb1⟩
    have hz1 : Blk w1 w.heap.size #[.int .i64 0, .int .i64 0, .string ⟨#[]⟩, .slice none 0 0, .string ⟨#[]⟩, .slice none 0 0, .slice none 0 0, .string ⟨#[]⟩, .bool false] 72 := Blk.later (unhide HZ0).1 hb1
    have hw1 : w.heap.size < w1.heap.size := by have h2 := hb1.size; have h3 := (unhide HZ0).2.2; omega
    have hB1 : Below w.heap.size w w1 := tr2 (unhide HZ0).2.1 hb1
    have hA1 : Below w1.heap.size w1 ((w1.alloc (Obj.cells #[.int .i64 3, .string ⟨#[]⟩, .slice none 0 0, .string (bs l1), .int .i64 0] 96)).alloc (Obj.cells #[.int .i64 3, .int .i64 0, .string ⟨#[]⟩, .slice none 0 0, .string ⟨#[]⟩, .slice none 0 0, .slice none 0 0, .string ⟨#[]⟩, .bool false] 72)) := ((Below.refl _ _).alloc (Nat.le_refl _) _).alloc (by simp) _
    have hz2 := Blk.later hz1 hA1
    have ho2 : Blk ((w1.alloc (Obj.cells #[.int .i64 3, .string ⟨#[]⟩, .slice none 0 0, .string (bs l1), .int .i64 0] 96)).alloc (Obj.cells #[.int .i64 3, .int .i64 0, .string ⟨#[]⟩, .slice none 0 0, .string ⟨#[]⟩, .slice none 0 0, .slice none 0 0, .string ⟨#[]⟩, .bool false] 72)) (w1.heap.size + 1) #[.int .i64 3, .int .i64 0, .string ⟨#[]⟩, .slice none 0 0, .string ⟨#[]⟩, .slice none 0 0, .slice none 0 0, .string ⟨#[]⟩, .bool false] 72 := by
      have := Blk.new (w1.alloc (Obj.cells #[.int .i64 3, .string ⟨#[]⟩, .slice none 0 0, .string (bs l1), .int .i64 0] 96)) #[.int .i64 3, .int .i64 0, .string ⟨#[]⟩, .slice none 0 0, .string ⟨#[]⟩, .slice none 0 0, .slice none 0 0, .string ⟨#[]⟩, .bool false] 72
      simpa using this
    have HY := hide (And.intro hz2 (And.intro ho2 (tr2 hB1 hA1)))
    clear CN hz1 hz2 ho2 hA1 hb1 hB1 HZ0
    go_wp2_with fail
    refine (unhide CT _).mono ?_
    rintro e w2 ⟨rfl, hb2⟩
    go_upto_region 7 with fail
    obtain ⟨W, hW⟩ : ∃ W, w2.alloc (Obj.cells #[.int .i64 0, .string t1, .slice none 0 0, .string (bs l2), .int .i64 0] 96) = W := ⟨_, rfl⟩
    have hAA : Below w2.heap.size w2 W := by rw [← hW]; exact (Below.refl _ _).alloc (Nat.le_refl _) _
    have hz : Blk W w.heap.size #[.int .i64 0, .int .i64 0, .string ⟨#[]⟩, .slice none 0 0, .string ⟨#[]⟩, .slice none 0 0, .slice none 0 0, .string ⟨#[]⟩, .bool false] 72 := Blk.later (Blk.later (unhide HY).1 hb2) hAA
    have ho : Blk W (w1.heap.size + 1) #[.int .i64 3, .int .i64 0, .string ⟨#[]⟩, .slice none 0 0, .string ⟨#[]⟩, .slice none 0 0, .slice none 0 0, .string ⟨#[]⟩, .bool false] 72 := Blk.later (Blk.later (unhide HY).2.1 hb2) hAA
    have HBW : Hid (Below w.heap.size w W) := hide (tr2 (tr2 (unhide HY).2.2 hb2) hAA)
    have hT : Blk W w2.heap.size #[.int .i64 0, .string t1, .slice none 0 0, .string (bs l2), .int .i64 0] 96 := by rw [← hW]; exact Blk.new _ _ _
    have t1' : W.cell? ⟨w2.heap.size, 1, none⟩ = some (.string t1) := hT.cell 1
    have t3' : W.cell? ⟨w2.heap.size, 3, none⟩ = some (.string (bs l2)) := hT.cell 3
    have t4' : W.cell? ⟨w2.heap.size, 4, none⟩ = some (.int .i64 0) := hT.cell 4
    have hlt2 : w1.heap.size + 1 < w2.heap.size := by
      have h5 := (Blk.later (unhide HY).2.1 hb2).lt
      exact h5
    simp only [hW]
    obtain ⟨Z, hZ⟩ : ∃ Z, w.heap.size = Z := ⟨_, rfl⟩
    obtain ⟨O, hO⟩ : ∃ O, w1.heap.size + 1 = O := ⟨_, rfl⟩
    obtain ⟨Q, hQ⟩ : ∃ Q, w2.heap.size = Q := ⟨_, rfl⟩
    have HZO : Hid (w.heap.size = Z ∧ w.heap.size ≤ O) := hide ⟨hZ, by omega⟩
    have hZO : Z ≠ O := by omega
    have hOZ : O ≠ Z := by omega
    have hOQ : O ≠ Q := by omega
    have hQO : Q ≠ O := by omega
    rw [hZ] at hz
    rw [hO] at ho
    rw [hQ] at t1' t3' t4'
    simp only [hZ, hO, hQ]
    clear hW hAA hw1 hb2 HY CT hZ hO hQ hT hlt2
    have o0 : W.cell? ⟨O, 0, none⟩ = some (.int .i64 3) := ho.cell 0
    have o1 : W.cell? ⟨O, 1, none⟩ = some (.int .i64 0) := ho.cell 1
    have o2 : W.cell? ⟨O, 2, none⟩ = some (.string ⟨#[]⟩) := ho.cell 2
    have o3 : W.cell? ⟨O, 3, none⟩ = some (.slice none 0 0) := ho.cell 3
    have o4 : W.cell? ⟨O, 4, none⟩ = some (.string ⟨#[]⟩) := ho.cell 4
    have o5 : W.cell? ⟨O, 5, none⟩ = some (.slice none 0 0) := ho.cell 5
    have o6 : W.cell? ⟨O, 6, none⟩ = some (.slice none 0 0) := ho.cell 6
    have o7 : W.cell? ⟨O, 7, none⟩ = some (.string ⟨#[]⟩) := ho.cell 7
    have o8 : W.cell? ⟨O, 8, none⟩ = some (.bool false) := ho.cell 8
    have of4 : W.frozen? ⟨O, 4, none⟩ = false := ho.frozen 4
    have of7 : W.frozen? ⟨O, 7, none⟩ = false := ho.frozen 7
    have of8 : W.frozen? ⟨O, 8, none⟩ = false := ho.frozen 8
    have z0 : W.cell? ⟨Z, 0, none⟩ = some (.int .i64 0) := hz.cell 0
    have zf0 : W.frozen? ⟨Z, 0, none⟩ = false := hz.frozen 0
    have z1 : W.cell? ⟨Z, 1, none⟩ = some (.int .i64 0) := hz.cell 1
    have zf1 : W.frozen? ⟨Z, 1, none⟩ = false := hz.frozen 1
    have z2 : W.cell? ⟨Z, 2, none⟩ = some (.string ⟨#[]⟩) := hz.cell 2
    have zf2 : W.frozen? ⟨Z, 2, none⟩ = false := hz.frozen 2
    have z3 : W.cell? ⟨Z, 3, none⟩ = some (.slice none 0 0) := hz.cell 3
    have zf3 : W.frozen? ⟨Z, 3, none⟩ = false := hz.frozen 3
    have z4 : W.cell? ⟨Z, 4, none⟩ = some (.string ⟨#[]⟩) := hz.cell 4
    have zf4 : W.frozen? ⟨Z, 4, none⟩ = false := hz.frozen 4
    have z5 : W.cell? ⟨Z, 5, none⟩ = some (.slice none 0 0) := hz.cell 5
    have zf5 : W.frozen? ⟨Z, 5, none⟩ = false := hz.frozen 5
    have z6 : W.cell? ⟨Z, 6, none⟩ = some (.slice none 0 0) := hz.cell 6
    have zf6 : W.frozen? ⟨Z, 6, none⟩ = false := hz.frozen 6
    have z7 : W.cell? ⟨Z, 7, none⟩ = some (.string ⟨#[]⟩) := hz.cell 7
    have zf7 : W.frozen? ⟨Z, 7, none⟩ = false := hz.frozen 7
    have z8 : W.cell? ⟨Z, 8, none⟩ = some (.bool false) := hz.cell 8
    have zf8 : W.frozen? ⟨Z, 8, none⟩ = false := hz.frozen 8
    have bk0 : Blk (((W.setCell ⟨O, 4, none⟩ (.string t1)).setCell ⟨O, 7, none⟩ (.string (bs l2))).setCell ⟨O, 8, none⟩ (.bool false)) Z #[.int .i64 0, .int .i64 0, .string ⟨#[]⟩, .slice none 0 0, .string ⟨#[]⟩, .slice none 0 0, .slice none 0 0, .string ⟨#[]⟩, .bool false] 72 := (Blk.away (Blk.away (Blk.away hz hZO _) hZO _) hZO _)
    have bk1 : Blk ((((W.setCell ⟨O, 4, none⟩ (.string t1)).setCell ⟨O, 7, none⟩ (.string (bs l2))).setCell ⟨O, 8, none⟩ (.bool false)).setCell ⟨Z, 0, none⟩ (.int .i64 3)) Z #[.int .i64 3, .int .i64 0, .string ⟨#[]⟩, .slice none 0 0, .string ⟨#[]⟩, .slice none 0 0, .slice none 0 0, .string ⟨#[]⟩, .bool false] 72 := Blk.set (vs := #[.int .i64 0, .int .i64 0, .string ⟨#[]⟩, .slice none 0 0, .string ⟨#[]⟩, .slice none 0 0, .slice none 0 0, .string ⟨#[]⟩, .bool false]) bk0 0 (by simp) _
    have r0 : ((((W.setCell ⟨O, 4, none⟩ (.string t1)).setCell ⟨O, 7, none⟩ (.string (bs l2))).setCell ⟨O, 8, none⟩ (.bool false)).setCell ⟨Z, 0, none⟩ (.int .i64 3)).cell? ⟨Z, 0, none⟩ = some (.int .i64 3) := bk1.cell 0
    have bk2 : Blk (((((W.setCell ⟨O, 4, none⟩ (.string t1)).setCell ⟨O, 7, none⟩ (.string (bs l2))).setCell ⟨O, 8, none⟩ (.bool false)).setCell ⟨Z, 0, none⟩ (.int .i64 3)).setCell ⟨Z, 1, none⟩ (.int .i64 0)) Z #[.int .i64 3, .int .i64 0, .string ⟨#[]⟩, .slice none 0 0, .string ⟨#[]⟩, .slice none 0 0, .slice none 0 0, .string ⟨#[]⟩, .bool false] 72 := Blk.set (vs := #[.int .i64 3, .int .i64 0, .string ⟨#[]⟩, .slice none 0 0, .string ⟨#[]⟩, .slice none 0 0, .slice none 0 0, .string ⟨#[]⟩, .bool false]) bk1 1 (by simp) _
    have r1 : (((((W.setCell ⟨O, 4, none⟩ (.string t1)).setCell ⟨O, 7, none⟩ (.string (bs l2))).setCell ⟨O, 8, none⟩ (.bool false)).setCell ⟨Z, 0, none⟩ (.int .i64 3)).setCell ⟨Z, 1, none⟩ (.int .i64 0)).cell? ⟨Z, 1, none⟩ = some (.int .i64 0) := bk2.cell 1
    have bk3 : Blk ((((((W.setCell ⟨O, 4, none⟩ (.string t1)).setCell ⟨O, 7, none⟩ (.string (bs l2))).setCell ⟨O, 8, none⟩ (.bool false)).setCell ⟨Z, 0, none⟩ (.int .i64 3)).setCell ⟨Z, 1, none⟩ (.int .i64 0)).setCell ⟨Z, 2, none⟩ (.string ⟨#[]⟩)) Z #[.int .i64 3, .int .i64 0, .string ⟨#[]⟩, .slice none 0 0, .string ⟨#[]⟩, .slice none 0 0, .slice none 0 0, .string ⟨#[]⟩, .bool false] 72 := Blk.set (vs := #[.int .i64 3, .int .i64 0, .string ⟨#[]⟩, .slice none 0 0, .string ⟨#[]⟩, .slice none 0 0, .slice none 0 0, .string ⟨#[]⟩, .bool false]) bk2 2 (by simp) _
    have r2 : ((((((W.setCell ⟨O, 4, none⟩ (.string t1)).setCell ⟨O, 7, none⟩ (.string (bs l2))).setCell ⟨O, 8, none⟩ (.bool false)).setCell ⟨Z, 0, none⟩ (.int .i64 3)).setCell ⟨Z, 1, none⟩ (.int .i64 0)).setCell ⟨Z, 2, none⟩ (.string ⟨#[]⟩)).cell? ⟨Z, 2, none⟩ = some (.string ⟨#[]⟩) := bk3.cell 2
    have bk4 : Blk (((((((W.setCell ⟨O, 4, none⟩ (.string t1)).setCell ⟨O, 7, none⟩ (.string (bs l2))).setCell ⟨O, 8, none⟩ (.bool false)).setCell ⟨Z, 0, none⟩ (.int .i64 3)).setCell ⟨Z, 1, none⟩ (.int .i64 0)).setCell ⟨Z, 2, none⟩ (.string ⟨#[]⟩)).setCell ⟨Z, 3, none⟩ (.slice none 0 0)) Z #[.int .i64 3, .int .i64 0, .string ⟨#[]⟩, .slice none 0 0, .string ⟨#[]⟩, .slice none 0 0, .slice none 0 0, .string ⟨#[]⟩, .bool false] 72 := Blk.set (vs := #[.int .i64 3, .int .i64 0, .string ⟨#[]⟩, .slice none 0 0, .string ⟨#[]⟩, .slice none 0 0, .slice none 0 0, .string ⟨#[]⟩, .bool false]) bk3 3 (by simp) _
    have r3 : (((((((W.setCell ⟨O, 4, none⟩ (.string t1)).setCell ⟨O, 7, none⟩ (.string (bs l2))).setCell ⟨O, 8, none⟩ (.bool false)).setCell ⟨Z, 0, none⟩ (.int .i64 3)).setCell ⟨Z, 1, none⟩ (.int .i64 0)).setCell ⟨Z, 2, none⟩ (.string ⟨#[]⟩)).setCell ⟨Z, 3, none⟩ (.slice none 0 0)).cell? ⟨Z, 3, none⟩ = some (.slice none 0 0) := bk4.cell 3
    have bk5 : Blk ((((((((W.setCell ⟨O, 4, none⟩ (.string t1)).setCell ⟨O, 7, none⟩ (.string (bs l2))).setCell ⟨O, 8, none⟩ (.bool false)).setCell ⟨Z, 0, none⟩ (.int .i64 3)).setCell ⟨Z, 1, none⟩ (.int .i64 0)).setCell ⟨Z, 2, none⟩ (.string ⟨#[]⟩)).setCell ⟨Z, 3, none⟩ (.slice none 0 0)).setCell ⟨Z, 4, none⟩ (.string t1)) Z #[.int .i64 3, .int .i64 0, .string ⟨#[]⟩, .slice none 0 0, .string t1, .slice none 0 0, .slice none 0 0, .string ⟨#[]⟩, .bool false] 72 := Blk.set (vs := #[.int .i64 3, .int .i64 0, .string ⟨#[]⟩, .slice none 0 0, .string ⟨#[]⟩, .slice none 0 0, .slice none 0 0, .string ⟨#[]⟩, .bool false]) bk4 4 (by simp) _
    have r4 : ((((((((W.setCell ⟨O, 4, none⟩ (.string t1)).setCell ⟨O, 7, none⟩ (.string (bs l2))).setCell ⟨O, 8, none⟩ (.bool false)).setCell ⟨Z, 0, none⟩ (.int .i64 3)).setCell ⟨Z, 1, none⟩ (.int .i64 0)).setCell ⟨Z, 2, none⟩ (.string ⟨#[]⟩)).setCell ⟨Z, 3, none⟩ (.slice none 0 0)).setCell ⟨Z, 4, none⟩ (.string t1)).cell? ⟨Z, 4, none⟩ = some (.string t1) := bk5.cell 4
    have bk6 : Blk (((((((((W.setCell ⟨O, 4, none⟩ (.string t1)).setCell ⟨O, 7, none⟩ (.string (bs l2))).setCell ⟨O, 8, none⟩ (.bool false)).setCell ⟨Z, 0, none⟩ (.int .i64 3)).setCell ⟨Z, 1, none⟩ (.int .i64 0)).setCell ⟨Z, 2, none⟩ (.string ⟨#[]⟩)).setCell ⟨Z, 3, none⟩ (.slice none 0 0)).setCell ⟨Z, 4, none⟩ (.string t1)).setCell ⟨Z, 5, none⟩ (.slice none 0 0)) Z #[.int .i64 3, .int .i64 0, .string ⟨#[]⟩, .slice none 0 0, .string t1, .slice none 0 0, .slice none 0 0, .string ⟨#[]⟩, .bool false] 72 := Blk.set (vs := #[.int .i64 3, .int .i64 0, .string ⟨#[]⟩, .slice none 0 0, .string t1, .slice none 0 0, .slice none 0 0, .string ⟨#[]⟩, .bool false]) bk5 5 (by simp) _
    have r5 : (((((((((W.setCell ⟨O, 4, none⟩ (.string t1)).setCell ⟨O, 7, none⟩ (.string (bs l2))).setCell ⟨O, 8, none⟩ (.bool false)).setCell ⟨Z, 0, none⟩ (.int .i64 3)).setCell ⟨Z, 1, none⟩ (.int .i64 0)).setCell ⟨Z, 2, none⟩ (.string ⟨#[]⟩)).setCell ⟨Z, 3, none⟩ (.slice none 0 0)).setCell ⟨Z, 4, none⟩ (.string t1)).setCell ⟨Z, 5, none⟩ (.slice none 0 0)).cell? ⟨Z, 5, none⟩ = some (.slice none 0 0) := bk6.cell 5
    have bk7 : Blk ((((((((((W.setCell ⟨O, 4, none⟩ (.string t1)).setCell ⟨O, 7, none⟩ (.string (bs l2))).setCell ⟨O, 8, none⟩ (.bool false)).setCell ⟨Z, 0, none⟩ (.int .i64 3)).setCell ⟨Z, 1, none⟩ (.int .i64 0)).setCell ⟨Z, 2, none⟩ (.string ⟨#[]⟩)).setCell ⟨Z, 3, none⟩ (.slice none 0 0)).setCell ⟨Z, 4, none⟩ (.string t1)).setCell ⟨Z, 5, none⟩ (.slice none 0 0)).setCell ⟨Z, 6, none⟩ (.slice none 0 0)) Z #[.int .i64 3, .int .i64 0, .string ⟨#[]⟩, .slice none 0 0, .string t1, .slice none 0 0, .slice none 0 0, .string ⟨#[]⟩, .bool false] 72 := Blk.set (vs := #[.int .i64 3, .int .i64 0, .string ⟨#[]⟩, .slice none 0 0, .string t1, .slice none 0 0, .slice none 0 0, .string ⟨#[]⟩, .bool false]) bk6 6 (by simp) _
    have r6 : ((((((((((W.setCell ⟨O, 4, none⟩ (.string t1)).setCell ⟨O, 7, none⟩ (.string (bs l2))).setCell ⟨O, 8, none⟩ (.bool false)).setCell ⟨Z, 0, none⟩ (.int .i64 3)).setCell ⟨Z, 1, none⟩ (.int .i64 0)).setCell ⟨Z, 2, none⟩ (.string ⟨#[]⟩)).setCell ⟨Z, 3, none⟩ (.slice none 0 0)).setCell ⟨Z, 4, none⟩ (.string t1)).setCell ⟨Z, 5, none⟩ (.slice none 0 0)).setCell ⟨Z, 6, none⟩ (.slice none 0 0)).cell? ⟨Z, 6, none⟩ = some (.slice none 0 0) := bk7.cell 6
    have bk8 : Blk (((((((((((W.setCell ⟨O, 4, none⟩ (.string t1)).setCell ⟨O, 7, none⟩ (.string (bs l2))).setCell ⟨O, 8, none⟩ (.bool false)).setCell ⟨Z, 0, none⟩ (.int .i64 3)).setCell ⟨Z, 1, none⟩ (.int .i64 0)).setCell ⟨Z, 2, none⟩ (.string ⟨#[]⟩)).setCell ⟨Z, 3, none⟩ (.slice none 0 0)).setCell ⟨Z, 4, none⟩ (.string t1)).setCell ⟨Z, 5, none⟩ (.slice none 0 0)).setCell ⟨Z, 6, none⟩ (.slice none 0 0)).setCell ⟨Z, 7, none⟩ (.string (bs l2))) Z #[.int .i64 3, .int .i64 0, .string ⟨#[]⟩, .slice none 0 0, .string t1, .slice none 0 0, .slice none 0 0, .string (bs l2), .bool false] 72 := Blk.set (vs := #[.int .i64 3, .int .i64 0, .string ⟨#[]⟩, .slice none 0 0, .string t1, .slice none 0 0, .slice none 0 0, .string ⟨#[]⟩, .bool false]) bk7 7 (by simp) _
    have r7 : (((((((((((W.setCell ⟨O, 4, none⟩ (.string t1)).setCell ⟨O, 7, none⟩ (.string (bs l2))).setCell ⟨O, 8, none⟩ (.bool false)).setCell ⟨Z, 0, none⟩ (.int .i64 3)).setCell ⟨Z, 1, none⟩ (.int .i64 0)).setCell ⟨Z, 2, none⟩ (.string ⟨#[]⟩)).setCell ⟨Z, 3, none⟩ (.slice none 0 0)).setCell ⟨Z, 4, none⟩ (.string t1)).setCell ⟨Z, 5, none⟩ (.slice none 0 0)).setCell ⟨Z, 6, none⟩ (.slice none 0 0)).setCell ⟨Z, 7, none⟩ (.string (bs l2))).cell? ⟨Z, 7, none⟩ = some (.string (bs l2)) := bk8.cell 7
    have bk9 : Blk ((((((((((((W.setCell ⟨O, 4, none⟩ (.string t1)).setCell ⟨O, 7, none⟩ (.string (bs l2))).setCell ⟨O, 8, none⟩ (.bool false)).setCell ⟨Z, 0, none⟩ (.int .i64 3)).setCell ⟨Z, 1, none⟩ (.int .i64 0)).setCell ⟨Z, 2, none⟩ (.string ⟨#[]⟩)).setCell ⟨Z, 3, none⟩ (.slice none 0 0)).setCell ⟨Z, 4, none⟩ (.string t1)).setCell ⟨Z, 5, none⟩ (.slice none 0 0)).setCell ⟨Z, 6, none⟩ (.slice none 0 0)).setCell ⟨Z, 7, none⟩ (.string (bs l2))).setCell ⟨Z, 8, none⟩ (.bool false)) Z #[.int .i64 3, .int .i64 0, .string ⟨#[]⟩, .slice none 0 0, .string t1, .slice none 0 0, .slice none 0 0, .string (bs l2), .bool false] 72 := Blk.set (vs := #[.int .i64 3, .int .i64 0, .string ⟨#[]⟩, .slice none 0 0, .string t1, .slice none 0 0, .slice none 0 0, .string (bs l2), .bool false]) bk8 8 (by simp) _
    have r8 : ((((((((((((W.setCell ⟨O, 4, none⟩ (.string t1)).setCell ⟨O, 7, none⟩ (.string (bs l2))).setCell ⟨O, 8, none⟩ (.bool false)).setCell ⟨Z, 0, none⟩ (.int .i64 3)).setCell ⟨Z, 1, none⟩ (.int .i64 0)).setCell ⟨Z, 2, none⟩ (.string ⟨#[]⟩)).setCell ⟨Z, 3, none⟩ (.slice none 0 0)).setCell ⟨Z, 4, none⟩ (.string t1)).setCell ⟨Z, 5, none⟩ (.slice none 0 0)).setCell ⟨Z, 6, none⟩ (.slice none 0 0)).setCell ⟨Z, 7, none⟩ (.string (bs l2))).setCell ⟨Z, 8, none⟩ (.bool false)).cell? ⟨Z, 8, none⟩ = some (.bool false) := bk9.cell 8
    have HRS := hide (And.intro r0 (And.intro r1 (And.intro r2 (And.intro r3 (And.intro r4 (And.intro r5 (And.intro r6 (And.intro r7 r8))))))))
    have HE : Hid (OneSaid w (some (⟨3, 0, ⟨#[]⟩, [], t1, .nil⟩, l2)) (.returned (.agg #[.int .i64 3, .int .i64 0, .string ⟨#[]⟩, .slice none 0 0, .string t1, .slice none 0 0, .slice none 0 0, .string (bs l2), .bool false])) ((((((((((((W.setCell ⟨O, 4, none⟩ (.string t1)).setCell ⟨O, 7, none⟩ (.string (bs l2))).setCell ⟨O, 8, none⟩ (.bool false)).setCell ⟨Z, 0, none⟩ (.int .i64 3)).setCell ⟨Z, 1, none⟩ (.int .i64 0)).setCell ⟨Z, 2, none⟩ (.string ⟨#[]⟩)).setCell ⟨Z, 3, none⟩ (.slice none 0 0)).setCell ⟨Z, 4, none⟩ (.string t1)).setCell ⟨Z, 5, none⟩ (.slice none 0 0)).setCell ⟨Z, 6, none⟩ (.slice none 0 0)).setCell ⟨Z, 7, none⟩ (.string (bs l2))).setCell ⟨Z, 8, none⟩ (.bool false))) := hide ⟨3, 0, ⟨#[]⟩, none, 0, 0, t1, none, 0, 0, bs l2, false, rfl, (((((((((((((unhide HBW).setCell (p := ⟨O, 4, none⟩) (unhide HZO).2 (.string t1)).setCell (p := ⟨O, 7, none⟩) (unhide HZO).2 (.string (bs l2))).setCell (p := ⟨O, 8, none⟩) (unhide HZO).2 (.bool false)).setCell (p := ⟨Z, 0, none⟩) (Nat.le_of_eq (unhide HZO).1) (.int .i64 3)).setCell (p := ⟨Z, 1, none⟩) (Nat.le_of_eq (unhide HZO).1) (.int .i64 0)).setCell (p := ⟨Z, 2, none⟩) (Nat.le_of_eq (unhide HZO).1) (.string ⟨#[]⟩)).setCell (p := ⟨Z, 3, none⟩) (Nat.le_of_eq (unhide HZO).1) (.slice none 0 0)).setCell (p := ⟨Z, 4, none⟩) (Nat.le_of_eq (unhide HZO).1) (.string t1)).setCell (p := ⟨Z, 5, none⟩) (Nat.le_of_eq (unhide HZO).1) (.slice none 0 0)).setCell (p := ⟨Z, 6, none⟩) (Nat.le_of_eq (unhide HZO).1) (.slice none 0 0)).setCell (p := ⟨Z, 7, none⟩) (Nat.le_of_eq (unhide HZO).1) (.string (bs l2))).setCell (p := ⟨Z, 8, none⟩) (Nat.le_of_eq (unhide HZO).1) (.bool false)), rfl, rfl, rfl, rfl, rfl, rfl, rfl, Nat.le_refl _, rfl, .inl rfl, .inl rfl⟩
    clear bk0 bk1 bk2 bk3 bk4 bk5 bk6 bk7 bk8 bk9 r0 r1 r2 r3 r4 r5 r6 r7 r8 hz ho 
    go_wp2
    obtain ⟨r0, r1, r2, r3, r4, r5, r6, r7, r8⟩ := unhide HRS
    refine bodyPost_ret (v := .agg #[.int .i64 3, .int .i64 0, .string ⟨#[]⟩, .slice none 0 0, .string t1, .slice none 0 0, .slice none 0 0, .string (bs l2), .bool false]) (by simp [results, Tryd.results69, go_sem, r0, r1, r2, r3, r4, r5, r6, r7, r8]) rfl ?_
    exact unhide HE
set_option maxHeartbeats 4000000 in
set_option maxRecDepth 100000 in
theorem one_leafB (b : ByteArray) (dd : Int) (w : World) (k : Int) (l1 l2 : List UInt8) (t1 : ByteArray) (hk : k = 2 ∨ k = 3)
    (CN : Hid (Calls Tryd.prog 68 #[.string b] (w.alloc (Obj.cells #[.int .i64 0, .int .i64 0, .string ⟨#[]⟩, .slice none 0 0, .string ⟨#[]⟩, .slice none 0 0, .slice none 0 0, .string ⟨#[]⟩, .bool false] 72)) fun e w' => e = .returned (.agg #[.int .i64 k, .string ⟨#[]⟩, .slice none 0 0, .string (bs l1), .int .i64 0]) ∧ Below (w.alloc (Obj.cells #[.int .i64 0, .int .i64 0, .string ⟨#[]⟩, .slice none 0 0, .string ⟨#[]⟩, .slice none 0 0, .slice none 0 0, .string ⟨#[]⟩, .bool false] 72)).heap.size (w.alloc (Obj.cells #[.int .i64 0, .int .i64 0, .string ⟨#[]⟩, .slice none 0 0, .string ⟨#[]⟩, .slice none 0 0, .slice none 0 0, .string ⟨#[]⟩, .bool false] 72)) w'))
    (CT : Hid (∀ W, Calls Tryd.prog 88 #[.string (bs l1)] W fun e w' => e = .returned (.agg #[.int .i64 0, .string t1, .slice none 0 0, .string (bs l2), .int .i64 4]) ∧ Below W.heap.size W w')) :
    Calls Tryd.prog 69 #[.string b, .int .i64 dd] w (OneSaid w none) := by
  have HZ0 : Hid (Blk (w.alloc (Obj.cells #[.int .i64 0, .int .i64 0, .string ⟨#[]⟩, .slice none 0 0, .string ⟨#[]⟩, .slice none 0 0, .slice none 0 0, .string ⟨#[]⟩, .bool false] 72)) w.heap.size #[.int .i64 0, .int .i64 0, .string ⟨#[]⟩, .slice none 0 0, .string ⟨#[]⟩, .slice none 0 0, .slice none 0 0, .string ⟨#[]⟩, .bool false] 72 ∧ Below w.heap.size w (w.alloc (Obj.cells #[.int .i64 0, .int .i64 0, .string ⟨#[]⟩, .slice none 0 0, .string ⟨#[]⟩, .slice none 0 0, .slice none 0 0, .string ⟨#[]⟩, .bool false] 72)) ∧ (w.alloc (Obj.cells #[.int .i64 0, .int .i64 0, .string ⟨#[]⟩, .slice none 0 0, .string ⟨#[]⟩, .slice none 0 0, .slice none 0 0, .string ⟨#[]⟩, .bool false] 72)).heap.size = w.heap.size + 1) := hide ⟨Blk.new w _ _, (Below.refl _ _).alloc (Nat.le_refl _) _, by simp⟩
  rcases hk with rfl | rfl
  · skip
    go_enter Tryd.func69, Tryd.ntmps69
    go_wp2_with fail
    refine (unhide CN).mono ?_
    rintro e w1 ⟨rfl, hb1⟩
    have hz1 : Blk w1 w.heap.size #[.int .i64 0, .int .i64 0, .string ⟨#[]⟩, .slice none 0 0, .string ⟨#[]⟩, .slice none 0 0, .slice none 0 0, .string ⟨#[]⟩, .bool false] 72 := Blk.later (unhide HZ0).1 hb1
    have hw1 : w.heap.size < w1.heap.size := by have h2 := hb1.size; have h3 := (unhide HZ0).2.2; omega
    have hB1 : Below w.heap.size w w1 := tr2 (unhide HZ0).2.1 hb1
    have hA1 : Below w1.heap.size w1 ((w1.alloc (Obj.cells #[.int .i64 2, .string ⟨#[]⟩, .slice none 0 0, .string (bs l1), .int .i64 0] 96)).alloc (Obj.cells #[.int .i64 2, .int .i64 0, .string ⟨#[]⟩, .slice none 0 0, .string ⟨#[]⟩, .slice none 0 0, .slice none 0 0, .string ⟨#[]⟩, .bool false] 72)) := ((Below.refl _ _).alloc (Nat.le_refl _) _).alloc (by simp) _
    have hz2 := Blk.later hz1 hA1
    have ho2 : Blk ((w1.alloc (Obj.cells #[.int .i64 2, .string ⟨#[]⟩, .slice none 0 0, .string (bs l1), .int .i64 0] 96)).alloc (Obj.cells #[.int .i64 2, .int .i64 0, .string ⟨#[]⟩, .slice none 0 0, .string ⟨#[]⟩, .slice none 0 0, .slice none 0 0, .string ⟨#[]⟩, .bool false] 72)) (w1.heap.size + 1) #[.int .i64 2, .int .i64 0, .string ⟨#[]⟩, .slice none 0 0, .string ⟨#[]⟩, .slice none 0 0, .slice none 0 0, .string ⟨#[]⟩, .bool false] 72 := by
      have := Blk.new (w1.alloc (Obj.cells #[.int .i64 2, .string ⟨#[]⟩, .slice none 0 0, .string (bs l1), .int .i64 0] 96)) #[.int .i64 2, .int .i64 0, .string ⟨#[]⟩, .slice none 0 0, .string ⟨#[]⟩, .slice none 0 0, .slice none 0 0, .string ⟨#[]⟩, .bool false] 72
      simpa using this
    have HY := hide (And.intro hz2 (And.intro ho2 (tr2 hB1 hA1)))
    clear CN hz1 hz2 ho2 hA1 hb1 hB1 HZ0
    go_wp2_with fail
    refine (unhide CT _).mono ?_
    rintro e w2 ⟨rfl, hb2⟩
    go_upto_region 7 with fail
    obtain ⟨W, hW⟩ : ∃ W, w2.alloc (Obj.cells #[.int .i64 0, .string t1, .slice none 0 0, .string (bs l2), .int .i64 4] 96) = W := ⟨_, rfl⟩
    have hAA : Below w2.heap.size w2 W := by rw [← hW]; exact (Below.refl _ _).alloc (Nat.le_refl _) _
    have hz : Blk W w.heap.size #[.int .i64 0, .int .i64 0, .string ⟨#[]⟩, .slice none 0 0, .string ⟨#[]⟩, .slice none 0 0, .slice none 0 0, .string ⟨#[]⟩, .bool false] 72 := Blk.later (Blk.later (unhide HY).1 hb2) hAA
    have ho : Blk W (w1.heap.size + 1) #[.int .i64 2, .int .i64 0, .string ⟨#[]⟩, .slice none 0 0, .string ⟨#[]⟩, .slice none 0 0, .slice none 0 0, .string ⟨#[]⟩, .bool false] 72 := Blk.later (Blk.later (unhide HY).2.1 hb2) hAA
    have HBW : Hid (Below w.heap.size w W) := hide (tr2 (tr2 (unhide HY).2.2 hb2) hAA)
    have hT : Blk W w2.heap.size #[.int .i64 0, .string t1, .slice none 0 0, .string (bs l2), .int .i64 4] 96 := by rw [← hW]; exact Blk.new _ _ _
    have t1' : W.cell? ⟨w2.heap.size, 1, none⟩ = some (.string t1) := hT.cell 1
    have t3' : W.cell? ⟨w2.heap.size, 3, none⟩ = some (.string (bs l2)) := hT.cell 3
    have t4' : W.cell? ⟨w2.heap.size, 4, none⟩ = some (.int .i64 4) := hT.cell 4
    have hlt2 : w1.heap.size + 1 < w2.heap.size := by
      have h5 := (Blk.later (unhide HY).2.1 hb2).lt
      exact h5
    simp only [hW]
    obtain ⟨Z, hZ⟩ : ∃ Z, w.heap.size = Z := ⟨_, rfl⟩
    obtain ⟨O, hO⟩ : ∃ O, w1.heap.size + 1 = O := ⟨_, rfl⟩
    obtain ⟨Q, hQ⟩ : ∃ Q, w2.heap.size = Q := ⟨_, rfl⟩
    have HZO : Hid (w.heap.size = Z ∧ w.heap.size ≤ O) := hide ⟨hZ, by omega⟩
    have hZO : Z ≠ O := by omega
    have hOZ : O ≠ Z := by omega
    have hOQ : O ≠ Q := by omega
    have hQO : Q ≠ O := by omega
    rw [hZ] at hz
    rw [hO] at ho
    rw [hQ] at t1' t3' t4'
    simp only [hZ, hO, hQ]
    clear hW hAA hw1 hb2 HY CT hZ hO hQ hT hlt2
    have o0 : W.cell? ⟨O, 0, none⟩ = some (.int .i64 2) := ho.cell 0
    have o1 : W.cell? ⟨O, 1, none⟩ = some (.int .i64 0) := ho.cell 1
    have o2 : W.cell? ⟨O, 2, none⟩ = some (.string ⟨#[]⟩) := ho.cell 2
    have o3 : W.cell? ⟨O, 3, none⟩ = some (.slice none 0 0) := ho.cell 3
    have o4 : W.cell? ⟨O, 4, none⟩ = some (.string ⟨#[]⟩) := ho.cell 4
    have o5 : W.cell? ⟨O, 5, none⟩ = some (.slice none 0 0) := ho.cell 5
    have o6 : W.cell? ⟨O, 6, none⟩ = some (.slice none 0 0) := ho.cell 6
    have o7 : W.cell? ⟨O, 7, none⟩ = some (.string ⟨#[]⟩) := ho.cell 7
    have o8 : W.cell? ⟨O, 8, none⟩ = some (.bool false) := ho.cell 8
    have of4 : W.frozen? ⟨O, 4, none⟩ = false := ho.frozen 4
    have of7 : W.frozen? ⟨O, 7, none⟩ = false := ho.frozen 7
    have of8 : W.frozen? ⟨O, 8, none⟩ = false := ho.frozen 8
    have z0 : W.cell? ⟨Z, 0, none⟩ = some (.int .i64 0) := hz.cell 0
    have zf0 : W.frozen? ⟨Z, 0, none⟩ = false := hz.frozen 0
    have z1 : W.cell? ⟨Z, 1, none⟩ = some (.int .i64 0) := hz.cell 1
    have zf1 : W.frozen? ⟨Z, 1, none⟩ = false := hz.frozen 1
    have z2 : W.cell? ⟨Z, 2, none⟩ = some (.string ⟨#[]⟩) := hz.cell 2
    have zf2 : W.frozen? ⟨Z, 2, none⟩ = false := hz.frozen 2
    have z3 : W.cell? ⟨Z, 3, none⟩ = some (.slice none 0 0) := hz.cell 3
    have zf3 : W.frozen? ⟨Z, 3, none⟩ = false := hz.frozen 3
    have z4 : W.cell? ⟨Z, 4, none⟩ = some (.string ⟨#[]⟩) := hz.cell 4
    have zf4 : W.frozen? ⟨Z, 4, none⟩ = false := hz.frozen 4
    have z5 : W.cell? ⟨Z, 5, none⟩ = some (.slice none 0 0) := hz.cell 5
    have zf5 : W.frozen? ⟨Z, 5, none⟩ = false := hz.frozen 5
    have z6 : W.cell? ⟨Z, 6, none⟩ = some (.slice none 0 0) := hz.cell 6
    have zf6 : W.frozen? ⟨Z, 6, none⟩ = false := hz.frozen 6
    have z7 : W.cell? ⟨Z, 7, none⟩ = some (.string ⟨#[]⟩) := hz.cell 7
    have zf7 : W.frozen? ⟨Z, 7, none⟩ = false := hz.frozen 7
    have z8 : W.cell? ⟨Z, 8, none⟩ = some (.bool false) := hz.cell 8
    have zf8 : W.frozen? ⟨Z, 8, none⟩ = false := hz.frozen 8
    have bk0 : Blk (((W.setCell ⟨O, 4, none⟩ (.string t1)).setCell ⟨O, 7, none⟩ (.string (bs l2))).setCell ⟨O, 8, none⟩ (.bool true)) Z #[.int .i64 0, .int .i64 0, .string ⟨#[]⟩, .slice none 0 0, .string ⟨#[]⟩, .slice none 0 0, .slice none 0 0, .string ⟨#[]⟩, .bool false] 72 := (Blk.away (Blk.away (Blk.away hz hZO _) hZO _) hZO _)
    have bk1 : Blk ((((W.setCell ⟨O, 4, none⟩ (.string t1)).setCell ⟨O, 7, none⟩ (.string (bs l2))).setCell ⟨O, 8, none⟩ (.bool true)).setCell ⟨Z, 0, none⟩ (.int .i64 2)) Z #[.int .i64 2, .int .i64 0, .string ⟨#[]⟩, .slice none 0 0, .string ⟨#[]⟩, .slice none 0 0, .slice none 0 0, .string ⟨#[]⟩, .bool false] 72 := Blk.set (vs := #[.int .i64 0, .int .i64 0, .string ⟨#[]⟩, .slice none 0 0, .string ⟨#[]⟩, .slice none 0 0, .slice none 0 0, .string ⟨#[]⟩, .bool false]) bk0 0 (by simp) _
    have r0 : ((((W.setCell ⟨O, 4, none⟩ (.string t1)).setCell ⟨O, 7, none⟩ (.string (bs l2))).setCell ⟨O, 8, none⟩ (.bool true)).setCell ⟨Z, 0, none⟩ (.int .i64 2)).cell? ⟨Z, 0, none⟩ = some (.int .i64 2) := bk1.cell 0
    have bk2 : Blk (((((W.setCell ⟨O, 4, none⟩ (.string t1)).setCell ⟨O, 7, none⟩ (.string (bs l2))).setCell ⟨O, 8, none⟩ (.bool true)).setCell ⟨Z, 0, none⟩ (.int .i64 2)).setCell ⟨Z, 1, none⟩ (.int .i64 0)) Z #[.int .i64 2, .int .i64 0, .string ⟨#[]⟩, .slice none 0 0, .string ⟨#[]⟩, .slice none 0 0, .slice none 0 0, .string ⟨#[]⟩, .bool false] 72 := Blk.set (vs := #[.int .i64 2, .int .i64 0, .string ⟨#[]⟩, .slice none 0 0, .string ⟨#[]⟩, .slice none 0 0, .slice none 0 0, .string ⟨#[]⟩, .bool false]) bk1 1 (by simp) _
    have r1 : (((((W.setCell ⟨O, 4, none⟩ (.string t1)).setCell ⟨O, 7, none⟩ (.string (bs l2))).setCell ⟨O, 8, none⟩ (.bool true)).setCell ⟨Z, 0, none⟩ (.int .i64 2)).setCell ⟨Z, 1, none⟩ (.int .i64 0)).cell? ⟨Z, 1, none⟩ = some (.int .i64 0) := bk2.cell 1
    have bk3 : Blk ((((((W.setCell ⟨O, 4, none⟩ (.string t1)).setCell ⟨O, 7, none⟩ (.string (bs l2))).setCell ⟨O, 8, none⟩ (.bool true)).setCell ⟨Z, 0, none⟩ (.int .i64 2)).setCell ⟨Z, 1, none⟩ (.int .i64 0)).setCell ⟨Z, 2, none⟩ (.string ⟨#[]⟩)) Z #[.int .i64 2, .int .i64 0, .string ⟨#[]⟩, .slice none 0 0, .string ⟨#[]⟩, .slice none 0 0, .slice none 0 0, .string ⟨#[]⟩, .bool false] 72 := Blk.set (vs := #[.int .i64 2, .int .i64 0, .string ⟨#[]⟩, .slice none 0 0, .string ⟨#[]⟩, .slice none 0 0, .slice none 0 0, .string ⟨#[]⟩, .bool false]) bk2 2 (by simp) _
    have r2 : ((((((W.setCell ⟨O, 4, none⟩ (.string t1)).setCell ⟨O, 7, none⟩ (.string (bs l2))).setCell ⟨O, 8, none⟩ (.bool true)).setCell ⟨Z, 0, none⟩ (.int .i64 2)).setCell ⟨Z, 1, none⟩ (.int .i64 0)).setCell ⟨Z, 2, none⟩ (.string ⟨#[]⟩)).cell? ⟨Z, 2, none⟩ = some (.string ⟨#[]⟩) := bk3.cell 2
    have bk4 : Blk (((((((W.setCell ⟨O, 4, none⟩ (.string t1)).setCell ⟨O, 7, none⟩ (.string (bs l2))).setCell ⟨O, 8, none⟩ (.bool true)).setCell ⟨Z, 0, none⟩ (.int .i64 2)).setCell ⟨Z, 1, none⟩ (.int .i64 0)).setCell ⟨Z, 2, none⟩ (.string ⟨#[]⟩)).setCell ⟨Z, 3, none⟩ (.slice none 0 0)) Z #[.int .i64 2, .int .i64 0, .string ⟨#[]⟩, .slice none 0 0, .string ⟨#[]⟩, .slice none 0 0, .slice none 0 0, .string ⟨#[]⟩, .bool false] 72 := Blk.set (vs := #[.int .i64 2, .int .i64 0, .string ⟨#[]⟩, .slice none 0 0, .string ⟨#[]⟩, .slice none 0 0, .slice none 0 0, .string ⟨#[]⟩, .bool false]) bk3 3 (by simp) _
    have r3 : (((((((W.setCell ⟨O, 4, none⟩ (.string t1)).setCell ⟨O, 7, none⟩ (.string (bs l2))).setCell ⟨O, 8, none⟩ (.bool true)).setCell ⟨Z, 0, none⟩ (.int .i64 2)).setCell ⟨Z, 1, none⟩ (.int .i64 0)).setCell ⟨Z, 2, none⟩ (.string ⟨#[]⟩)).setCell ⟨Z, 3, none⟩ (.slice none 0 0)).cell? ⟨Z, 3, none⟩ = some (.slice none 0 0) := bk4.cell 3
    have bk5 : Blk ((((((((W.setCell ⟨O, 4, none⟩ (.string t1)).setCell ⟨O, 7, none⟩ (.string (bs l2))).setCell ⟨O, 8, none⟩ (.bool true)).setCell ⟨Z, 0, none⟩ (.int .i64 2)).setCell ⟨Z, 1, none⟩ (.int .i64 0)).setCell ⟨Z, 2, none⟩ (.string ⟨#[]⟩)).setCell ⟨Z, 3, none⟩ (.slice none 0 0)).setCell ⟨Z, 4, none⟩ (.string t1)) Z #[.int .i64 2, .int .i64 0, .string ⟨#[]⟩, .slice none 0 0, .string t1, .slice none 0 0, .slice none 0 0, .string ⟨#[]⟩, .bool false] 72 := Blk.set (vs := #[.int .i64 2, .int .i64 0, .string ⟨#[]⟩, .slice none 0 0, .string ⟨#[]⟩, .slice none 0 0, .slice none 0 0, .string ⟨#[]⟩, .bool false]) bk4 4 (by simp) _
    have r4 : ((((((((W.setCell ⟨O, 4, none⟩ (.string t1)).setCell ⟨O, 7, none⟩ (.string (bs l2))).setCell ⟨O, 8, none⟩ (.bool true)).setCell ⟨Z, 0, none⟩ (.int .i64 2)).setCell ⟨Z, 1, none⟩ (.int .i64 0)).setCell ⟨Z, 2, none⟩ (.string ⟨#[]⟩)).setCell ⟨Z, 3, none⟩ (.slice none 0 0)).setCell ⟨Z, 4, none⟩ (.string t1)).cell? ⟨Z, 4, none⟩ = some (.string t1) := bk5.cell 4
    have bk6 : Blk (((((((((W.setCell ⟨O, 4, none⟩ (.string t1)).setCell ⟨O, 7, none⟩ (.string (bs l2))).setCell ⟨O, 8, none⟩ (.bool true)).setCell ⟨Z, 0, none⟩ (.int .i64 2)).setCell ⟨Z, 1, none⟩ (.int .i64 0)).setCell ⟨Z, 2, none⟩ (.string ⟨#[]⟩)).setCell ⟨Z, 3, none⟩ (.slice none 0 0)).setCell ⟨Z, 4, none⟩ (.string t1)).setCell ⟨Z, 5, none⟩ (.slice none 0 0)) Z #[.int .i64 2, .int .i64 0, .string ⟨#[]⟩, .slice none 0 0, .string t1, .slice none 0 0, .slice none 0 0, .string ⟨#[]⟩, .bool false] 72 := Blk.set (vs := #[.int .i64 2, .int .i64 0, .string ⟨#[]⟩, .slice none 0 0, .string t1, .slice none 0 0, .slice none 0 0, .string ⟨#[]⟩, .bool false]) bk5 5 (by simp) _
    have r5 : (((((((((W.setCell ⟨O, 4, none⟩ (.string t1)).setCell ⟨O, 7, none⟩ (.string (bs l2))).setCell ⟨O, 8, none⟩ (.bool true)).setCell ⟨Z, 0, none⟩ (.int .i64 2)).setCell ⟨Z, 1, none⟩ (.int .i64 0)).setCell ⟨Z, 2, none⟩ (.string ⟨#[]⟩)).setCell ⟨Z, 3, none⟩ (.slice none 0 0)).setCell ⟨Z, 4, none⟩ (.string t1)).setCell ⟨Z, 5, none⟩ (.slice none 0 0)).cell? ⟨Z, 5, none⟩ = some (.slice none 0 0) := bk6.cell 5
    have bk7 : Blk ((((((((((W.setCell ⟨O, 4, none⟩ (.string t1)).setCell ⟨O, 7, none⟩ (.string (bs l2))).setCell ⟨O, 8, none⟩ (.bool true)).setCell ⟨Z, 0, none⟩ (.int .i64 2)).setCell ⟨Z, 1, none⟩ (.int .i64 0)).setCell ⟨Z, 2, none⟩ (.string ⟨#[]⟩)).setCell ⟨Z, 3, none⟩ (.slice none 0 0)).setCell ⟨Z, 4, none⟩ (.string t1)).setCell ⟨Z, 5, none⟩ (.slice none 0 0)).setCell ⟨Z, 6, none⟩ (.slice none 0 0)) Z #[.int .i64 2, .int .i64 0, .string ⟨#[]⟩, .slice none 0 0, .string t1, .slice none 0 0, .slice none 0 0, .string ⟨#[]⟩, .bool false] 72 := Blk.set (vs := #[.int .i64 2, .int .i64 0, .string ⟨#[]⟩, .slice none 0 0, .string t1, .slice none 0 0, .slice none 0 0, .string ⟨#[]⟩, .bool false]) bk6 6 (by simp) _
    have r6 : ((((((((((W.setCell ⟨O, 4, none⟩ (.string t1)).setCell ⟨O, 7, none⟩ (.string (bs l2))).setCell ⟨O, 8, none⟩ (.bool true)).setCell ⟨Z, 0, none⟩ (.int .i64 2)).setCell ⟨Z, 1, none⟩ (.int .i64 0)).setCell ⟨Z, 2, none⟩ (.string ⟨#[]⟩)).setCell ⟨Z, 3, none⟩ (.slice none 0 0)).setCell ⟨Z, 4, none⟩ (.string t1)).setCell ⟨Z, 5, none⟩ (.slice none 0 0)).setCell ⟨Z, 6, none⟩ (.slice none 0 0)).cell? ⟨Z, 6, none⟩ = some (.slice none 0 0) := bk7.cell 6
    have bk8 : Blk (((((((((((W.setCell ⟨O, 4, none⟩ (.string t1)).setCell ⟨O, 7, none⟩ (.string (bs l2))).setCell ⟨O, 8, none⟩ (.bool true)).setCell ⟨Z, 0, none⟩ (.int .i64 2)).setCell ⟨Z, 1, none⟩ (.int .i64 0)).setCell ⟨Z, 2, none⟩ (.string ⟨#[]⟩)).setCell ⟨Z, 3, none⟩ (.slice none 0 0)).setCell ⟨Z, 4, none⟩ (.string t1)).setCell ⟨Z, 5, none⟩ (.slice none 0 0)).setCell ⟨Z, 6, none⟩ (.slice none 0 0)).setCell ⟨Z, 7, none⟩ (.string (bs l2))) Z #[.int .i64 2, .int .i64 0, .string ⟨#[]⟩, .slice none 0 0, .string t1, .slice none 0 0, .slice none 0 0, .string (bs l2), .bool false] 72 := Blk.set (vs := #[.int .i64 2, .int .i64 0, .string ⟨#[]⟩, .slice none 0 0, .string t1, .slice none 0 0, .slice none 0 0, .string ⟨#[]⟩, .bool false]) bk7 7 (by simp) _
    have r7 : (((((((((((W.setCell ⟨O, 4, none⟩ (.string t1)).setCell ⟨O, 7, none⟩ (.string (bs l2))).setCell ⟨O, 8, none⟩ (.bool true)).setCell ⟨Z, 0, none⟩ (.int .i64 2)).setCell ⟨Z, 1, none⟩ (.int .i64 0)).setCell ⟨Z, 2, none⟩ (.string ⟨#[]⟩)).setCell ⟨Z, 3, none⟩ (.slice none 0 0)).setCell ⟨Z, 4, none⟩ (.string t1)).setCell ⟨Z, 5, none⟩ (.slice none 0 0)).setCell ⟨Z, 6, none⟩ (.slice none 0 0)).setCell ⟨Z, 7, none⟩ (.string (bs l2))).cell? ⟨Z, 7, none⟩ = some (.string (bs l2)) := bk8.cell 7
    have bk9 : Blk ((((((((((((W.setCell ⟨O, 4, none⟩ (.string t1)).setCell ⟨O, 7, none⟩ (.string (bs l2))).setCell ⟨O, 8, none⟩ (.bool true)).setCell ⟨Z, 0, none⟩ (.int .i64 2)).setCell ⟨Z, 1, none⟩ (.int .i64 0)).setCell ⟨Z, 2, none⟩ (.string ⟨#[]⟩)).setCell ⟨Z, 3, none⟩ (.slice none 0 0)).setCell ⟨Z, 4, none⟩ (.string t1)).setCell ⟨Z, 5, none⟩ (.slice none 0 0)).setCell ⟨Z, 6, none⟩ (.slice none 0 0)).setCell ⟨Z, 7, none⟩ (.string (bs l2))).setCell ⟨Z, 8, none⟩ (.bool true)) Z #[.int .i64 2, .int .i64 0, .string ⟨#[]⟩, .slice none 0 0, .string t1, .slice none 0 0, .slice none 0 0, .string (bs l2), .bool true] 72 := Blk.set (vs := #[.int .i64 2, .int .i64 0, .string ⟨#[]⟩, .slice none 0 0, .string t1, .slice none 0 0, .slice none 0 0, .string (bs l2), .bool false]) bk8 8 (by simp) _
    have r8 : ((((((((((((W.setCell ⟨O, 4, none⟩ (.string t1)).setCell ⟨O, 7, none⟩ (.string (bs l2))).setCell ⟨O, 8, none⟩ (.bool true)).setCell ⟨Z, 0, none⟩ (.int .i64 2)).setCell ⟨Z, 1, none⟩ (.int .i64 0)).setCell ⟨Z, 2, none⟩ (.string ⟨#[]⟩)).setCell ⟨Z, 3, none⟩ (.slice none 0 0)).setCell ⟨Z, 4, none⟩ (.string t1)).setCell ⟨Z, 5, none⟩ (.slice none 0 0)).setCell ⟨Z, 6, none⟩ (.slice none 0 0)).setCell ⟨Z, 7, none⟩ (.string (bs l2))).setCell ⟨Z, 8, none⟩ (.bool true)).cell? ⟨Z, 8, none⟩ = some (.bool true) := bk9.cell 8
    have HRS := hide (And.intro r0 (And.intro r1 (And.intro r2 (And.intro r3 (And.intro r4 (And.intro r5 (And.intro r6 (And.intro r7 r8))))))))
    have HE : Hid (OneSaid w none (.returned (.agg #[.int .i64 2, .int .i64 0, .string ⟨#[]⟩, .slice none 0 0, .string t1, .slice none 0 0, .slice none 0 0, .string (bs l2), .bool true])) ((((((((((((W.setCell ⟨O, 4, none⟩ (.string t1)).setCell ⟨O, 7, none⟩ (.string (bs l2))).setCell ⟨O, 8, none⟩ (.bool true)).setCell ⟨Z, 0, none⟩ (.int .i64 2)).setCell ⟨Z, 1, none⟩ (.int .i64 0)).setCell ⟨Z, 2, none⟩ (.string ⟨#[]⟩)).setCell ⟨Z, 3, none⟩ (.slice none 0 0)).setCell ⟨Z, 4, none⟩ (.string t1)).setCell ⟨Z, 5, none⟩ (.slice none 0 0)).setCell ⟨Z, 6, none⟩ (.slice none 0 0)).setCell ⟨Z, 7, none⟩ (.string (bs l2))).setCell ⟨Z, 8, none⟩ (.bool true))) := hide ⟨2, 0, ⟨#[]⟩, none, 0, 0, t1, none, 0, 0, bs l2, true, rfl, (((((((((((((unhide HBW).setCell (p := ⟨O, 4, none⟩) (unhide HZO).2 (.string t1)).setCell (p := ⟨O, 7, none⟩) (unhide HZO).2 (.string (bs l2))).setCell (p := ⟨O, 8, none⟩) (unhide HZO).2 (.bool true)).setCell (p := ⟨Z, 0, none⟩) (Nat.le_of_eq (unhide HZO).1) (.int .i64 2)).setCell (p := ⟨Z, 1, none⟩) (Nat.le_of_eq (unhide HZO).1) (.int .i64 0)).setCell (p := ⟨Z, 2, none⟩) (Nat.le_of_eq (unhide HZO).1) (.string ⟨#[]⟩)).setCell (p := ⟨Z, 3, none⟩) (Nat.le_of_eq (unhide HZO).1) (.slice none 0 0)).setCell (p := ⟨Z, 4, none⟩) (Nat.le_of_eq (unhide HZO).1) (.string t1)).setCell (p := ⟨Z, 5, none⟩) (Nat.le_of_eq (unhide HZO).1) (.slice none 0 0)).setCell (p := ⟨Z, 6, none⟩) (Nat.le_of_eq (unhide HZO).1) (.slice none 0 0)).setCell (p := ⟨Z, 7, none⟩) (Nat.le_of_eq (unhide HZO).1) (.string (bs l2))).setCell (p := ⟨Z, 8, none⟩) (Nat.le_of_eq (unhide HZO).1) (.bool true)), rfl⟩
    clear bk0 bk1 bk2 bk3 bk4 bk5 bk6 bk7 bk8 bk9 r0 r1 r2 r3 r4 r5 r6 r7 r8 hz ho 
    go_wp2
    obtain ⟨r0, r1, r2, r3, r4, r5, r6, r7, r8⟩ := unhide HRS
    refine bodyPost_ret (v := .agg #[.int .i64 2, .int .i64 0, .string ⟨#[]⟩, .slice none 0 0, .string t1, .slice none 0 0, .slice none 0 0, .string (bs l2), .bool true]) (by simp [results, Tryd.results69, go_sem, r0, r1, r2, r3, r4, r5, r6, r7, r8]) rfl ?_
    exact unhide HE
  · skip
    go_enter Tryd.func69, Tryd.ntmps69
    go_wp2_with fail
    refine (unhide CN).mono ?_
    rintro e w1 ⟨rfl, hb1⟩
    have hz1 : Blk w1 w.heap.size #[.int .i64 0, .int .i64 0, .string ⟨#[]⟩, .slice none 0 0, .string ⟨#[]⟩, .slice none 0 0, .slice none 0 0, .string ⟨#[]⟩, .bool false] 72 := Blk.later (unhide HZ0).1 hb1
    have hw1 : w.heap.size < w1.heap.size := by have h2 := hb1.size; have h3 := (unhide HZ0).2.2; omega
    have hB1 : Below w.heap.size w w1 := tr2 (unhide HZ0).2.1 hb1
    have hA1 : Below w1.heap.size w1 ((w1.alloc (Obj.cells #[.int .i64 3, .string ⟨#[]⟩, .slice none 0 0, .string (bs l1), .int .i64 0] 96)).alloc (Obj.cells #[.int .i64 3, .int .i64 0, .string ⟨#[]⟩, .slice none 0 0, .string ⟨#[]⟩, .slice none 0 0, .slice none 0 0, .string ⟨#[]⟩, .bool false] 72)) := ((Below.refl _ _).alloc (Nat.le_refl _) _).alloc (by simp) _
    have hz2 := Blk.later hz1 hA1
    have ho2 : Blk ((w1.alloc (Obj.cells #[.int .i64 3, .string ⟨#[]⟩, .slice none 0 0, .string (bs l1), .int .i64 0] 96)).alloc (Obj.cells #[.int .i64 3, .int .i64 0, .string ⟨#[]⟩, .slice none 0 0, .string ⟨#[]⟩, .slice none 0 0, .slice none 0 0, .string ⟨#[]⟩, .bool false] 72)) (w1.heap.size + 1) #[.int .i64 3, .int .i64 0, .string ⟨#[]⟩, .slice none 0 0, .string ⟨#[]⟩, .slice none 0 0, .slice none 0 0, .string ⟨#[]⟩, .bool false] 72 := by
      have := Blk.new (w1.alloc (Obj.cells #[.int .i64 3, .string ⟨#[]⟩, .slice none 0 0, .string (bs l1), .int .i64 0] 96)) #[.int .i64 3, .int .i64 0, .string ⟨#[]⟩, .slice none 0 0, .string ⟨#[]⟩, .slice none 0 0, .slice none 0 0, .string ⟨#[]⟩, .bool false] 72
      simpa using this
    have HY := hide (And.intro hz2 (And.intro ho2 (tr2 hB1 hA1)))
    clear CN hz1 hz2 ho2 hA1 hb1 hB1 HZ0
    go_wp2_with fail
    refine (unhide CT _).mono ?_
    rintro e w2 ⟨rfl, hb2⟩
    go_upto_region 7 with fail
    obtain ⟨W, hW⟩ : ∃ W, w2.alloc (Obj.cells #[.int .i64 0, .string t1, .slice none 0 0, .string (bs l2), .int .i64 4] 96) = W := ⟨_, rfl⟩
    have hAA : Below w2.heap.size w2 W := by rw [← hW]; exact (Below.refl _ _).alloc (Nat.le_refl _) _
    have hz : Blk W w.heap.size #[.int .i64 0, .int .i64 0, .string ⟨#[]⟩, .slice none 0 0, .string ⟨#[]⟩, .slice none 0 0, .slice none 0 0, .string ⟨#[]⟩, .bool false] 72 := Blk.later (Blk.later (unhide HY).1 hb2) hAA
    have ho : Blk W (w1.heap.size + 1) #[.int .i64 3, .int .i64 0, .string ⟨#[]⟩, .slice none 0 0, .string ⟨#[]⟩, .slice none 0 0, .slice none 0 0, .string ⟨#[]⟩, .bool false] 72 := Blk.later (Blk.later (unhide HY).2.1 hb2) hAA
    have HBW : Hid (Below w.heap.size w W) := hide (tr2 (tr2 (unhide HY).2.2 hb2) hAA)
    have hT : Blk W w2.heap.size #[.int .i64 0, .string t1, .slice none 0 0, .string (bs l2), .int .i64 4] 96 := by rw [← hW]; exact Blk.new _ _ _
    have t1' : W.cell? ⟨w2.heap.size, 1, none⟩ = some (.string t1) := hT.cell 1
    have t3' : W.cell? ⟨w2.heap.size, 3, none⟩ = some (.string (bs l2)) := hT.cell 3
    have t4' : W.cell? ⟨w2.heap.size, 4, none⟩ = some (.int .i64 4) := hT.cell 4
    have hlt2 : w1.heap.size + 1 < w2.heap.size := by
      have h5 := (Blk.later (unhide HY).2.1 hb2).lt
      exact h5
    simp only [hW]
    obtain ⟨Z, hZ⟩ : ∃ Z, w.heap.size = Z := ⟨_, rfl⟩
    obtain ⟨O, hO⟩ : ∃ O, w1.heap.size + 1 = O := ⟨_, rfl⟩
    obtain ⟨Q, hQ⟩ : ∃ Q, w2.heap.size = Q := ⟨_, rfl⟩
    have HZO : Hid (w.heap.size = Z ∧ w.heap.size ≤ O) := hide ⟨hZ, by omega⟩
    have hZO : Z ≠ O := by omega
    have hOZ : O ≠ Z := by omega
    have hOQ : O ≠ Q := by omega
    have hQO : Q ≠ O := by omega
    rw [hZ] at hz
    rw [hO] at ho
    rw [hQ] at t1' t3' t4'
    simp only [hZ, hO, hQ]
    clear hW hAA hw1 hb2 HY CT hZ hO hQ hT hlt2
    have o0 : W.cell? ⟨O, 0, none⟩ = some (.int .i64 3) := ho.cell 0
    have o1 : W.cell? ⟨O, 1, none⟩ = some (.int .i64 0) := ho.cell 1
    have o2 : W.cell? ⟨O, 2, none⟩ = some (.string ⟨#[]⟩) := ho.cell 2
    have o3 : W.cell? ⟨O, 3, none⟩ = some (.slice none 0 0) := ho.cell 3
    have o4 : W.cell? ⟨O, 4, none⟩ = some (.string ⟨#[]⟩) := ho.cell 4
    have o5 : W.cell? ⟨O, 5, none⟩ = some (.slice none 0 0) := ho.cell 5
    have o6 : W.cell? ⟨O, 6, none⟩ = some (.slice none 0 0) := ho.cell 6
    have o7 : W.cell? ⟨O, 7, none⟩ = some (.string ⟨#[]⟩) := ho.cell 7
    have o8 : W.cell? ⟨O, 8, none⟩ = some (.bool false) := ho.cell 8
    have of4 : W.frozen? ⟨O, 4, none⟩ = false := ho.frozen 4
    have of7 : W.frozen? ⟨O, 7, none⟩ = false := ho.frozen 7
    have of8 : W.frozen? ⟨O, 8, none⟩ = false := ho.frozen 8
    have z0 : W.cell? ⟨Z, 0, none⟩ = some (.int .i64 0) := hz.cell 0
    have zf0 : W.frozen? ⟨Z, 0, none⟩ = false := hz.frozen 0
    have z1 : W.cell? ⟨Z, 1, none⟩ = some (.int .i64 0) := hz.cell 1
    have zf1 : W.frozen? ⟨Z, 1, none⟩ = false := hz.frozen 1
    have z2 : W.cell? ⟨Z, 2, none⟩ = some (.string ⟨#[]⟩) := hz.cell 2
    have zf2 : W.frozen? ⟨Z, 2, none⟩ = false := hz.frozen 2
    have z3 : W.cell? ⟨Z, 3, none⟩ = some (.slice none 0 0) := hz.cell 3
    have zf3 : W.frozen? ⟨Z, 3, none⟩ = false := hz.frozen 3
    have z4 : W.cell? ⟨Z, 4, none⟩ = some (.string ⟨#[]⟩) := hz.cell 4
    have zf4 : W.frozen? ⟨Z, 4, none⟩ = false := hz.frozen 4
    have z5 : W.cell? ⟨Z, 5, none⟩ = some (.slice none 0 0) := hz.cell 5
    have zf5 : W.frozen? ⟨Z, 5, none⟩ = false := hz.frozen 5
    have z6 : W.cell? ⟨Z, 6, none⟩ = some (.slice none 0 0) := hz.cell 6
    have zf6 : W.frozen? ⟨Z, 6, none⟩ = false := hz.frozen 6
    have z7 : W.cell? ⟨Z, 7, none⟩ = some (.string ⟨#[]⟩) := hz.cell 7
    have zf7 : W.frozen? ⟨Z, 7, none⟩ = false := hz.frozen 7
    have z8 : W.cell? ⟨Z, 8, none⟩ = some (.bool false) := hz.cell 8
    have zf8 : W.frozen? ⟨Z, 8, none⟩ = false := hz.frozen 8
    have bk0 : Blk (((W.setCell ⟨O, 4, none⟩ (.string t1)).setCell ⟨O, 7, none⟩ (.string (bs l2))).setCell ⟨O, 8, none⟩ (.bool true)) Z #[.int .i64 0, .int .i64 0, .string ⟨#[]⟩, .slice none 0 0, .string ⟨#[]⟩, .slice none 0 0, .slice none 0 0, .string ⟨#[]⟩, .bool false] 72 := (Blk.away (Blk.away (Blk.away hz hZO _) hZO _) hZO _)
    have bk1 : Blk ((((W.setCell ⟨O, 4, none⟩ (.string t1)).setCell ⟨O, 7, none⟩ (.string (bs l2))).setCell ⟨O, 8, none⟩ (.bool true)).setCell ⟨Z, 0, none⟩ (.int .i64 3)) Z #[.int .i64 3, .int .i64 0, .string ⟨#[]⟩, .slice none 0 0, .string ⟨#[]⟩, .slice none 0 0, .slice none 0 0, .string ⟨#[]⟩, .bool false] 72 := Blk.set (vs := #[.int .i64 0, .int .i64 0, .string ⟨#[]⟩, .slice none 0 0, .string ⟨#[]⟩, .slice none 0 0, .slice none 0 0, .string ⟨#[]⟩, .bool false]) bk0 0 (by simp) _
    have r0 : ((((W.setCell ⟨O, 4, none⟩ (.string t1)).setCell ⟨O, 7, none⟩ (.string (bs l2))).setCell ⟨O, 8, none⟩ (.bool true)).setCell ⟨Z, 0, none⟩ (.int .i64 3)).cell? ⟨Z, 0, none⟩ = some (.int .i64 3) := bk1.cell 0
    have bk2 : Blk (((((W.setCell ⟨O, 4, none⟩ (.string t1)).setCell ⟨O, 7, none⟩ (.string (bs l2))).setCell ⟨O, 8, none⟩ (.bool true)).setCell ⟨Z, 0, none⟩ (.int .i64 3)).setCell ⟨Z, 1, none⟩ (.int .i64 0)) Z #[.int .i64 3, .int .i64 0, .string ⟨#[]⟩, .slice none 0 0, .string ⟨#[]⟩, .slice none 0 0, .slice none 0 0, .string ⟨#[]⟩, .bool false] 72 := Blk.set (vs := #[.int .i64 3, .int .i64 0, .string ⟨#[]⟩, .slice none 0 0, .string ⟨#[]⟩, .slice none 0 0, .slice none 0 0, .string ⟨#[]⟩, .bool false]) bk1 1 (by simp) _
    have r1 : (((((W.setCell ⟨O, 4, none⟩ (.string t1)).setCell ⟨O, 7, none⟩ (.string (bs l2))).setCell ⟨O, 8, none⟩ (.bool true)).setCell ⟨Z, 0, none⟩ (.int .i64 3)).setCell ⟨Z, 1, none⟩ (.int .i64 0)).cell? ⟨Z, 1, none⟩ = some (.int .i64 0) := bk2.cell 1
    have bk3 : Blk ((((((W.setCell ⟨O, 4, none⟩ (.string t1)).setCell ⟨O, 7, none⟩ (.string (bs l2))).setCell ⟨O, 8, none⟩ (.bool true)).setCell ⟨Z, 0, none⟩ (.int .i64 3)).setCell ⟨Z, 1, none⟩ (.int .i64 0)).setCell ⟨Z, 2, none⟩ (.string ⟨#[]⟩)) Z #[.int .i64 3, .int .i64 0, .string ⟨#[]⟩, .slice none 0 0, .string ⟨#[]⟩, .slice none 0 0, .slice none 0 0, .string ⟨#[]⟩, .bool false] 72 := Blk.set (vs := #[.int .i64 3, .int .i64 0, .string ⟨#[]⟩, .slice none 0 0, .string ⟨#[]⟩, .slice none 0 0, .slice none 0 0, .string ⟨#[]⟩, .bool false]) bk2 2 (by simp) _
    have r2 : ((((((W.setCell ⟨O, 4, none⟩ (.string t1)).setCell ⟨O, 7, none⟩ (.string (bs l2))).setCell ⟨O, 8, none⟩ (.bool true)).setCell ⟨Z, 0, none⟩ (.int .i64 3)).setCell ⟨Z, 1, none⟩ (.int .i64 0)).setCell ⟨Z, 2, none⟩ (.string ⟨#[]⟩)).cell? ⟨Z, 2, none⟩ = some (.string ⟨#[]⟩) := bk3.cell 2
    have bk4 : Blk (((((((W.setCell ⟨O, 4, none⟩ (.string t1)).setCell ⟨O, 7, none⟩ (.string (bs l2))).setCell ⟨O, 8, none⟩ (.bool true)).setCell ⟨Z, 0, none⟩ (.int .i64 3)).setCell ⟨Z, 1, none⟩ (.int .i64 0)).setCell ⟨Z, 2, none⟩ (.string ⟨#[]⟩)).setCell ⟨Z, 3, none⟩ (.slice none 0 0)) Z #[.int .i64 3, .int .i64 0, .string ⟨#[]⟩, .slice none 0 0, .string ⟨#[]⟩, .slice none 0 0, .slice none 0 0, .string ⟨#[]⟩, .bool false] 72 := Blk.set (vs := #[.int .i64 3, .int .i64 0, .string ⟨#[]⟩, .slice none 0 0, .string ⟨#[]⟩, .slice none 0 0, .slice none 0 0, .string ⟨#[]⟩, .bool false]) bk3 3 (by simp) _
    have r3 : (((((((W.setCell ⟨O, 4, none⟩ (.string t1)).setCell ⟨O, 7, none⟩ (.string (bs l2))).setCell ⟨O, 8, none⟩ (.bool true)).setCell ⟨Z, 0, none⟩ (.int .i64 3)).setCell ⟨Z, 1, none⟩ (.int .i64 0)).setCell ⟨Z, 2, none⟩ (.string ⟨#[]⟩)).setCell ⟨Z, 3, none⟩ (.slice none 0 0)).cell? ⟨Z, 3, none⟩ = some (.slice none 0 0) := bk4.cell 3
    have bk5 : Blk ((((((((W.setCell ⟨O, 4, none⟩ (.string t1)).setCell ⟨O, 7, none⟩ (.string (bs l2))).setCell ⟨O, 8, none⟩ (.bool true)).setCell ⟨Z, 0, none⟩ (.int .i64 3)).setCell ⟨Z, 1, none⟩ (.int .i64 0)).setCell ⟨Z, 2, none⟩ (.string ⟨#[]⟩)).setCell ⟨Z, 3, none⟩ (.slice none 0 0)).setCell ⟨Z, 4, none⟩ (.string t1)) Z #[.int .i64 3, .int .i64 0, .string ⟨#[]⟩, .slice none 0 0, .string t1, .slice none 0 0, .slice none 0 0, .string ⟨#[]⟩, .bool false] 72 := Blk.set (vs := #[.int .i64 3, .int .i64 0, .string ⟨#[]⟩, .slice none 0 0, .string ⟨#[]⟩, .slice none 0 0, .slice none 0 0, .string ⟨#[]⟩, .bool false]) bk4 4 (by simp) _
    have r4 : ((((((((W.setCell ⟨O, 4, none⟩ (.string t1)).setCell ⟨O, 7, none⟩ (.string (bs l2))).setCell ⟨O, 8, none⟩ (.bool true)).setCell ⟨Z, 0, none⟩ (.int .i64 3)).setCell ⟨Z, 1, none⟩ (.int .i64 0)).setCell ⟨Z, 2, none⟩ (.string ⟨#[]⟩)).setCell ⟨Z, 3, none⟩ (.slice none 0 0)).setCell ⟨Z, 4, none⟩ (.string t1)).cell? ⟨Z, 4, none⟩ = some (.string t1) := bk5.cell 4
    have bk6 : Blk (((((((((W.setCell ⟨O, 4, none⟩ (.string t1)).setCell ⟨O, 7, none⟩ (.string (bs l2))).setCell ⟨O, 8, none⟩ (.bool true)).setCell ⟨Z, 0, none⟩ (.int .i64 3)).setCell ⟨Z, 1, none⟩ (.int .i64 0)).setCell ⟨Z, 2, none⟩ (.string ⟨#[]⟩)).setCell ⟨Z, 3, none⟩ (.slice none 0 0)).setCell ⟨Z, 4, none⟩ (.string t1)).setCell ⟨Z, 5, none⟩ (.slice none 0 0)) Z #[.int .i64 3, .int .i64 0, .string ⟨#[]⟩, .slice none 0 0, .string t1, .slice none 0 0, .slice none 0 0, .string ⟨#[]⟩, .bool false] 72 := Blk.set (vs := #[.int .i64 3, .int .i64 0, .string ⟨#[]⟩, .slice none 0 0, .string t1, .slice none 0 0, .slice none 0 0, .string ⟨#[]⟩, .bool false]) bk5 5 (by simp) _
    have r5 : (((((((((W.setCell ⟨O, 4, none⟩ (.string t1)).setCell ⟨O, 7, none⟩ (.string (bs l2))).setCell ⟨O, 8, none⟩ (.bool true)).setCell ⟨Z, 0, none⟩ (.int .i64 3)).setCell ⟨Z, 1, none⟩ (.int .i64 0)).setCell ⟨Z, 2, none⟩ (.string ⟨#[]⟩)).setCell ⟨Z, 3, none⟩ (.slice none 0 0)).setCell ⟨Z, 4, none⟩ (.string t1)).setCell ⟨Z, 5, none⟩ (.slice none 0 0)).cell? ⟨Z, 5, none⟩ = some (.slice none 0 0) := bk6.cell 5
    have bk7 : Blk ((((((((((W.setCell ⟨O, 4, none⟩ (.string t1)).setCell ⟨O, 7, none⟩ (.string (bs l2))).setCell ⟨O, 8, none⟩ (.bool true)).setCell ⟨Z, 0, none⟩ (.int .i64 3)).setCell ⟨Z, 1, none⟩ (.int .i64 0)).setCell ⟨Z, 2, none⟩ (.string ⟨#[]⟩)).setCell ⟨Z, 3, none⟩ (.slice none 0 0)).setCell ⟨Z, 4, none⟩ (.string t1)).setCell ⟨Z, 5, none⟩ (.slice none 0 0)).setCell ⟨Z, 6, none⟩ (.slice none 0 0)) Z #[.int .i64 3, .int .i64 0, .string ⟨#[]⟩, .slice none 0 0, .string t1, .slice none 0 0, .slice none 0 0, .string ⟨#[]⟩, .bool false] 72 := Blk.set (vs := #[.int .i64 3, .int .i64 0, .string ⟨#[]⟩, .slice none 0 0, .string t1, .slice none 0 0, .slice none 0 0, .string ⟨#[]⟩, .bool false]) bk6 6 (by simp) _
    have r6 : ((((((((((W.setCell ⟨O, 4, none⟩ (.string t1)).setCell ⟨O, 7, none⟩ (.string (bs l2))).setCell ⟨O, 8, none⟩ (.bool true)).setCell ⟨Z, 0, none⟩ (.int .i64 3)).setCell ⟨Z, 1, none⟩ (.int .i64 0)).setCell ⟨Z, 2, none⟩ (.string ⟨#[]⟩)).setCell ⟨Z, 3, none⟩ (.slice none 0 0)).setCell ⟨Z, 4, none⟩ (.string t1)).setCell ⟨Z, 5, none⟩ (.slice none 0 0)).setCell ⟨Z, 6, none⟩ (.slice none 0 0)).cell? ⟨Z, 6, none⟩ = some (.slice none 0 0) := bk7.cell 6
    have bk8 : Blk (((((((((((W.setCell ⟨O, 4, none⟩ (.string t1)).setCell ⟨O, 7, none⟩ (.string (bs l2))).setCell ⟨O, 8, none⟩ (.bool true)).setCell ⟨Z, 0, none⟩ (.int .i64 3)).setCell ⟨Z, 1, none⟩ (.int .i64 0)).setCell ⟨Z, 2, none⟩ (.string ⟨#[]⟩)).setCell ⟨Z, 3, none⟩ (.slice none 0 0)).setCell ⟨Z, 4, none⟩ (.string t1)).setCell ⟨Z, 5, none⟩ (.slice none 0 0)).setCell ⟨Z, 6, none⟩ (.slice none 0 0)).setCell ⟨Z, 7, none⟩ (.string (bs l2))) Z #[.int .i64 3, .int .i64 0, .string ⟨#[]⟩, .slice none 0 0, .string t1, .slice none 0 0, .slice none 0 0, .string (bs l2), .bool false] 72 := Blk.set (vs := #[.int .i64 3, .int .i64 0, .string ⟨#[]⟩, .slice none 0 0, .string t1, .slice none 0 0, .slice none 0 0, .string ⟨#[]⟩, .bool false]) bk7 7 (by simp) _
    have r7 : (((((((((((W.setCell ⟨O, 4, none⟩ (.string t1)).setCell ⟨O, 7, none⟩ (.string (bs l2))).setCell ⟨O, 8, none⟩ (.bool true)).setCell ⟨Z, 0, none⟩ (.int .i64 3)).setCell ⟨Z, 1, none⟩ (.int .i64 0)).setCell ⟨Z, 2, none⟩ (.string ⟨#[]⟩)).setCell ⟨Z, 3, none⟩ (.slice none 0 0)).setCell ⟨Z, 4, none⟩ (.string t1)).setCell ⟨Z, 5, none⟩ (.slice none 0 0)).setCell ⟨Z, 6, none⟩ (.slice none 0 0)).setCell ⟨Z, 7, none⟩ (.string (bs l2))).cell? ⟨Z, 7, none⟩ = some (.string (bs l2)) := bk8.cell 7
    have bk9 : Blk ((((((((((((W.setCell ⟨O, 4, none⟩ (.string t1)).setCell ⟨O, 7, none⟩ (.string (bs l2))).setCell ⟨O, 8, none⟩ (.bool true)).setCell ⟨Z, 0, none⟩ (.int .i64 3)).setCell ⟨Z, 1, none⟩ (.int .i64 0)).setCell ⟨Z, 2, none⟩ (.string ⟨#[]⟩)).setCell ⟨Z, 3, none⟩ (.slice none 0 0)).setCell ⟨Z, 4, none⟩ (.string t1)).setCell ⟨Z, 5, none⟩ (.slice none 0 0)).setCell ⟨Z, 6, none⟩ (.slice none 0 0)).setCell ⟨Z, 7, none⟩ (.string (bs l2))).setCell ⟨Z, 8, none⟩ (.bool true)) Z #[.int .i64 3, .int .i64 0, .string ⟨#[]⟩, .slice none 0 0, .string t1, .slice none 0 0, .slice none 0 0, .string (bs l2), .bool true] 72 := Blk.set (vs := #[.int .i64 3, .int .i64 0, .string ⟨#[]⟩, .slice none 0 0, .string t1, .slice none 0 0, .slice none 0 0, .string (bs l2), .bool false]) bk8 8 (by simp) _
    have r8 : ((((((((((((W.setCell ⟨O, 4, none⟩ (.string t1)).setCell ⟨O, 7, none⟩ (.string (bs l2))).setCell ⟨O, 8, none⟩ (.bool true)).setCell ⟨Z, 0, none⟩ (.int .i64 3)).setCell ⟨Z, 1, none⟩ (.int .i64 0)).setCell ⟨Z, 2, none⟩ (.string ⟨#[]⟩)).setCell ⟨Z, 3, none⟩ (.slice none 0 0)).setCell ⟨Z, 4, none⟩ (.string t1)).setCell ⟨Z, 5, none⟩ (.slice none 0 0)).setCell ⟨Z, 6, none⟩ (.slice none 0 0)).setCell ⟨Z, 7, none⟩ (.string (bs l2))).setCell ⟨Z, 8, none⟩ (.bool true)).cell? ⟨Z, 8, none⟩ = some (.bool true) := bk9.cell 8
    have HRS := hide (And.intro r0 (And.intro r1 (And.intro r2 (And.intro r3 (And.intro r4 (And.intro r5 (And.intro r6 (And.intro r7 r8))))))))
    have HE : Hid (OneSaid w none (.returned (.agg #[.int .i64 3, .int .i64 0, .string ⟨#[]⟩, .slice none 0 0, .string t1, .slice none 0 0, .slice none 0 0, .string (bs l2), .bool true])) ((((((((((((W.setCell ⟨O, 4, none⟩ (.string t1)).setCell ⟨O, 7, none⟩ (.string (bs l2))).setCell ⟨O, 8, none⟩ (.bool true)).setCell ⟨Z, 0, none⟩ (.int .i64 3)).setCell ⟨Z, 1, none⟩ (.int .i64 0)).setCell ⟨Z, 2, none⟩ (.string ⟨#[]⟩)).setCell ⟨Z, 3, none⟩ (.slice none 0 0)).setCell ⟨Z, 4, none⟩ (.string t1)).setCell ⟨Z, 5, none⟩ (.slice none 0 0)).setCell ⟨Z, 6, none⟩ (.slice none 0 0)).setCell ⟨Z, 7, none⟩ (.string (bs l2))).setCell ⟨Z, 8, none⟩ (.bool true))) := hide ⟨3, 0, ⟨#[]⟩, none, 0, 0, t1, none, 0, 0, bs l2, true, rfl, (((((((((((((unhide HBW).setCell (p := ⟨O, 4, none⟩) (unhide HZO).2 (.string t1)).setCell (p := ⟨O, 7, none⟩) (unhide HZO).2 (.string (bs l2))).setCell (p := ⟨O, 8, none⟩) (unhide HZO).2 (.bool true)).setCell (p := ⟨Z, 0, none⟩) (Nat.le_of_eq (unhide HZO).1) (.int .i64 3)).setCell (p := ⟨Z, 1, none⟩) (Nat.le_of_eq (unhide HZO).1) (.int .i64 0)).setCell (p := ⟨Z, 2, none⟩) (Nat.le_of_eq (unhide HZO).1) (.string ⟨#[]⟩)).setCell (p := ⟨Z, 3, none⟩) (Nat.le_of_eq (unhide HZO).1) (.slice none 0 0)).setCell (p := ⟨Z, 4, none⟩) (Nat.le_of_eq (unhide HZO).1) (.string t1)).setCell (p := ⟨Z, 5, none⟩) (Nat.le_of_eq (unhide HZO).1) (.slice none 0 0)).setCell (p := ⟨Z, 6, none⟩) (Nat.le_of_eq (unhide HZO).1) (.slice none 0 0)).setCell (p := ⟨Z, 7, none⟩) (Nat.le_of_eq (unhide HZO).1) (.string (bs l2))).setCell (p := ⟨Z, 8, none⟩) (Nat.le_of_eq (unhide HZO).1) (.bool true)), rfl⟩
    clear bk0 bk1 bk2 bk3 bk4 bk5 bk6 bk7 bk8 bk9 r0 r1 r2 r3 r4 r5 r6 r7 r8 hz ho 
    go_wp2
    obtain ⟨r0, r1, r2, r3, r4, r5, r6, r7, r8⟩ := unhide HRS
    refine bodyPost_ret (v := .agg #[.int .i64 3, .int .i64 0, .string ⟨#[]⟩, .slice none 0 0, .string t1, .slice none 0 0, .slice none 0 0, .string (bs l2), .bool true]) (by simp [results, Tryd.results69, go_sem, r0, r1, r2, r3, r4, r5, r6, r7, r8]) rfl ?_
    exact unhide HE
end Go.Proofs.YtmlmpongcpojjaaDoor
