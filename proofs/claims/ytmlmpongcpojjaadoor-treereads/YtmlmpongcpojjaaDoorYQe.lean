/-
  The reference's 'one' of an element (made by mk_yqe.py).
-/
import Derived.Test.YtmlmpongcpojjaaDoorYQo
namespace Go.Proofs.YtmlmpongcpojjaaDoor
open Go.RowKit
set_option linter.unusedVariables false
set_option linter.unusedSimpArgs false

def ManyIs (B : Nat) (o : Option (Forest × List UInt8)) (q : Option Addr) (n cap : Nat) (rest : ByteArray) (bad : Bool) (w' : World) : Prop :=
  match o with
  | none => bad = true
  | some (f, r) => bad = false ∧ n = f.len ∧ n ≤ cap ∧ rest = bs r ∧ Fo q f (mask (hiP B) w')
def ManySaid (w : World) (o : Option (Forest × List UInt8)) (e : Ending) (w' : World) : Prop :=
  ∃ q n cap rest bad, e = .returned (.agg #[.int .i64 0, .int .i64 0, .string ⟨#[]⟩, .slice none 0 0, .string ⟨#[]⟩, .slice none 0 0, .slice q n cap, .string rest, .bool bad]) ∧ Below w.heap.size w w' ∧ ManyIs w.heap.size o q n cap rest bad w'
def EAt (w : World) (O C Z B : Nat) (k sp : Int) (t1 : ByteArray) (c : Nat) (l4 : List UInt8) (r i : Value) (wr : World) : Prop :=
  ∃ (j : Nat) (ats : List (ByteArray × ByteArray)) (l : List UInt8) (va : Value), j ≤ c ∧ i = .int .i64 j ∧ r = .string (bs l) ∧ ats.length = j ∧ wr.ownsRow B 81 2 va ats.length (flatA ats) ∧ Blk wr O #[.int .i64 k, .int .i64 sp, .string t1, va, .string ⟨#[]⟩, .slice none 0 0, .slice none 0 0, .string ⟨#[]⟩, .bool false] 72 ∧ Blk wr C #[.int .i64 (c : Nat), .string ⟨#[]⟩, .slice none 0 0, .string (bs l4), .int .i64 0] 96 ∧ Blk wr Z #[.int .i64 0, .int .i64 0, .string ⟨#[]⟩, .slice none 0 0, .string ⟨#[]⟩, .slice none 0 0, .slice none 0 0, .string ⟨#[]⟩, .bool false] 72 ∧ Below w.heap.size w wr ∧ B ≤ wr.heap.size ∧ l.length ≤ 5000 ∧ pAts c l4 = (pAts (c - j) l).map fun a => (ats ++ a.1, a.2)
set_option maxHeartbeats 8000000 in
set_option maxRecDepth 100000 in
theorem one_elem (kp : List UInt8 → Option (Forest × List UInt8)) (b : ByteArray) (dd : Int) (w : World) (k sp e2 e3 e4 : Int) (c : Nat) (l1 l2 l3 l4 : List UInt8) (t1 : ByteArray) (o : Option (Nd × List UInt8)) (hk2 : ¬ k = 2) (hk3 : ¬ k = 3) (hk : ¬ 3 < k) (he2 : e2 = 0 ∨ e2 = 4) (he3 : e3 = 0 ∨ e3 = 4) (he4 : e4 = 0 ∨ e4 = 4) (hl4 : l4.length ≤ 5000) (hdd : -10 ≤ dd) (hdd2 : dd ≤ 100)
    (HF : Hid ((e2 = 4 ∨ e3 = 4 ∨ e4 = 4 ∨ 2 < sp ∨ 12 < c) → o = none))
    (HO : Hid (¬ (e2 = 4 ∨ e3 = 4 ∨ e4 = 4 ∨ 2 < sp ∨ 12 < c) → o = (pAts c l4).bind fun a => (kp a.2).map fun ks => (⟨k, sp, t1, a.1, ⟨#[]⟩, ks.1⟩, ks.2)))
    (CN : Hid (Calls Tryd.prog 68 #[.string b] (w.alloc (Obj.cells #[.int .i64 0, .int .i64 0, .string ⟨#[]⟩, .slice none 0 0, .string ⟨#[]⟩, .slice none 0 0, .slice none 0 0, .string ⟨#[]⟩, .bool false] 72)) fun e w' => e = .returned (.agg #[.int .i64 k, .string ⟨#[]⟩, .slice none 0 0, .string (bs l1), .int .i64 0]) ∧ Below (w.alloc (Obj.cells #[.int .i64 0, .int .i64 0, .string ⟨#[]⟩, .slice none 0 0, .string ⟨#[]⟩, .slice none 0 0, .slice none 0 0, .string ⟨#[]⟩, .bool false] 72)).heap.size (w.alloc (Obj.cells #[.int .i64 0, .int .i64 0, .string ⟨#[]⟩, .slice none 0 0, .string ⟨#[]⟩, .slice none 0 0, .slice none 0 0, .string ⟨#[]⟩, .bool false] 72)) w'))
    (CS : Hid (∀ W, Calls Tryd.prog 68 #[.string (bs l1)] W fun e w' => e = .returned (.agg #[.int .i64 sp, .string ⟨#[]⟩, .slice none 0 0, .string (bs l2), .int .i64 e2]) ∧ Below W.heap.size W w'))
    (CT : Hid (∀ W, Calls Tryd.prog 88 #[.string (bs l2)] W fun e w' => e = .returned (.agg #[.int .i64 0, .string t1, .slice none 0 0, .string (bs l3), .int .i64 e3]) ∧ Below W.heap.size W w'))
    (CC : Hid (∀ W, Calls Tryd.prog 68 #[.string (bs l3)] W fun e w' => e = .returned (.agg #[.int .i64 (c : Nat), .string ⟨#[]⟩, .slice none 0 0, .string (bs l4), .int .i64 e4]) ∧ Below W.heap.size W w'))
    (CK : Hid (∀ (l : List UInt8) (W : World), l.length ≤ 5000 → Calls Tryd.prog 48 #[.string (bs l), .int .i64 (dd - 1)] W (ManySaid W (kp l)))) :
    Calls Tryd.prog 69 #[.string b, .int .i64 dd] w (OneSaid w o) := by
  obtain ⟨i0, hi0, hi1, hi2, hi3⟩ := info_parts infoAttr0
  have f2 : (k == 2) = false := beq_eq_false_iff_ne.2 hk2
  have f3 : (k == 3) = false := beq_eq_false_iff_ne.2 hk3
  have fk : decide (3 < k) = false := decide_eq_false hk
  have HZ0 : Hid (Blk (w.alloc (Obj.cells #[.int .i64 0, .int .i64 0, .string ⟨#[]⟩, .slice none 0 0, .string ⟨#[]⟩, .slice none 0 0, .slice none 0 0, .string ⟨#[]⟩, .bool false] 72)) w.heap.size #[.int .i64 0, .int .i64 0, .string ⟨#[]⟩, .slice none 0 0, .string ⟨#[]⟩, .slice none 0 0, .slice none 0 0, .string ⟨#[]⟩, .bool false] 72 ∧ Below w.heap.size w (w.alloc (Obj.cells #[.int .i64 0, .int .i64 0, .string ⟨#[]⟩, .slice none 0 0, .string ⟨#[]⟩, .slice none 0 0, .slice none 0 0, .string ⟨#[]⟩, .bool false] 72)) ∧ (w.alloc (Obj.cells #[.int .i64 0, .int .i64 0, .string ⟨#[]⟩, .slice none 0 0, .string ⟨#[]⟩, .slice none 0 0, .slice none 0 0, .string ⟨#[]⟩, .bool false] 72)).heap.size = w.heap.size + 1) := hide ⟨Blk.new w _ _, (Below.refl _ _).alloc (Nat.le_refl _) _, by simp⟩
  go_enter Tryd.func69, Tryd.ntmps69
  go_wp2_with fail
  refine (unhide CN).mono ?_
  rintro e w1 ⟨rfl, hb1⟩
  have hz1 : Blk w1 w.heap.size #[.int .i64 0, .int .i64 0, .string ⟨#[]⟩, .slice none 0 0, .string ⟨#[]⟩, .slice none 0 0, .slice none 0 0, .string ⟨#[]⟩, .bool false] 72 := Blk.later (unhide HZ0).1 hb1
  have hw1 : w.heap.size < w1.heap.size := by have h2 := hb1.size; have h3 := (unhide HZ0).2.2; omega
  have hB1 : Below w.heap.size w w1 := tr2 (unhide HZ0).2.1 hb1
  have hA1 : Below w1.heap.size w1 ((w1.alloc (Obj.cells #[.int .i64 k, .string ⟨#[]⟩, .slice none 0 0, .string (bs l1), .int .i64 0] 96)).alloc (Obj.cells #[.int .i64 k, .int .i64 0, .string ⟨#[]⟩, .slice none 0 0, .string ⟨#[]⟩, .slice none 0 0, .slice none 0 0, .string ⟨#[]⟩, .bool false] 72)) := ((Below.refl _ _).alloc (Nat.le_refl _) _).alloc (by simp) _
  have hz2 := Blk.later hz1 hA1
  have ho2 : Blk ((w1.alloc (Obj.cells #[.int .i64 k, .string ⟨#[]⟩, .slice none 0 0, .string (bs l1), .int .i64 0] 96)).alloc (Obj.cells #[.int .i64 k, .int .i64 0, .string ⟨#[]⟩, .slice none 0 0, .string ⟨#[]⟩, .slice none 0 0, .slice none 0 0, .string ⟨#[]⟩, .bool false] 72)) (w1.heap.size + 1) #[.int .i64 k, .int .i64 0, .string ⟨#[]⟩, .slice none 0 0, .string ⟨#[]⟩, .slice none 0 0, .slice none 0 0, .string ⟨#[]⟩, .bool false] 72 := by
    have := Blk.new (w1.alloc (Obj.cells #[.int .i64 k, .string ⟨#[]⟩, .slice none 0 0, .string (bs l1), .int .i64 0] 96)) #[.int .i64 k, .int .i64 0, .string ⟨#[]⟩, .slice none 0 0, .string ⟨#[]⟩, .slice none 0 0, .slice none 0 0, .string ⟨#[]⟩, .bool false] 72
    simpa using this
  have HY := hide (And.intro hz2 (And.intro ho2 (tr2 hB1 hA1)))
  clear CN hz1 hz2 ho2 hA1 hb1 hB1 HZ0
  go_wp2_with fail
  refine (unhide CS _).mono ?_
  rintro e w2 ⟨rfl, hb2⟩
  have hA2 : Below w2.heap.size w2 (w2.alloc (Obj.cells #[.int .i64 sp, .string ⟨#[]⟩, .slice none 0 0, .string (bs l2), .int .i64 e2] 96)) := (Below.refl _ _).alloc (Nat.le_refl _) _
  have hlt2 : w1.heap.size + 1 < w2.heap.size := (Blk.later (unhide HY).2.1 hb2).lt
  have HY2 := hide (And.intro (Blk.later (Blk.later (unhide HY).1 hb2) hA2) (And.intro (Blk.later (Blk.later (unhide HY).2.1 hb2) hA2) (And.intro (Blk.new w2 #[.int .i64 sp, .string ⟨#[]⟩, .slice none 0 0, .string (bs l2), .int .i64 e2] 96) (tr2 (tr2 (unhide HY).2.2 hb2) hA2))))
  clear CS hb2 hA2 HY
  go_wp2_with fail
  refine (unhide CT _).mono ?_
  rintro e w3 ⟨rfl, hb3⟩
  have hA3 : Below w3.heap.size w3 (w3.alloc (Obj.cells #[.int .i64 0, .string t1, .slice none 0 0, .string (bs l3), .int .i64 e3] 96)) := (Below.refl _ _).alloc (Nat.le_refl _) _
  have hlt3 : w2.heap.size < w3.heap.size := (Blk.later (unhide HY2).2.2.1 hb3).lt
  have HY3 := hide (And.intro (Blk.later (Blk.later (unhide HY2).1 hb3) hA3) (And.intro (Blk.later (Blk.later (unhide HY2).2.1 hb3) hA3) (And.intro (Blk.later (Blk.later (unhide HY2).2.2.1 hb3) hA3) (And.intro (Blk.new w3 #[.int .i64 0, .string t1, .slice none 0 0, .string (bs l3), .int .i64 e3] 96) (tr2 (tr2 (unhide HY2).2.2.2 hb3) hA3)))))
  clear CT hb3 hA3 HY2
  go_wp2_with fail
  refine (unhide CC _).mono ?_
  rintro e w4 ⟨rfl, hb4⟩
  go_upto_region 14 with fail
  obtain ⟨W, hW⟩ : ∃ W, (w4.alloc (Obj.cells #[.int .i64 (c : Nat), .string ⟨#[]⟩, .slice none 0 0, .string (bs l4), .int .i64 e4] 96)) = W := ⟨_, rfl⟩
  have hA4 : Below w4.heap.size w4 W := by rw [← hW]; exact (Below.refl _ _).alloc (Nat.le_refl _) _
  have hlt4 : w3.heap.size < w4.heap.size := (Blk.later (unhide HY3).2.2.2.1 hb4).lt
  have hz : Blk W w.heap.size #[.int .i64 0, .int .i64 0, .string ⟨#[]⟩, .slice none 0 0, .string ⟨#[]⟩, .slice none 0 0, .slice none 0 0, .string ⟨#[]⟩, .bool false] 72 := Blk.later (Blk.later (unhide HY3).1 hb4) hA4
  have ho : Blk W (w1.heap.size + 1) #[.int .i64 k, .int .i64 0, .string ⟨#[]⟩, .slice none 0 0, .string ⟨#[]⟩, .slice none 0 0, .slice none 0 0, .string ⟨#[]⟩, .bool false] 72 := Blk.later (Blk.later (unhide HY3).2.1 hb4) hA4
  have hsB : Blk W w2.heap.size #[.int .i64 sp, .string ⟨#[]⟩, .slice none 0 0, .string (bs l2), .int .i64 e2] 96 := Blk.later (Blk.later (unhide HY3).2.2.1 hb4) hA4
  have htB : Blk W w3.heap.size #[.int .i64 0, .string t1, .slice none 0 0, .string (bs l3), .int .i64 e3] 96 := Blk.later (Blk.later (unhide HY3).2.2.2.1 hb4) hA4
  have hcB : Blk W w4.heap.size #[.int .i64 (c : Nat), .string ⟨#[]⟩, .slice none 0 0, .string (bs l4), .int .i64 e4] 96 := by rw [← hW]; exact Blk.new _ _ _
  have HBW : Hid (Below w.heap.size w W) := hide (tr2 (tr2 (unhide HY3).2.2.2.2 hb4) hA4)
  have hWs : W.heap.size = w4.heap.size + 1 := by rw [← hW]; simp
  simp only [hW]
  clear hW hb4 hA4 HY3 CC
  obtain ⟨Z, hZ⟩ : ∃ Z, w.heap.size = Z := ⟨_, rfl⟩
  obtain ⟨O, hO⟩ : ∃ O, w1.heap.size + 1 = O := ⟨_, rfl⟩
  obtain ⟨S, hS⟩ : ∃ Q, w2.heap.size = Q := ⟨_, rfl⟩
  obtain ⟨T, hT⟩ : ∃ Q, w3.heap.size = Q := ⟨_, rfl⟩
  obtain ⟨C, hC⟩ : ∃ Q, w4.heap.size = Q := ⟨_, rfl⟩
  have HZO : Hid (w.heap.size = Z ∧ w.heap.size ≤ O) := hide ⟨hZ, by omega⟩
  have HLT : Hid (Z < O ∧ O < S ∧ S < T ∧ T < C ∧ C < W.heap.size) := hide (by omega)
  have hZO : Z ≠ O := by omega
  have hOZ : O ≠ Z := by omega
  have hSO : S ≠ O := by omega
  have hTO : T ≠ O := by omega
  have hCO : C ≠ O := by omega
  rw [hZ] at hz
  rw [hO] at ho
  rw [hS] at hsB
  rw [hT] at htB
  rw [hC] at hcB
  simp only [hZ, hO, hS, hT, hC]
  clear hZ hO hS hT hC hw1 hlt2 hlt3 hlt4 hWs
  have s0 : W.cell? ⟨S, 0, none⟩ = some (.int .i64 sp) := hsB.cell 0
  have s4 : W.cell? ⟨S, 4, none⟩ = some (.int .i64 e2) := hsB.cell 4
  have t1c : W.cell? ⟨T, 1, none⟩ = some (.string t1) := htB.cell 1
  have t4 : W.cell? ⟨T, 4, none⟩ = some (.int .i64 e3) := htB.cell 4
  have c0 : W.cell? ⟨C, 0, none⟩ = some (.int .i64 (c : Nat)) := hcB.cell 0
  have c3 : W.cell? ⟨C, 3, none⟩ = some (.string (bs l4)) := hcB.cell 3
  have c4 : W.cell? ⟨C, 4, none⟩ = some (.int .i64 e4) := hcB.cell 4
  clear hsB htB
  by_cases q2 : e2 = 4
  · subst q2
    have HON : Hid (o = none) := hide (unhide HF (by omega))
    clear HF HO CK hcB ho
    skip
    go_upto_region 15 with fail
    clear s0 s4 t1c t4 c0 c3 c4
    have z0 : W.cell? ⟨Z, 0, none⟩ = some (.int .i64 0) := hz.cell 0
    have zf0 : W.frozen? ⟨Z, 0, none⟩ = false := hz.frozen 0
    have z1 : W.cell? ⟨Z, 1, none⟩ = some (.int .i64 0) := hz.cell 1
    have zf1 : W.frozen? ⟨Z, 1, none⟩ = false := hz.frozen 1
    have z2 : W.cell? ⟨Z, 2, none⟩ = some (.string ⟨#[]⟩) := hz.cell 2
    have zf2 : W.frozen? ⟨Z, 2, none⟩ = false := hz.frozen 2
    have z3 : W.cell? ⟨Z, 3, none⟩ = some (.slice none 0 0) := hz.cell 3
    have zf3 : W.frozen? ⟨Z, 3, none⟩ = false := hz.frozen 3
    have z4 : W.cell? ⟨Z, 4, none⟩ = some (.string ⟨#[]⟩) := hz.cell 4
    have zf4 : W.frozen? ⟨Z, 4, none⟩ = false := hz.frozen 4
    have z5 : W.cell? ⟨Z, 5, none⟩ = some (.slice none 0 0) := hz.cell 5
    have zf5 : W.frozen? ⟨Z, 5, none⟩ = false := hz.frozen 5
    have z6 : W.cell? ⟨Z, 6, none⟩ = some (.slice none 0 0) := hz.cell 6
    have zf6 : W.frozen? ⟨Z, 6, none⟩ = false := hz.frozen 6
    have z7 : W.cell? ⟨Z, 7, none⟩ = some (.string ⟨#[]⟩) := hz.cell 7
    have zf7 : W.frozen? ⟨Z, 7, none⟩ = false := hz.frozen 7
    have z8 : W.cell? ⟨Z, 8, none⟩ = some (.bool false) := hz.cell 8
    have zf8 : W.frozen? ⟨Z, 8, none⟩ = false := hz.frozen 8
    have bk0 : Blk W Z #[.int .i64 0, .int .i64 0, .string ⟨#[]⟩, .slice none 0 0, .string ⟨#[]⟩, .slice none 0 0, .slice none 0 0, .string ⟨#[]⟩, .bool false] 72 := hz
    have bk1 : Blk (W.setCell ⟨Z, 0, none⟩ (.int .i64 0)) Z #[.int .i64 0, .int .i64 0, .string ⟨#[]⟩, .slice none 0 0, .string ⟨#[]⟩, .slice none 0 0, .slice none 0 0, .string ⟨#[]⟩, .bool false] 72 := Blk.set (vs := #[.int .i64 0, .int .i64 0, .string ⟨#[]⟩, .slice none 0 0, .string ⟨#[]⟩, .slice none 0 0, .slice none 0 0, .string ⟨#[]⟩, .bool false]) bk0 0 (by simp) _
    have r0 : (W.setCell ⟨Z, 0, none⟩ (.int .i64 0)).cell? ⟨Z, 0, none⟩ = some (.int .i64 0) := bk1.cell 0
    have bk2 : Blk ((W.setCell ⟨Z, 0, none⟩ (.int .i64 0)).setCell ⟨Z, 1, none⟩ (.int .i64 0)) Z #[.int .i64 0, .int .i64 0, .string ⟨#[]⟩, .slice none 0 0, .string ⟨#[]⟩, .slice none 0 0, .slice none 0 0, .string ⟨#[]⟩, .bool false] 72 := Blk.set (vs := #[.int .i64 0, .int .i64 0, .string ⟨#[]⟩, .slice none 0 0, .string ⟨#[]⟩, .slice none 0 0, .slice none 0 0, .string ⟨#[]⟩, .bool false]) bk1 1 (by simp) _
    have r1 : ((W.setCell ⟨Z, 0, none⟩ (.int .i64 0)).setCell ⟨Z, 1, none⟩ (.int .i64 0)).cell? ⟨Z, 1, none⟩ = some (.int .i64 0) := bk2.cell 1
    have bk3 : Blk (((W.setCell ⟨Z, 0, none⟩ (.int .i64 0)).setCell ⟨Z, 1, none⟩ (.int .i64 0)).setCell ⟨Z, 2, none⟩ (.string ⟨#[]⟩)) Z #[.int .i64 0, .int .i64 0, .string ⟨#[]⟩, .slice none 0 0, .string ⟨#[]⟩, .slice none 0 0, .slice none 0 0, .string ⟨#[]⟩, .bool false] 72 := Blk.set (vs := #[.int .i64 0, .int .i64 0, .string ⟨#[]⟩, .slice none 0 0, .string ⟨#[]⟩, .slice none 0 0, .slice none 0 0, .string ⟨#[]⟩, .bool false]) bk2 2 (by simp) _
    have r2 : (((W.setCell ⟨Z, 0, none⟩ (.int .i64 0)).setCell ⟨Z, 1, none⟩ (.int .i64 0)).setCell ⟨Z, 2, none⟩ (.string ⟨#[]⟩)).cell? ⟨Z, 2, none⟩ = some (.string ⟨#[]⟩) := bk3.cell 2
    have bk4 : Blk ((((W.setCell ⟨Z, 0, none⟩ (.int .i64 0)).setCell ⟨Z, 1, none⟩ (.int .i64 0)).setCell ⟨Z, 2, none⟩ (.string ⟨#[]⟩)).setCell ⟨Z, 3, none⟩ (.slice none 0 0)) Z #[.int .i64 0, .int .i64 0, .string ⟨#[]⟩, .slice none 0 0, .string ⟨#[]⟩, .slice none 0 0, .slice none 0 0, .string ⟨#[]⟩, .bool false] 72 := Blk.set (vs := #[.int .i64 0, .int .i64 0, .string ⟨#[]⟩, .slice none 0 0, .string ⟨#[]⟩, .slice none 0 0, .slice none 0 0, .string ⟨#[]⟩, .bool false]) bk3 3 (by simp) _
    have r3 : ((((W.setCell ⟨Z, 0, none⟩ (.int .i64 0)).setCell ⟨Z, 1, none⟩ (.int .i64 0)).setCell ⟨Z, 2, none⟩ (.string ⟨#[]⟩)).setCell ⟨Z, 3, none⟩ (.slice none 0 0)).cell? ⟨Z, 3, none⟩ = some (.slice none 0 0) := bk4.cell 3
    have bk5 : Blk (((((W.setCell ⟨Z, 0, none⟩ (.int .i64 0)).setCell ⟨Z, 1, none⟩ (.int .i64 0)).setCell ⟨Z, 2, none⟩ (.string ⟨#[]⟩)).setCell ⟨Z, 3, none⟩ (.slice none 0 0)).setCell ⟨Z, 4, none⟩ (.string ⟨#[]⟩)) Z #[.int .i64 0, .int .i64 0, .string ⟨#[]⟩, .slice none 0 0, .string ⟨#[]⟩, .slice none 0 0, .slice none 0 0, .string ⟨#[]⟩, .bool false] 72 := Blk.set (vs := #[.int .i64 0, .int .i64 0, .string ⟨#[]⟩, .slice none 0 0, .string ⟨#[]⟩, .slice none 0 0, .slice none 0 0, .string ⟨#[]⟩, .bool false]) bk4 4 (by simp) _
    have r4 : (((((W.setCell ⟨Z, 0, none⟩ (.int .i64 0)).setCell ⟨Z, 1, none⟩ (.int .i64 0)).setCell ⟨Z, 2, none⟩ (.string ⟨#[]⟩)).setCell ⟨Z, 3, none⟩ (.slice none 0 0)).setCell ⟨Z, 4, none⟩ (.string ⟨#[]⟩)).cell? ⟨Z, 4, none⟩ = some (.string ⟨#[]⟩) := bk5.cell 4
    have bk6 : Blk ((((((W.setCell ⟨Z, 0, none⟩ (.int .i64 0)).setCell ⟨Z, 1, none⟩ (.int .i64 0)).setCell ⟨Z, 2, none⟩ (.string ⟨#[]⟩)).setCell ⟨Z, 3, none⟩ (.slice none 0 0)).setCell ⟨Z, 4, none⟩ (.string ⟨#[]⟩)).setCell ⟨Z, 5, none⟩ (.slice none 0 0)) Z #[.int .i64 0, .int .i64 0, .string ⟨#[]⟩, .slice none 0 0, .string ⟨#[]⟩, .slice none 0 0, .slice none 0 0, .string ⟨#[]⟩, .bool false] 72 := Blk.set (vs := #[.int .i64 0, .int .i64 0, .string ⟨#[]⟩, .slice none 0 0, .string ⟨#[]⟩, .slice none 0 0, .slice none 0 0, .string ⟨#[]⟩, .bool false]) bk5 5 (by simp) _
    have r5 : ((((((W.setCell ⟨Z, 0, none⟩ (.int .i64 0)).setCell ⟨Z, 1, none⟩ (.int .i64 0)).setCell ⟨Z, 2, none⟩ (.string ⟨#[]⟩)).setCell ⟨Z, 3, none⟩ (.slice none 0 0)).setCell ⟨Z, 4, none⟩ (.string ⟨#[]⟩)).setCell ⟨Z, 5, none⟩ (.slice none 0 0)).cell? ⟨Z, 5, none⟩ = some (.slice none 0 0) := bk6.cell 5
    have bk7 : Blk (((((((W.setCell ⟨Z, 0, none⟩ (.int .i64 0)).setCell ⟨Z, 1, none⟩ (.int .i64 0)).setCell ⟨Z, 2, none⟩ (.string ⟨#[]⟩)).setCell ⟨Z, 3, none⟩ (.slice none 0 0)).setCell ⟨Z, 4, none⟩ (.string ⟨#[]⟩)).setCell ⟨Z, 5, none⟩ (.slice none 0 0)).setCell ⟨Z, 6, none⟩ (.slice none 0 0)) Z #[.int .i64 0, .int .i64 0, .string ⟨#[]⟩, .slice none 0 0, .string ⟨#[]⟩, .slice none 0 0, .slice none 0 0, .string ⟨#[]⟩, .bool false] 72 := Blk.set (vs := #[.int .i64 0, .int .i64 0, .string ⟨#[]⟩, .slice none 0 0, .string ⟨#[]⟩, .slice none 0 0, .slice none 0 0, .string ⟨#[]⟩, .bool false]) bk6 6 (by simp) _
    have r6 : (((((((W.setCell ⟨Z, 0, none⟩ (.int .i64 0)).setCell ⟨Z, 1, none⟩ (.int .i64 0)).setCell ⟨Z, 2, none⟩ (.string ⟨#[]⟩)).setCell ⟨Z, 3, none⟩ (.slice none 0 0)).setCell ⟨Z, 4, none⟩ (.string ⟨#[]⟩)).setCell ⟨Z, 5, none⟩ (.slice none 0 0)).setCell ⟨Z, 6, none⟩ (.slice none 0 0)).cell? ⟨Z, 6, none⟩ = some (.slice none 0 0) := bk7.cell 6
    have bk8 : Blk ((((((((W.setCell ⟨Z, 0, none⟩ (.int .i64 0)).setCell ⟨Z, 1, none⟩ (.int .i64 0)).setCell ⟨Z, 2, none⟩ (.string ⟨#[]⟩)).setCell ⟨Z, 3, none⟩ (.slice none 0 0)).setCell ⟨Z, 4, none⟩ (.string ⟨#[]⟩)).setCell ⟨Z, 5, none⟩ (.slice none 0 0)).setCell ⟨Z, 6, none⟩ (.slice none 0 0)).setCell ⟨Z, 7, none⟩ (.string ⟨#[]⟩)) Z #[.int .i64 0, .int .i64 0, .string ⟨#[]⟩, .slice none 0 0, .string ⟨#[]⟩, .slice none 0 0, .slice none 0 0, .string ⟨#[]⟩, .bool false] 72 := Blk.set (vs := #[.int .i64 0, .int .i64 0, .string ⟨#[]⟩, .slice none 0 0, .string ⟨#[]⟩, .slice none 0 0, .slice none 0 0, .string ⟨#[]⟩, .bool false]) bk7 7 (by simp) _
    have r7 : ((((((((W.setCell ⟨Z, 0, none⟩ (.int .i64 0)).setCell ⟨Z, 1, none⟩ (.int .i64 0)).setCell ⟨Z, 2, none⟩ (.string ⟨#[]⟩)).setCell ⟨Z, 3, none⟩ (.slice none 0 0)).setCell ⟨Z, 4, none⟩ (.string ⟨#[]⟩)).setCell ⟨Z, 5, none⟩ (.slice none 0 0)).setCell ⟨Z, 6, none⟩ (.slice none 0 0)).setCell ⟨Z, 7, none⟩ (.string ⟨#[]⟩)).cell? ⟨Z, 7, none⟩ = some (.string ⟨#[]⟩) := bk8.cell 7
    have bk9 : Blk (((((((((W.setCell ⟨Z, 0, none⟩ (.int .i64 0)).setCell ⟨Z, 1, none⟩ (.int .i64 0)).setCell ⟨Z, 2, none⟩ (.string ⟨#[]⟩)).setCell ⟨Z, 3, none⟩ (.slice none 0 0)).setCell ⟨Z, 4, none⟩ (.string ⟨#[]⟩)).setCell ⟨Z, 5, none⟩ (.slice none 0 0)).setCell ⟨Z, 6, none⟩ (.slice none 0 0)).setCell ⟨Z, 7, none⟩ (.string ⟨#[]⟩)).setCell ⟨Z, 8, none⟩ (.bool true)) Z #[.int .i64 0, .int .i64 0, .string ⟨#[]⟩, .slice none 0 0, .string ⟨#[]⟩, .slice none 0 0, .slice none 0 0, .string ⟨#[]⟩, .bool true] 72 := Blk.set (vs := #[.int .i64 0, .int .i64 0, .string ⟨#[]⟩, .slice none 0 0, .string ⟨#[]⟩, .slice none 0 0, .slice none 0 0, .string ⟨#[]⟩, .bool false]) bk8 8 (by simp) _
    have r8 : (((((((((W.setCell ⟨Z, 0, none⟩ (.int .i64 0)).setCell ⟨Z, 1, none⟩ (.int .i64 0)).setCell ⟨Z, 2, none⟩ (.string ⟨#[]⟩)).setCell ⟨Z, 3, none⟩ (.slice none 0 0)).setCell ⟨Z, 4, none⟩ (.string ⟨#[]⟩)).setCell ⟨Z, 5, none⟩ (.slice none 0 0)).setCell ⟨Z, 6, none⟩ (.slice none 0 0)).setCell ⟨Z, 7, none⟩ (.string ⟨#[]⟩)).setCell ⟨Z, 8, none⟩ (.bool true)).cell? ⟨Z, 8, none⟩ = some (.bool true) := bk9.cell 8
    have HRS := hide (And.intro r0 (And.intro r1 (And.intro r2 (And.intro r3 (And.intro r4 (And.intro r5 (And.intro r6 (And.intro r7 r8))))))))
    have HE : Hid (OneSaid w o (.returned (.agg #[.int .i64 0, .int .i64 0, .string ⟨#[]⟩, .slice none 0 0, .string ⟨#[]⟩, .slice none 0 0, .slice none 0 0, .string ⟨#[]⟩, .bool true])) (((((((((W.setCell ⟨Z, 0, none⟩ (.int .i64 0)).setCell ⟨Z, 1, none⟩ (.int .i64 0)).setCell ⟨Z, 2, none⟩ (.string ⟨#[]⟩)).setCell ⟨Z, 3, none⟩ (.slice none 0 0)).setCell ⟨Z, 4, none⟩ (.string ⟨#[]⟩)).setCell ⟨Z, 5, none⟩ (.slice none 0 0)).setCell ⟨Z, 6, none⟩ (.slice none 0 0)).setCell ⟨Z, 7, none⟩ (.string ⟨#[]⟩)).setCell ⟨Z, 8, none⟩ (.bool true))) := hide (by rw [unhide HON]; exact ⟨0, 0, ⟨#[]⟩, none, 0, 0, ⟨#[]⟩, none, 0, 0, ⟨#[]⟩, true, rfl, ((((((((((unhide HBW).setCell (p := ⟨Z, 0, none⟩) (Nat.le_of_eq (unhide HZO).1) (.int .i64 0)).setCell (p := ⟨Z, 1, none⟩) (Nat.le_of_eq (unhide HZO).1) (.int .i64 0)).setCell (p := ⟨Z, 2, none⟩) (Nat.le_of_eq (unhide HZO).1) (.string ⟨#[]⟩)).setCell (p := ⟨Z, 3, none⟩) (Nat.le_of_eq (unhide HZO).1) (.slice none 0 0)).setCell (p := ⟨Z, 4, none⟩) (Nat.le_of_eq (unhide HZO).1) (.string ⟨#[]⟩)).setCell (p := ⟨Z, 5, none⟩) (Nat.le_of_eq (unhide HZO).1) (.slice none 0 0)).setCell (p := ⟨Z, 6, none⟩) (Nat.le_of_eq (unhide HZO).1) (.slice none 0 0)).setCell (p := ⟨Z, 7, none⟩) (Nat.le_of_eq (unhide HZO).1) (.string ⟨#[]⟩)).setCell (p := ⟨Z, 8, none⟩) (Nat.le_of_eq (unhide HZO).1) (.bool true)), rfl⟩)
    clear bk0 bk1 bk2 bk3 bk4 bk5 bk6 bk7 bk8 bk9 r0 r1 r2 r3 r4 r5 r6 r7 r8 hz 
    go_wp2
    obtain ⟨r0, r1, r2, r3, r4, r5, r6, r7, r8⟩ := unhide HRS
    refine bodyPost_ret (v := .agg #[.int .i64 0, .int .i64 0, .string ⟨#[]⟩, .slice none 0 0, .string ⟨#[]⟩, .slice none 0 0, .slice none 0 0, .string ⟨#[]⟩, .bool true]) (by simp [results, Tryd.results69, go_sem, r0, r1, r2, r3, r4, r5, r6, r7, r8]) rfl ?_
    exact unhide HE
  have q2' : e2 = 0 := by omega
  subst q2'
  by_cases q3 : e3 = 4
  · subst q3
    have HON : Hid (o = none) := hide (unhide HF (by omega))
    clear HF HO CK hcB ho
    skip
    go_upto_region 15 with fail
    clear s0 s4 t1c t4 c0 c3 c4
    have z0 : W.cell? ⟨Z, 0, none⟩ = some (.int .i64 0) := hz.cell 0
    have zf0 : W.frozen? ⟨Z, 0, none⟩ = false := hz.frozen 0
    have z1 : W.cell? ⟨Z, 1, none⟩ = some (.int .i64 0) := hz.cell 1
    have zf1 : W.frozen? ⟨Z, 1, none⟩ = false := hz.frozen 1
    have z2 : W.cell? ⟨Z, 2, none⟩ = some (.string ⟨#[]⟩) := hz.cell 2
    have zf2 : W.frozen? ⟨Z, 2, none⟩ = false := hz.frozen 2
    have z3 : W.cell? ⟨Z, 3, none⟩ = some (.slice none 0 0) := hz.cell 3
    have zf3 : W.frozen? ⟨Z, 3, none⟩ = false := hz.frozen 3
    have z4 : W.cell? ⟨Z, 4, none⟩ = some (.string ⟨#[]⟩) := hz.cell 4
    have zf4 : W.frozen? ⟨Z, 4, none⟩ = false := hz.frozen 4
    have z5 : W.cell? ⟨Z, 5, none⟩ = some (.slice none 0 0) := hz.cell 5
    have zf5 : W.frozen? ⟨Z, 5, none⟩ = false := hz.frozen 5
    have z6 : W.cell? ⟨Z, 6, none⟩ = some (.slice none 0 0) := hz.cell 6
    have zf6 : W.frozen? ⟨Z, 6, none⟩ = false := hz.frozen 6
    have z7 : W.cell? ⟨Z, 7, none⟩ = some (.string ⟨#[]⟩) := hz.cell 7
    have zf7 : W.frozen? ⟨Z, 7, none⟩ = false := hz.frozen 7
    have z8 : W.cell? ⟨Z, 8, none⟩ = some (.bool false) := hz.cell 8
    have zf8 : W.frozen? ⟨Z, 8, none⟩ = false := hz.frozen 8
    have bk0 : Blk W Z #[.int .i64 0, .int .i64 0, .string ⟨#[]⟩, .slice none 0 0, .string ⟨#[]⟩, .slice none 0 0, .slice none 0 0, .string ⟨#[]⟩, .bool false] 72 := hz
    have bk1 : Blk (W.setCell ⟨Z, 0, none⟩ (.int .i64 0)) Z #[.int .i64 0, .int .i64 0, .string ⟨#[]⟩, .slice none 0 0, .string ⟨#[]⟩, .slice none 0 0, .slice none 0 0, .string ⟨#[]⟩, .bool false] 72 := Blk.set (vs := #[.int .i64 0, .int .i64 0, .string ⟨#[]⟩, .slice none 0 0, .string ⟨#[]⟩, .slice none 0 0, .slice none 0 0, .string ⟨#[]⟩, .bool false]) bk0 0 (by simp) _
    have r0 : (W.setCell ⟨Z, 0, none⟩ (.int .i64 0)).cell? ⟨Z, 0, none⟩ = some (.int .i64 0) := bk1.cell 0
    have bk2 : Blk ((W.setCell ⟨Z, 0, none⟩ (.int .i64 0)).setCell ⟨Z, 1, none⟩ (.int .i64 0)) Z #[.int .i64 0, .int .i64 0, .string ⟨#[]⟩, .slice none 0 0, .string ⟨#[]⟩, .slice none 0 0, .slice none 0 0, .string ⟨#[]⟩, .bool false] 72 := Blk.set (vs := #[.int .i64 0, .int .i64 0, .string ⟨#[]⟩, .slice none 0 0, .string ⟨#[]⟩, .slice none 0 0, .slice none 0 0, .string ⟨#[]⟩, .bool false]) bk1 1 (by simp) _
    have r1 : ((W.setCell ⟨Z, 0, none⟩ (.int .i64 0)).setCell ⟨Z, 1, none⟩ (.int .i64 0)).cell? ⟨Z, 1, none⟩ = some (.int .i64 0) := bk2.cell 1
    have bk3 : Blk (((W.setCell ⟨Z, 0, none⟩ (.int .i64 0)).setCell ⟨Z, 1, none⟩ (.int .i64 0)).setCell ⟨Z, 2, none⟩ (.string ⟨#[]⟩)) Z #[.int .i64 0, .int .i64 0, .string ⟨#[]⟩, .slice none 0 0, .string ⟨#[]⟩, .slice none 0 0, .slice none 0 0, .string ⟨#[]⟩, .bool false] 72 := Blk.set (vs := #[.int .i64 0, .int .i64 0, .string ⟨#[]⟩, .slice none 0 0, .string ⟨#[]⟩, .slice none 0 0, .slice none 0 0, .string ⟨#[]⟩, .bool false]) bk2 2 (by simp) _
    have r2 : (((W.setCell ⟨Z, 0, none⟩ (.int .i64 0)).setCell ⟨Z, 1, none⟩ (.int .i64 0)).setCell ⟨Z, 2, none⟩ (.string ⟨#[]⟩)).cell? ⟨Z, 2, none⟩ = some (.string ⟨#[]⟩) := bk3.cell 2
    have bk4 : Blk ((((W.setCell ⟨Z, 0, none⟩ (.int .i64 0)).setCell ⟨Z, 1, none⟩ (.int .i64 0)).setCell ⟨Z, 2, none⟩ (.string ⟨#[]⟩)).setCell ⟨Z, 3, none⟩ (.slice none 0 0)) Z #[.int .i64 0, .int .i64 0, .string ⟨#[]⟩, .slice none 0 0, .string ⟨#[]⟩, .slice none 0 0, .slice none 0 0, .string ⟨#[]⟩, .bool false] 72 := Blk.set (vs := #[.int .i64 0, .int .i64 0, .string ⟨#[]⟩, .slice none 0 0, .string ⟨#[]⟩, .slice none 0 0, .slice none 0 0, .string ⟨#[]⟩, .bool false]) bk3 3 (by simp) _
    have r3 : ((((W.setCell ⟨Z, 0, none⟩ (.int .i64 0)).setCell ⟨Z, 1, none⟩ (.int .i64 0)).setCell ⟨Z, 2, none⟩ (.string ⟨#[]⟩)).setCell ⟨Z, 3, none⟩ (.slice none 0 0)).cell? ⟨Z, 3, none⟩ = some (.slice none 0 0) := bk4.cell 3
    have bk5 : Blk (((((W.setCell ⟨Z, 0, none⟩ (.int .i64 0)).setCell ⟨Z, 1, none⟩ (.int .i64 0)).setCell ⟨Z, 2, none⟩ (.string ⟨#[]⟩)).setCell ⟨Z, 3, none⟩ (.slice none 0 0)).setCell ⟨Z, 4, none⟩ (.string ⟨#[]⟩)) Z #[.int .i64 0, .int .i64 0, .string ⟨#[]⟩, .slice none 0 0, .string ⟨#[]⟩, .slice none 0 0, .slice none 0 0, .string ⟨#[]⟩, .bool false] 72 := Blk.set (vs := #[.int .i64 0, .int .i64 0, .string ⟨#[]⟩, .slice none 0 0, .string ⟨#[]⟩, .slice none 0 0, .slice none 0 0, .string ⟨#[]⟩, .bool false]) bk4 4 (by simp) _
    have r4 : (((((W.setCell ⟨Z, 0, none⟩ (.int .i64 0)).setCell ⟨Z, 1, none⟩ (.int .i64 0)).setCell ⟨Z, 2, none⟩ (.string ⟨#[]⟩)).setCell ⟨Z, 3, none⟩ (.slice none 0 0)).setCell ⟨Z, 4, none⟩ (.string ⟨#[]⟩)).cell? ⟨Z, 4, none⟩ = some (.string ⟨#[]⟩) := bk5.cell 4
    have bk6 : Blk ((((((W.setCell ⟨Z, 0, none⟩ (.int .i64 0)).setCell ⟨Z, 1, none⟩ (.int .i64 0)).setCell ⟨Z, 2, none⟩ (.string ⟨#[]⟩)).setCell ⟨Z, 3, none⟩ (.slice none 0 0)).setCell ⟨Z, 4, none⟩ (.string ⟨#[]⟩)).setCell ⟨Z, 5, none⟩ (.slice none 0 0)) Z #[.int .i64 0, .int .i64 0, .string ⟨#[]⟩, .slice none 0 0, .string ⟨#[]⟩, .slice none 0 0, .slice none 0 0, .string ⟨#[]⟩, .bool false] 72 := Blk.set (vs := #[.int .i64 0, .int .i64 0, .string ⟨#[]⟩, .slice none 0 0, .string ⟨#[]⟩, .slice none 0 0, .slice none 0 0, .string ⟨#[]⟩, .bool false]) bk5 5 (by simp) _
    have r5 : ((((((W.setCell ⟨Z, 0, none⟩ (.int .i64 0)).setCell ⟨Z, 1, none⟩ (.int .i64 0)).setCell ⟨Z, 2, none⟩ (.string ⟨#[]⟩)).setCell ⟨Z, 3, none⟩ (.slice none 0 0)).setCell ⟨Z, 4, none⟩ (.string ⟨#[]⟩)).setCell ⟨Z, 5, none⟩ (.slice none 0 0)).cell? ⟨Z, 5, none⟩ = some (.slice none 0 0) := bk6.cell 5
    have bk7 : Blk (((((((W.setCell ⟨Z, 0, none⟩ (.int .i64 0)).setCell ⟨Z, 1, none⟩ (.int .i64 0)).setCell ⟨Z, 2, none⟩ (.string ⟨#[]⟩)).setCell ⟨Z, 3, none⟩ (.slice none 0 0)).setCell ⟨Z, 4, none⟩ (.string ⟨#[]⟩)).setCell ⟨Z, 5, none⟩ (.slice none 0 0)).setCell ⟨Z, 6, none⟩ (.slice none 0 0)) Z #[.int .i64 0, .int .i64 0, .string ⟨#[]⟩, .slice none 0 0, .string ⟨#[]⟩, .slice none 0 0, .slice none 0 0, .string ⟨#[]⟩, .bool false] 72 := Blk.set (vs := #[.int .i64 0, .int .i64 0, .string ⟨#[]⟩, .slice none 0 0, .string ⟨#[]⟩, .slice none 0 0, .slice none 0 0, .string ⟨#[]⟩, .bool false]) bk6 6 (by simp) _
    have r6 : (((((((W.setCell ⟨Z, 0, none⟩ (.int .i64 0)).setCell ⟨Z, 1, none⟩ (.int .i64 0)).setCell ⟨Z, 2, none⟩ (.string ⟨#[]⟩)).setCell ⟨Z, 3, none⟩ (.slice none 0 0)).setCell ⟨Z, 4, none⟩ (.string ⟨#[]⟩)).setCell ⟨Z, 5, none⟩ (.slice none 0 0)).setCell ⟨Z, 6, none⟩ (.slice none 0 0)).cell? ⟨Z, 6, none⟩ = some (.slice none 0 0) := bk7.cell 6
    have bk8 : Blk ((((((((W.setCell ⟨Z, 0, none⟩ (.int .i64 0)).setCell ⟨Z, 1, none⟩ (.int .i64 0)).setCell ⟨Z, 2, none⟩ (.string ⟨#[]⟩)).setCell ⟨Z, 3, none⟩ (.slice none 0 0)).setCell ⟨Z, 4, none⟩ (.string ⟨#[]⟩)).setCell ⟨Z, 5, none⟩ (.slice none 0 0)).setCell ⟨Z, 6, none⟩ (.slice none 0 0)).setCell ⟨Z, 7, none⟩ (.string ⟨#[]⟩)) Z #[.int .i64 0, .int .i64 0, .string ⟨#[]⟩, .slice none 0 0, .string ⟨#[]⟩, .slice none 0 0, .slice none 0 0, .string ⟨#[]⟩, .bool false] 72 := Blk.set (vs := #[.int .i64 0, .int .i64 0, .string ⟨#[]⟩, .slice none 0 0, .string ⟨#[]⟩, .slice none 0 0, .slice none 0 0, .string ⟨#[]⟩, .bool false]) bk7 7 (by simp) _
    have r7 : ((((((((W.setCell ⟨Z, 0, none⟩ (.int .i64 0)).setCell ⟨Z, 1, none⟩ (.int .i64 0)).setCell ⟨Z, 2, none⟩ (.string ⟨#[]⟩)).setCell ⟨Z, 3, none⟩ (.slice none 0 0)).setCell ⟨Z, 4, none⟩ (.string ⟨#[]⟩)).setCell ⟨Z, 5, none⟩ (.slice none 0 0)).setCell ⟨Z, 6, none⟩ (.slice none 0 0)).setCell ⟨Z, 7, none⟩ (.string ⟨#[]⟩)).cell? ⟨Z, 7, none⟩ = some (.string ⟨#[]⟩) := bk8.cell 7
    have bk9 : Blk (((((((((W.setCell ⟨Z, 0, none⟩ (.int .i64 0)).setCell ⟨Z, 1, none⟩ (.int .i64 0)).setCell ⟨Z, 2, none⟩ (.string ⟨#[]⟩)).setCell ⟨Z, 3, none⟩ (.slice none 0 0)).setCell ⟨Z, 4, none⟩ (.string ⟨#[]⟩)).setCell ⟨Z, 5, none⟩ (.slice none 0 0)).setCell ⟨Z, 6, none⟩ (.slice none 0 0)).setCell ⟨Z, 7, none⟩ (.string ⟨#[]⟩)).setCell ⟨Z, 8, none⟩ (.bool true)) Z #[.int .i64 0, .int .i64 0, .string ⟨#[]⟩, .slice none 0 0, .string ⟨#[]⟩, .slice none 0 0, .slice none 0 0, .string ⟨#[]⟩, .bool true] 72 := Blk.set (vs := #[.int .i64 0, .int .i64 0, .string ⟨#[]⟩, .slice none 0 0, .string ⟨#[]⟩, .slice none 0 0, .slice none 0 0, .string ⟨#[]⟩, .bool false]) bk8 8 (by simp) _
    have r8 : (((((((((W.setCell ⟨Z, 0, none⟩ (.int .i64 0)).setCell ⟨Z, 1, none⟩ (.int .i64 0)).setCell ⟨Z, 2, none⟩ (.string ⟨#[]⟩)).setCell ⟨Z, 3, none⟩ (.slice none 0 0)).setCell ⟨Z, 4, none⟩ (.string ⟨#[]⟩)).setCell ⟨Z, 5, none⟩ (.slice none 0 0)).setCell ⟨Z, 6, none⟩ (.slice none 0 0)).setCell ⟨Z, 7, none⟩ (.string ⟨#[]⟩)).setCell ⟨Z, 8, none⟩ (.bool true)).cell? ⟨Z, 8, none⟩ = some (.bool true) := bk9.cell 8
    have HRS := hide (And.intro r0 (And.intro r1 (And.intro r2 (And.intro r3 (And.intro r4 (And.intro r5 (And.intro r6 (And.intro r7 r8))))))))
    have HE : Hid (OneSaid w o (.returned (.agg #[.int .i64 0, .int .i64 0, .string ⟨#[]⟩, .slice none 0 0, .string ⟨#[]⟩, .slice none 0 0, .slice none 0 0, .string ⟨#[]⟩, .bool true])) (((((((((W.setCell ⟨Z, 0, none⟩ (.int .i64 0)).setCell ⟨Z, 1, none⟩ (.int .i64 0)).setCell ⟨Z, 2, none⟩ (.string ⟨#[]⟩)).setCell ⟨Z, 3, none⟩ (.slice none 0 0)).setCell ⟨Z, 4, none⟩ (.string ⟨#[]⟩)).setCell ⟨Z, 5, none⟩ (.slice none 0 0)).setCell ⟨Z, 6, none⟩ (.slice none 0 0)).setCell ⟨Z, 7, none⟩ (.string ⟨#[]⟩)).setCell ⟨Z, 8, none⟩ (.bool true))) := hide (by rw [unhide HON]; exact ⟨0, 0, ⟨#[]⟩, none, 0, 0, ⟨#[]⟩, none, 0, 0, ⟨#[]⟩, true, rfl, ((((((((((unhide HBW).setCell (p := ⟨Z, 0, none⟩) (Nat.le_of_eq (unhide HZO).1) (.int .i64 0)).setCell (p := ⟨Z, 1, none⟩) (Nat.le_of_eq (unhide HZO).1) (.int .i64 0)).setCell (p := ⟨Z, 2, none⟩) (Nat.le_of_eq (unhide HZO).1) (.string ⟨#[]⟩)).setCell (p := ⟨Z, 3, none⟩) (Nat.le_of_eq (unhide HZO).1) (.slice none 0 0)).setCell (p := ⟨Z, 4, none⟩) (Nat.le_of_eq (unhide HZO).1) (.string ⟨#[]⟩)).setCell (p := ⟨Z, 5, none⟩) (Nat.le_of_eq (unhide HZO).1) (.slice none 0 0)).setCell (p := ⟨Z, 6, none⟩) (Nat.le_of_eq (unhide HZO).1) (.slice none 0 0)).setCell (p := ⟨Z, 7, none⟩) (Nat.le_of_eq (unhide HZO).1) (.string ⟨#[]⟩)).setCell (p := ⟨Z, 8, none⟩) (Nat.le_of_eq (unhide HZO).1) (.bool true)), rfl⟩)
    clear bk0 bk1 bk2 bk3 bk4 bk5 bk6 bk7 bk8 bk9 r0 r1 r2 r3 r4 r5 r6 r7 r8 hz 
    go_wp2
    obtain ⟨r0, r1, r2, r3, r4, r5, r6, r7, r8⟩ := unhide HRS
    refine bodyPost_ret (v := .agg #[.int .i64 0, .int .i64 0, .string ⟨#[]⟩, .slice none 0 0, .string ⟨#[]⟩, .slice none 0 0, .slice none 0 0, .string ⟨#[]⟩, .bool true]) (by simp [results, Tryd.results69, go_sem, r0, r1, r2, r3, r4, r5, r6, r7, r8]) rfl ?_
    exact unhide HE
  have q3' : e3 = 0 := by omega
  subst q3'
  by_cases q4 : e4 = 4
  · subst q4
    have HON : Hid (o = none) := hide (unhide HF (by omega))
    clear HF HO CK hcB ho
    skip
    go_upto_region 15 with fail
    clear s0 s4 t1c t4 c0 c3 c4
    have z0 : W.cell? ⟨Z, 0, none⟩ = some (.int .i64 0) := hz.cell 0
    have zf0 : W.frozen? ⟨Z, 0, none⟩ = false := hz.frozen 0
    have z1 : W.cell? ⟨Z, 1, none⟩ = some (.int .i64 0) := hz.cell 1
    have zf1 : W.frozen? ⟨Z, 1, none⟩ = false := hz.frozen 1
    have z2 : W.cell? ⟨Z, 2, none⟩ = some (.string ⟨#[]⟩) := hz.cell 2
    have zf2 : W.frozen? ⟨Z, 2, none⟩ = false := hz.frozen 2
    have z3 : W.cell? ⟨Z, 3, none⟩ = some (.slice none 0 0) := hz.cell 3
    have zf3 : W.frozen? ⟨Z, 3, none⟩ = false := hz.frozen 3
    have z4 : W.cell? ⟨Z, 4, none⟩ = some (.string ⟨#[]⟩) := hz.cell 4
    have zf4 : W.frozen? ⟨Z, 4, none⟩ = false := hz.frozen 4
    have z5 : W.cell? ⟨Z, 5, none⟩ = some (.slice none 0 0) := hz.cell 5
    have zf5 : W.frozen? ⟨Z, 5, none⟩ = false := hz.frozen 5
    have z6 : W.cell? ⟨Z, 6, none⟩ = some (.slice none 0 0) := hz.cell 6
    have zf6 : W.frozen? ⟨Z, 6, none⟩ = false := hz.frozen 6
    have z7 : W.cell? ⟨Z, 7, none⟩ = some (.string ⟨#[]⟩) := hz.cell 7
    have zf7 : W.frozen? ⟨Z, 7, none⟩ = false := hz.frozen 7
    have z8 : W.cell? ⟨Z, 8, none⟩ = some (.bool false) := hz.cell 8
    have zf8 : W.frozen? ⟨Z, 8, none⟩ = false := hz.frozen 8
    have bk0 : Blk W Z #[.int .i64 0, .int .i64 0, .string ⟨#[]⟩, .slice none 0 0, .string ⟨#[]⟩, .slice none 0 0, .slice none 0 0, .string ⟨#[]⟩, .bool false] 72 := hz
    have bk1 : Blk (W.setCell ⟨Z, 0, none⟩ (.int .i64 0)) Z #[.int .i64 0, .int .i64 0, .string ⟨#[]⟩, .slice none 0 0, .string ⟨#[]⟩, .slice none 0 0, .slice none 0 0, .string ⟨#[]⟩, .bool false] 72 := Blk.set (vs := #[.int .i64 0, .int .i64 0, .string ⟨#[]⟩, .slice none 0 0, .string ⟨#[]⟩, .slice none 0 0, .slice none 0 0, .string ⟨#[]⟩, .bool false]) bk0 0 (by simp) _
    have r0 : (W.setCell ⟨Z, 0, none⟩ (.int .i64 0)).cell? ⟨Z, 0, none⟩ = some (.int .i64 0) := bk1.cell 0
    have bk2 : Blk ((W.setCell ⟨Z, 0, none⟩ (.int .i64 0)).setCell ⟨Z, 1, none⟩ (.int .i64 0)) Z #[.int .i64 0, .int .i64 0, .string ⟨#[]⟩, .slice none 0 0, .string ⟨#[]⟩, .slice none 0 0, .slice none 0 0, .string ⟨#[]⟩, .bool false] 72 := Blk.set (vs := #[.int .i64 0, .int .i64 0, .string ⟨#[]⟩, .slice none 0 0, .string ⟨#[]⟩, .slice none 0 0, .slice none 0 0, .string ⟨#[]⟩, .bool false]) bk1 1 (by simp) _
    have r1 : ((W.setCell ⟨Z, 0, none⟩ (.int .i64 0)).setCell ⟨Z, 1, none⟩ (.int .i64 0)).cell? ⟨Z, 1, none⟩ = some (.int .i64 0) := bk2.cell 1
    have bk3 : Blk (((W.setCell ⟨Z, 0, none⟩ (.int .i64 0)).setCell ⟨Z, 1, none⟩ (.int .i64 0)).setCell ⟨Z, 2, none⟩ (.string ⟨#[]⟩)) Z #[.int .i64 0, .int .i64 0, .string ⟨#[]⟩, .slice none 0 0, .string ⟨#[]⟩, .slice none 0 0, .slice none 0 0, .string ⟨#[]⟩, .bool false] 72 := Blk.set (vs := #[.int .i64 0, .int .i64 0, .string ⟨#[]⟩, .slice none 0 0, .string ⟨#[]⟩, .slice none 0 0, .slice none 0 0, .string ⟨#[]⟩, .bool false]) bk2 2 (by simp) _
    have r2 : (((W.setCell ⟨Z, 0, none⟩ (.int .i64 0)).setCell ⟨Z, 1, none⟩ (.int .i64 0)).setCell ⟨Z, 2, none⟩ (.string ⟨#[]⟩)).cell? ⟨Z, 2, none⟩ = some (.string ⟨#[]⟩) := bk3.cell 2
    have bk4 : Blk ((((W.setCell ⟨Z, 0, none⟩ (.int .i64 0)).setCell ⟨Z, 1, none⟩ (.int .i64 0)).setCell ⟨Z, 2, none⟩ (.string ⟨#[]⟩)).setCell ⟨Z, 3, none⟩ (.slice none 0 0)) Z #[.int .i64 0, .int .i64 0, .string ⟨#[]⟩, .slice none 0 0, .string ⟨#[]⟩, .slice none 0 0, .slice none 0 0, .string ⟨#[]⟩, .bool false] 72 := Blk.set (vs := #[.int .i64 0, .int .i64 0, .string ⟨#[]⟩, .slice none 0 0, .string ⟨#[]⟩, .slice none 0 0, .slice none 0 0, .string ⟨#[]⟩, .bool false]) bk3 3 (by simp) _
    have r3 : ((((W.setCell ⟨Z, 0, none⟩ (.int .i64 0)).setCell ⟨Z, 1, none⟩ (.int .i64 0)).setCell ⟨Z, 2, none⟩ (.string ⟨#[]⟩)).setCell ⟨Z, 3, none⟩ (.slice none 0 0)).cell? ⟨Z, 3, none⟩ = some (.slice none 0 0) := bk4.cell 3
    have bk5 : Blk (((((W.setCell ⟨Z, 0, none⟩ (.int .i64 0)).setCell ⟨Z, 1, none⟩ (.int .i64 0)).setCell ⟨Z, 2, none⟩ (.string ⟨#[]⟩)).setCell ⟨Z, 3, none⟩ (.slice none 0 0)).setCell ⟨Z, 4, none⟩ (.string ⟨#[]⟩)) Z #[.int .i64 0, .int .i64 0, .string ⟨#[]⟩, .slice none 0 0, .string ⟨#[]⟩, .slice none 0 0, .slice none 0 0, .string ⟨#[]⟩, .bool false] 72 := Blk.set (vs := #[.int .i64 0, .int .i64 0, .string ⟨#[]⟩, .slice none 0 0, .string ⟨#[]⟩, .slice none 0 0, .slice none 0 0, .string ⟨#[]⟩, .bool false]) bk4 4 (by simp) _
    have r4 : (((((W.setCell ⟨Z, 0, none⟩ (.int .i64 0)).setCell ⟨Z, 1, none⟩ (.int .i64 0)).setCell ⟨Z, 2, none⟩ (.string ⟨#[]⟩)).setCell ⟨Z, 3, none⟩ (.slice none 0 0)).setCell ⟨Z, 4, none⟩ (.string ⟨#[]⟩)).cell? ⟨Z, 4, none⟩ = some (.string ⟨#[]⟩) := bk5.cell 4
    have bk6 : Blk ((((((W.setCell ⟨Z, 0, none⟩ (.int .i64 0)).setCell ⟨Z, 1, none⟩ (.int .i64 0)).setCell ⟨Z, 2, none⟩ (.string ⟨#[]⟩)).setCell ⟨Z, 3, none⟩ (.slice none 0 0)).setCell ⟨Z, 4, none⟩ (.string ⟨#[]⟩)).setCell ⟨Z, 5, none⟩ (.slice none 0 0)) Z #[.int .i64 0, .int .i64 0, .string ⟨#[]⟩, .slice none 0 0, .string ⟨#[]⟩, .slice none 0 0, .slice none 0 0, .string ⟨#[]⟩, .bool false] 72 := Blk.set (vs := #[.int .i64 0, .int .i64 0, .string ⟨#[]⟩, .slice none 0 0, .string ⟨#[]⟩, .slice none 0 0, .slice none 0 0, .string ⟨#[]⟩, .bool false]) bk5 5 (by simp) _
    have r5 : ((((((W.setCell ⟨Z, 0, none⟩ (.int .i64 0)).setCell ⟨Z, 1, none⟩ (.int .i64 0)).setCell ⟨Z, 2, none⟩ (.string ⟨#[]⟩)).setCell ⟨Z, 3, none⟩ (.slice none 0 0)).setCell ⟨Z, 4, none⟩ (.string ⟨#[]⟩)).setCell ⟨Z, 5, none⟩ (.slice none 0 0)).cell? ⟨Z, 5, none⟩ = some (.slice none 0 0) := bk6.cell 5
    have bk7 : Blk (((((((W.setCell ⟨Z, 0, none⟩ (.int .i64 0)).setCell ⟨Z, 1, none⟩ (.int .i64 0)).setCell ⟨Z, 2, none⟩ (.string ⟨#[]⟩)).setCell ⟨Z, 3, none⟩ (.slice none 0 0)).setCell ⟨Z, 4, none⟩ (.string ⟨#[]⟩)).setCell ⟨Z, 5, none⟩ (.slice none 0 0)).setCell ⟨Z, 6, none⟩ (.slice none 0 0)) Z #[.int .i64 0, .int .i64 0, .string ⟨#[]⟩, .slice none 0 0, .string ⟨#[]⟩, .slice none 0 0, .slice none 0 0, .string ⟨#[]⟩, .bool false] 72 := Blk.set (vs := #[.int .i64 0, .int .i64 0, .string ⟨#[]⟩, .slice none 0 0, .string ⟨#[]⟩, .slice none 0 0, .slice none 0 0, .string ⟨#[]⟩, .bool false]) bk6 6 (by simp) _
    have r6 : (((((((W.setCell ⟨Z, 0, none⟩ (.int .i64 0)).setCell ⟨Z, 1, none⟩ (.int .i64 0)).setCell ⟨Z, 2, none⟩ (.string ⟨#[]⟩)).setCell ⟨Z, 3, none⟩ (.slice none 0 0)).setCell ⟨Z, 4, none⟩ (.string ⟨#[]⟩)).setCell ⟨Z, 5, none⟩ (.slice none 0 0)).setCell ⟨Z, 6, none⟩ (.slice none 0 0)).cell? ⟨Z, 6, none⟩ = some (.slice none 0 0) := bk7.cell 6
    have bk8 : Blk ((((((((W.setCell ⟨Z, 0, none⟩ (.int .i64 0)).setCell ⟨Z, 1, none⟩ (.int .i64 0)).setCell ⟨Z, 2, none⟩ (.string ⟨#[]⟩)).setCell ⟨Z, 3, none⟩ (.slice none 0 0)).setCell ⟨Z, 4, none⟩ (.string ⟨#[]⟩)).setCell ⟨Z, 5, none⟩ (.slice none 0 0)).setCell ⟨Z, 6, none⟩ (.slice none 0 0)).setCell ⟨Z, 7, none⟩ (.string ⟨#[]⟩)) Z #[.int .i64 0, .int .i64 0, .string ⟨#[]⟩, .slice none 0 0, .string ⟨#[]⟩, .slice none 0 0, .slice none 0 0, .string ⟨#[]⟩, .bool false] 72 := Blk.set (vs := #[.int .i64 0, .int .i64 0, .string ⟨#[]⟩, .slice none 0 0, .string ⟨#[]⟩, .slice none 0 0, .slice none 0 0, .string ⟨#[]⟩, .bool false]) bk7 7 (by simp) _
    have r7 : ((((((((W.setCell ⟨Z, 0, none⟩ (.int .i64 0)).setCell ⟨Z, 1, none⟩ (.int .i64 0)).setCell ⟨Z, 2, none⟩ (.string ⟨#[]⟩)).setCell ⟨Z, 3, none⟩ (.slice none 0 0)).setCell ⟨Z, 4, none⟩ (.string ⟨#[]⟩)).setCell ⟨Z, 5, none⟩ (.slice none 0 0)).setCell ⟨Z, 6, none⟩ (.slice none 0 0)).setCell ⟨Z, 7, none⟩ (.string ⟨#[]⟩)).cell? ⟨Z, 7, none⟩ = some (.string ⟨#[]⟩) := bk8.cell 7
    have bk9 : Blk (((((((((W.setCell ⟨Z, 0, none⟩ (.int .i64 0)).setCell ⟨Z, 1, none⟩ (.int .i64 0)).setCell ⟨Z, 2, none⟩ (.string ⟨#[]⟩)).setCell ⟨Z, 3, none⟩ (.slice none 0 0)).setCell ⟨Z, 4, none⟩ (.string ⟨#[]⟩)).setCell ⟨Z, 5, none⟩ (.slice none 0 0)).setCell ⟨Z, 6, none⟩ (.slice none 0 0)).setCell ⟨Z, 7, none⟩ (.string ⟨#[]⟩)).setCell ⟨Z, 8, none⟩ (.bool true)) Z #[.int .i64 0, .int .i64 0, .string ⟨#[]⟩, .slice none 0 0, .string ⟨#[]⟩, .slice none 0 0, .slice none 0 0, .string ⟨#[]⟩, .bool true] 72 := Blk.set (vs := #[.int .i64 0, .int .i64 0, .string ⟨#[]⟩, .slice none 0 0, .string ⟨#[]⟩, .slice none 0 0, .slice none 0 0, .string ⟨#[]⟩, .bool false]) bk8 8 (by simp) _
    have r8 : (((((((((W.setCell ⟨Z, 0, none⟩ (.int .i64 0)).setCell ⟨Z, 1, none⟩ (.int .i64 0)).setCell ⟨Z, 2, none⟩ (.string ⟨#[]⟩)).setCell ⟨Z, 3, none⟩ (.slice none 0 0)).setCell ⟨Z, 4, none⟩ (.string ⟨#[]⟩)).setCell ⟨Z, 5, none⟩ (.slice none 0 0)).setCell ⟨Z, 6, none⟩ (.slice none 0 0)).setCell ⟨Z, 7, none⟩ (.string ⟨#[]⟩)).setCell ⟨Z, 8, none⟩ (.bool true)).cell? ⟨Z, 8, none⟩ = some (.bool true) := bk9.cell 8
    have HRS := hide (And.intro r0 (And.intro r1 (And.intro r2 (And.intro r3 (And.intro r4 (And.intro r5 (And.intro r6 (And.intro r7 r8))))))))
    have HE : Hid (OneSaid w o (.returned (.agg #[.int .i64 0, .int .i64 0, .string ⟨#[]⟩, .slice none 0 0, .string ⟨#[]⟩, .slice none 0 0, .slice none 0 0, .string ⟨#[]⟩, .bool true])) (((((((((W.setCell ⟨Z, 0, none⟩ (.int .i64 0)).setCell ⟨Z, 1, none⟩ (.int .i64 0)).setCell ⟨Z, 2, none⟩ (.string ⟨#[]⟩)).setCell ⟨Z, 3, none⟩ (.slice none 0 0)).setCell ⟨Z, 4, none⟩ (.string ⟨#[]⟩)).setCell ⟨Z, 5, none⟩ (.slice none 0 0)).setCell ⟨Z, 6, none⟩ (.slice none 0 0)).setCell ⟨Z, 7, none⟩ (.string ⟨#[]⟩)).setCell ⟨Z, 8, none⟩ (.bool true))) := hide (by rw [unhide HON]; exact ⟨0, 0, ⟨#[]⟩, none, 0, 0, ⟨#[]⟩, none, 0, 0, ⟨#[]⟩, true, rfl, ((((((((((unhide HBW).setCell (p := ⟨Z, 0, none⟩) (Nat.le_of_eq (unhide HZO).1) (.int .i64 0)).setCell (p := ⟨Z, 1, none⟩) (Nat.le_of_eq (unhide HZO).1) (.int .i64 0)).setCell (p := ⟨Z, 2, none⟩) (Nat.le_of_eq (unhide HZO).1) (.string ⟨#[]⟩)).setCell (p := ⟨Z, 3, none⟩) (Nat.le_of_eq (unhide HZO).1) (.slice none 0 0)).setCell (p := ⟨Z, 4, none⟩) (Nat.le_of_eq (unhide HZO).1) (.string ⟨#[]⟩)).setCell (p := ⟨Z, 5, none⟩) (Nat.le_of_eq (unhide HZO).1) (.slice none 0 0)).setCell (p := ⟨Z, 6, none⟩) (Nat.le_of_eq (unhide HZO).1) (.slice none 0 0)).setCell (p := ⟨Z, 7, none⟩) (Nat.le_of_eq (unhide HZO).1) (.string ⟨#[]⟩)).setCell (p := ⟨Z, 8, none⟩) (Nat.le_of_eq (unhide HZO).1) (.bool true)), rfl⟩)
    clear bk0 bk1 bk2 bk3 bk4 bk5 bk6 bk7 bk8 bk9 r0 r1 r2 r3 r4 r5 r6 r7 r8 hz 
    go_wp2
    obtain ⟨r0, r1, r2, r3, r4, r5, r6, r7, r8⟩ := unhide HRS
    refine bodyPost_ret (v := .agg #[.int .i64 0, .int .i64 0, .string ⟨#[]⟩, .slice none 0 0, .string ⟨#[]⟩, .slice none 0 0, .slice none 0 0, .string ⟨#[]⟩, .bool true]) (by simp [results, Tryd.results69, go_sem, r0, r1, r2, r3, r4, r5, r6, r7, r8]) rfl ?_
    exact unhide HE
  have q4' : e4 = 0 := by omega
  subst q4'
  by_cases qs : 2 < sp
  · skip
    have HON : Hid (o = none) := hide (unhide HF (by omega))
    clear HF HO CK hcB ho
    skip
    go_upto_region 15 with fail
    clear s0 s4 t1c t4 c0 c3 c4
    have z0 : W.cell? ⟨Z, 0, none⟩ = some (.int .i64 0) := hz.cell 0
    have zf0 : W.frozen? ⟨Z, 0, none⟩ = false := hz.frozen 0
    have z1 : W.cell? ⟨Z, 1, none⟩ = some (.int .i64 0) := hz.cell 1
    have zf1 : W.frozen? ⟨Z, 1, none⟩ = false := hz.frozen 1
    have z2 : W.cell? ⟨Z, 2, none⟩ = some (.string ⟨#[]⟩) := hz.cell 2
    have zf2 : W.frozen? ⟨Z, 2, none⟩ = false := hz.frozen 2
    have z3 : W.cell? ⟨Z, 3, none⟩ = some (.slice none 0 0) := hz.cell 3
    have zf3 : W.frozen? ⟨Z, 3, none⟩ = false := hz.frozen 3
    have z4 : W.cell? ⟨Z, 4, none⟩ = some (.string ⟨#[]⟩) := hz.cell 4
    have zf4 : W.frozen? ⟨Z, 4, none⟩ = false := hz.frozen 4
    have z5 : W.cell? ⟨Z, 5, none⟩ = some (.slice none 0 0) := hz.cell 5
    have zf5 : W.frozen? ⟨Z, 5, none⟩ = false := hz.frozen 5
    have z6 : W.cell? ⟨Z, 6, none⟩ = some (.slice none 0 0) := hz.cell 6
    have zf6 : W.frozen? ⟨Z, 6, none⟩ = false := hz.frozen 6
    have z7 : W.cell? ⟨Z, 7, none⟩ = some (.string ⟨#[]⟩) := hz.cell 7
    have zf7 : W.frozen? ⟨Z, 7, none⟩ = false := hz.frozen 7
    have z8 : W.cell? ⟨Z, 8, none⟩ = some (.bool false) := hz.cell 8
    have zf8 : W.frozen? ⟨Z, 8, none⟩ = false := hz.frozen 8
    have bk0 : Blk W Z #[.int .i64 0, .int .i64 0, .string ⟨#[]⟩, .slice none 0 0, .string ⟨#[]⟩, .slice none 0 0, .slice none 0 0, .string ⟨#[]⟩, .bool false] 72 := hz
    have bk1 : Blk (W.setCell ⟨Z, 0, none⟩ (.int .i64 0)) Z #[.int .i64 0, .int .i64 0, .string ⟨#[]⟩, .slice none 0 0, .string ⟨#[]⟩, .slice none 0 0, .slice none 0 0, .string ⟨#[]⟩, .bool false] 72 := Blk.set (vs := #[.int .i64 0, .int .i64 0, .string ⟨#[]⟩, .slice none 0 0, .string ⟨#[]⟩, .slice none 0 0, .slice none 0 0, .string ⟨#[]⟩, .bool false]) bk0 0 (by simp) _
    have r0 : (W.setCell ⟨Z, 0, none⟩ (.int .i64 0)).cell? ⟨Z, 0, none⟩ = some (.int .i64 0) := bk1.cell 0
    have bk2 : Blk ((W.setCell ⟨Z, 0, none⟩ (.int .i64 0)).setCell ⟨Z, 1, none⟩ (.int .i64 0)) Z #[.int .i64 0, .int .i64 0, .string ⟨#[]⟩, .slice none 0 0, .string ⟨#[]⟩, .slice none 0 0, .slice none 0 0, .string ⟨#[]⟩, .bool false] 72 := Blk.set (vs := #[.int .i64 0, .int .i64 0, .string ⟨#[]⟩, .slice none 0 0, .string ⟨#[]⟩, .slice none 0 0, .slice none 0 0, .string ⟨#[]⟩, .bool false]) bk1 1 (by simp) _
    have r1 : ((W.setCell ⟨Z, 0, none⟩ (.int .i64 0)).setCell ⟨Z, 1, none⟩ (.int .i64 0)).cell? ⟨Z, 1, none⟩ = some (.int .i64 0) := bk2.cell 1
    have bk3 : Blk (((W.setCell ⟨Z, 0, none⟩ (.int .i64 0)).setCell ⟨Z, 1, none⟩ (.int .i64 0)).setCell ⟨Z, 2, none⟩ (.string ⟨#[]⟩)) Z #[.int .i64 0, .int .i64 0, .string ⟨#[]⟩, .slice none 0 0, .string ⟨#[]⟩, .slice none 0 0, .slice none 0 0, .string ⟨#[]⟩, .bool false] 72 := Blk.set (vs := #[.int .i64 0, .int .i64 0, .string ⟨#[]⟩, .slice none 0 0, .string ⟨#[]⟩, .slice none 0 0, .slice none 0 0, .string ⟨#[]⟩, .bool false]) bk2 2 (by simp) _
    have r2 : (((W.setCell ⟨Z, 0, none⟩ (.int .i64 0)).setCell ⟨Z, 1, none⟩ (.int .i64 0)).setCell ⟨Z, 2, none⟩ (.string ⟨#[]⟩)).cell? ⟨Z, 2, none⟩ = some (.string ⟨#[]⟩) := bk3.cell 2
    have bk4 : Blk ((((W.setCell ⟨Z, 0, none⟩ (.int .i64 0)).setCell ⟨Z, 1, none⟩ (.int .i64 0)).setCell ⟨Z, 2, none⟩ (.string ⟨#[]⟩)).setCell ⟨Z, 3, none⟩ (.slice none 0 0)) Z #[.int .i64 0, .int .i64 0, .string ⟨#[]⟩, .slice none 0 0, .string ⟨#[]⟩, .slice none 0 0, .slice none 0 0, .string ⟨#[]⟩, .bool false] 72 := Blk.set (vs := #[.int .i64 0, .int .i64 0, .string ⟨#[]⟩, .slice none 0 0, .string ⟨#[]⟩, .slice none 0 0, .slice none 0 0, .string ⟨#[]⟩, .bool false]) bk3 3 (by simp) _
    have r3 : ((((W.setCell ⟨Z, 0, none⟩ (.int .i64 0)).setCell ⟨Z, 1, none⟩ (.int .i64 0)).setCell ⟨Z, 2, none⟩ (.string ⟨#[]⟩)).setCell ⟨Z, 3, none⟩ (.slice none 0 0)).cell? ⟨Z, 3, none⟩ = some (.slice none 0 0) := bk4.cell 3
    have bk5 : Blk (((((W.setCell ⟨Z, 0, none⟩ (.int .i64 0)).setCell ⟨Z, 1, none⟩ (.int .i64 0)).setCell ⟨Z, 2, none⟩ (.string ⟨#[]⟩)).setCell ⟨Z, 3, none⟩ (.slice none 0 0)).setCell ⟨Z, 4, none⟩ (.string ⟨#[]⟩)) Z #[.int .i64 0, .int .i64 0, .string ⟨#[]⟩, .slice none 0 0, .string ⟨#[]⟩, .slice none 0 0, .slice none 0 0, .string ⟨#[]⟩, .bool false] 72 := Blk.set (vs := #[.int .i64 0, .int .i64 0, .string ⟨#[]⟩, .slice none 0 0, .string ⟨#[]⟩, .slice none 0 0, .slice none 0 0, .string ⟨#[]⟩, .bool false]) bk4 4 (by simp) _
    have r4 : (((((W.setCell ⟨Z, 0, none⟩ (.int .i64 0)).setCell ⟨Z, 1, none⟩ (.int .i64 0)).setCell ⟨Z, 2, none⟩ (.string ⟨#[]⟩)).setCell ⟨Z, 3, none⟩ (.slice none 0 0)).setCell ⟨Z, 4, none⟩ (.string ⟨#[]⟩)).cell? ⟨Z, 4, none⟩ = some (.string ⟨#[]⟩) := bk5.cell 4
    have bk6 : Blk ((((((W.setCell ⟨Z, 0, none⟩ (.int .i64 0)).setCell ⟨Z, 1, none⟩ (.int .i64 0)).setCell ⟨Z, 2, none⟩ (.string ⟨#[]⟩)).setCell ⟨Z, 3, none⟩ (.slice none 0 0)).setCell ⟨Z, 4, none⟩ (.string ⟨#[]⟩)).setCell ⟨Z, 5, none⟩ (.slice none 0 0)) Z #[.int .i64 0, .int .i64 0, .string ⟨#[]⟩, .slice none 0 0, .string ⟨#[]⟩, .slice none 0 0, .slice none 0 0, .string ⟨#[]⟩, .bool false] 72 := Blk.set (vs := #[.int .i64 0, .int .i64 0, .string ⟨#[]⟩, .slice none 0 0, .string ⟨#[]⟩, .slice none 0 0, .slice none 0 0, .string ⟨#[]⟩, .bool false]) bk5 5 (by simp) _
    have r5 : ((((((W.setCell ⟨Z, 0, none⟩ (.int .i64 0)).setCell ⟨Z, 1, none⟩ (.int .i64 0)).setCell ⟨Z, 2, none⟩ (.string ⟨#[]⟩)).setCell ⟨Z, 3, none⟩ (.slice none 0 0)).setCell ⟨Z, 4, none⟩ (.string ⟨#[]⟩)).setCell ⟨Z, 5, none⟩ (.slice none 0 0)).cell? ⟨Z, 5, none⟩ = some (.slice none 0 0) := bk6.cell 5
    have bk7 : Blk (((((((W.setCell ⟨Z, 0, none⟩ (.int .i64 0)).setCell ⟨Z, 1, none⟩ (.int .i64 0)).setCell ⟨Z, 2, none⟩ (.string ⟨#[]⟩)).setCell ⟨Z, 3, none⟩ (.slice none 0 0)).setCell ⟨Z, 4, none⟩ (.string ⟨#[]⟩)).setCell ⟨Z, 5, none⟩ (.slice none 0 0)).setCell ⟨Z, 6, none⟩ (.slice none 0 0)) Z #[.int .i64 0, .int .i64 0, .string ⟨#[]⟩, .slice none 0 0, .string ⟨#[]⟩, .slice none 0 0, .slice none 0 0, .string ⟨#[]⟩, .bool false] 72 := Blk.set (vs := #[.int .i64 0, .int .i64 0, .string ⟨#[]⟩, .slice none 0 0, .string ⟨#[]⟩, .slice none 0 0, .slice none 0 0, .string ⟨#[]⟩, .bool false]) bk6 6 (by simp) _
    have r6 : (((((((W.setCell ⟨Z, 0, none⟩ (.int .i64 0)).setCell ⟨Z, 1, none⟩ (.int .i64 0)).setCell ⟨Z, 2, none⟩ (.string ⟨#[]⟩)).setCell ⟨Z, 3, none⟩ (.slice none 0 0)).setCell ⟨Z, 4, none⟩ (.string ⟨#[]⟩)).setCell ⟨Z, 5, none⟩ (.slice none 0 0)).setCell ⟨Z, 6, none⟩ (.slice none 0 0)).cell? ⟨Z, 6, none⟩ = some (.slice none 0 0) := bk7.cell 6
    have bk8 : Blk ((((((((W.setCell ⟨Z, 0, none⟩ (.int .i64 0)).setCell ⟨Z, 1, none⟩ (.int .i64 0)).setCell ⟨Z, 2, none⟩ (.string ⟨#[]⟩)).setCell ⟨Z, 3, none⟩ (.slice none 0 0)).setCell ⟨Z, 4, none⟩ (.string ⟨#[]⟩)).setCell ⟨Z, 5, none⟩ (.slice none 0 0)).setCell ⟨Z, 6, none⟩ (.slice none 0 0)).setCell ⟨Z, 7, none⟩ (.string ⟨#[]⟩)) Z #[.int .i64 0, .int .i64 0, .string ⟨#[]⟩, .slice none 0 0, .string ⟨#[]⟩, .slice none 0 0, .slice none 0 0, .string ⟨#[]⟩, .bool false] 72 := Blk.set (vs := #[.int .i64 0, .int .i64 0, .string ⟨#[]⟩, .slice none 0 0, .string ⟨#[]⟩, .slice none 0 0, .slice none 0 0, .string ⟨#[]⟩, .bool false]) bk7 7 (by simp) _
    have r7 : ((((((((W.setCell ⟨Z, 0, none⟩ (.int .i64 0)).setCell ⟨Z, 1, none⟩ (.int .i64 0)).setCell ⟨Z, 2, none⟩ (.string ⟨#[]⟩)).setCell ⟨Z, 3, none⟩ (.slice none 0 0)).setCell ⟨Z, 4, none⟩ (.string ⟨#[]⟩)).setCell ⟨Z, 5, none⟩ (.slice none 0 0)).setCell ⟨Z, 6, none⟩ (.slice none 0 0)).setCell ⟨Z, 7, none⟩ (.string ⟨#[]⟩)).cell? ⟨Z, 7, none⟩ = some (.string ⟨#[]⟩) := bk8.cell 7
    have bk9 : Blk (((((((((W.setCell ⟨Z, 0, none⟩ (.int .i64 0)).setCell ⟨Z, 1, none⟩ (.int .i64 0)).setCell ⟨Z, 2, none⟩ (.string ⟨#[]⟩)).setCell ⟨Z, 3, none⟩ (.slice none 0 0)).setCell ⟨Z, 4, none⟩ (.string ⟨#[]⟩)).setCell ⟨Z, 5, none⟩ (.slice none 0 0)).setCell ⟨Z, 6, none⟩ (.slice none 0 0)).setCell ⟨Z, 7, none⟩ (.string ⟨#[]⟩)).setCell ⟨Z, 8, none⟩ (.bool true)) Z #[.int .i64 0, .int .i64 0, .string ⟨#[]⟩, .slice none 0 0, .string ⟨#[]⟩, .slice none 0 0, .slice none 0 0, .string ⟨#[]⟩, .bool true] 72 := Blk.set (vs := #[.int .i64 0, .int .i64 0, .string ⟨#[]⟩, .slice none 0 0, .string ⟨#[]⟩, .slice none 0 0, .slice none 0 0, .string ⟨#[]⟩, .bool false]) bk8 8 (by simp) _
    have r8 : (((((((((W.setCell ⟨Z, 0, none⟩ (.int .i64 0)).setCell ⟨Z, 1, none⟩ (.int .i64 0)).setCell ⟨Z, 2, none⟩ (.string ⟨#[]⟩)).setCell ⟨Z, 3, none⟩ (.slice none 0 0)).setCell ⟨Z, 4, none⟩ (.string ⟨#[]⟩)).setCell ⟨Z, 5, none⟩ (.slice none 0 0)).setCell ⟨Z, 6, none⟩ (.slice none 0 0)).setCell ⟨Z, 7, none⟩ (.string ⟨#[]⟩)).setCell ⟨Z, 8, none⟩ (.bool true)).cell? ⟨Z, 8, none⟩ = some (.bool true) := bk9.cell 8
    have HRS := hide (And.intro r0 (And.intro r1 (And.intro r2 (And.intro r3 (And.intro r4 (And.intro r5 (And.intro r6 (And.intro r7 r8))))))))
    have HE : Hid (OneSaid w o (.returned (.agg #[.int .i64 0, .int .i64 0, .string ⟨#[]⟩, .slice none 0 0, .string ⟨#[]⟩, .slice none 0 0, .slice none 0 0, .string ⟨#[]⟩, .bool true])) (((((((((W.setCell ⟨Z, 0, none⟩ (.int .i64 0)).setCell ⟨Z, 1, none⟩ (.int .i64 0)).setCell ⟨Z, 2, none⟩ (.string ⟨#[]⟩)).setCell ⟨Z, 3, none⟩ (.slice none 0 0)).setCell ⟨Z, 4, none⟩ (.string ⟨#[]⟩)).setCell ⟨Z, 5, none⟩ (.slice none 0 0)).setCell ⟨Z, 6, none⟩ (.slice none 0 0)).setCell ⟨Z, 7, none⟩ (.string ⟨#[]⟩)).setCell ⟨Z, 8, none⟩ (.bool true))) := hide (by rw [unhide HON]; exact ⟨0, 0, ⟨#[]⟩, none, 0, 0, ⟨#[]⟩, none, 0, 0, ⟨#[]⟩, true, rfl, ((((((((((unhide HBW).setCell (p := ⟨Z, 0, none⟩) (Nat.le_of_eq (unhide HZO).1) (.int .i64 0)).setCell (p := ⟨Z, 1, none⟩) (Nat.le_of_eq (unhide HZO).1) (.int .i64 0)).setCell (p := ⟨Z, 2, none⟩) (Nat.le_of_eq (unhide HZO).1) (.string ⟨#[]⟩)).setCell (p := ⟨Z, 3, none⟩) (Nat.le_of_eq (unhide HZO).1) (.slice none 0 0)).setCell (p := ⟨Z, 4, none⟩) (Nat.le_of_eq (unhide HZO).1) (.string ⟨#[]⟩)).setCell (p := ⟨Z, 5, none⟩) (Nat.le_of_eq (unhide HZO).1) (.slice none 0 0)).setCell (p := ⟨Z, 6, none⟩) (Nat.le_of_eq (unhide HZO).1) (.slice none 0 0)).setCell (p := ⟨Z, 7, none⟩) (Nat.le_of_eq (unhide HZO).1) (.string ⟨#[]⟩)).setCell (p := ⟨Z, 8, none⟩) (Nat.le_of_eq (unhide HZO).1) (.bool true)), rfl⟩)
    clear bk0 bk1 bk2 bk3 bk4 bk5 bk6 bk7 bk8 bk9 r0 r1 r2 r3 r4 r5 r6 r7 r8 hz 
    go_wp2
    obtain ⟨r0, r1, r2, r3, r4, r5, r6, r7, r8⟩ := unhide HRS
    refine bodyPost_ret (v := .agg #[.int .i64 0, .int .i64 0, .string ⟨#[]⟩, .slice none 0 0, .string ⟨#[]⟩, .slice none 0 0, .slice none 0 0, .string ⟨#[]⟩, .bool true]) (by simp [results, Tryd.results69, go_sem, r0, r1, r2, r3, r4, r5, r6, r7, r8]) rfl ?_
    exact unhide HE
  have qs' : decide (2 < sp) = false := decide_eq_false qs
  by_cases qc : 12 < c
  · have qci : (12 : Int) < (c : Int) := by omega
    have HON : Hid (o = none) := hide (unhide HF (by omega))
    clear HF HO CK hcB ho
    skip
    go_upto_region 15 with fail
    clear s0 s4 t1c t4 c0 c3 c4
    have z0 : W.cell? ⟨Z, 0, none⟩ = some (.int .i64 0) := hz.cell 0
    have zf0 : W.frozen? ⟨Z, 0, none⟩ = false := hz.frozen 0
    have z1 : W.cell? ⟨Z, 1, none⟩ = some (.int .i64 0) := hz.cell 1
    have zf1 : W.frozen? ⟨Z, 1, none⟩ = false := hz.frozen 1
    have z2 : W.cell? ⟨Z, 2, none⟩ = some (.string ⟨#[]⟩) := hz.cell 2
    have zf2 : W.frozen? ⟨Z, 2, none⟩ = false := hz.frozen 2
    have z3 : W.cell? ⟨Z, 3, none⟩ = some (.slice none 0 0) := hz.cell 3
    have zf3 : W.frozen? ⟨Z, 3, none⟩ = false := hz.frozen 3
    have z4 : W.cell? ⟨Z, 4, none⟩ = some (.string ⟨#[]⟩) := hz.cell 4
    have zf4 : W.frozen? ⟨Z, 4, none⟩ = false := hz.frozen 4
    have z5 : W.cell? ⟨Z, 5, none⟩ = some (.slice none 0 0) := hz.cell 5
    have zf5 : W.frozen? ⟨Z, 5, none⟩ = false := hz.frozen 5
    have z6 : W.cell? ⟨Z, 6, none⟩ = some (.slice none 0 0) := hz.cell 6
    have zf6 : W.frozen? ⟨Z, 6, none⟩ = false := hz.frozen 6
    have z7 : W.cell? ⟨Z, 7, none⟩ = some (.string ⟨#[]⟩) := hz.cell 7
    have zf7 : W.frozen? ⟨Z, 7, none⟩ = false := hz.frozen 7
    have z8 : W.cell? ⟨Z, 8, none⟩ = some (.bool false) := hz.cell 8
    have zf8 : W.frozen? ⟨Z, 8, none⟩ = false := hz.frozen 8
    have bk0 : Blk W Z #[.int .i64 0, .int .i64 0, .string ⟨#[]⟩, .slice none 0 0, .string ⟨#[]⟩, .slice none 0 0, .slice none 0 0, .string ⟨#[]⟩, .bool false] 72 := hz
    have bk1 : Blk (W.setCell ⟨Z, 0, none⟩ (.int .i64 0)) Z #[.int .i64 0, .int .i64 0, .string ⟨#[]⟩, .slice none 0 0, .string ⟨#[]⟩, .slice none 0 0, .slice none 0 0, .string ⟨#[]⟩, .bool false] 72 := Blk.set (vs := #[.int .i64 0, .int .i64 0, .string ⟨#[]⟩, .slice none 0 0, .string ⟨#[]⟩, .slice none 0 0, .slice none 0 0, .string ⟨#[]⟩, .bool false]) bk0 0 (by simp) _
    have r0 : (W.setCell ⟨Z, 0, none⟩ (.int .i64 0)).cell? ⟨Z, 0, none⟩ = some (.int .i64 0) := bk1.cell 0
    have bk2 : Blk ((W.setCell ⟨Z, 0, none⟩ (.int .i64 0)).setCell ⟨Z, 1, none⟩ (.int .i64 0)) Z #[.int .i64 0, .int .i64 0, .string ⟨#[]⟩, .slice none 0 0, .string ⟨#[]⟩, .slice none 0 0, .slice none 0 0, .string ⟨#[]⟩, .bool false] 72 := Blk.set (vs := #[.int .i64 0, .int .i64 0, .string ⟨#[]⟩, .slice none 0 0, .string ⟨#[]⟩, .slice none 0 0, .slice none 0 0, .string ⟨#[]⟩, .bool false]) bk1 1 (by simp) _
    have r1 : ((W.setCell ⟨Z, 0, none⟩ (.int .i64 0)).setCell ⟨Z, 1, none⟩ (.int .i64 0)).cell? ⟨Z, 1, none⟩ = some (.int .i64 0) := bk2.cell 1
    have bk3 : Blk (((W.setCell ⟨Z, 0, none⟩ (.int .i64 0)).setCell ⟨Z, 1, none⟩ (.int .i64 0)).setCell ⟨Z, 2, none⟩ (.string ⟨#[]⟩)) Z #[.int .i64 0, .int .i64 0, .string ⟨#[]⟩, .slice none 0 0, .string ⟨#[]⟩, .slice none 0 0, .slice none 0 0, .string ⟨#[]⟩, .bool false] 72 := Blk.set (vs := #[.int .i64 0, .int .i64 0, .string ⟨#[]⟩, .slice none 0 0, .string ⟨#[]⟩, .slice none 0 0, .slice none 0 0, .string ⟨#[]⟩, .bool false]) bk2 2 (by simp) _
    have r2 : (((W.setCell ⟨Z, 0, none⟩ (.int .i64 0)).setCell ⟨Z, 1, none⟩ (.int .i64 0)).setCell ⟨Z, 2, none⟩ (.string ⟨#[]⟩)).cell? ⟨Z, 2, none⟩ = some (.string ⟨#[]⟩) := bk3.cell 2
    have bk4 : Blk ((((W.setCell ⟨Z, 0, none⟩ (.int .i64 0)).setCell ⟨Z, 1, none⟩ (.int .i64 0)).setCell ⟨Z, 2, none⟩ (.string ⟨#[]⟩)).setCell ⟨Z, 3, none⟩ (.slice none 0 0)) Z #[.int .i64 0, .int .i64 0, .string ⟨#[]⟩, .slice none 0 0, .string ⟨#[]⟩, .slice none 0 0, .slice none 0 0, .string ⟨#[]⟩, .bool false] 72 := Blk.set (vs := #[.int .i64 0, .int .i64 0, .string ⟨#[]⟩, .slice none 0 0, .string ⟨#[]⟩, .slice none 0 0, .slice none 0 0, .string ⟨#[]⟩, .bool false]) bk3 3 (by simp) _
    have r3 : ((((W.setCell ⟨Z, 0, none⟩ (.int .i64 0)).setCell ⟨Z, 1, none⟩ (.int .i64 0)).setCell ⟨Z, 2, none⟩ (.string ⟨#[]⟩)).setCell ⟨Z, 3, none⟩ (.slice none 0 0)).cell? ⟨Z, 3, none⟩ = some (.slice none 0 0) := bk4.cell 3
    have bk5 : Blk (((((W.setCell ⟨Z, 0, none⟩ (.int .i64 0)).setCell ⟨Z, 1, none⟩ (.int .i64 0)).setCell ⟨Z, 2, none⟩ (.string ⟨#[]⟩)).setCell ⟨Z, 3, none⟩ (.slice none 0 0)).setCell ⟨Z, 4, none⟩ (.string ⟨#[]⟩)) Z #[.int .i64 0, .int .i64 0, .string ⟨#[]⟩, .slice none 0 0, .string ⟨#[]⟩, .slice none 0 0, .slice none 0 0, .string ⟨#[]⟩, .bool false] 72 := Blk.set (vs := #[.int .i64 0, .int .i64 0, .string ⟨#[]⟩, .slice none 0 0, .string ⟨#[]⟩, .slice none 0 0, .slice none 0 0, .string ⟨#[]⟩, .bool false]) bk4 4 (by simp) _
    have r4 : (((((W.setCell ⟨Z, 0, none⟩ (.int .i64 0)).setCell ⟨Z, 1, none⟩ (.int .i64 0)).setCell ⟨Z, 2, none⟩ (.string ⟨#[]⟩)).setCell ⟨Z, 3, none⟩ (.slice none 0 0)).setCell ⟨Z, 4, none⟩ (.string ⟨#[]⟩)).cell? ⟨Z, 4, none⟩ = some (.string ⟨#[]⟩) := bk5.cell 4
    have bk6 : Blk ((((((W.setCell ⟨Z, 0, none⟩ (.int .i64 0)).setCell ⟨Z, 1, none⟩ (.int .i64 0)).setCell ⟨Z, 2, none⟩ (.string ⟨#[]⟩)).setCell ⟨Z, 3, none⟩ (.slice none 0 0)).setCell ⟨Z, 4, none⟩ (.string ⟨#[]⟩)).setCell ⟨Z, 5, none⟩ (.slice none 0 0)) Z #[.int .i64 0, .int .i64 0, .string ⟨#[]⟩, .slice none 0 0, .string ⟨#[]⟩, .slice none 0 0, .slice none 0 0, .string ⟨#[]⟩, .bool false] 72 := Blk.set (vs := #[.int .i64 0, .int .i64 0, .string ⟨#[]⟩, .slice none 0 0, .string ⟨#[]⟩, .slice none 0 0, .slice none 0 0, .string ⟨#[]⟩, .bool false]) bk5 5 (by simp) _
    have r5 : ((((((W.setCell ⟨Z, 0, none⟩ (.int .i64 0)).setCell ⟨Z, 1, none⟩ (.int .i64 0)).setCell ⟨Z, 2, none⟩ (.string ⟨#[]⟩)).setCell ⟨Z, 3, none⟩ (.slice none 0 0)).setCell ⟨Z, 4, none⟩ (.string ⟨#[]⟩)).setCell ⟨Z, 5, none⟩ (.slice none 0 0)).cell? ⟨Z, 5, none⟩ = some (.slice none 0 0) := bk6.cell 5
    have bk7 : Blk (((((((W.setCell ⟨Z, 0, none⟩ (.int .i64 0)).setCell ⟨Z, 1, none⟩ (.int .i64 0)).setCell ⟨Z, 2, none⟩ (.string ⟨#[]⟩)).setCell ⟨Z, 3, none⟩ (.slice none 0 0)).setCell ⟨Z, 4, none⟩ (.string ⟨#[]⟩)).setCell ⟨Z, 5, none⟩ (.slice none 0 0)).setCell ⟨Z, 6, none⟩ (.slice none 0 0)) Z #[.int .i64 0, .int .i64 0, .string ⟨#[]⟩, .slice none 0 0, .string ⟨#[]⟩, .slice none 0 0, .slice none 0 0, .string ⟨#[]⟩, .bool false] 72 := Blk.set (vs := #[.int .i64 0, .int .i64 0, .string ⟨#[]⟩, .slice none 0 0, .string ⟨#[]⟩, .slice none 0 0, .slice none 0 0, .string ⟨#[]⟩, .bool false]) bk6 6 (by simp) _
    have r6 : (((((((W.setCell ⟨Z, 0, none⟩ (.int .i64 0)).setCell ⟨Z, 1, none⟩ (.int .i64 0)).setCell ⟨Z, 2, none⟩ (.string ⟨#[]⟩)).setCell ⟨Z, 3, none⟩ (.slice none 0 0)).setCell ⟨Z, 4, none⟩ (.string ⟨#[]⟩)).setCell ⟨Z, 5, none⟩ (.slice none 0 0)).setCell ⟨Z, 6, none⟩ (.slice none 0 0)).cell? ⟨Z, 6, none⟩ = some (.slice none 0 0) := bk7.cell 6
    have bk8 : Blk ((((((((W.setCell ⟨Z, 0, none⟩ (.int .i64 0)).setCell ⟨Z, 1, none⟩ (.int .i64 0)).setCell ⟨Z, 2, none⟩ (.string ⟨#[]⟩)).setCell ⟨Z, 3, none⟩ (.slice none 0 0)).setCell ⟨Z, 4, none⟩ (.string ⟨#[]⟩)).setCell ⟨Z, 5, none⟩ (.slice none 0 0)).setCell ⟨Z, 6, none⟩ (.slice none 0 0)).setCell ⟨Z, 7, none⟩ (.string ⟨#[]⟩)) Z #[.int .i64 0, .int .i64 0, .string ⟨#[]⟩, .slice none 0 0, .string ⟨#[]⟩, .slice none 0 0, .slice none 0 0, .string ⟨#[]⟩, .bool false] 72 := Blk.set (vs := #[.int .i64 0, .int .i64 0, .string ⟨#[]⟩, .slice none 0 0, .string ⟨#[]⟩, .slice none 0 0, .slice none 0 0, .string ⟨#[]⟩, .bool false]) bk7 7 (by simp) _
    have r7 : ((((((((W.setCell ⟨Z, 0, none⟩ (.int .i64 0)).setCell ⟨Z, 1, none⟩ (.int .i64 0)).setCell ⟨Z, 2, none⟩ (.string ⟨#[]⟩)).setCell ⟨Z, 3, none⟩ (.slice none 0 0)).setCell ⟨Z, 4, none⟩ (.string ⟨#[]⟩)).setCell ⟨Z, 5, none⟩ (.slice none 0 0)).setCell ⟨Z, 6, none⟩ (.slice none 0 0)).setCell ⟨Z, 7, none⟩ (.string ⟨#[]⟩)).cell? ⟨Z, 7, none⟩ = some (.string ⟨#[]⟩) := bk8.cell 7
    have bk9 : Blk (((((((((W.setCell ⟨Z, 0, none⟩ (.int .i64 0)).setCell ⟨Z, 1, none⟩ (.int .i64 0)).setCell ⟨Z, 2, none⟩ (.string ⟨#[]⟩)).setCell ⟨Z, 3, none⟩ (.slice none 0 0)).setCell ⟨Z, 4, none⟩ (.string ⟨#[]⟩)).setCell ⟨Z, 5, none⟩ (.slice none 0 0)).setCell ⟨Z, 6, none⟩ (.slice none 0 0)).setCell ⟨Z, 7, none⟩ (.string ⟨#[]⟩)).setCell ⟨Z, 8, none⟩ (.bool true)) Z #[.int .i64 0, .int .i64 0, .string ⟨#[]⟩, .slice none 0 0, .string ⟨#[]⟩, .slice none 0 0, .slice none 0 0, .string ⟨#[]⟩, .bool true] 72 := Blk.set (vs := #[.int .i64 0, .int .i64 0, .string ⟨#[]⟩, .slice none 0 0, .string ⟨#[]⟩, .slice none 0 0, .slice none 0 0, .string ⟨#[]⟩, .bool false]) bk8 8 (by simp) _
    have r8 : (((((((((W.setCell ⟨Z, 0, none⟩ (.int .i64 0)).setCell ⟨Z, 1, none⟩ (.int .i64 0)).setCell ⟨Z, 2, none⟩ (.string ⟨#[]⟩)).setCell ⟨Z, 3, none⟩ (.slice none 0 0)).setCell ⟨Z, 4, none⟩ (.string ⟨#[]⟩)).setCell ⟨Z, 5, none⟩ (.slice none 0 0)).setCell ⟨Z, 6, none⟩ (.slice none 0 0)).setCell ⟨Z, 7, none⟩ (.string ⟨#[]⟩)).setCell ⟨Z, 8, none⟩ (.bool true)).cell? ⟨Z, 8, none⟩ = some (.bool true) := bk9.cell 8
    have HRS := hide (And.intro r0 (And.intro r1 (And.intro r2 (And.intro r3 (And.intro r4 (And.intro r5 (And.intro r6 (And.intro r7 r8))))))))
    have HE : Hid (OneSaid w o (.returned (.agg #[.int .i64 0, .int .i64 0, .string ⟨#[]⟩, .slice none 0 0, .string ⟨#[]⟩, .slice none 0 0, .slice none 0 0, .string ⟨#[]⟩, .bool true])) (((((((((W.setCell ⟨Z, 0, none⟩ (.int .i64 0)).setCell ⟨Z, 1, none⟩ (.int .i64 0)).setCell ⟨Z, 2, none⟩ (.string ⟨#[]⟩)).setCell ⟨Z, 3, none⟩ (.slice none 0 0)).setCell ⟨Z, 4, none⟩ (.string ⟨#[]⟩)).setCell ⟨Z, 5, none⟩ (.slice none 0 0)).setCell ⟨Z, 6, none⟩ (.slice none 0 0)).setCell ⟨Z, 7, none⟩ (.string ⟨#[]⟩)).setCell ⟨Z, 8, none⟩ (.bool true))) := hide (by rw [unhide HON]; exact ⟨0, 0, ⟨#[]⟩, none, 0, 0, ⟨#[]⟩, none, 0, 0, ⟨#[]⟩, true, rfl, ((((((((((unhide HBW).setCell (p := ⟨Z, 0, none⟩) (Nat.le_of_eq (unhide HZO).1) (.int .i64 0)).setCell (p := ⟨Z, 1, none⟩) (Nat.le_of_eq (unhide HZO).1) (.int .i64 0)).setCell (p := ⟨Z, 2, none⟩) (Nat.le_of_eq (unhide HZO).1) (.string ⟨#[]⟩)).setCell (p := ⟨Z, 3, none⟩) (Nat.le_of_eq (unhide HZO).1) (.slice none 0 0)).setCell (p := ⟨Z, 4, none⟩) (Nat.le_of_eq (unhide HZO).1) (.string ⟨#[]⟩)).setCell (p := ⟨Z, 5, none⟩) (Nat.le_of_eq (unhide HZO).1) (.slice none 0 0)).setCell (p := ⟨Z, 6, none⟩) (Nat.le_of_eq (unhide HZO).1) (.slice none 0 0)).setCell (p := ⟨Z, 7, none⟩) (Nat.le_of_eq (unhide HZO).1) (.string ⟨#[]⟩)).setCell (p := ⟨Z, 8, none⟩) (Nat.le_of_eq (unhide HZO).1) (.bool true)), rfl⟩)
    clear bk0 bk1 bk2 bk3 bk4 bk5 bk6 bk7 bk8 bk9 r0 r1 r2 r3 r4 r5 r6 r7 r8 hz 
    go_wp2
    obtain ⟨r0, r1, r2, r3, r4, r5, r6, r7, r8⟩ := unhide HRS
    refine bodyPost_ret (v := .agg #[.int .i64 0, .int .i64 0, .string ⟨#[]⟩, .slice none 0 0, .string ⟨#[]⟩, .slice none 0 0, .slice none 0 0, .string ⟨#[]⟩, .bool true]) (by simp [results, Tryd.results69, go_sem, r0, r1, r2, r3, r4, r5, r6, r7, r8]) rfl ?_
    exact unhide HE
  have qci : ¬ (12 : Int) < (c : Int) := by omega
  have hoo := unhide HO (by omega)
  have HOO := hide hoo
  have o1 : W.cell? ⟨O, 1, none⟩ = some (.int .i64 0) := ho.cell 1
  have of1 : W.frozen? ⟨O, 1, none⟩ = false := ho.frozen 1
  have o2 : W.cell? ⟨O, 2, none⟩ = some (.string ⟨#[]⟩) := ho.cell 2
  have of2 : W.frozen? ⟨O, 2, none⟩ = false := ho.frozen 2
  have b1 : Blk (W.setCell ⟨O, 1, none⟩ (.int .i64 sp)) O #[.int .i64 k, .int .i64 sp, .string ⟨#[]⟩, .slice none 0 0, .string ⟨#[]⟩, .slice none 0 0, .slice none 0 0, .string ⟨#[]⟩, .bool false] 72 := Blk.set (vs := #[.int .i64 k, .int .i64 0, .string ⟨#[]⟩, .slice none 0 0, .string ⟨#[]⟩, .slice none 0 0, .slice none 0 0, .string ⟨#[]⟩, .bool false]) ho 1 (by simp) _
  have b2 : Blk ((W.setCell ⟨O, 1, none⟩ (.int .i64 sp)).setCell ⟨O, 2, none⟩ (.string t1)) O #[.int .i64 k, .int .i64 sp, .string t1, .slice none 0 0, .string ⟨#[]⟩, .slice none 0 0, .slice none 0 0, .string ⟨#[]⟩, .bool false] 72 := Blk.set (vs := #[.int .i64 k, .int .i64 sp, .string ⟨#[]⟩, .slice none 0 0, .string ⟨#[]⟩, .slice none 0 0, .slice none 0 0, .string ⟨#[]⟩, .bool false]) b1 2 (by simp) _
  have hcB2 : Blk ((W.setCell ⟨O, 1, none⟩ (.int .i64 sp)).setCell ⟨O, 2, none⟩ (.string t1)) C #[.int .i64 (c : Nat), .string ⟨#[]⟩, .slice none 0 0, .string (bs l4), .int .i64 0] 96 := Blk.away (Blk.away hcB hCO _) hCO _
  have hz2 : Blk ((W.setCell ⟨O, 1, none⟩ (.int .i64 sp)).setCell ⟨O, 2, none⟩ (.string t1)) Z #[.int .i64 0, .int .i64 0, .string ⟨#[]⟩, .slice none 0 0, .string ⟨#[]⟩, .slice none 0 0, .slice none 0 0, .string ⟨#[]⟩, .bool false] 72 := Blk.away (Blk.away hz hZO _) hZO _
  have hBW2 : Below w.heap.size w ((W.setCell ⟨O, 1, none⟩ (.int .i64 sp)).setCell ⟨O, 2, none⟩ (.string t1)) := ((unhide HBW).setCell (p := ⟨O, 1, none⟩) (unhide HZO).2 _).setCell (p := ⟨O, 2, none⟩) (unhide HZO).2 _
  obtain ⟨B, hB⟩ : ∃ B, W.heap.size = B := ⟨_, rfl⟩
  have HLB : Hid (Z < O ∧ O < C ∧ C < B) := hide (by have := unhide HLT; omega)
  have HEA : Hid (EAt w O C Z B k sp t1 c l4 (.string (bs l4)) (.int .i64 0) ((W.setCell ⟨O, 1, none⟩ (.int .i64 sp)).setCell ⟨O, 2, none⟩ (.string t1))) := hide ⟨0, [], l4, .slice none 0 0, Nat.zero_le _, rfl, rfl, rfl, World.ownsRow_nil _ _ _ _, b2, hcB2, hz2, hBW2, by simp [hB], hl4, by rw [Nat.sub_zero]; cases pAts c l4 with
    | none => rfl
    | some a => rfl⟩
  clear HF HO hoo ho hz hcB b1 b2 hcB2 hz2 hBW2 HBW HLT hB
  go_wp2
  go_loopw [11, 12] (fun r i wr => EAt w O C Z B k sp t1 c l4 r i wr) (fun _ i _ => c - (intOf i).toNat)
  case atStart => exact unhide HEA
  case round =>
    clear HEA s0 s4 t1c t4 c0 c3 c4 o1 of1 o2 of2
    obtain ⟨j, ats, l, va, hj, rfl, rfl, hal, hrow, hO, hcB, hZ, hbw, hBs, hll, hres⟩ := hrel
    obtain ⟨qa, ca, rfl⟩ := slice_n hrow
    have c0 : wr.cell? ⟨C, 0, none⟩ = some (.int .i64 (c : Nat)) := hcB.cell 0
    by_cases hp : j < c
    · have hpi : (j : Int) < (c : Int) := by omega
      obtain ⟨x1, x2⟩ := ttV_ok l
      have CX := hide (tkT_any l wr (by omega))
      have hpx := pT_tt l
      generalize ttV l = X at *
      obtain ⟨xv, xl, xe⟩ := X
      dsimp only at x1 x2 CX hpx
      obtain ⟨y1, y2⟩ := ttV_ok xl
      have CY := hide (fun W => tkT_any xl W (by omega))
      have hpy := pT_tt xl
      generalize ttV xl = Y at *
      obtain ⟨yv, yl, ye⟩ := Y
      dsimp only at y1 y2 CY hpy
      have HRS2 : Hid (pAts (c - j) l = (pT l).bind fun x => (pT x.2).bind fun y => (pAts (c - (j + 1)) y.2).map fun z => ((x.1, y.1) :: z.1, z.2)) := hide (by rw [show c - j = (c - (j + 1)) + 1 by omega, pAts])
      have HXY := hide (And.intro hpx hpy)
      have HRES := hide hres
      have HIN := hide (And.intro hrow (And.intro hO (And.intro hcB (And.intro hZ (And.intro hbw hBs)))))
      clear hrow hO hcB hZ hbw hBs hres hpx hpy
      go_wp2_with fail
      refine (unhide CX).mono ?_
      rintro e w5 ⟨rfl, hb5⟩
      have hA5 : Below w5.heap.size w5 (w5.alloc (Obj.cells #[.int .i64 0, .string xv, .slice none 0 0, .string (bs xl), .int .i64 xe] 96)) := (Below.refl _ _).alloc (Nat.le_refl _) _
      have HX5 := hide (And.intro (Blk.new w5 #[.int .i64 0, .string xv, .slice none 0 0, .string (bs xl), .int .i64 xe] 96) (And.intro hA5 hb5))
      clear CX hb5 hA5 c0
      go_wp2_with fail
      refine (unhide CY _).mono ?_
      rintro e w6 ⟨rfl, hb6⟩
      go_upto_region 24 with fail
      obtain ⟨V, hV⟩ : ∃ V, w6.alloc (Obj.cells #[.int .i64 0, .string yv, .slice none 0 0, .string (bs yl), .int .i64 ye] 96) = V := ⟨_, rfl⟩
      have hA6 : Below w6.heap.size w6 V := by rw [← hV]; exact (Below.refl _ _).alloc (Nat.le_refl _) _
      have hlt6 : w5.heap.size < w6.heap.size := (Blk.later (unhide HX5).1 hb6).lt
      have hxB : Blk V w5.heap.size #[.int .i64 0, .string xv, .slice none 0 0, .string (bs xl), .int .i64 xe] 96 := Blk.later (Blk.later (unhide HX5).1 hb6) hA6
      have hyB : Blk V w6.heap.size #[.int .i64 0, .string yv, .slice none 0 0, .string (bs yl), .int .i64 ye] 96 := by rw [← hV]; exact Blk.new _ _ _
      have hall : Below wr.heap.size wr V := tr2 (tr2 (tr2 (unhide HX5).2.2 (unhide HX5).2.1) hb6) hA6
      obtain ⟨hrow, hO, hcB, hZ, hbw, hBs⟩ := unhide HIN
      have hrowV := ownsRow_below hrow hall
      have ho : Blk V O #[.int .i64 k, .int .i64 sp, .string t1, .slice qa ats.length ca, .string ⟨#[]⟩, .slice none 0 0, .slice none 0 0, .string ⟨#[]⟩, .bool false] 72 := Blk.later hO hall
      have hcV := Blk.later hcB hall
      have hz : Blk V Z #[.int .i64 0, .int .i64 0, .string ⟨#[]⟩, .slice none 0 0, .string ⟨#[]⟩, .slice none 0 0, .slice none 0 0, .string ⟨#[]⟩, .bool false] 72 := Blk.later hZ hall
      have HBW : Hid (Below w.heap.size w V) := hide (tr2 hbw hall)
      have hBV : B ≤ V.heap.size := by have := hall.size; omega
      have hwr5 : wr.heap.size ≤ w5.heap.size := (unhide HX5).2.2.size
      simp only [hV]
      rw [hal] at ho hrowV
      have HRL : Hid (∀ k, (Value.slice qa j ca).ownBlock = some k → k < wr.heap.size) := hide (fun k hk => (hrow.lt k (by rw [hal]; exact hk)).2)
      clear hV hb6 hA6 HX5 CY HIN hrow hO hcB hZ hbw hall
      obtain ⟨P, hP⟩ : ∃ Q, w5.heap.size = Q := ⟨_, rfl⟩
      obtain ⟨Q, hQ⟩ : ∃ Q, w6.heap.size = Q := ⟨_, rfl⟩
      have hPO : P ≠ O := by have := unhide HLB; omega
      have hQO : Q ≠ O := by have := unhide HLB; omega
      clear hBs
      rw [hP] at hxB
      rw [hQ] at hyB
      simp only [hP, hQ]
      have x1c : V.cell? ⟨P, 1, none⟩ = some (.string xv) := hxB.cell 1
      have x4 : V.cell? ⟨P, 4, none⟩ = some (.int .i64 xe) := hxB.cell 4
      have y1c : V.cell? ⟨Q, 1, none⟩ = some (.string yv) := hyB.cell 1
      have y3c : V.cell? ⟨Q, 3, none⟩ = some (.string (bs yl)) := hyB.cell 3
      have y4 : V.cell? ⟨Q, 4, none⟩ = some (.int .i64 ye) := hyB.cell 4
      have HQW : Hid (wr.heap.size < Q) := hide (by omega)
      clear hP hQ hlt6 hwr5
      by_cases qx : xe = 4
      · subst qx
        have HON : Hid (o = none) := hide (by rw [unhide HOO, unhide HRES, unhide HRS2, (unhide HXY).1]; rfl)
        clear HXY HRS2 HRES HOO CK hcV ho hrowV hxB
        go_upto_region 25 with fail
        clear x1c x4 y1c y3c y4 hyB
        have z0 : V.cell? ⟨Z, 0, none⟩ = some (.int .i64 0) := hz.cell 0
        have zf0 : V.frozen? ⟨Z, 0, none⟩ = false := hz.frozen 0
        have z1 : V.cell? ⟨Z, 1, none⟩ = some (.int .i64 0) := hz.cell 1
        have zf1 : V.frozen? ⟨Z, 1, none⟩ = false := hz.frozen 1
        have z2 : V.cell? ⟨Z, 2, none⟩ = some (.string ⟨#[]⟩) := hz.cell 2
        have zf2 : V.frozen? ⟨Z, 2, none⟩ = false := hz.frozen 2
        have z3 : V.cell? ⟨Z, 3, none⟩ = some (.slice none 0 0) := hz.cell 3
        have zf3 : V.frozen? ⟨Z, 3, none⟩ = false := hz.frozen 3
        have z4 : V.cell? ⟨Z, 4, none⟩ = some (.string ⟨#[]⟩) := hz.cell 4
        have zf4 : V.frozen? ⟨Z, 4, none⟩ = false := hz.frozen 4
        have z5 : V.cell? ⟨Z, 5, none⟩ = some (.slice none 0 0) := hz.cell 5
        have zf5 : V.frozen? ⟨Z, 5, none⟩ = false := hz.frozen 5
        have z6 : V.cell? ⟨Z, 6, none⟩ = some (.slice none 0 0) := hz.cell 6
        have zf6 : V.frozen? ⟨Z, 6, none⟩ = false := hz.frozen 6
        have z7 : V.cell? ⟨Z, 7, none⟩ = some (.string ⟨#[]⟩) := hz.cell 7
        have zf7 : V.frozen? ⟨Z, 7, none⟩ = false := hz.frozen 7
        have z8 : V.cell? ⟨Z, 8, none⟩ = some (.bool false) := hz.cell 8
        have zf8 : V.frozen? ⟨Z, 8, none⟩ = false := hz.frozen 8
        have bk0 : Blk V Z #[.int .i64 0, .int .i64 0, .string ⟨#[]⟩, .slice none 0 0, .string ⟨#[]⟩, .slice none 0 0, .slice none 0 0, .string ⟨#[]⟩, .bool false] 72 := hz
        have bk1 : Blk (V.setCell ⟨Z, 0, none⟩ (.int .i64 0)) Z #[.int .i64 0, .int .i64 0, .string ⟨#[]⟩, .slice none 0 0, .string ⟨#[]⟩, .slice none 0 0, .slice none 0 0, .string ⟨#[]⟩, .bool false] 72 := Blk.set (vs := #[.int .i64 0, .int .i64 0, .string ⟨#[]⟩, .slice none 0 0, .string ⟨#[]⟩, .slice none 0 0, .slice none 0 0, .string ⟨#[]⟩, .bool false]) bk0 0 (by simp) _
        have r0 : (V.setCell ⟨Z, 0, none⟩ (.int .i64 0)).cell? ⟨Z, 0, none⟩ = some (.int .i64 0) := bk1.cell 0
        have bk2 : Blk ((V.setCell ⟨Z, 0, none⟩ (.int .i64 0)).setCell ⟨Z, 1, none⟩ (.int .i64 0)) Z #[.int .i64 0, .int .i64 0, .string ⟨#[]⟩, .slice none 0 0, .string ⟨#[]⟩, .slice none 0 0, .slice none 0 0, .string ⟨#[]⟩, .bool false] 72 := Blk.set (vs := #[.int .i64 0, .int .i64 0, .string ⟨#[]⟩, .slice none 0 0, .string ⟨#[]⟩, .slice none 0 0, .slice none 0 0, .string ⟨#[]⟩, .bool false]) bk1 1 (by simp) _
        have r1 : ((V.setCell ⟨Z, 0, none⟩ (.int .i64 0)).setCell ⟨Z, 1, none⟩ (.int .i64 0)).cell? ⟨Z, 1, none⟩ = some (.int .i64 0) := bk2.cell 1
        have bk3 : Blk (((V.setCell ⟨Z, 0, none⟩ (.int .i64 0)).setCell ⟨Z, 1, none⟩ (.int .i64 0)).setCell ⟨Z, 2, none⟩ (.string ⟨#[]⟩)) Z #[.int .i64 0, .int .i64 0, .string ⟨#[]⟩, .slice none 0 0, .string ⟨#[]⟩, .slice none 0 0, .slice none 0 0, .string ⟨#[]⟩, .bool false] 72 := Blk.set (vs := #[.int .i64 0, .int .i64 0, .string ⟨#[]⟩, .slice none 0 0, .string ⟨#[]⟩, .slice none 0 0, .slice none 0 0, .string ⟨#[]⟩, .bool false]) bk2 2 (by simp) _
        have r2 : (((V.setCell ⟨Z, 0, none⟩ (.int .i64 0)).setCell ⟨Z, 1, none⟩ (.int .i64 0)).setCell ⟨Z, 2, none⟩ (.string ⟨#[]⟩)).cell? ⟨Z, 2, none⟩ = some (.string ⟨#[]⟩) := bk3.cell 2
        have bk4 : Blk ((((V.setCell ⟨Z, 0, none⟩ (.int .i64 0)).setCell ⟨Z, 1, none⟩ (.int .i64 0)).setCell ⟨Z, 2, none⟩ (.string ⟨#[]⟩)).setCell ⟨Z, 3, none⟩ (.slice none 0 0)) Z #[.int .i64 0, .int .i64 0, .string ⟨#[]⟩, .slice none 0 0, .string ⟨#[]⟩, .slice none 0 0, .slice none 0 0, .string ⟨#[]⟩, .bool false] 72 := Blk.set (vs := #[.int .i64 0, .int .i64 0, .string ⟨#[]⟩, .slice none 0 0, .string ⟨#[]⟩, .slice none 0 0, .slice none 0 0, .string ⟨#[]⟩, .bool false]) bk3 3 (by simp) _
        have r3 : ((((V.setCell ⟨Z, 0, none⟩ (.int .i64 0)).setCell ⟨Z, 1, none⟩ (.int .i64 0)).setCell ⟨Z, 2, none⟩ (.string ⟨#[]⟩)).setCell ⟨Z, 3, none⟩ (.slice none 0 0)).cell? ⟨Z, 3, none⟩ = some (.slice none 0 0) := bk4.cell 3
        have bk5 : Blk (((((V.setCell ⟨Z, 0, none⟩ (.int .i64 0)).setCell ⟨Z, 1, none⟩ (.int .i64 0)).setCell ⟨Z, 2, none⟩ (.string ⟨#[]⟩)).setCell ⟨Z, 3, none⟩ (.slice none 0 0)).setCell ⟨Z, 4, none⟩ (.string ⟨#[]⟩)) Z #[.int .i64 0, .int .i64 0, .string ⟨#[]⟩, .slice none 0 0, .string ⟨#[]⟩, .slice none 0 0, .slice none 0 0, .string ⟨#[]⟩, .bool false] 72 := Blk.set (vs := #[.int .i64 0, .int .i64 0, .string ⟨#[]⟩, .slice none 0 0, .string ⟨#[]⟩, .slice none 0 0, .slice none 0 0, .string ⟨#[]⟩, .bool false]) bk4 4 (by simp) _
        have r4 : (((((V.setCell ⟨Z, 0, none⟩ (.int .i64 0)).setCell ⟨Z, 1, none⟩ (.int .i64 0)).setCell ⟨Z, 2, none⟩ (.string ⟨#[]⟩)).setCell ⟨Z, 3, none⟩ (.slice none 0 0)).setCell ⟨Z, 4, none⟩ (.string ⟨#[]⟩)).cell? ⟨Z, 4, none⟩ = some (.string ⟨#[]⟩) := bk5.cell 4
        have bk6 : Blk ((((((V.setCell ⟨Z, 0, none⟩ (.int .i64 0)).setCell ⟨Z, 1, none⟩ (.int .i64 0)).setCell ⟨Z, 2, none⟩ (.string ⟨#[]⟩)).setCell ⟨Z, 3, none⟩ (.slice none 0 0)).setCell ⟨Z, 4, none⟩ (.string ⟨#[]⟩)).setCell ⟨Z, 5, none⟩ (.slice none 0 0)) Z #[.int .i64 0, .int .i64 0, .string ⟨#[]⟩, .slice none 0 0, .string ⟨#[]⟩, .slice none 0 0, .slice none 0 0, .string ⟨#[]⟩, .bool false] 72 := Blk.set (vs := #[.int .i64 0, .int .i64 0, .string ⟨#[]⟩, .slice none 0 0, .string ⟨#[]⟩, .slice none 0 0, .slice none 0 0, .string ⟨#[]⟩, .bool false]) bk5 5 (by simp) _
        have r5 : ((((((V.setCell ⟨Z, 0, none⟩ (.int .i64 0)).setCell ⟨Z, 1, none⟩ (.int .i64 0)).setCell ⟨Z, 2, none⟩ (.string ⟨#[]⟩)).setCell ⟨Z, 3, none⟩ (.slice none 0 0)).setCell ⟨Z, 4, none⟩ (.string ⟨#[]⟩)).setCell ⟨Z, 5, none⟩ (.slice none 0 0)).cell? ⟨Z, 5, none⟩ = some (.slice none 0 0) := bk6.cell 5
        have bk7 : Blk (((((((V.setCell ⟨Z, 0, none⟩ (.int .i64 0)).setCell ⟨Z, 1, none⟩ (.int .i64 0)).setCell ⟨Z, 2, none⟩ (.string ⟨#[]⟩)).setCell ⟨Z, 3, none⟩ (.slice none 0 0)).setCell ⟨Z, 4, none⟩ (.string ⟨#[]⟩)).setCell ⟨Z, 5, none⟩ (.slice none 0 0)).setCell ⟨Z, 6, none⟩ (.slice none 0 0)) Z #[.int .i64 0, .int .i64 0, .string ⟨#[]⟩, .slice none 0 0, .string ⟨#[]⟩, .slice none 0 0, .slice none 0 0, .string ⟨#[]⟩, .bool false] 72 := Blk.set (vs := #[.int .i64 0, .int .i64 0, .string ⟨#[]⟩, .slice none 0 0, .string ⟨#[]⟩, .slice none 0 0, .slice none 0 0, .string ⟨#[]⟩, .bool false]) bk6 6 (by simp) _
        have r6 : (((((((V.setCell ⟨Z, 0, none⟩ (.int .i64 0)).setCell ⟨Z, 1, none⟩ (.int .i64 0)).setCell ⟨Z, 2, none⟩ (.string ⟨#[]⟩)).setCell ⟨Z, 3, none⟩ (.slice none 0 0)).setCell ⟨Z, 4, none⟩ (.string ⟨#[]⟩)).setCell ⟨Z, 5, none⟩ (.slice none 0 0)).setCell ⟨Z, 6, none⟩ (.slice none 0 0)).cell? ⟨Z, 6, none⟩ = some (.slice none 0 0) := bk7.cell 6
        have bk8 : Blk ((((((((V.setCell ⟨Z, 0, none⟩ (.int .i64 0)).setCell ⟨Z, 1, none⟩ (.int .i64 0)).setCell ⟨Z, 2, none⟩ (.string ⟨#[]⟩)).setCell ⟨Z, 3, none⟩ (.slice none 0 0)).setCell ⟨Z, 4, none⟩ (.string ⟨#[]⟩)).setCell ⟨Z, 5, none⟩ (.slice none 0 0)).setCell ⟨Z, 6, none⟩ (.slice none 0 0)).setCell ⟨Z, 7, none⟩ (.string ⟨#[]⟩)) Z #[.int .i64 0, .int .i64 0, .string ⟨#[]⟩, .slice none 0 0, .string ⟨#[]⟩, .slice none 0 0, .slice none 0 0, .string ⟨#[]⟩, .bool false] 72 := Blk.set (vs := #[.int .i64 0, .int .i64 0, .string ⟨#[]⟩, .slice none 0 0, .string ⟨#[]⟩, .slice none 0 0, .slice none 0 0, .string ⟨#[]⟩, .bool false]) bk7 7 (by simp) _
        have r7 : ((((((((V.setCell ⟨Z, 0, none⟩ (.int .i64 0)).setCell ⟨Z, 1, none⟩ (.int .i64 0)).setCell ⟨Z, 2, none⟩ (.string ⟨#[]⟩)).setCell ⟨Z, 3, none⟩ (.slice none 0 0)).setCell ⟨Z, 4, none⟩ (.string ⟨#[]⟩)).setCell ⟨Z, 5, none⟩ (.slice none 0 0)).setCell ⟨Z, 6, none⟩ (.slice none 0 0)).setCell ⟨Z, 7, none⟩ (.string ⟨#[]⟩)).cell? ⟨Z, 7, none⟩ = some (.string ⟨#[]⟩) := bk8.cell 7
        have bk9 : Blk (((((((((V.setCell ⟨Z, 0, none⟩ (.int .i64 0)).setCell ⟨Z, 1, none⟩ (.int .i64 0)).setCell ⟨Z, 2, none⟩ (.string ⟨#[]⟩)).setCell ⟨Z, 3, none⟩ (.slice none 0 0)).setCell ⟨Z, 4, none⟩ (.string ⟨#[]⟩)).setCell ⟨Z, 5, none⟩ (.slice none 0 0)).setCell ⟨Z, 6, none⟩ (.slice none 0 0)).setCell ⟨Z, 7, none⟩ (.string ⟨#[]⟩)).setCell ⟨Z, 8, none⟩ (.bool true)) Z #[.int .i64 0, .int .i64 0, .string ⟨#[]⟩, .slice none 0 0, .string ⟨#[]⟩, .slice none 0 0, .slice none 0 0, .string ⟨#[]⟩, .bool true] 72 := Blk.set (vs := #[.int .i64 0, .int .i64 0, .string ⟨#[]⟩, .slice none 0 0, .string ⟨#[]⟩, .slice none 0 0, .slice none 0 0, .string ⟨#[]⟩, .bool false]) bk8 8 (by simp) _
        have r8 : (((((((((V.setCell ⟨Z, 0, none⟩ (.int .i64 0)).setCell ⟨Z, 1, none⟩ (.int .i64 0)).setCell ⟨Z, 2, none⟩ (.string ⟨#[]⟩)).setCell ⟨Z, 3, none⟩ (.slice none 0 0)).setCell ⟨Z, 4, none⟩ (.string ⟨#[]⟩)).setCell ⟨Z, 5, none⟩ (.slice none 0 0)).setCell ⟨Z, 6, none⟩ (.slice none 0 0)).setCell ⟨Z, 7, none⟩ (.string ⟨#[]⟩)).setCell ⟨Z, 8, none⟩ (.bool true)).cell? ⟨Z, 8, none⟩ = some (.bool true) := bk9.cell 8
        have HRS := hide (And.intro r0 (And.intro r1 (And.intro r2 (And.intro r3 (And.intro r4 (And.intro r5 (And.intro r6 (And.intro r7 r8))))))))
        have HE : Hid (OneSaid w o (.returned (.agg #[.int .i64 0, .int .i64 0, .string ⟨#[]⟩, .slice none 0 0, .string ⟨#[]⟩, .slice none 0 0, .slice none 0 0, .string ⟨#[]⟩, .bool true])) (((((((((V.setCell ⟨Z, 0, none⟩ (.int .i64 0)).setCell ⟨Z, 1, none⟩ (.int .i64 0)).setCell ⟨Z, 2, none⟩ (.string ⟨#[]⟩)).setCell ⟨Z, 3, none⟩ (.slice none 0 0)).setCell ⟨Z, 4, none⟩ (.string ⟨#[]⟩)).setCell ⟨Z, 5, none⟩ (.slice none 0 0)).setCell ⟨Z, 6, none⟩ (.slice none 0 0)).setCell ⟨Z, 7, none⟩ (.string ⟨#[]⟩)).setCell ⟨Z, 8, none⟩ (.bool true))) := hide (by rw [unhide HON]; exact ⟨0, 0, ⟨#[]⟩, none, 0, 0, ⟨#[]⟩, none, 0, 0, ⟨#[]⟩, true, rfl, ((((((((((unhide HBW).setCell (p := ⟨Z, 0, none⟩) (Nat.le_of_eq (unhide HZO).1) (.int .i64 0)).setCell (p := ⟨Z, 1, none⟩) (Nat.le_of_eq (unhide HZO).1) (.int .i64 0)).setCell (p := ⟨Z, 2, none⟩) (Nat.le_of_eq (unhide HZO).1) (.string ⟨#[]⟩)).setCell (p := ⟨Z, 3, none⟩) (Nat.le_of_eq (unhide HZO).1) (.slice none 0 0)).setCell (p := ⟨Z, 4, none⟩) (Nat.le_of_eq (unhide HZO).1) (.string ⟨#[]⟩)).setCell (p := ⟨Z, 5, none⟩) (Nat.le_of_eq (unhide HZO).1) (.slice none 0 0)).setCell (p := ⟨Z, 6, none⟩) (Nat.le_of_eq (unhide HZO).1) (.slice none 0 0)).setCell (p := ⟨Z, 7, none⟩) (Nat.le_of_eq (unhide HZO).1) (.string ⟨#[]⟩)).setCell (p := ⟨Z, 8, none⟩) (Nat.le_of_eq (unhide HZO).1) (.bool true)), rfl⟩)
        clear bk0 bk1 bk2 bk3 bk4 bk5 bk6 bk7 bk8 bk9 r0 r1 r2 r3 r4 r5 r6 r7 r8 hz 
        go_wp2
        obtain ⟨r0, r1, r2, r3, r4, r5, r6, r7, r8⟩ := unhide HRS
        refine bodyPost_ret (v := .agg #[.int .i64 0, .int .i64 0, .string ⟨#[]⟩, .slice none 0 0, .string ⟨#[]⟩, .slice none 0 0, .slice none 0 0, .string ⟨#[]⟩, .bool true]) (by simp [results, Tryd.results69, go_sem, r0, r1, r2, r3, r4, r5, r6, r7, r8]) rfl ?_
        exact unhide HE
      have qx' : xe = 0 := by omega
      subst qx'
      by_cases qy : ye = 4
      · subst qy
        have HON : Hid (o = none) := hide (by rw [unhide HOO, unhide HRES, unhide HRS2, (unhide HXY).1]; rw [if_pos rfl]; show Option.bind (Option.map _ (Option.bind (pT xl) _)) _ = none; rw [(unhide HXY).2]; rfl)
        clear HXY HRS2 HRES HOO CK hcV ho hrowV hxB
        go_upto_region 25 with fail
        clear x1c x4 y1c y3c y4 hyB
        have z0 : V.cell? ⟨Z, 0, none⟩ = some (.int .i64 0) := hz.cell 0
        have zf0 : V.frozen? ⟨Z, 0, none⟩ = false := hz.frozen 0
        have z1 : V.cell? ⟨Z, 1, none⟩ = some (.int .i64 0) := hz.cell 1
        have zf1 : V.frozen? ⟨Z, 1, none⟩ = false := hz.frozen 1
        have z2 : V.cell? ⟨Z, 2, none⟩ = some (.string ⟨#[]⟩) := hz.cell 2
        have zf2 : V.frozen? ⟨Z, 2, none⟩ = false := hz.frozen 2
        have z3 : V.cell? ⟨Z, 3, none⟩ = some (.slice none 0 0) := hz.cell 3
        have zf3 : V.frozen? ⟨Z, 3, none⟩ = false := hz.frozen 3
        have z4 : V.cell? ⟨Z, 4, none⟩ = some (.string ⟨#[]⟩) := hz.cell 4
        have zf4 : V.frozen? ⟨Z, 4, none⟩ = false := hz.frozen 4
        have z5 : V.cell? ⟨Z, 5, none⟩ = some (.slice none 0 0) := hz.cell 5
        have zf5 : V.frozen? ⟨Z, 5, none⟩ = false := hz.frozen 5
        have z6 : V.cell? ⟨Z, 6, none⟩ = some (.slice none 0 0) := hz.cell 6
        have zf6 : V.frozen? ⟨Z, 6, none⟩ = false := hz.frozen 6
        have z7 : V.cell? ⟨Z, 7, none⟩ = some (.string ⟨#[]⟩) := hz.cell 7
        have zf7 : V.frozen? ⟨Z, 7, none⟩ = false := hz.frozen 7
        have z8 : V.cell? ⟨Z, 8, none⟩ = some (.bool false) := hz.cell 8
        have zf8 : V.frozen? ⟨Z, 8, none⟩ = false := hz.frozen 8
        have bk0 : Blk V Z #[.int .i64 0, .int .i64 0, .string ⟨#[]⟩, .slice none 0 0, .string ⟨#[]⟩, .slice none 0 0, .slice none 0 0, .string ⟨#[]⟩, .bool false] 72 := hz
        have bk1 : Blk (V.setCell ⟨Z, 0, none⟩ (.int .i64 0)) Z #[.int .i64 0, .int .i64 0, .string ⟨#[]⟩, .slice none 0 0, .string ⟨#[]⟩, .slice none 0 0, .slice none 0 0, .string ⟨#[]⟩, .bool false] 72 := Blk.set (vs := #[.int .i64 0, .int .i64 0, .string ⟨#[]⟩, .slice none 0 0, .string ⟨#[]⟩, .slice none 0 0, .slice none 0 0, .string ⟨#[]⟩, .bool false]) bk0 0 (by simp) _
        have r0 : (V.setCell ⟨Z, 0, none⟩ (.int .i64 0)).cell? ⟨Z, 0, none⟩ = some (.int .i64 0) := bk1.cell 0
        have bk2 : Blk ((V.setCell ⟨Z, 0, none⟩ (.int .i64 0)).setCell ⟨Z, 1, none⟩ (.int .i64 0)) Z #[.int .i64 0, .int .i64 0, .string ⟨#[]⟩, .slice none 0 0, .string ⟨#[]⟩, .slice none 0 0, .slice none 0 0, .string ⟨#[]⟩, .bool false] 72 := Blk.set (vs := #[.int .i64 0, .int .i64 0, .string ⟨#[]⟩, .slice none 0 0, .string ⟨#[]⟩, .slice none 0 0, .slice none 0 0, .string ⟨#[]⟩, .bool false]) bk1 1 (by simp) _
        have r1 : ((V.setCell ⟨Z, 0, none⟩ (.int .i64 0)).setCell ⟨Z, 1, none⟩ (.int .i64 0)).cell? ⟨Z, 1, none⟩ = some (.int .i64 0) := bk2.cell 1
        have bk3 : Blk (((V.setCell ⟨Z, 0, none⟩ (.int .i64 0)).setCell ⟨Z, 1, none⟩ (.int .i64 0)).setCell ⟨Z, 2, none⟩ (.string ⟨#[]⟩)) Z #[.int .i64 0, .int .i64 0, .string ⟨#[]⟩, .slice none 0 0, .string ⟨#[]⟩, .slice none 0 0, .slice none 0 0, .string ⟨#[]⟩, .bool false] 72 := Blk.set (vs := #[.int .i64 0, .int .i64 0, .string ⟨#[]⟩, .slice none 0 0, .string ⟨#[]⟩, .slice none 0 0, .slice none 0 0, .string ⟨#[]⟩, .bool false]) bk2 2 (by simp) _
        have r2 : (((V.setCell ⟨Z, 0, none⟩ (.int .i64 0)).setCell ⟨Z, 1, none⟩ (.int .i64 0)).setCell ⟨Z, 2, none⟩ (.string ⟨#[]⟩)).cell? ⟨Z, 2, none⟩ = some (.string ⟨#[]⟩) := bk3.cell 2
        have bk4 : Blk ((((V.setCell ⟨Z, 0, none⟩ (.int .i64 0)).setCell ⟨Z, 1, none⟩ (.int .i64 0)).setCell ⟨Z, 2, none⟩ (.string ⟨#[]⟩)).setCell ⟨Z, 3, none⟩ (.slice none 0 0)) Z #[.int .i64 0, .int .i64 0, .string ⟨#[]⟩, .slice none 0 0, .string ⟨#[]⟩, .slice none 0 0, .slice none 0 0, .string ⟨#[]⟩, .bool false] 72 := Blk.set (vs := #[.int .i64 0, .int .i64 0, .string ⟨#[]⟩, .slice none 0 0, .string ⟨#[]⟩, .slice none 0 0, .slice none 0 0, .string ⟨#[]⟩, .bool false]) bk3 3 (by simp) _
        have r3 : ((((V.setCell ⟨Z, 0, none⟩ (.int .i64 0)).setCell ⟨Z, 1, none⟩ (.int .i64 0)).setCell ⟨Z, 2, none⟩ (.string ⟨#[]⟩)).setCell ⟨Z, 3, none⟩ (.slice none 0 0)).cell? ⟨Z, 3, none⟩ = some (.slice none 0 0) := bk4.cell 3
        have bk5 : Blk (((((V.setCell ⟨Z, 0, none⟩ (.int .i64 0)).setCell ⟨Z, 1, none⟩ (.int .i64 0)).setCell ⟨Z, 2, none⟩ (.string ⟨#[]⟩)).setCell ⟨Z, 3, none⟩ (.slice none 0 0)).setCell ⟨Z, 4, none⟩ (.string ⟨#[]⟩)) Z #[.int .i64 0, .int .i64 0, .string ⟨#[]⟩, .slice none 0 0, .string ⟨#[]⟩, .slice none 0 0, .slice none 0 0, .string ⟨#[]⟩, .bool false] 72 := Blk.set (vs := #[.int .i64 0, .int .i64 0, .string ⟨#[]⟩, .slice none 0 0, .string ⟨#[]⟩, .slice none 0 0, .slice none 0 0, .string ⟨#[]⟩, .bool false]) bk4 4 (by simp) _
        have r4 : (((((V.setCell ⟨Z, 0, none⟩ (.int .i64 0)).setCell ⟨Z, 1, none⟩ (.int .i64 0)).setCell ⟨Z, 2, none⟩ (.string ⟨#[]⟩)).setCell ⟨Z, 3, none⟩ (.slice none 0 0)).setCell ⟨Z, 4, none⟩ (.string ⟨#[]⟩)).cell? ⟨Z, 4, none⟩ = some (.string ⟨#[]⟩) := bk5.cell 4
        have bk6 : Blk ((((((V.setCell ⟨Z, 0, none⟩ (.int .i64 0)).setCell ⟨Z, 1, none⟩ (.int .i64 0)).setCell ⟨Z, 2, none⟩ (.string ⟨#[]⟩)).setCell ⟨Z, 3, none⟩ (.slice none 0 0)).setCell ⟨Z, 4, none⟩ (.string ⟨#[]⟩)).setCell ⟨Z, 5, none⟩ (.slice none 0 0)) Z #[.int .i64 0, .int .i64 0, .string ⟨#[]⟩, .slice none 0 0, .string ⟨#[]⟩, .slice none 0 0, .slice none 0 0, .string ⟨#[]⟩, .bool false] 72 := Blk.set (vs := #[.int .i64 0, .int .i64 0, .string ⟨#[]⟩, .slice none 0 0, .string ⟨#[]⟩, .slice none 0 0, .slice none 0 0, .string ⟨#[]⟩, .bool false]) bk5 5 (by simp) _
        have r5 : ((((((V.setCell ⟨Z, 0, none⟩ (.int .i64 0)).setCell ⟨Z, 1, none⟩ (.int .i64 0)).setCell ⟨Z, 2, none⟩ (.string ⟨#[]⟩)).setCell ⟨Z, 3, none⟩ (.slice none 0 0)).setCell ⟨Z, 4, none⟩ (.string ⟨#[]⟩)).setCell ⟨Z, 5, none⟩ (.slice none 0 0)).cell? ⟨Z, 5, none⟩ = some (.slice none 0 0) := bk6.cell 5
        have bk7 : Blk (((((((V.setCell ⟨Z, 0, none⟩ (.int .i64 0)).setCell ⟨Z, 1, none⟩ (.int .i64 0)).setCell ⟨Z, 2, none⟩ (.string ⟨#[]⟩)).setCell ⟨Z, 3, none⟩ (.slice none 0 0)).setCell ⟨Z, 4, none⟩ (.string ⟨#[]⟩)).setCell ⟨Z, 5, none⟩ (.slice none 0 0)).setCell ⟨Z, 6, none⟩ (.slice none 0 0)) Z #[.int .i64 0, .int .i64 0, .string ⟨#[]⟩, .slice none 0 0, .string ⟨#[]⟩, .slice none 0 0, .slice none 0 0, .string ⟨#[]⟩, .bool false] 72 := Blk.set (vs := #[.int .i64 0, .int .i64 0, .string ⟨#[]⟩, .slice none 0 0, .string ⟨#[]⟩, .slice none 0 0, .slice none 0 0, .string ⟨#[]⟩, .bool false]) bk6 6 (by simp) _
        have r6 : (((((((V.setCell ⟨Z, 0, none⟩ (.int .i64 0)).setCell ⟨Z, 1, none⟩ (.int .i64 0)).setCell ⟨Z, 2, none⟩ (.string ⟨#[]⟩)).setCell ⟨Z, 3, none⟩ (.slice none 0 0)).setCell ⟨Z, 4, none⟩ (.string ⟨#[]⟩)).setCell ⟨Z, 5, none⟩ (.slice none 0 0)).setCell ⟨Z, 6, none⟩ (.slice none 0 0)).cell? ⟨Z, 6, none⟩ = some (.slice none 0 0) := bk7.cell 6
        have bk8 : Blk ((((((((V.setCell ⟨Z, 0, none⟩ (.int .i64 0)).setCell ⟨Z, 1, none⟩ (.int .i64 0)).setCell ⟨Z, 2, none⟩ (.string ⟨#[]⟩)).setCell ⟨Z, 3, none⟩ (.slice none 0 0)).setCell ⟨Z, 4, none⟩ (.string ⟨#[]⟩)).setCell ⟨Z, 5, none⟩ (.slice none 0 0)).setCell ⟨Z, 6, none⟩ (.slice none 0 0)).setCell ⟨Z, 7, none⟩ (.string ⟨#[]⟩)) Z #[.int .i64 0, .int .i64 0, .string ⟨#[]⟩, .slice none 0 0, .string ⟨#[]⟩, .slice none 0 0, .slice none 0 0, .string ⟨#[]⟩, .bool false] 72 := Blk.set (vs := #[.int .i64 0, .int .i64 0, .string ⟨#[]⟩, .slice none 0 0, .string ⟨#[]⟩, .slice none 0 0, .slice none 0 0, .string ⟨#[]⟩, .bool false]) bk7 7 (by simp) _
        have r7 : ((((((((V.setCell ⟨Z, 0, none⟩ (.int .i64 0)).setCell ⟨Z, 1, none⟩ (.int .i64 0)).setCell ⟨Z, 2, none⟩ (.string ⟨#[]⟩)).setCell ⟨Z, 3, none⟩ (.slice none 0 0)).setCell ⟨Z, 4, none⟩ (.string ⟨#[]⟩)).setCell ⟨Z, 5, none⟩ (.slice none 0 0)).setCell ⟨Z, 6, none⟩ (.slice none 0 0)).setCell ⟨Z, 7, none⟩ (.string ⟨#[]⟩)).cell? ⟨Z, 7, none⟩ = some (.string ⟨#[]⟩) := bk8.cell 7
        have bk9 : Blk (((((((((V.setCell ⟨Z, 0, none⟩ (.int .i64 0)).setCell ⟨Z, 1, none⟩ (.int .i64 0)).setCell ⟨Z, 2, none⟩ (.string ⟨#[]⟩)).setCell ⟨Z, 3, none⟩ (.slice none 0 0)).setCell ⟨Z, 4, none⟩ (.string ⟨#[]⟩)).setCell ⟨Z, 5, none⟩ (.slice none 0 0)).setCell ⟨Z, 6, none⟩ (.slice none 0 0)).setCell ⟨Z, 7, none⟩ (.string ⟨#[]⟩)).setCell ⟨Z, 8, none⟩ (.bool true)) Z #[.int .i64 0, .int .i64 0, .string ⟨#[]⟩, .slice none 0 0, .string ⟨#[]⟩, .slice none 0 0, .slice none 0 0, .string ⟨#[]⟩, .bool true] 72 := Blk.set (vs := #[.int .i64 0, .int .i64 0, .string ⟨#[]⟩, .slice none 0 0, .string ⟨#[]⟩, .slice none 0 0, .slice none 0 0, .string ⟨#[]⟩, .bool false]) bk8 8 (by simp) _
        have r8 : (((((((((V.setCell ⟨Z, 0, none⟩ (.int .i64 0)).setCell ⟨Z, 1, none⟩ (.int .i64 0)).setCell ⟨Z, 2, none⟩ (.string ⟨#[]⟩)).setCell ⟨Z, 3, none⟩ (.slice none 0 0)).setCell ⟨Z, 4, none⟩ (.string ⟨#[]⟩)).setCell ⟨Z, 5, none⟩ (.slice none 0 0)).setCell ⟨Z, 6, none⟩ (.slice none 0 0)).setCell ⟨Z, 7, none⟩ (.string ⟨#[]⟩)).setCell ⟨Z, 8, none⟩ (.bool true)).cell? ⟨Z, 8, none⟩ = some (.bool true) := bk9.cell 8
        have HRS := hide (And.intro r0 (And.intro r1 (And.intro r2 (And.intro r3 (And.intro r4 (And.intro r5 (And.intro r6 (And.intro r7 r8))))))))
        have HE : Hid (OneSaid w o (.returned (.agg #[.int .i64 0, .int .i64 0, .string ⟨#[]⟩, .slice none 0 0, .string ⟨#[]⟩, .slice none 0 0, .slice none 0 0, .string ⟨#[]⟩, .bool true])) (((((((((V.setCell ⟨Z, 0, none⟩ (.int .i64 0)).setCell ⟨Z, 1, none⟩ (.int .i64 0)).setCell ⟨Z, 2, none⟩ (.string ⟨#[]⟩)).setCell ⟨Z, 3, none⟩ (.slice none 0 0)).setCell ⟨Z, 4, none⟩ (.string ⟨#[]⟩)).setCell ⟨Z, 5, none⟩ (.slice none 0 0)).setCell ⟨Z, 6, none⟩ (.slice none 0 0)).setCell ⟨Z, 7, none⟩ (.string ⟨#[]⟩)).setCell ⟨Z, 8, none⟩ (.bool true))) := hide (by rw [unhide HON]; exact ⟨0, 0, ⟨#[]⟩, none, 0, 0, ⟨#[]⟩, none, 0, 0, ⟨#[]⟩, true, rfl, ((((((((((unhide HBW).setCell (p := ⟨Z, 0, none⟩) (Nat.le_of_eq (unhide HZO).1) (.int .i64 0)).setCell (p := ⟨Z, 1, none⟩) (Nat.le_of_eq (unhide HZO).1) (.int .i64 0)).setCell (p := ⟨Z, 2, none⟩) (Nat.le_of_eq (unhide HZO).1) (.string ⟨#[]⟩)).setCell (p := ⟨Z, 3, none⟩) (Nat.le_of_eq (unhide HZO).1) (.slice none 0 0)).setCell (p := ⟨Z, 4, none⟩) (Nat.le_of_eq (unhide HZO).1) (.string ⟨#[]⟩)).setCell (p := ⟨Z, 5, none⟩) (Nat.le_of_eq (unhide HZO).1) (.slice none 0 0)).setCell (p := ⟨Z, 6, none⟩) (Nat.le_of_eq (unhide HZO).1) (.slice none 0 0)).setCell (p := ⟨Z, 7, none⟩) (Nat.le_of_eq (unhide HZO).1) (.string ⟨#[]⟩)).setCell (p := ⟨Z, 8, none⟩) (Nat.le_of_eq (unhide HZO).1) (.bool true)), rfl⟩)
        clear bk0 bk1 bk2 bk3 bk4 bk5 bk6 bk7 bk8 bk9 r0 r1 r2 r3 r4 r5 r6 r7 r8 hz 
        go_wp2
        obtain ⟨r0, r1, r2, r3, r4, r5, r6, r7, r8⟩ := unhide HRS
        refine bodyPost_ret (v := .agg #[.int .i64 0, .int .i64 0, .string ⟨#[]⟩, .slice none 0 0, .string ⟨#[]⟩, .slice none 0 0, .slice none 0 0, .string ⟨#[]⟩, .bool true]) (by simp [results, Tryd.results69, go_sem, r0, r1, r2, r3, r4, r5, r6, r7, r8]) rfl ?_
        exact unhide HE
      have qy' : ye = 0 := by omega
      subst qy'
      have hpa : pAts (c - j) l = (pAts (c - (j + 1)) yl).map fun z => ((xv, yv) :: z.1, z.2) := by
        rw [unhide HRS2, (unhide HXY).1, if_pos rfl]
        show (pT xl).bind _ = _
        rw [(unhide HXY).2, if_pos rfl]
        rfl
      have HRES3 : Hid (pAts c l4 = (pAts (c - (j + 1)) yl).map fun a => ((ats ++ [(xv, yv)]) ++ a.1, a.2)) := hide (by
        rw [unhide HRES, hpa]
        cases pAts (c - (j + 1)) yl with
        | none => rfl
        | some a => show some (_, _) = some (_, _); simp only [List.append_assoc, List.cons_append, List.nil_append])
      have o3 : V.cell? ⟨O, 3, none⟩ = some (.slice qa j ca) := ho.cell 3
      have of3 : V.frozen? ⟨O, 3, none⟩ = false := ho.frozen 3
      have hOl : O < V.heap.size := ho.lt
      have HY := hide (And.intro ho (And.intro hcV hz))
      clear HXY HRS2 HRES hpa ho hcV hz hxB hyB
      go_wp2_with (at_builtin; refine wpList_append_own _ rfl _ _ 47 rfl B 81 i0 (.agg #[.string ⟨#[]⟩, .string ⟨#[]⟩]) 2 32 Tryd.underlying47 hi0 hi1 hi2 hi3 rfl (by decide) _ _ _ rfl (hrowV.alloc (Obj.cells #[.string xv, .string yv] 81)) ⟨V.heap.size, 0, none⟩ 1 1 [.string xv, .string yv] rfl rfl (fun j u hj => lit2 rfl hj) (by intro u hu; simp at hu; rcases hu with rfl | rfl <;> rfl) (by unfold maxLen; omega) (by omega) (by simp; omega) ?_)
      intro v' w7 hrow7 hgrow7 _
      obtain ⟨a6, c6, hv7⟩ := slice_n hrow7
      subst hv7
      have hown := fun k hk => (hrowV.lt k hk).1
      have keep : ∀ (b : Nat) (vs : Array Value) (t : TypeId), b < B → Blk V b vs t → Blk w7 b vs t := fun b vs t hb hbk => (hgrow7.block b (by have := hbk.lt; simp; omega) (fun e => by have := hown b e.symm; omega)).trans (Blk.alloc hbk (Obj.cells #[.string xv, .string yv] 81))
      have ho7 := keep O _ _ (by have := unhide HLB; omega) (unhide HY).1
      have hc7 := keep C _ _ (by have := unhide HLB; omega) (unhide HY).2.1
      have hz7 := keep Z _ _ (by have := unhide HLB; omega) (unhide HY).2.2
      have hwB : w.heap.size ≤ B := by have h8 := (unhide HZO).2; have h9 := unhide HLB; omega
      have hb7 : Below w.heap.size w w7 := ((unhide HBW).alloc (unhide HBW).size (Obj.cells #[.string xv, .string yv] 81)).grown hgrow7 ((unhide HBW).alloc (unhide HBW).size (Obj.cells #[.string xv, .string yv] 81)).size (fun k hk => by have := hown k hk; omega)
      have hq3 : w7.cell? ⟨O, 3, none⟩ = some (.slice qa j ca) := ho7.cell 3
      have hqf3 : w7.frozen? ⟨O, 3, none⟩ = false := ho7.frozen 3
      have yy3 : w7.cell? ⟨Q, 3, none⟩ = some (.string (bs yl)) := by
        have h1 : some Q ≠ (Value.slice qa j ca).ownBlock := fun e => by have h1 := unhide HRL Q e.symm; have h2 := unhide HQW; omega
        exact hgrow7.cell (by rw [World.cell?_of_block (w := V) (a := ⟨Q, 3, none⟩) (((Below.refl V.heap.size V).alloc (Nat.le_refl _) (Obj.cells #[.string xv, .string yv] 81)).block Q (World.block_lt_of_cell? V ⟨Q, 3, none⟩ y3c))]; exact y3c) h1
      have hB7 : B ≤ w7.heap.size := by have := hgrow7.size; simp at this; omega
      have hrow8 : (w7.setCell ⟨O, 3, none⟩ (.slice a6 (j + 1) c6)).ownsRow B 81 2 (.slice a6 (j + 1) c6) (j + 1) (flatA ats ++ [.string xv, .string yv]) := ownsRow_kpr (R := O) hrow7 ((KpR.refl O w7).set 3 (.slice a6 (j + 1) c6)) (by have := unhide HLB; omega)
      have ho8 : Blk (w7.setCell ⟨O, 3, none⟩ (.slice a6 (j + 1) c6)) O #[.int .i64 k, .int .i64 sp, .string t1, .slice a6 (j + 1) c6, .string ⟨#[]⟩, .slice none 0 0, .slice none 0 0, .string ⟨#[]⟩, .bool false] 72 := Blk.set (vs := #[.int .i64 k, .int .i64 sp, .string t1, .slice qa j ca, .string ⟨#[]⟩, .slice none 0 0, .slice none 0 0, .string ⟨#[]⟩, .bool false]) ho7 3 (by simp) _
      have HEV : Hid (EAt w O C Z B k sp t1 c l4 (.string (bs yl)) (.int .i64 ((j : Int) + 1)) (w7.setCell ⟨O, 3, none⟩ (.slice a6 (j + 1) c6))) := hide ⟨j + 1, ats ++ [(xv, yv)], yl, .slice a6 (j + 1) c6, by omega, by congr 1, rfl, by rw [List.length_append, hal]; rfl, by rw [flatA_snoc, List.length_append, hal]; exact hrow8, ho8, Blk.away hc7 hCO _, Blk.away hz7 hZO _, hb7.setCell (p := ⟨O, 3, none⟩) (unhide HZO).2 _, by simp; omega, by omega, unhide HRES3⟩
      clear hrow7 hgrow7 hown keep ho7 hc7 hz7 hb7 hrow8 ho8 hrowV HY HRES3 HOO HBW
      go_wp2
      go_roundw
      case rel => exact unhide HEV
      case measure => simp [intOf]; omega
    · have hpi : ¬ (j : Int) < (c : Int) := by omega
      have hjc : c - j = 0 := by omega
      rw [hjc, pAts] at hres
      have hres' : pAts c l4 = some (ats, l) := by rw [hres]; show some (ats ++ [], l) = _; rw [List.append_nil]
      have hoq : o = (kp l).map fun ks => (⟨k, sp, t1, ats, ⟨#[]⟩, ks.1⟩, ks.2) := by rw [unhide HOO, hres']; rfl
      have HOQ := hide hoq
      obtain ⟨q0, cap0, hv0, hcs⟩ := cells_of_owns hrow
      injection hv0 with e1 e2 e3
      subst e1 e3
      have hslr : Sl qa ats (mask (hiP B) wr) := sl_hi hcs
      have CK1 := hide (unhide CK l wr hll)
      have hd1 : dd - 1 = dd - 1 := rfl
      have HIN := hide (And.intro hslr (And.intro hO (And.intro hZ (And.intro hbw hBs))))
      clear hres hres' hoq hcs hslr hrow hO hcB hZ hbw hBs HOO CK
      go_wp2_with fail
      refine (unhide CK1).mono ?_
      rintro e w8 hms
      obtain ⟨ql, ll, cl, rst8, bad, rfl, hb8, hmi⟩ := hms
      go_upto_region 29 with fail
      obtain ⟨V, hV⟩ : ∃ V, w8.alloc (Obj.cells #[.int .i64 0, .int .i64 0, .string ⟨#[]⟩, .slice none 0 0, .string ⟨#[]⟩, .slice none 0 0, .slice ql ll cl, .string rst8, .bool bad] 72) = V := ⟨_, rfl⟩
      have hA8 : Below w8.heap.size w8 V := by rw [← hV]; exact (Below.refl _ _).alloc (Nat.le_refl _) _
      have hall : Below wr.heap.size wr V := tr2 hb8 hA8
      obtain ⟨hslr, hO, hZ, hbw, hBs⟩ := unhide HIN
      have hslV : Sl qa ats (mask (hiP B) V) := hslr.le (mask_kept fun k hk h => ⟨h, hall.block k hk⟩)
      have ho : Blk V O #[.int .i64 k, .int .i64 sp, .string t1, .slice qa ats.length ca, .string ⟨#[]⟩, .slice none 0 0, .slice none 0 0, .string ⟨#[]⟩, .bool false] 72 := Blk.later hO hall
      have hz : Blk V Z #[.int .i64 0, .int .i64 0, .string ⟨#[]⟩, .slice none 0 0, .string ⟨#[]⟩, .slice none 0 0, .slice none 0 0, .string ⟨#[]⟩, .bool false] 72 := Blk.later hZ hall
      have hmB : Blk V w8.heap.size #[.int .i64 0, .int .i64 0, .string ⟨#[]⟩, .slice none 0 0, .string ⟨#[]⟩, .slice none 0 0, .slice ql ll cl, .string rst8, .bool bad] 72 := by rw [← hV]; exact Blk.new _ _ _
      have HBW : Hid (Below w.heap.size w V) := hide (tr2 hbw hall)
      have HMI : Hid (ManyIs wr.heap.size (kp l) ql ll cl rst8 bad w8 ∧ CellLe (mask (hiP wr.heap.size) w8) (mask (hiP wr.heap.size) V)) := hide ⟨hmi, mask_kept fun k hk h => ⟨h, hA8.block k hk⟩⟩
      have hw8 : wr.heap.size ≤ w8.heap.size := hb8.size
      simp only [hV]
      rw [hal] at ho
      have HSL := hide hslV
      clear hV hb8 hA8 hmi CK1 HIN hslr hslV hO hZ hbw hall
      obtain ⟨M, hM⟩ : ∃ Q, w8.heap.size = Q := ⟨_, rfl⟩
      have hMO : M ≠ O := by have := unhide HLB; omega
      rw [hM] at hmB
      simp only [hM]
      have m6 : V.cell? ⟨M, 6, none⟩ = some (.slice ql ll cl) := hmB.cell 6
      have m7 : V.cell? ⟨M, 7, none⟩ = some (.string rst8) := hmB.cell 7
      have m8 : V.cell? ⟨M, 8, none⟩ = some (.bool bad) := hmB.cell 8
      have HBR : Hid (B ≤ wr.heap.size) := hide hBs
      clear hmB hM hw8 hBs
      have o0 : V.cell? ⟨O, 0, none⟩ = some (.int .i64 k) := ho.cell 0
      have o1 : V.cell? ⟨O, 1, none⟩ = some (.int .i64 sp) := ho.cell 1
      have o2 : V.cell? ⟨O, 2, none⟩ = some (.string t1) := ho.cell 2
      have o3 : V.cell? ⟨O, 3, none⟩ = some (.slice qa j ca) := ho.cell 3
      have o4 : V.cell? ⟨O, 4, none⟩ = some (.string ⟨#[]⟩) := ho.cell 4
      have o5 : V.cell? ⟨O, 5, none⟩ = some (.slice none 0 0) := ho.cell 5
      have o6 : V.cell? ⟨O, 6, none⟩ = some (.slice none 0 0) := ho.cell 6
      have o7 : V.cell? ⟨O, 7, none⟩ = some (.string ⟨#[]⟩) := ho.cell 7
      have o8 : V.cell? ⟨O, 8, none⟩ = some (.bool false) := ho.cell 8
      have of5 : V.frozen? ⟨O, 5, none⟩ = false := ho.frozen 5
      have of7 : V.frozen? ⟨O, 7, none⟩ = false := ho.frozen 7
      have of8 : V.frozen? ⟨O, 8, none⟩ = false := ho.frozen 8
      have z0 : V.cell? ⟨Z, 0, none⟩ = some (.int .i64 0) := hz.cell 0
      have zf0 : V.frozen? ⟨Z, 0, none⟩ = false := hz.frozen 0
      have z1 : V.cell? ⟨Z, 1, none⟩ = some (.int .i64 0) := hz.cell 1
      have zf1 : V.frozen? ⟨Z, 1, none⟩ = false := hz.frozen 1
      have z2 : V.cell? ⟨Z, 2, none⟩ = some (.string ⟨#[]⟩) := hz.cell 2
      have zf2 : V.frozen? ⟨Z, 2, none⟩ = false := hz.frozen 2
      have z3 : V.cell? ⟨Z, 3, none⟩ = some (.slice none 0 0) := hz.cell 3
      have zf3 : V.frozen? ⟨Z, 3, none⟩ = false := hz.frozen 3
      have z4 : V.cell? ⟨Z, 4, none⟩ = some (.string ⟨#[]⟩) := hz.cell 4
      have zf4 : V.frozen? ⟨Z, 4, none⟩ = false := hz.frozen 4
      have z5 : V.cell? ⟨Z, 5, none⟩ = some (.slice none 0 0) := hz.cell 5
      have zf5 : V.frozen? ⟨Z, 5, none⟩ = false := hz.frozen 5
      have z6 : V.cell? ⟨Z, 6, none⟩ = some (.slice none 0 0) := hz.cell 6
      have zf6 : V.frozen? ⟨Z, 6, none⟩ = false := hz.frozen 6
      have z7 : V.cell? ⟨Z, 7, none⟩ = some (.string ⟨#[]⟩) := hz.cell 7
      have zf7 : V.frozen? ⟨Z, 7, none⟩ = false := hz.frozen 7
      have z8 : V.cell? ⟨Z, 8, none⟩ = some (.bool false) := hz.cell 8
      have zf8 : V.frozen? ⟨Z, 8, none⟩ = false := hz.frozen 8
      have bk0 : Blk (((V.setCell ⟨O, 5, none⟩ (.slice ql ll cl)).setCell ⟨O, 7, none⟩ (.string rst8)).setCell ⟨O, 8, none⟩ (.bool bad)) Z #[.int .i64 0, .int .i64 0, .string ⟨#[]⟩, .slice none 0 0, .string ⟨#[]⟩, .slice none 0 0, .slice none 0 0, .string ⟨#[]⟩, .bool false] 72 := (Blk.away (Blk.away (Blk.away hz hZO _) hZO _) hZO _)
      have bk1 : Blk ((((V.setCell ⟨O, 5, none⟩ (.slice ql ll cl)).setCell ⟨O, 7, none⟩ (.string rst8)).setCell ⟨O, 8, none⟩ (.bool bad)).setCell ⟨Z, 0, none⟩ (.int .i64 k)) Z #[.int .i64 k, .int .i64 0, .string ⟨#[]⟩, .slice none 0 0, .string ⟨#[]⟩, .slice none 0 0, .slice none 0 0, .string ⟨#[]⟩, .bool false] 72 := Blk.set (vs := #[.int .i64 0, .int .i64 0, .string ⟨#[]⟩, .slice none 0 0, .string ⟨#[]⟩, .slice none 0 0, .slice none 0 0, .string ⟨#[]⟩, .bool false]) bk0 0 (by simp) _
      have r0 : ((((V.setCell ⟨O, 5, none⟩ (.slice ql ll cl)).setCell ⟨O, 7, none⟩ (.string rst8)).setCell ⟨O, 8, none⟩ (.bool bad)).setCell ⟨Z, 0, none⟩ (.int .i64 k)).cell? ⟨Z, 0, none⟩ = some (.int .i64 k) := bk1.cell 0
      have bk2 : Blk (((((V.setCell ⟨O, 5, none⟩ (.slice ql ll cl)).setCell ⟨O, 7, none⟩ (.string rst8)).setCell ⟨O, 8, none⟩ (.bool bad)).setCell ⟨Z, 0, none⟩ (.int .i64 k)).setCell ⟨Z, 1, none⟩ (.int .i64 sp)) Z #[.int .i64 k, .int .i64 sp, .string ⟨#[]⟩, .slice none 0 0, .string ⟨#[]⟩, .slice none 0 0, .slice none 0 0, .string ⟨#[]⟩, .bool false] 72 := Blk.set (vs := #[.int .i64 k, .int .i64 0, .string ⟨#[]⟩, .slice none 0 0, .string ⟨#[]⟩, .slice none 0 0, .slice none 0 0, .string ⟨#[]⟩, .bool false]) bk1 1 (by simp) _
      have r1 : (((((V.setCell ⟨O, 5, none⟩ (.slice ql ll cl)).setCell ⟨O, 7, none⟩ (.string rst8)).setCell ⟨O, 8, none⟩ (.bool bad)).setCell ⟨Z, 0, none⟩ (.int .i64 k)).setCell ⟨Z, 1, none⟩ (.int .i64 sp)).cell? ⟨Z, 1, none⟩ = some (.int .i64 sp) := bk2.cell 1
      have bk3 : Blk ((((((V.setCell ⟨O, 5, none⟩ (.slice ql ll cl)).setCell ⟨O, 7, none⟩ (.string rst8)).setCell ⟨O, 8, none⟩ (.bool bad)).setCell ⟨Z, 0, none⟩ (.int .i64 k)).setCell ⟨Z, 1, none⟩ (.int .i64 sp)).setCell ⟨Z, 2, none⟩ (.string t1)) Z #[.int .i64 k, .int .i64 sp, .string t1, .slice none 0 0, .string ⟨#[]⟩, .slice none 0 0, .slice none 0 0, .string ⟨#[]⟩, .bool false] 72 := Blk.set (vs := #[.int .i64 k, .int .i64 sp, .string ⟨#[]⟩, .slice none 0 0, .string ⟨#[]⟩, .slice none 0 0, .slice none 0 0, .string ⟨#[]⟩, .bool false]) bk2 2 (by simp) _
      have r2 : ((((((V.setCell ⟨O, 5, none⟩ (.slice ql ll cl)).setCell ⟨O, 7, none⟩ (.string rst8)).setCell ⟨O, 8, none⟩ (.bool bad)).setCell ⟨Z, 0, none⟩ (.int .i64 k)).setCell ⟨Z, 1, none⟩ (.int .i64 sp)).setCell ⟨Z, 2, none⟩ (.string t1)).cell? ⟨Z, 2, none⟩ = some (.string t1) := bk3.cell 2
      have bk4 : Blk (((((((V.setCell ⟨O, 5, none⟩ (.slice ql ll cl)).setCell ⟨O, 7, none⟩ (.string rst8)).setCell ⟨O, 8, none⟩ (.bool bad)).setCell ⟨Z, 0, none⟩ (.int .i64 k)).setCell ⟨Z, 1, none⟩ (.int .i64 sp)).setCell ⟨Z, 2, none⟩ (.string t1)).setCell ⟨Z, 3, none⟩ (.slice qa j ca)) Z #[.int .i64 k, .int .i64 sp, .string t1, .slice qa j ca, .string ⟨#[]⟩, .slice none 0 0, .slice none 0 0, .string ⟨#[]⟩, .bool false] 72 := Blk.set (vs := #[.int .i64 k, .int .i64 sp, .string t1, .slice none 0 0, .string ⟨#[]⟩, .slice none 0 0, .slice none 0 0, .string ⟨#[]⟩, .bool false]) bk3 3 (by simp) _
      have r3 : (((((((V.setCell ⟨O, 5, none⟩ (.slice ql ll cl)).setCell ⟨O, 7, none⟩ (.string rst8)).setCell ⟨O, 8, none⟩ (.bool bad)).setCell ⟨Z, 0, none⟩ (.int .i64 k)).setCell ⟨Z, 1, none⟩ (.int .i64 sp)).setCell ⟨Z, 2, none⟩ (.string t1)).setCell ⟨Z, 3, none⟩ (.slice qa j ca)).cell? ⟨Z, 3, none⟩ = some (.slice qa j ca) := bk4.cell 3
      have bk5 : Blk ((((((((V.setCell ⟨O, 5, none⟩ (.slice ql ll cl)).setCell ⟨O, 7, none⟩ (.string rst8)).setCell ⟨O, 8, none⟩ (.bool bad)).setCell ⟨Z, 0, none⟩ (.int .i64 k)).setCell ⟨Z, 1, none⟩ (.int .i64 sp)).setCell ⟨Z, 2, none⟩ (.string t1)).setCell ⟨Z, 3, none⟩ (.slice qa j ca)).setCell ⟨Z, 4, none⟩ (.string ⟨#[]⟩)) Z #[.int .i64 k, .int .i64 sp, .string t1, .slice qa j ca, .string ⟨#[]⟩, .slice none 0 0, .slice none 0 0, .string ⟨#[]⟩, .bool false] 72 := Blk.set (vs := #[.int .i64 k, .int .i64 sp, .string t1, .slice qa j ca, .string ⟨#[]⟩, .slice none 0 0, .slice none 0 0, .string ⟨#[]⟩, .bool false]) bk4 4 (by simp) _
      have r4 : ((((((((V.setCell ⟨O, 5, none⟩ (.slice ql ll cl)).setCell ⟨O, 7, none⟩ (.string rst8)).setCell ⟨O, 8, none⟩ (.bool bad)).setCell ⟨Z, 0, none⟩ (.int .i64 k)).setCell ⟨Z, 1, none⟩ (.int .i64 sp)).setCell ⟨Z, 2, none⟩ (.string t1)).setCell ⟨Z, 3, none⟩ (.slice qa j ca)).setCell ⟨Z, 4, none⟩ (.string ⟨#[]⟩)).cell? ⟨Z, 4, none⟩ = some (.string ⟨#[]⟩) := bk5.cell 4
      have bk6 : Blk (((((((((V.setCell ⟨O, 5, none⟩ (.slice ql ll cl)).setCell ⟨O, 7, none⟩ (.string rst8)).setCell ⟨O, 8, none⟩ (.bool bad)).setCell ⟨Z, 0, none⟩ (.int .i64 k)).setCell ⟨Z, 1, none⟩ (.int .i64 sp)).setCell ⟨Z, 2, none⟩ (.string t1)).setCell ⟨Z, 3, none⟩ (.slice qa j ca)).setCell ⟨Z, 4, none⟩ (.string ⟨#[]⟩)).setCell ⟨Z, 5, none⟩ (.slice ql ll cl)) Z #[.int .i64 k, .int .i64 sp, .string t1, .slice qa j ca, .string ⟨#[]⟩, .slice ql ll cl, .slice none 0 0, .string ⟨#[]⟩, .bool false] 72 := Blk.set (vs := #[.int .i64 k, .int .i64 sp, .string t1, .slice qa j ca, .string ⟨#[]⟩, .slice none 0 0, .slice none 0 0, .string ⟨#[]⟩, .bool false]) bk5 5 (by simp) _
      have r5 : (((((((((V.setCell ⟨O, 5, none⟩ (.slice ql ll cl)).setCell ⟨O, 7, none⟩ (.string rst8)).setCell ⟨O, 8, none⟩ (.bool bad)).setCell ⟨Z, 0, none⟩ (.int .i64 k)).setCell ⟨Z, 1, none⟩ (.int .i64 sp)).setCell ⟨Z, 2, none⟩ (.string t1)).setCell ⟨Z, 3, none⟩ (.slice qa j ca)).setCell ⟨Z, 4, none⟩ (.string ⟨#[]⟩)).setCell ⟨Z, 5, none⟩ (.slice ql ll cl)).cell? ⟨Z, 5, none⟩ = some (.slice ql ll cl) := bk6.cell 5
      have bk7 : Blk ((((((((((V.setCell ⟨O, 5, none⟩ (.slice ql ll cl)).setCell ⟨O, 7, none⟩ (.string rst8)).setCell ⟨O, 8, none⟩ (.bool bad)).setCell ⟨Z, 0, none⟩ (.int .i64 k)).setCell ⟨Z, 1, none⟩ (.int .i64 sp)).setCell ⟨Z, 2, none⟩ (.string t1)).setCell ⟨Z, 3, none⟩ (.slice qa j ca)).setCell ⟨Z, 4, none⟩ (.string ⟨#[]⟩)).setCell ⟨Z, 5, none⟩ (.slice ql ll cl)).setCell ⟨Z, 6, none⟩ (.slice none 0 0)) Z #[.int .i64 k, .int .i64 sp, .string t1, .slice qa j ca, .string ⟨#[]⟩, .slice ql ll cl, .slice none 0 0, .string ⟨#[]⟩, .bool false] 72 := Blk.set (vs := #[.int .i64 k, .int .i64 sp, .string t1, .slice qa j ca, .string ⟨#[]⟩, .slice ql ll cl, .slice none 0 0, .string ⟨#[]⟩, .bool false]) bk6 6 (by simp) _
      have r6 : ((((((((((V.setCell ⟨O, 5, none⟩ (.slice ql ll cl)).setCell ⟨O, 7, none⟩ (.string rst8)).setCell ⟨O, 8, none⟩ (.bool bad)).setCell ⟨Z, 0, none⟩ (.int .i64 k)).setCell ⟨Z, 1, none⟩ (.int .i64 sp)).setCell ⟨Z, 2, none⟩ (.string t1)).setCell ⟨Z, 3, none⟩ (.slice qa j ca)).setCell ⟨Z, 4, none⟩ (.string ⟨#[]⟩)).setCell ⟨Z, 5, none⟩ (.slice ql ll cl)).setCell ⟨Z, 6, none⟩ (.slice none 0 0)).cell? ⟨Z, 6, none⟩ = some (.slice none 0 0) := bk7.cell 6
      have bk8 : Blk (((((((((((V.setCell ⟨O, 5, none⟩ (.slice ql ll cl)).setCell ⟨O, 7, none⟩ (.string rst8)).setCell ⟨O, 8, none⟩ (.bool bad)).setCell ⟨Z, 0, none⟩ (.int .i64 k)).setCell ⟨Z, 1, none⟩ (.int .i64 sp)).setCell ⟨Z, 2, none⟩ (.string t1)).setCell ⟨Z, 3, none⟩ (.slice qa j ca)).setCell ⟨Z, 4, none⟩ (.string ⟨#[]⟩)).setCell ⟨Z, 5, none⟩ (.slice ql ll cl)).setCell ⟨Z, 6, none⟩ (.slice none 0 0)).setCell ⟨Z, 7, none⟩ (.string rst8)) Z #[.int .i64 k, .int .i64 sp, .string t1, .slice qa j ca, .string ⟨#[]⟩, .slice ql ll cl, .slice none 0 0, .string rst8, .bool false] 72 := Blk.set (vs := #[.int .i64 k, .int .i64 sp, .string t1, .slice qa j ca, .string ⟨#[]⟩, .slice ql ll cl, .slice none 0 0, .string ⟨#[]⟩, .bool false]) bk7 7 (by simp) _
      have r7 : (((((((((((V.setCell ⟨O, 5, none⟩ (.slice ql ll cl)).setCell ⟨O, 7, none⟩ (.string rst8)).setCell ⟨O, 8, none⟩ (.bool bad)).setCell ⟨Z, 0, none⟩ (.int .i64 k)).setCell ⟨Z, 1, none⟩ (.int .i64 sp)).setCell ⟨Z, 2, none⟩ (.string t1)).setCell ⟨Z, 3, none⟩ (.slice qa j ca)).setCell ⟨Z, 4, none⟩ (.string ⟨#[]⟩)).setCell ⟨Z, 5, none⟩ (.slice ql ll cl)).setCell ⟨Z, 6, none⟩ (.slice none 0 0)).setCell ⟨Z, 7, none⟩ (.string rst8)).cell? ⟨Z, 7, none⟩ = some (.string rst8) := bk8.cell 7
      have bk9 : Blk ((((((((((((V.setCell ⟨O, 5, none⟩ (.slice ql ll cl)).setCell ⟨O, 7, none⟩ (.string rst8)).setCell ⟨O, 8, none⟩ (.bool bad)).setCell ⟨Z, 0, none⟩ (.int .i64 k)).setCell ⟨Z, 1, none⟩ (.int .i64 sp)).setCell ⟨Z, 2, none⟩ (.string t1)).setCell ⟨Z, 3, none⟩ (.slice qa j ca)).setCell ⟨Z, 4, none⟩ (.string ⟨#[]⟩)).setCell ⟨Z, 5, none⟩ (.slice ql ll cl)).setCell ⟨Z, 6, none⟩ (.slice none 0 0)).setCell ⟨Z, 7, none⟩ (.string rst8)).setCell ⟨Z, 8, none⟩ (.bool bad)) Z #[.int .i64 k, .int .i64 sp, .string t1, .slice qa j ca, .string ⟨#[]⟩, .slice ql ll cl, .slice none 0 0, .string rst8, .bool bad] 72 := Blk.set (vs := #[.int .i64 k, .int .i64 sp, .string t1, .slice qa j ca, .string ⟨#[]⟩, .slice ql ll cl, .slice none 0 0, .string rst8, .bool false]) bk8 8 (by simp) _
      have r8 : ((((((((((((V.setCell ⟨O, 5, none⟩ (.slice ql ll cl)).setCell ⟨O, 7, none⟩ (.string rst8)).setCell ⟨O, 8, none⟩ (.bool bad)).setCell ⟨Z, 0, none⟩ (.int .i64 k)).setCell ⟨Z, 1, none⟩ (.int .i64 sp)).setCell ⟨Z, 2, none⟩ (.string t1)).setCell ⟨Z, 3, none⟩ (.slice qa j ca)).setCell ⟨Z, 4, none⟩ (.string ⟨#[]⟩)).setCell ⟨Z, 5, none⟩ (.slice ql ll cl)).setCell ⟨Z, 6, none⟩ (.slice none 0 0)).setCell ⟨Z, 7, none⟩ (.string rst8)).setCell ⟨Z, 8, none⟩ (.bool bad)).cell? ⟨Z, 8, none⟩ = some (.bool bad) := bk9.cell 8
      have HRS := hide (And.intro r0 (And.intro r1 (And.intro r2 (And.intro r3 (And.intro r4 (And.intro r5 (And.intro r6 (And.intro r7 r8))))))))
      have HE : Hid (OneSaid w o (.returned (.agg #[.int .i64 k, .int .i64 sp, .string t1, .slice qa j ca, .string ⟨#[]⟩, .slice ql ll cl, .slice none 0 0, .string rst8, .bool bad])) ((((((((((((V.setCell ⟨O, 5, none⟩ (.slice ql ll cl)).setCell ⟨O, 7, none⟩ (.string rst8)).setCell ⟨O, 8, none⟩ (.bool bad)).setCell ⟨Z, 0, none⟩ (.int .i64 k)).setCell ⟨Z, 1, none⟩ (.int .i64 sp)).setCell ⟨Z, 2, none⟩ (.string t1)).setCell ⟨Z, 3, none⟩ (.slice qa j ca)).setCell ⟨Z, 4, none⟩ (.string ⟨#[]⟩)).setCell ⟨Z, 5, none⟩ (.slice ql ll cl)).setCell ⟨Z, 6, none⟩ (.slice none 0 0)).setCell ⟨Z, 7, none⟩ (.string rst8)).setCell ⟨Z, 8, none⟩ (.bool bad))) := hide (by
        refine ⟨k, sp, t1, qa, j, ca, ⟨#[]⟩, ql, ll, cl, rst8, bad, rfl, (((((((((((((unhide HBW).setCell (p := ⟨O, 5, none⟩) (unhide HZO).2 (.slice ql ll cl)).setCell (p := ⟨O, 7, none⟩) (unhide HZO).2 (.string rst8)).setCell (p := ⟨O, 8, none⟩) (unhide HZO).2 (.bool bad)).setCell (p := ⟨Z, 0, none⟩) (Nat.le_of_eq (unhide HZO).1) (.int .i64 k)).setCell (p := ⟨Z, 1, none⟩) (Nat.le_of_eq (unhide HZO).1) (.int .i64 sp)).setCell (p := ⟨Z, 2, none⟩) (Nat.le_of_eq (unhide HZO).1) (.string t1)).setCell (p := ⟨Z, 3, none⟩) (Nat.le_of_eq (unhide HZO).1) (.slice qa j ca)).setCell (p := ⟨Z, 4, none⟩) (Nat.le_of_eq (unhide HZO).1) (.string ⟨#[]⟩)).setCell (p := ⟨Z, 5, none⟩) (Nat.le_of_eq (unhide HZO).1) (.slice ql ll cl)).setCell (p := ⟨Z, 6, none⟩) (Nat.le_of_eq (unhide HZO).1) (.slice none 0 0)).setCell (p := ⟨Z, 7, none⟩) (Nat.le_of_eq (unhide HZO).1) (.string rst8)).setCell (p := ⟨Z, 8, none⟩) (Nat.le_of_eq (unhide HZO).1) (.bool bad)), ?_⟩
        rw [unhide HOQ]
        have hmi := (unhide HMI).1
        have hle := (unhide HMI).2
        have hwB : w.heap.size ≤ B := by have h8 := (unhide HZO).2; have h9 := unhide HLB; omega
        cases hkp : kp l with
        | none => rw [hkp] at hmi; exact hmi
        | some x =>
          obtain ⟨f, r⟩ := x
          rw [hkp] at hmi
          obtain ⟨i1, i2, i3, i4, i5⟩ := hmi
          exact ⟨i1, rfl, rfl, rfl, hal.symm, rfl, i2, i3, i4, ((unhide HSL).le (CellLe.trans (mask_set (b := O) (o := 5) (hiP_at (by have := unhide HLB; omega))) (CellLe.trans (mask_set (b := O) (o := 7) (hiP_at (by have := unhide HLB; omega))) (CellLe.trans (mask_set (b := O) (o := 8) (hiP_at (by have := unhide HLB; omega))) (CellLe.trans (mask_set (b := Z) (o := 0) (hiP_at (by have := unhide HLB; omega))) (CellLe.trans (mask_set (b := Z) (o := 1) (hiP_at (by have := unhide HLB; omega))) (CellLe.trans (mask_set (b := Z) (o := 2) (hiP_at (by have := unhide HLB; omega))) (CellLe.trans (mask_set (b := Z) (o := 3) (hiP_at (by have := unhide HLB; omega))) (CellLe.trans (mask_set (b := Z) (o := 4) (hiP_at (by have := unhide HLB; omega))) (CellLe.trans (mask_set (b := Z) (o := 5) (hiP_at (by have := unhide HLB; omega))) (CellLe.trans (mask_set (b := Z) (o := 6) (hiP_at (by have := unhide HLB; omega))) (CellLe.trans (mask_set (b := Z) (o := 7) (hiP_at (by have := unhide HLB; omega))) ((mask_set (b := Z) (o := 8) (hiP_at (by have := unhide HLB; omega)))))))))))))))).le (mask_less _ (hiP_less hwB)), ((i5.le hle).le (CellLe.trans (mask_set (b := O) (o := 5) (hiP_at (by have := unhide HLB; have := unhide HBR; omega))) (CellLe.trans (mask_set (b := O) (o := 7) (hiP_at (by have := unhide HLB; have := unhide HBR; omega))) (CellLe.trans (mask_set (b := O) (o := 8) (hiP_at (by have := unhide HLB; have := unhide HBR; omega))) (CellLe.trans (mask_set (b := Z) (o := 0) (hiP_at (by have := unhide HLB; have := unhide HBR; omega))) (CellLe.trans (mask_set (b := Z) (o := 1) (hiP_at (by have := unhide HLB; have := unhide HBR; omega))) (CellLe.trans (mask_set (b := Z) (o := 2) (hiP_at (by have := unhide HLB; have := unhide HBR; omega))) (CellLe.trans (mask_set (b := Z) (o := 3) (hiP_at (by have := unhide HLB; have := unhide HBR; omega))) (CellLe.trans (mask_set (b := Z) (o := 4) (hiP_at (by have := unhide HLB; have := unhide HBR; omega))) (CellLe.trans (mask_set (b := Z) (o := 5) (hiP_at (by have := unhide HLB; have := unhide HBR; omega))) (CellLe.trans (mask_set (b := Z) (o := 6) (hiP_at (by have := unhide HLB; have := unhide HBR; omega))) (CellLe.trans (mask_set (b := Z) (o := 7) (hiP_at (by have := unhide HLB; have := unhide HBR; omega))) ((mask_set (b := Z) (o := 8) (hiP_at (by have := unhide HLB; have := unhide HBR; omega)))))))))))))))).le (mask_less _ (hiP_less (by have := unhide HBR; omega)))⟩)
      clear bk0 bk1 bk2 bk3 bk4 bk5 bk6 bk7 bk8 bk9 r0 r1 r2 r3 r4 r5 r6 r7 r8 hz ho HSL HMI
      go_wp2
      obtain ⟨r0, r1, r2, r3, r4, r5, r6, r7, r8⟩ := unhide HRS
      refine bodyPost_ret (v := .agg #[.int .i64 k, .int .i64 sp, .string t1, .slice qa j ca, .string ⟨#[]⟩, .slice ql ll cl, .slice none 0 0, .string rst8, .bool bad]) (by simp [results, Tryd.results69, go_sem, r0, r1, r2, r3, r4, r5, r6, r7, r8]) rfl ?_
      exact unhide HE
end Go.Proofs.YtmlmpongcpojjaaDoor
