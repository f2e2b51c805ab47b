/-
  The reference's Split of layer 15: one way after another (ways 10).
-/
import Derived.Test.YtfdhmhdemfbfeaaGreatDoorMgAJ
namespace Go.Proofs.YtfdhmhdemfbfeaaGreatDoor
open Go.RowKit
set_option linter.unusedVariables false

set_option maxHeartbeats 2000000 in
set_option maxRecDepth 20000 in
theorem rsp_1000 (S X0 X1 X2 X3 L1 LL MA QU HO PA P2 Z : ByteArray) (n m q h : Nat) (w : World)
    (z0 : X0.size ≤ 100000)
    (z1 : X1.size ≤ 100000)
    (C0 : ∀ w, Calls Tryz.prog 76 #[.string S] w fun e w' => e = .returned (.string X0) ∧ Below w.heap.size w w')
    (C1 : ∀ w, Calls Tryz.prog 77 #[.string X0] w fun e w' => e = .returned (.int .i64 (n : Int)) ∧ w' = w)
    (a1 : (0 : Int) < (n : Int))
    (a2 : (n : Int) + 1 ≤ (X0.size : Int))
    (a3 : X0.extract 0 n = L1)
    (a4 : X0.extract (n + 1) X0.size = X1)
    (C2 : ∀ w, Calls Tryz.prog 22 #[.string L1] w fun e w' => e = .returned (.string LL) ∧ Below w.heap.size w w')
    (C3 : ∀ w, Calls Tryz.prog 78 #[.string X1, .int .u8 35, .int .u8 35] w fun e w' => e = .returned (.int .i64 (m : Int)) ∧ w' = w)
    (b1 : ¬ m < X1.size)
    (C4 : ∀ w, Calls Tryz.prog 78 #[.string X1, .int .u8 63, .int .u8 63] w fun e w' => e = .returned (.int .i64 (q : Int)) ∧ w' = w)
    (c1 : ¬ q < X1.size)
    (d1 : ¬ 1 < X1.size) :
    Calls Tryz.prog 60 #[.string S] w fun e w' => e = .returned (.agg #[.string LL, .string ⟨#[]⟩, .string X1, .string ⟨#[]⟩, .string ⟨#[]⟩, .bool true, .bool false, .bool false, .bool false]) ∧ Below w.heap.size w w' := by
  have HC0 := hide C0
  have HC1 := hide C1
  have HC2 := hide C2
  have HC3 := hide C3
  have HC4 := hide C4
  clear C0 C1 C3 C4 C2
  have a6 : (n : Int) < (X0.size : Int) := by omega
  have a0 : (n : Int) ≤ (X0.size : Int) := by omega
  have a5 : (0 : Int) ≤ (n : Int) := by omega
  have kR : Hid (Blk ((w.alloc (Obj.cells #[.string ⟨#[]⟩, .string ⟨#[]⟩, .string ⟨#[]⟩, .string ⟨#[]⟩, .string ⟨#[]⟩, .bool false, .bool false, .bool false, .bool false] 104)).alloc (Obj.cells #[.string ⟨#[]⟩, .string ⟨#[]⟩, .string ⟨#[]⟩, .string ⟨#[]⟩, .string ⟨#[]⟩, .bool false, .bool false, .bool false, .bool false] 104)) w.heap.size #[.string ⟨#[]⟩, .string ⟨#[]⟩, .string ⟨#[]⟩, .string ⟨#[]⟩, .string ⟨#[]⟩, .bool false, .bool false, .bool false, .bool false] 104) := hide ((Blk.new w _ _).alloc _)
  have kB : Hid (Blk ((w.alloc (Obj.cells #[.string ⟨#[]⟩, .string ⟨#[]⟩, .string ⟨#[]⟩, .string ⟨#[]⟩, .string ⟨#[]⟩, .bool false, .bool false, .bool false, .bool false] 104)).alloc (Obj.cells #[.string ⟨#[]⟩, .string ⟨#[]⟩, .string ⟨#[]⟩, .string ⟨#[]⟩, .string ⟨#[]⟩, .bool false, .bool false, .bool false, .bool false] 104)) (w.heap.size + 1) #[.string ⟨#[]⟩, .string ⟨#[]⟩, .string ⟨#[]⟩, .string ⟨#[]⟩, .string ⟨#[]⟩, .bool false, .bool false, .bool false, .bool false] 104) := hide (Eq.mp (by simp) (Blk.new (w.alloc (Obj.cells #[.string ⟨#[]⟩, .string ⟨#[]⟩, .string ⟨#[]⟩, .string ⟨#[]⟩, .string ⟨#[]⟩, .bool false, .bool false, .bool false, .bool false] 104)) #[.string ⟨#[]⟩, .string ⟨#[]⟩, .string ⟨#[]⟩, .string ⟨#[]⟩, .string ⟨#[]⟩, .bool false, .bool false, .bool false, .bool false] 104))
  go_enter Tryz.func60, Tryz.ntmps60
  go_wp2_with fail
  refine (unhide HC0 _).mono ?_
  rintro e1 w1 ⟨rfl, hb⟩
  have kR1 := hide ((unhide kR).later hb)
  have kB1 := hide ((unhide kB).later hb)
  have hb1 : Below w.heap.size w w1 := (((Below.refl _ w).alloc (Nat.le_refl _) _).alloc (by simp) _).trans (hb.mono (by simp; omega))
  clear hb kR kB
  go_wp2_with fail
  refine (unhide HC1 _).mono ?_
  rintro e1 w2 ⟨rfl, hw2⟩
  obtain rfl : w1 = w2 := hw2.symm
  clear hw2
  go_wp2_with fail
  refine (unhide HC2 _).mono ?_
  rintro e1 w3 ⟨rfl, hb⟩
  have kr2 := (unhide kR1).later hb
  have k2 := (unhide kB1).later hb
  have hb2 : Below w.heap.size w w3 := tr2 hb1 hb
  clear hb kR1 kB1 hb1
  have pc0 : w3.cell? ⟨w.heap.size + 1, 0, none⟩ = some (.string ⟨#[]⟩) := k2.cell 0
  have pf0 : w3.frozen? ⟨w.heap.size + 1, 0, none⟩ = false := k2.frozen 0
  have rc0 : w3.cell? ⟨w.heap.size, 0, none⟩ = some (.string ⟨#[]⟩) := kr2.cell 0
  have rf0 : w3.frozen? ⟨w.heap.size, 0, none⟩ = false := kr2.frozen 0
  have pc1 : w3.cell? ⟨w.heap.size + 1, 1, none⟩ = some (.string ⟨#[]⟩) := k2.cell 1
  have pf1 : w3.frozen? ⟨w.heap.size + 1, 1, none⟩ = false := k2.frozen 1
  have rc1 : w3.cell? ⟨w.heap.size, 1, none⟩ = some (.string ⟨#[]⟩) := kr2.cell 1
  have rf1 : w3.frozen? ⟨w.heap.size, 1, none⟩ = false := kr2.frozen 1
  have pc2 : w3.cell? ⟨w.heap.size + 1, 2, none⟩ = some (.string ⟨#[]⟩) := k2.cell 2
  have pf2 : w3.frozen? ⟨w.heap.size + 1, 2, none⟩ = false := k2.frozen 2
  have rc2 : w3.cell? ⟨w.heap.size, 2, none⟩ = some (.string ⟨#[]⟩) := kr2.cell 2
  have rf2 : w3.frozen? ⟨w.heap.size, 2, none⟩ = false := kr2.frozen 2
  have pc3 : w3.cell? ⟨w.heap.size + 1, 3, none⟩ = some (.string ⟨#[]⟩) := k2.cell 3
  have pf3 : w3.frozen? ⟨w.heap.size + 1, 3, none⟩ = false := k2.frozen 3
  have rc3 : w3.cell? ⟨w.heap.size, 3, none⟩ = some (.string ⟨#[]⟩) := kr2.cell 3
  have rf3 : w3.frozen? ⟨w.heap.size, 3, none⟩ = false := kr2.frozen 3
  have pc4 : w3.cell? ⟨w.heap.size + 1, 4, none⟩ = some (.string ⟨#[]⟩) := k2.cell 4
  have pf4 : w3.frozen? ⟨w.heap.size + 1, 4, none⟩ = false := k2.frozen 4
  have rc4 : w3.cell? ⟨w.heap.size, 4, none⟩ = some (.string ⟨#[]⟩) := kr2.cell 4
  have rf4 : w3.frozen? ⟨w.heap.size, 4, none⟩ = false := kr2.frozen 4
  have pc5 : w3.cell? ⟨w.heap.size + 1, 5, none⟩ = some (.bool false) := k2.cell 5
  have pf5 : w3.frozen? ⟨w.heap.size + 1, 5, none⟩ = false := k2.frozen 5
  have rc5 : w3.cell? ⟨w.heap.size, 5, none⟩ = some (.bool false) := kr2.cell 5
  have rf5 : w3.frozen? ⟨w.heap.size, 5, none⟩ = false := kr2.frozen 5
  have pc6 : w3.cell? ⟨w.heap.size + 1, 6, none⟩ = some (.bool false) := k2.cell 6
  have pf6 : w3.frozen? ⟨w.heap.size + 1, 6, none⟩ = false := k2.frozen 6
  have rc6 : w3.cell? ⟨w.heap.size, 6, none⟩ = some (.bool false) := kr2.cell 6
  have rf6 : w3.frozen? ⟨w.heap.size, 6, none⟩ = false := kr2.frozen 6
  have pc7 : w3.cell? ⟨w.heap.size + 1, 7, none⟩ = some (.bool false) := k2.cell 7
  have pf7 : w3.frozen? ⟨w.heap.size + 1, 7, none⟩ = false := k2.frozen 7
  have rc7 : w3.cell? ⟨w.heap.size, 7, none⟩ = some (.bool false) := kr2.cell 7
  have rf7 : w3.frozen? ⟨w.heap.size, 7, none⟩ = false := kr2.frozen 7
  have pc8 : w3.cell? ⟨w.heap.size + 1, 8, none⟩ = some (.bool false) := k2.cell 8
  have pf8 : w3.frozen? ⟨w.heap.size + 1, 8, none⟩ = false := k2.frozen 8
  have rc8 : w3.cell? ⟨w.heap.size, 8, none⟩ = some (.bool false) := kr2.cell 8
  have rf8 : w3.frozen? ⟨w.heap.size, 8, none⟩ = false := kr2.frozen 8
  have KR2 := hide kr2
  clear k2 kr2
  go_wp2_with fail
  refine (unhide HC3 _).mono ?_
  rintro e1 w4 ⟨rfl, hw4⟩
  subst hw4
  go_wp2_with fail
  refine (unhide HC4 _).mono ?_
  rintro e1 w4 ⟨rfl, hw4⟩
  subst hw4
  go_wp2
  have kk := (((((((((((((unhide KR2).away (show w.heap.size ≠ w.heap.size + 1 by omega) (.string LL) (o := 0)).away (show w.heap.size ≠ w.heap.size + 1 by omega) (.bool true) (o := 5)).away (show w.heap.size ≠ w.heap.size + 1 by omega) (.string X1) (o := 2)).set 0 (by simp) (.string LL)).set 1 (by simp) (.string ⟨#[]⟩)).set 2 (by simp) (.string X1)).set 3 (by simp) (.string ⟨#[]⟩)).set 4 (by simp) (.string ⟨#[]⟩)).set 5 (by simp) (.bool true)).set 6 (by simp) (.bool false)).set 7 (by simp) (.bool false)).set 8 (by simp) (.bool false))
  have dd0 := kk.cell 0
  have dd1 := kk.cell 1
  have dd2 := kk.cell 2
  have dd3 := kk.cell 3
  have dd4 := kk.cell 4
  have dd5 := kk.cell 5
  have dd6 := kk.cell 6
  have dd7 := kk.cell 7
  have dd8 := kk.cell 8
  exact bodyPost_ret (v := .agg #[.string LL, .string ⟨#[]⟩, .string X1, .string ⟨#[]⟩, .string ⟨#[]⟩, .bool true, .bool false, .bool false, .bool false]) (by simp [results, Tryz.results60, go_sem, dd0, dd1, dd2, dd3, dd4, dd5, dd6, dd7, dd8]) rfl ⟨rfl, ((((((((((((hb2.setCell (by simp) _).setCell (by simp) _).setCell (by simp) _).setCell (by simp) _).setCell (by simp) _).setCell (by simp) _).setCell (by simp) _).setCell (by simp) _).setCell (by simp) _).setCell (by simp) _).setCell (by simp) _).setCell (by simp) _)⟩

set_option maxHeartbeats 2000000 in
set_option maxRecDepth 20000 in
theorem rsp_1001 (S X0 X1 X2 X3 L1 LL MA QU HO PA P2 Z : ByteArray) (n m q h : Nat) (w : World)
    (z0 : X0.size ≤ 100000)
    (z1 : X1.size ≤ 100000)
    (C0 : ∀ w, Calls Tryz.prog 76 #[.string S] w fun e w' => e = .returned (.string X0) ∧ Below w.heap.size w w')
    (C1 : ∀ w, Calls Tryz.prog 77 #[.string X0] w fun e w' => e = .returned (.int .i64 (n : Int)) ∧ w' = w)
    (a1 : (0 : Int) < (n : Int))
    (a2 : (n : Int) + 1 ≤ (X0.size : Int))
    (a3 : X0.extract 0 n = L1)
    (a4 : X0.extract (n + 1) X0.size = X1)
    (C2 : ∀ w, Calls Tryz.prog 22 #[.string L1] w fun e w' => e = .returned (.string LL) ∧ Below w.heap.size w w')
    (C3 : ∀ w, Calls Tryz.prog 78 #[.string X1, .int .u8 35, .int .u8 35] w fun e w' => e = .returned (.int .i64 (m : Int)) ∧ w' = w)
    (b1 : ¬ m < X1.size)
    (C4 : ∀ w, Calls Tryz.prog 78 #[.string X1, .int .u8 63, .int .u8 63] w fun e w' => e = .returned (.int .i64 (q : Int)) ∧ w' = w)
    (c1 : ¬ q < X1.size)
    (d1 : (1 : Int) < (X1.size : Int))
    (d2 : X1.extract 0 2 = P2)
    (d3 : (P2.toList == [47, 47]) = false) :
    Calls Tryz.prog 60 #[.string S] w fun e w' => e = .returned (.agg #[.string LL, .string ⟨#[]⟩, .string X1, .string ⟨#[]⟩, .string ⟨#[]⟩, .bool true, .bool false, .bool false, .bool false]) ∧ Below w.heap.size w w' := by
  have HC0 := hide C0
  have HC1 := hide C1
  have HC2 := hide C2
  have HC3 := hide C3
  have HC4 := hide C4
  clear C0 C1 C3 C4 C2
  have a6 : (n : Int) < (X0.size : Int) := by omega
  have a0 : (n : Int) ≤ (X0.size : Int) := by omega
  have a5 : (0 : Int) ≤ (n : Int) := by omega
  have d0 : (2 : Int) ≤ (X1.size : Int) := by omega
  have kR : Hid (Blk ((w.alloc (Obj.cells #[.string ⟨#[]⟩, .string ⟨#[]⟩, .string ⟨#[]⟩, .string ⟨#[]⟩, .string ⟨#[]⟩, .bool false, .bool false, .bool false, .bool false] 104)).alloc (Obj.cells #[.string ⟨#[]⟩, .string ⟨#[]⟩, .string ⟨#[]⟩, .string ⟨#[]⟩, .string ⟨#[]⟩, .bool false, .bool false, .bool false, .bool false] 104)) w.heap.size #[.string ⟨#[]⟩, .string ⟨#[]⟩, .string ⟨#[]⟩, .string ⟨#[]⟩, .string ⟨#[]⟩, .bool false, .bool false, .bool false, .bool false] 104) := hide ((Blk.new w _ _).alloc _)
  have kB : Hid (Blk ((w.alloc (Obj.cells #[.string ⟨#[]⟩, .string ⟨#[]⟩, .string ⟨#[]⟩, .string ⟨#[]⟩, .string ⟨#[]⟩, .bool false, .bool false, .bool false, .bool false] 104)).alloc (Obj.cells #[.string ⟨#[]⟩, .string ⟨#[]⟩, .string ⟨#[]⟩, .string ⟨#[]⟩, .string ⟨#[]⟩, .bool false, .bool false, .bool false, .bool false] 104)) (w.heap.size + 1) #[.string ⟨#[]⟩, .string ⟨#[]⟩, .string ⟨#[]⟩, .string ⟨#[]⟩, .string ⟨#[]⟩, .bool false, .bool false, .bool false, .bool false] 104) := hide (Eq.mp (by simp) (Blk.new (w.alloc (Obj.cells #[.string ⟨#[]⟩, .string ⟨#[]⟩, .string ⟨#[]⟩, .string ⟨#[]⟩, .string ⟨#[]⟩, .bool false, .bool false, .bool false, .bool false] 104)) #[.string ⟨#[]⟩, .string ⟨#[]⟩, .string ⟨#[]⟩, .string ⟨#[]⟩, .string ⟨#[]⟩, .bool false, .bool false, .bool false, .bool false] 104))
  go_enter Tryz.func60, Tryz.ntmps60
  go_wp2_with fail
  refine (unhide HC0 _).mono ?_
  rintro e1 w1 ⟨rfl, hb⟩
  have kR1 := hide ((unhide kR).later hb)
  have kB1 := hide ((unhide kB).later hb)
  have hb1 : Below w.heap.size w w1 := (((Below.refl _ w).alloc (Nat.le_refl _) _).alloc (by simp) _).trans (hb.mono (by simp; omega))
  clear hb kR kB
  go_wp2_with fail
  refine (unhide HC1 _).mono ?_
  rintro e1 w2 ⟨rfl, hw2⟩
  obtain rfl : w1 = w2 := hw2.symm
  clear hw2
  go_wp2_with fail
  refine (unhide HC2 _).mono ?_
  rintro e1 w3 ⟨rfl, hb⟩
  have kr2 := (unhide kR1).later hb
  have k2 := (unhide kB1).later hb
  have hb2 : Below w.heap.size w w3 := tr2 hb1 hb
  clear hb kR1 kB1 hb1
  have pc0 : w3.cell? ⟨w.heap.size + 1, 0, none⟩ = some (.string ⟨#[]⟩) := k2.cell 0
  have pf0 : w3.frozen? ⟨w.heap.size + 1, 0, none⟩ = false := k2.frozen 0
  have rc0 : w3.cell? ⟨w.heap.size, 0, none⟩ = some (.string ⟨#[]⟩) := kr2.cell 0
  have rf0 : w3.frozen? ⟨w.heap.size, 0, none⟩ = false := kr2.frozen 0
  have pc1 : w3.cell? ⟨w.heap.size + 1, 1, none⟩ = some (.string ⟨#[]⟩) := k2.cell 1
  have pf1 : w3.frozen? ⟨w.heap.size + 1, 1, none⟩ = false := k2.frozen 1
  have rc1 : w3.cell? ⟨w.heap.size, 1, none⟩ = some (.string ⟨#[]⟩) := kr2.cell 1
  have rf1 : w3.frozen? ⟨w.heap.size, 1, none⟩ = false := kr2.frozen 1
  have pc2 : w3.cell? ⟨w.heap.size + 1, 2, none⟩ = some (.string ⟨#[]⟩) := k2.cell 2
  have pf2 : w3.frozen? ⟨w.heap.size + 1, 2, none⟩ = false := k2.frozen 2
  have rc2 : w3.cell? ⟨w.heap.size, 2, none⟩ = some (.string ⟨#[]⟩) := kr2.cell 2
  have rf2 : w3.frozen? ⟨w.heap.size, 2, none⟩ = false := kr2.frozen 2
  have pc3 : w3.cell? ⟨w.heap.size + 1, 3, none⟩ = some (.string ⟨#[]⟩) := k2.cell 3
  have pf3 : w3.frozen? ⟨w.heap.size + 1, 3, none⟩ = false := k2.frozen 3
  have rc3 : w3.cell? ⟨w.heap.size, 3, none⟩ = some (.string ⟨#[]⟩) := kr2.cell 3
  have rf3 : w3.frozen? ⟨w.heap.size, 3, none⟩ = false := kr2.frozen 3
  have pc4 : w3.cell? ⟨w.heap.size + 1, 4, none⟩ = some (.string ⟨#[]⟩) := k2.cell 4
  have pf4 : w3.frozen? ⟨w.heap.size + 1, 4, none⟩ = false := k2.frozen 4
  have rc4 : w3.cell? ⟨w.heap.size, 4, none⟩ = some (.string ⟨#[]⟩) := kr2.cell 4
  have rf4 : w3.frozen? ⟨w.heap.size, 4, none⟩ = false := kr2.frozen 4
  have pc5 : w3.cell? ⟨w.heap.size + 1, 5, none⟩ = some (.bool false) := k2.cell 5
  have pf5 : w3.frozen? ⟨w.heap.size + 1, 5, none⟩ = false := k2.frozen 5
  have rc5 : w3.cell? ⟨w.heap.size, 5, none⟩ = some (.bool false) := kr2.cell 5
  have rf5 : w3.frozen? ⟨w.heap.size, 5, none⟩ = false := kr2.frozen 5
  have pc6 : w3.cell? ⟨w.heap.size + 1, 6, none⟩ = some (.bool false) := k2.cell 6
  have pf6 : w3.frozen? ⟨w.heap.size + 1, 6, none⟩ = false := k2.frozen 6
  have rc6 : w3.cell? ⟨w.heap.size, 6, none⟩ = some (.bool false) := kr2.cell 6
  have rf6 : w3.frozen? ⟨w.heap.size, 6, none⟩ = false := kr2.frozen 6
  have pc7 : w3.cell? ⟨w.heap.size + 1, 7, none⟩ = some (.bool false) := k2.cell 7
  have pf7 : w3.frozen? ⟨w.heap.size + 1, 7, none⟩ = false := k2.frozen 7
  have rc7 : w3.cell? ⟨w.heap.size, 7, none⟩ = some (.bool false) := kr2.cell 7
  have rf7 : w3.frozen? ⟨w.heap.size, 7, none⟩ = false := kr2.frozen 7
  have pc8 : w3.cell? ⟨w.heap.size + 1, 8, none⟩ = some (.bool false) := k2.cell 8
  have pf8 : w3.frozen? ⟨w.heap.size + 1, 8, none⟩ = false := k2.frozen 8
  have rc8 : w3.cell? ⟨w.heap.size, 8, none⟩ = some (.bool false) := kr2.cell 8
  have rf8 : w3.frozen? ⟨w.heap.size, 8, none⟩ = false := kr2.frozen 8
  have KR2 := hide kr2
  clear k2 kr2
  go_wp2_with fail
  refine (unhide HC3 _).mono ?_
  rintro e1 w4 ⟨rfl, hw4⟩
  subst hw4
  go_wp2_with fail
  refine (unhide HC4 _).mono ?_
  rintro e1 w4 ⟨rfl, hw4⟩
  subst hw4
  go_wp2
  have kk := (((((((((((((unhide KR2).away (show w.heap.size ≠ w.heap.size + 1 by omega) (.string LL) (o := 0)).away (show w.heap.size ≠ w.heap.size + 1 by omega) (.bool true) (o := 5)).away (show w.heap.size ≠ w.heap.size + 1 by omega) (.string X1) (o := 2)).set 0 (by simp) (.string LL)).set 1 (by simp) (.string ⟨#[]⟩)).set 2 (by simp) (.string X1)).set 3 (by simp) (.string ⟨#[]⟩)).set 4 (by simp) (.string ⟨#[]⟩)).set 5 (by simp) (.bool true)).set 6 (by simp) (.bool false)).set 7 (by simp) (.bool false)).set 8 (by simp) (.bool false))
  have dd0 := kk.cell 0
  have dd1 := kk.cell 1
  have dd2 := kk.cell 2
  have dd3 := kk.cell 3
  have dd4 := kk.cell 4
  have dd5 := kk.cell 5
  have dd6 := kk.cell 6
  have dd7 := kk.cell 7
  have dd8 := kk.cell 8
  exact bodyPost_ret (v := .agg #[.string LL, .string ⟨#[]⟩, .string X1, .string ⟨#[]⟩, .string ⟨#[]⟩, .bool true, .bool false, .bool false, .bool false]) (by simp [results, Tryz.results60, go_sem, dd0, dd1, dd2, dd3, dd4, dd5, dd6, dd7, dd8]) rfl ⟨rfl, ((((((((((((hb2.setCell (by simp) _).setCell (by simp) _).setCell (by simp) _).setCell (by simp) _).setCell (by simp) _).setCell (by simp) _).setCell (by simp) _).setCell (by simp) _).setCell (by simp) _).setCell (by simp) _).setCell (by simp) _).setCell (by simp) _)⟩

set_option maxHeartbeats 2000000 in
set_option maxRecDepth 20000 in
theorem rsp_1002 (S X0 X1 X2 X3 L1 LL MA QU HO PA P2 Z : ByteArray) (n m q h : Nat) (w : World)
    (z0 : X0.size ≤ 100000)
    (z1 : X1.size ≤ 100000)
    (C0 : ∀ w, Calls Tryz.prog 76 #[.string S] w fun e w' => e = .returned (.string X0) ∧ Below w.heap.size w w')
    (C1 : ∀ w, Calls Tryz.prog 77 #[.string X0] w fun e w' => e = .returned (.int .i64 (n : Int)) ∧ w' = w)
    (a1 : (0 : Int) < (n : Int))
    (a2 : (n : Int) + 1 ≤ (X0.size : Int))
    (a3 : X0.extract 0 n = L1)
    (a4 : X0.extract (n + 1) X0.size = X1)
    (C2 : ∀ w, Calls Tryz.prog 22 #[.string L1] w fun e w' => e = .returned (.string LL) ∧ Below w.heap.size w w')
    (C3 : ∀ w, Calls Tryz.prog 78 #[.string X1, .int .u8 35, .int .u8 35] w fun e w' => e = .returned (.int .i64 (m : Int)) ∧ w' = w)
    (b1 : ¬ m < X1.size)
    (C4 : ∀ w, Calls Tryz.prog 78 #[.string X1, .int .u8 63, .int .u8 63] w fun e w' => e = .returned (.int .i64 (q : Int)) ∧ w' = w)
    (c1 : ¬ q < X1.size)
    (d1 : (1 : Int) < (X1.size : Int))
    (d2 : X1.extract 0 2 = P2)
    (d3 : (P2.toList == [47, 47]) = true)
    (d4 : X1.extract 2 X1.size = Z)
    (C5 : ∀ w, Calls Tryz.prog 78 #[.string Z, .int .u8 47, .int .u8 92] w fun e w' => e = .returned (.int .i64 (h : Int)) ∧ w' = w)
    (d5 : (2 : Int) + (h : Int) ≤ (X1.size : Int))
    (d6 : X1.extract 2 (2 + h) = HO)
    (d7 : X1.extract (2 + h) X1.size = PA) :
    Calls Tryz.prog 60 #[.string S] w fun e w' => e = .returned (.agg #[.string LL, .string HO, .string PA, .string ⟨#[]⟩, .string ⟨#[]⟩, .bool true, .bool true, .bool false, .bool false]) ∧ Below w.heap.size w w' := by
  have HC0 := hide C0
  have HC1 := hide C1
  have HC2 := hide C2
  have HC3 := hide C3
  have HC4 := hide C4
  have HC5 := hide C5
  clear C0 C1 C3 C4 C2 C5
  have a6 : (n : Int) < (X0.size : Int) := by omega
  have a0 : (n : Int) ≤ (X0.size : Int) := by omega
  have a5 : (0 : Int) ≤ (n : Int) := by omega
  have d0 : (2 : Int) ≤ (X1.size : Int) := by omega
  have d8 : (0 : Int) ≤ (2 : Int) + (h : Int) := by omega
  have d9 : (2 : Int) ≤ (2 : Int) + (h : Int) := by omega
  have e1 : ((2 : Int) + (h : Int)).toNat = 2 + h := by omega
  have kR : Hid (Blk ((w.alloc (Obj.cells #[.string ⟨#[]⟩, .string ⟨#[]⟩, .string ⟨#[]⟩, .string ⟨#[]⟩, .string ⟨#[]⟩, .bool false, .bool false, .bool false, .bool false] 104)).alloc (Obj.cells #[.string ⟨#[]⟩, .string ⟨#[]⟩, .string ⟨#[]⟩, .string ⟨#[]⟩, .string ⟨#[]⟩, .bool false, .bool false, .bool false, .bool false] 104)) w.heap.size #[.string ⟨#[]⟩, .string ⟨#[]⟩, .string ⟨#[]⟩, .string ⟨#[]⟩, .string ⟨#[]⟩, .bool false, .bool false, .bool false, .bool false] 104) := hide ((Blk.new w _ _).alloc _)
  have kB : Hid (Blk ((w.alloc (Obj.cells #[.string ⟨#[]⟩, .string ⟨#[]⟩, .string ⟨#[]⟩, .string ⟨#[]⟩, .string ⟨#[]⟩, .bool false, .bool false, .bool false, .bool false] 104)).alloc (Obj.cells #[.string ⟨#[]⟩, .string ⟨#[]⟩, .string ⟨#[]⟩, .string ⟨#[]⟩, .string ⟨#[]⟩, .bool false, .bool false, .bool false, .bool false] 104)) (w.heap.size + 1) #[.string ⟨#[]⟩, .string ⟨#[]⟩, .string ⟨#[]⟩, .string ⟨#[]⟩, .string ⟨#[]⟩, .bool false, .bool false, .bool false, .bool false] 104) := hide (Eq.mp (by simp) (Blk.new (w.alloc (Obj.cells #[.string ⟨#[]⟩, .string ⟨#[]⟩, .string ⟨#[]⟩, .string ⟨#[]⟩, .string ⟨#[]⟩, .bool false, .bool false, .bool false, .bool false] 104)) #[.string ⟨#[]⟩, .string ⟨#[]⟩, .string ⟨#[]⟩, .string ⟨#[]⟩, .string ⟨#[]⟩, .bool false, .bool false, .bool false, .bool false] 104))
  go_enter Tryz.func60, Tryz.ntmps60
  go_wp2_with fail
  refine (unhide HC0 _).mono ?_
  rintro e1 w1 ⟨rfl, hb⟩
  have kR1 := hide ((unhide kR).later hb)
  have kB1 := hide ((unhide kB).later hb)
  have hb1 : Below w.heap.size w w1 := (((Below.refl _ w).alloc (Nat.le_refl _) _).alloc (by simp) _).trans (hb.mono (by simp; omega))
  clear hb kR kB
  go_wp2_with fail
  refine (unhide HC1 _).mono ?_
  rintro e1 w2 ⟨rfl, hw2⟩
  obtain rfl : w1 = w2 := hw2.symm
  clear hw2
  go_wp2_with fail
  refine (unhide HC2 _).mono ?_
  rintro e1 w3 ⟨rfl, hb⟩
  have kr2 := (unhide kR1).later hb
  have k2 := (unhide kB1).later hb
  have hb2 : Below w.heap.size w w3 := tr2 hb1 hb
  clear hb kR1 kB1 hb1
  have pc0 : w3.cell? ⟨w.heap.size + 1, 0, none⟩ = some (.string ⟨#[]⟩) := k2.cell 0
  have pf0 : w3.frozen? ⟨w.heap.size + 1, 0, none⟩ = false := k2.frozen 0
  have rc0 : w3.cell? ⟨w.heap.size, 0, none⟩ = some (.string ⟨#[]⟩) := kr2.cell 0
  have rf0 : w3.frozen? ⟨w.heap.size, 0, none⟩ = false := kr2.frozen 0
  have pc1 : w3.cell? ⟨w.heap.size + 1, 1, none⟩ = some (.string ⟨#[]⟩) := k2.cell 1
  have pf1 : w3.frozen? ⟨w.heap.size + 1, 1, none⟩ = false := k2.frozen 1
  have rc1 : w3.cell? ⟨w.heap.size, 1, none⟩ = some (.string ⟨#[]⟩) := kr2.cell 1
  have rf1 : w3.frozen? ⟨w.heap.size, 1, none⟩ = false := kr2.frozen 1
  have pc2 : w3.cell? ⟨w.heap.size + 1, 2, none⟩ = some (.string ⟨#[]⟩) := k2.cell 2
  have pf2 : w3.frozen? ⟨w.heap.size + 1, 2, none⟩ = false := k2.frozen 2
  have rc2 : w3.cell? ⟨w.heap.size, 2, none⟩ = some (.string ⟨#[]⟩) := kr2.cell 2
  have rf2 : w3.frozen? ⟨w.heap.size, 2, none⟩ = false := kr2.frozen 2
  have pc3 : w3.cell? ⟨w.heap.size + 1, 3, none⟩ = some (.string ⟨#[]⟩) := k2.cell 3
  have pf3 : w3.frozen? ⟨w.heap.size + 1, 3, none⟩ = false := k2.frozen 3
  have rc3 : w3.cell? ⟨w.heap.size, 3, none⟩ = some (.string ⟨#[]⟩) := kr2.cell 3
  have rf3 : w3.frozen? ⟨w.heap.size, 3, none⟩ = false := kr2.frozen 3
  have pc4 : w3.cell? ⟨w.heap.size + 1, 4, none⟩ = some (.string ⟨#[]⟩) := k2.cell 4
  have pf4 : w3.frozen? ⟨w.heap.size + 1, 4, none⟩ = false := k2.frozen 4
  have rc4 : w3.cell? ⟨w.heap.size, 4, none⟩ = some (.string ⟨#[]⟩) := kr2.cell 4
  have rf4 : w3.frozen? ⟨w.heap.size, 4, none⟩ = false := kr2.frozen 4
  have pc5 : w3.cell? ⟨w.heap.size + 1, 5, none⟩ = some (.bool false) := k2.cell 5
  have pf5 : w3.frozen? ⟨w.heap.size + 1, 5, none⟩ = false := k2.frozen 5
  have rc5 : w3.cell? ⟨w.heap.size, 5, none⟩ = some (.bool false) := kr2.cell 5
  have rf5 : w3.frozen? ⟨w.heap.size, 5, none⟩ = false := kr2.frozen 5
  have pc6 : w3.cell? ⟨w.heap.size + 1, 6, none⟩ = some (.bool false) := k2.cell 6
  have pf6 : w3.frozen? ⟨w.heap.size + 1, 6, none⟩ = false := k2.frozen 6
  have rc6 : w3.cell? ⟨w.heap.size, 6, none⟩ = some (.bool false) := kr2.cell 6
  have rf6 : w3.frozen? ⟨w.heap.size, 6, none⟩ = false := kr2.frozen 6
  have pc7 : w3.cell? ⟨w.heap.size + 1, 7, none⟩ = some (.bool false) := k2.cell 7
  have pf7 : w3.frozen? ⟨w.heap.size + 1, 7, none⟩ = false := k2.frozen 7
  have rc7 : w3.cell? ⟨w.heap.size, 7, none⟩ = some (.bool false) := kr2.cell 7
  have rf7 : w3.frozen? ⟨w.heap.size, 7, none⟩ = false := kr2.frozen 7
  have pc8 : w3.cell? ⟨w.heap.size + 1, 8, none⟩ = some (.bool false) := k2.cell 8
  have pf8 : w3.frozen? ⟨w.heap.size + 1, 8, none⟩ = false := k2.frozen 8
  have rc8 : w3.cell? ⟨w.heap.size, 8, none⟩ = some (.bool false) := kr2.cell 8
  have rf8 : w3.frozen? ⟨w.heap.size, 8, none⟩ = false := kr2.frozen 8
  have KR2 := hide kr2
  clear k2 kr2
  go_wp2_with fail
  refine (unhide HC3 _).mono ?_
  rintro e1 w4 ⟨rfl, hw4⟩
  subst hw4
  go_wp2_with fail
  refine (unhide HC4 _).mono ?_
  rintro e1 w4 ⟨rfl, hw4⟩
  subst hw4
  go_wp2_with fail
  refine (unhide HC5 _).mono ?_
  rintro e1 w4 ⟨rfl, hw4⟩
  subst hw4
  go_wp2
  have kk := (((((((((((((((unhide KR2).away (show w.heap.size ≠ w.heap.size + 1 by omega) (.string LL) (o := 0)).away (show w.heap.size ≠ w.heap.size + 1 by omega) (.bool true) (o := 5)).away (show w.heap.size ≠ w.heap.size + 1 by omega) (.bool true) (o := 6)).away (show w.heap.size ≠ w.heap.size + 1 by omega) (.string HO) (o := 1)).away (show w.heap.size ≠ w.heap.size + 1 by omega) (.string PA) (o := 2)).set 0 (by simp) (.string LL)).set 1 (by simp) (.string HO)).set 2 (by simp) (.string PA)).set 3 (by simp) (.string ⟨#[]⟩)).set 4 (by simp) (.string ⟨#[]⟩)).set 5 (by simp) (.bool true)).set 6 (by simp) (.bool true)).set 7 (by simp) (.bool false)).set 8 (by simp) (.bool false))
  have dd0 := kk.cell 0
  have dd1 := kk.cell 1
  have dd2 := kk.cell 2
  have dd3 := kk.cell 3
  have dd4 := kk.cell 4
  have dd5 := kk.cell 5
  have dd6 := kk.cell 6
  have dd7 := kk.cell 7
  have dd8 := kk.cell 8
  exact bodyPost_ret (v := .agg #[.string LL, .string HO, .string PA, .string ⟨#[]⟩, .string ⟨#[]⟩, .bool true, .bool true, .bool false, .bool false]) (by simp [results, Tryz.results60, go_sem, dd0, dd1, dd2, dd3, dd4, dd5, dd6, dd7, dd8]) rfl ⟨rfl, ((((((((((((((hb2.setCell (by simp) _).setCell (by simp) _).setCell (by simp) _).setCell (by simp) _).setCell (by simp) _).setCell (by simp) _).setCell (by simp) _).setCell (by simp) _).setCell (by simp) _).setCell (by simp) _).setCell (by simp) _).setCell (by simp) _).setCell (by simp) _).setCell (by simp) _)⟩

set_option maxHeartbeats 2000000 in
set_option maxRecDepth 20000 in
theorem rsp_1010 (S X0 X1 X2 X3 L1 LL MA QU HO PA P2 Z : ByteArray) (n m q h : Nat) (w : World)
    (z0 : X0.size ≤ 100000)
    (z1 : X1.size ≤ 100000)
    (z3 : X3.size ≤ 100000)
    (C0 : ∀ w, Calls Tryz.prog 76 #[.string S] w fun e w' => e = .returned (.string X0) ∧ Below w.heap.size w w')
    (C1 : ∀ w, Calls Tryz.prog 77 #[.string X0] w fun e w' => e = .returned (.int .i64 (n : Int)) ∧ w' = w)
    (a1 : (0 : Int) < (n : Int))
    (a2 : (n : Int) + 1 ≤ (X0.size : Int))
    (a3 : X0.extract 0 n = L1)
    (a4 : X0.extract (n + 1) X0.size = X1)
    (C2 : ∀ w, Calls Tryz.prog 22 #[.string L1] w fun e w' => e = .returned (.string LL) ∧ Below w.heap.size w w')
    (C3 : ∀ w, Calls Tryz.prog 78 #[.string X1, .int .u8 35, .int .u8 35] w fun e w' => e = .returned (.int .i64 (m : Int)) ∧ w' = w)
    (b1 : ¬ m < X1.size)
    (C4 : ∀ w, Calls Tryz.prog 78 #[.string X1, .int .u8 63, .int .u8 63] w fun e w' => e = .returned (.int .i64 (q : Int)) ∧ w' = w)
    (c1 : (q : Int) + 1 ≤ (X1.size : Int))
    (c2 : X1.extract (q + 1) X1.size = QU)
    (c3 : X1.extract 0 q = X3)
    (d1 : ¬ 1 < X3.size) :
    Calls Tryz.prog 60 #[.string S] w fun e w' => e = .returned (.agg #[.string LL, .string ⟨#[]⟩, .string X3, .string QU, .string ⟨#[]⟩, .bool true, .bool false, .bool true, .bool false]) ∧ Below w.heap.size w w' := by
  have HC0 := hide C0
  have HC1 := hide C1
  have HC2 := hide C2
  have HC3 := hide C3
  have HC4 := hide C4
  clear C0 C1 C3 C4 C2
  have a6 : (n : Int) < (X0.size : Int) := by omega
  have a0 : (n : Int) ≤ (X0.size : Int) := by omega
  have a5 : (0 : Int) ≤ (n : Int) := by omega
  have c0 : (q : Int) < (X1.size : Int) := by omega
  have c5 : (q : Int) ≤ (X1.size : Int) := by omega
  have kR : Hid (Blk ((w.alloc (Obj.cells #[.string ⟨#[]⟩, .string ⟨#[]⟩, .string ⟨#[]⟩, .string ⟨#[]⟩, .string ⟨#[]⟩, .bool false, .bool false, .bool false, .bool false] 104)).alloc (Obj.cells #[.string ⟨#[]⟩, .string ⟨#[]⟩, .string ⟨#[]⟩, .string ⟨#[]⟩, .string ⟨#[]⟩, .bool false, .bool false, .bool false, .bool false] 104)) w.heap.size #[.string ⟨#[]⟩, .string ⟨#[]⟩, .string ⟨#[]⟩, .string ⟨#[]⟩, .string ⟨#[]⟩, .bool false, .bool false, .bool false, .bool false] 104) := hide ((Blk.new w _ _).alloc _)
  have kB : Hid (Blk ((w.alloc (Obj.cells #[.string ⟨#[]⟩, .string ⟨#[]⟩, .string ⟨#[]⟩, .string ⟨#[]⟩, .string ⟨#[]⟩, .bool false, .bool false, .bool false, .bool false] 104)).alloc (Obj.cells #[.string ⟨#[]⟩, .string ⟨#[]⟩, .string ⟨#[]⟩, .string ⟨#[]⟩, .string ⟨#[]⟩, .bool false, .bool false, .bool false, .bool false] 104)) (w.heap.size + 1) #[.string ⟨#[]⟩, .string ⟨#[]⟩, .string ⟨#[]⟩, .string ⟨#[]⟩, .string ⟨#[]⟩, .bool false, .bool false, .bool false, .bool false] 104) := hide (Eq.mp (by simp) (Blk.new (w.alloc (Obj.cells #[.string ⟨#[]⟩, .string ⟨#[]⟩, .string ⟨#[]⟩, .string ⟨#[]⟩, .string ⟨#[]⟩, .bool false, .bool false, .bool false, .bool false] 104)) #[.string ⟨#[]⟩, .string ⟨#[]⟩, .string ⟨#[]⟩, .string ⟨#[]⟩, .string ⟨#[]⟩, .bool false, .bool false, .bool false, .bool false] 104))
  go_enter Tryz.func60, Tryz.ntmps60
  go_wp2_with fail
  refine (unhide HC0 _).mono ?_
  rintro e1 w1 ⟨rfl, hb⟩
  have kR1 := hide ((unhide kR).later hb)
  have kB1 := hide ((unhide kB).later hb)
  have hb1 : Below w.heap.size w w1 := (((Below.refl _ w).alloc (Nat.le_refl _) _).alloc (by simp) _).trans (hb.mono (by simp; omega))
  clear hb kR kB
  go_wp2_with fail
  refine (unhide HC1 _).mono ?_
  rintro e1 w2 ⟨rfl, hw2⟩
  obtain rfl : w1 = w2 := hw2.symm
  clear hw2
  go_wp2_with fail
  refine (unhide HC2 _).mono ?_
  rintro e1 w3 ⟨rfl, hb⟩
  have kr2 := (unhide kR1).later hb
  have k2 := (unhide kB1).later hb
  have hb2 : Below w.heap.size w w3 := tr2 hb1 hb
  clear hb kR1 kB1 hb1
  have pc0 : w3.cell? ⟨w.heap.size + 1, 0, none⟩ = some (.string ⟨#[]⟩) := k2.cell 0
  have pf0 : w3.frozen? ⟨w.heap.size + 1, 0, none⟩ = false := k2.frozen 0
  have rc0 : w3.cell? ⟨w.heap.size, 0, none⟩ = some (.string ⟨#[]⟩) := kr2.cell 0
  have rf0 : w3.frozen? ⟨w.heap.size, 0, none⟩ = false := kr2.frozen 0
  have pc1 : w3.cell? ⟨w.heap.size + 1, 1, none⟩ = some (.string ⟨#[]⟩) := k2.cell 1
  have pf1 : w3.frozen? ⟨w.heap.size + 1, 1, none⟩ = false := k2.frozen 1
  have rc1 : w3.cell? ⟨w.heap.size, 1, none⟩ = some (.string ⟨#[]⟩) := kr2.cell 1
  have rf1 : w3.frozen? ⟨w.heap.size, 1, none⟩ = false := kr2.frozen 1
  have pc2 : w3.cell? ⟨w.heap.size + 1, 2, none⟩ = some (.string ⟨#[]⟩) := k2.cell 2
  have pf2 : w3.frozen? ⟨w.heap.size + 1, 2, none⟩ = false := k2.frozen 2
  have rc2 : w3.cell? ⟨w.heap.size, 2, none⟩ = some (.string ⟨#[]⟩) := kr2.cell 2
  have rf2 : w3.frozen? ⟨w.heap.size, 2, none⟩ = false := kr2.frozen 2
  have pc3 : w3.cell? ⟨w.heap.size + 1, 3, none⟩ = some (.string ⟨#[]⟩) := k2.cell 3
  have pf3 : w3.frozen? ⟨w.heap.size + 1, 3, none⟩ = false := k2.frozen 3
  have rc3 : w3.cell? ⟨w.heap.size, 3, none⟩ = some (.string ⟨#[]⟩) := kr2.cell 3
  have rf3 : w3.frozen? ⟨w.heap.size, 3, none⟩ = false := kr2.frozen 3
  have pc4 : w3.cell? ⟨w.heap.size + 1, 4, none⟩ = some (.string ⟨#[]⟩) := k2.cell 4
  have pf4 : w3.frozen? ⟨w.heap.size + 1, 4, none⟩ = false := k2.frozen 4
  have rc4 : w3.cell? ⟨w.heap.size, 4, none⟩ = some (.string ⟨#[]⟩) := kr2.cell 4
  have rf4 : w3.frozen? ⟨w.heap.size, 4, none⟩ = false := kr2.frozen 4
  have pc5 : w3.cell? ⟨w.heap.size + 1, 5, none⟩ = some (.bool false) := k2.cell 5
  have pf5 : w3.frozen? ⟨w.heap.size + 1, 5, none⟩ = false := k2.frozen 5
  have rc5 : w3.cell? ⟨w.heap.size, 5, none⟩ = some (.bool false) := kr2.cell 5
  have rf5 : w3.frozen? ⟨w.heap.size, 5, none⟩ = false := kr2.frozen 5
  have pc6 : w3.cell? ⟨w.heap.size + 1, 6, none⟩ = some (.bool false) := k2.cell 6
  have pf6 : w3.frozen? ⟨w.heap.size + 1, 6, none⟩ = false := k2.frozen 6
  have rc6 : w3.cell? ⟨w.heap.size, 6, none⟩ = some (.bool false) := kr2.cell 6
  have rf6 : w3.frozen? ⟨w.heap.size, 6, none⟩ = false := kr2.frozen 6
  have pc7 : w3.cell? ⟨w.heap.size + 1, 7, none⟩ = some (.bool false) := k2.cell 7
  have pf7 : w3.frozen? ⟨w.heap.size + 1, 7, none⟩ = false := k2.frozen 7
  have rc7 : w3.cell? ⟨w.heap.size, 7, none⟩ = some (.bool false) := kr2.cell 7
  have rf7 : w3.frozen? ⟨w.heap.size, 7, none⟩ = false := kr2.frozen 7
  have pc8 : w3.cell? ⟨w.heap.size + 1, 8, none⟩ = some (.bool false) := k2.cell 8
  have pf8 : w3.frozen? ⟨w.heap.size + 1, 8, none⟩ = false := k2.frozen 8
  have rc8 : w3.cell? ⟨w.heap.size, 8, none⟩ = some (.bool false) := kr2.cell 8
  have rf8 : w3.frozen? ⟨w.heap.size, 8, none⟩ = false := kr2.frozen 8
  have KR2 := hide kr2
  clear k2 kr2
  go_wp2_with fail
  refine (unhide HC3 _).mono ?_
  rintro e1 w4 ⟨rfl, hw4⟩
  subst hw4
  go_wp2_with fail
  refine (unhide HC4 _).mono ?_
  rintro e1 w4 ⟨rfl, hw4⟩
  subst hw4
  go_wp2
  have kk := (((((((((((((((unhide KR2).away (show w.heap.size ≠ w.heap.size + 1 by omega) (.string LL) (o := 0)).away (show w.heap.size ≠ w.heap.size + 1 by omega) (.bool true) (o := 5)).away (show w.heap.size ≠ w.heap.size + 1 by omega) (.bool true) (o := 7)).away (show w.heap.size ≠ w.heap.size + 1 by omega) (.string QU) (o := 3)).away (show w.heap.size ≠ w.heap.size + 1 by omega) (.string X3) (o := 2)).set 0 (by simp) (.string LL)).set 1 (by simp) (.string ⟨#[]⟩)).set 2 (by simp) (.string X3)).set 3 (by simp) (.string QU)).set 4 (by simp) (.string ⟨#[]⟩)).set 5 (by simp) (.bool true)).set 6 (by simp) (.bool false)).set 7 (by simp) (.bool true)).set 8 (by simp) (.bool false))
  have dd0 := kk.cell 0
  have dd1 := kk.cell 1
  have dd2 := kk.cell 2
  have dd3 := kk.cell 3
  have dd4 := kk.cell 4
  have dd5 := kk.cell 5
  have dd6 := kk.cell 6
  have dd7 := kk.cell 7
  have dd8 := kk.cell 8
  exact bodyPost_ret (v := .agg #[.string LL, .string ⟨#[]⟩, .string X3, .string QU, .string ⟨#[]⟩, .bool true, .bool false, .bool true, .bool false]) (by simp [results, Tryz.results60, go_sem, dd0, dd1, dd2, dd3, dd4, dd5, dd6, dd7, dd8]) rfl ⟨rfl, ((((((((((((((hb2.setCell (by simp) _).setCell (by simp) _).setCell (by simp) _).setCell (by simp) _).setCell (by simp) _).setCell (by simp) _).setCell (by simp) _).setCell (by simp) _).setCell (by simp) _).setCell (by simp) _).setCell (by simp) _).setCell (by simp) _).setCell (by simp) _).setCell (by simp) _)⟩

set_option maxHeartbeats 2000000 in
set_option maxRecDepth 20000 in
theorem rsp_1011 (S X0 X1 X2 X3 L1 LL MA QU HO PA P2 Z : ByteArray) (n m q h : Nat) (w : World)
    (z0 : X0.size ≤ 100000)
    (z1 : X1.size ≤ 100000)
    (z3 : X3.size ≤ 100000)
    (C0 : ∀ w, Calls Tryz.prog 76 #[.string S] w fun e w' => e = .returned (.string X0) ∧ Below w.heap.size w w')
    (C1 : ∀ w, Calls Tryz.prog 77 #[.string X0] w fun e w' => e = .returned (.int .i64 (n : Int)) ∧ w' = w)
    (a1 : (0 : Int) < (n : Int))
    (a2 : (n : Int) + 1 ≤ (X0.size : Int))
    (a3 : X0.extract 0 n = L1)
    (a4 : X0.extract (n + 1) X0.size = X1)
    (C2 : ∀ w, Calls Tryz.prog 22 #[.string L1] w fun e w' => e = .returned (.string LL) ∧ Below w.heap.size w w')
    (C3 : ∀ w, Calls Tryz.prog 78 #[.string X1, .int .u8 35, .int .u8 35] w fun e w' => e = .returned (.int .i64 (m : Int)) ∧ w' = w)
    (b1 : ¬ m < X1.size)
    (C4 : ∀ w, Calls Tryz.prog 78 #[.string X1, .int .u8 63, .int .u8 63] w fun e w' => e = .returned (.int .i64 (q : Int)) ∧ w' = w)
    (c1 : (q : Int) + 1 ≤ (X1.size : Int))
    (c2 : X1.extract (q + 1) X1.size = QU)
    (c3 : X1.extract 0 q = X3)
    (d1 : (1 : Int) < (X3.size : Int))
    (d2 : X3.extract 0 2 = P2)
    (d3 : (P2.toList == [47, 47]) = false) :
    Calls Tryz.prog 60 #[.string S] w fun e w' => e = .returned (.agg #[.string LL, .string ⟨#[]⟩, .string X3, .string QU, .string ⟨#[]⟩, .bool true, .bool false, .bool true, .bool false]) ∧ Below w.heap.size w w' := by
  have HC0 := hide C0
  have HC1 := hide C1
  have HC2 := hide C2
  have HC3 := hide C3
  have HC4 := hide C4
  clear C0 C1 C3 C4 C2
  have a6 : (n : Int) < (X0.size : Int) := by omega
  have a0 : (n : Int) ≤ (X0.size : Int) := by omega
  have a5 : (0 : Int) ≤ (n : Int) := by omega
  have c0 : (q : Int) < (X1.size : Int) := by omega
  have c5 : (q : Int) ≤ (X1.size : Int) := by omega
  have d0 : (2 : Int) ≤ (X3.size : Int) := by omega
  have kR : Hid (Blk ((w.alloc (Obj.cells #[.string ⟨#[]⟩, .string ⟨#[]⟩, .string ⟨#[]⟩, .string ⟨#[]⟩, .string ⟨#[]⟩, .bool false, .bool false, .bool false, .bool false] 104)).alloc (Obj.cells #[.string ⟨#[]⟩, .string ⟨#[]⟩, .string ⟨#[]⟩, .string ⟨#[]⟩, .string ⟨#[]⟩, .bool false, .bool false, .bool false, .bool false] 104)) w.heap.size #[.string ⟨#[]⟩, .string ⟨#[]⟩, .string ⟨#[]⟩, .string ⟨#[]⟩, .string ⟨#[]⟩, .bool false, .bool false, .bool false, .bool false] 104) := hide ((Blk.new w _ _).alloc _)
  have kB : Hid (Blk ((w.alloc (Obj.cells #[.string ⟨#[]⟩, .string ⟨#[]⟩, .string ⟨#[]⟩, .string ⟨#[]⟩, .string ⟨#[]⟩, .bool false, .bool false, .bool false, .bool false] 104)).alloc (Obj.cells #[.string ⟨#[]⟩, .string ⟨#[]⟩, .string ⟨#[]⟩, .string ⟨#[]⟩, .string ⟨#[]⟩, .bool false, .bool false, .bool false, .bool false] 104)) (w.heap.size + 1) #[.string ⟨#[]⟩, .string ⟨#[]⟩, .string ⟨#[]⟩, .string ⟨#[]⟩, .string ⟨#[]⟩, .bool false, .bool false, .bool false, .bool false] 104) := hide (Eq.mp (by simp) (Blk.new (w.alloc (Obj.cells #[.string ⟨#[]⟩, .string ⟨#[]⟩, .string ⟨#[]⟩, .string ⟨#[]⟩, .string ⟨#[]⟩, .bool false, .bool false, .bool false, .bool false] 104)) #[.string ⟨#[]⟩, .string ⟨#[]⟩, .string ⟨#[]⟩, .string ⟨#[]⟩, .string ⟨#[]⟩, .bool false, .bool false, .bool false, .bool false] 104))
  go_enter Tryz.func60, Tryz.ntmps60
  go_wp2_with fail
  refine (unhide HC0 _).mono ?_
  rintro e1 w1 ⟨rfl, hb⟩
  have kR1 := hide ((unhide kR).later hb)
  have kB1 := hide ((unhide kB).later hb)
  have hb1 : Below w.heap.size w w1 := (((Below.refl _ w).alloc (Nat.le_refl _) _).alloc (by simp) _).trans (hb.mono (by simp; omega))
  clear hb kR kB
  go_wp2_with fail
  refine (unhide HC1 _).mono ?_
  rintro e1 w2 ⟨rfl, hw2⟩
  obtain rfl : w1 = w2 := hw2.symm
  clear hw2
  go_wp2_with fail
  refine (unhide HC2 _).mono ?_
  rintro e1 w3 ⟨rfl, hb⟩
  have kr2 := (unhide kR1).later hb
  have k2 := (unhide kB1).later hb
  have hb2 : Below w.heap.size w w3 := tr2 hb1 hb
  clear hb kR1 kB1 hb1
  have pc0 : w3.cell? ⟨w.heap.size + 1, 0, none⟩ = some (.string ⟨#[]⟩) := k2.cell 0
  have pf0 : w3.frozen? ⟨w.heap.size + 1, 0, none⟩ = false := k2.frozen 0
  have rc0 : w3.cell? ⟨w.heap.size, 0, none⟩ = some (.string ⟨#[]⟩) := kr2.cell 0
  have rf0 : w3.frozen? ⟨w.heap.size, 0, none⟩ = false := kr2.frozen 0
  have pc1 : w3.cell? ⟨w.heap.size + 1, 1, none⟩ = some (.string ⟨#[]⟩) := k2.cell 1
  have pf1 : w3.frozen? ⟨w.heap.size + 1, 1, none⟩ = false := k2.frozen 1
  have rc1 : w3.cell? ⟨w.heap.size, 1, none⟩ = some (.string ⟨#[]⟩) := kr2.cell 1
  have rf1 : w3.frozen? ⟨w.heap.size, 1, none⟩ = false := kr2.frozen 1
  have pc2 : w3.cell? ⟨w.heap.size + 1, 2, none⟩ = some (.string ⟨#[]⟩) := k2.cell 2
  have pf2 : w3.frozen? ⟨w.heap.size + 1, 2, none⟩ = false := k2.frozen 2
  have rc2 : w3.cell? ⟨w.heap.size, 2, none⟩ = some (.string ⟨#[]⟩) := kr2.cell 2
  have rf2 : w3.frozen? ⟨w.heap.size, 2, none⟩ = false := kr2.frozen 2
  have pc3 : w3.cell? ⟨w.heap.size + 1, 3, none⟩ = some (.string ⟨#[]⟩) := k2.cell 3
  have pf3 : w3.frozen? ⟨w.heap.size + 1, 3, none⟩ = false := k2.frozen 3
  have rc3 : w3.cell? ⟨w.heap.size, 3, none⟩ = some (.string ⟨#[]⟩) := kr2.cell 3
  have rf3 : w3.frozen? ⟨w.heap.size, 3, none⟩ = false := kr2.frozen 3
  have pc4 : w3.cell? ⟨w.heap.size + 1, 4, none⟩ = some (.string ⟨#[]⟩) := k2.cell 4
  have pf4 : w3.frozen? ⟨w.heap.size + 1, 4, none⟩ = false := k2.frozen 4
  have rc4 : w3.cell? ⟨w.heap.size, 4, none⟩ = some (.string ⟨#[]⟩) := kr2.cell 4
  have rf4 : w3.frozen? ⟨w.heap.size, 4, none⟩ = false := kr2.frozen 4
  have pc5 : w3.cell? ⟨w.heap.size + 1, 5, none⟩ = some (.bool false) := k2.cell 5
  have pf5 : w3.frozen? ⟨w.heap.size + 1, 5, none⟩ = false := k2.frozen 5
  have rc5 : w3.cell? ⟨w.heap.size, 5, none⟩ = some (.bool false) := kr2.cell 5
  have rf5 : w3.frozen? ⟨w.heap.size, 5, none⟩ = false := kr2.frozen 5
  have pc6 : w3.cell? ⟨w.heap.size + 1, 6, none⟩ = some (.bool false) := k2.cell 6
  have pf6 : w3.frozen? ⟨w.heap.size + 1, 6, none⟩ = false := k2.frozen 6
  have rc6 : w3.cell? ⟨w.heap.size, 6, none⟩ = some (.bool false) := kr2.cell 6
  have rf6 : w3.frozen? ⟨w.heap.size, 6, none⟩ = false := kr2.frozen 6
  have pc7 : w3.cell? ⟨w.heap.size + 1, 7, none⟩ = some (.bool false) := k2.cell 7
  have pf7 : w3.frozen? ⟨w.heap.size + 1, 7, none⟩ = false := k2.frozen 7
  have rc7 : w3.cell? ⟨w.heap.size, 7, none⟩ = some (.bool false) := kr2.cell 7
  have rf7 : w3.frozen? ⟨w.heap.size, 7, none⟩ = false := kr2.frozen 7
  have pc8 : w3.cell? ⟨w.heap.size + 1, 8, none⟩ = some (.bool false) := k2.cell 8
  have pf8 : w3.frozen? ⟨w.heap.size + 1, 8, none⟩ = false := k2.frozen 8
  have rc8 : w3.cell? ⟨w.heap.size, 8, none⟩ = some (.bool false) := kr2.cell 8
  have rf8 : w3.frozen? ⟨w.heap.size, 8, none⟩ = false := kr2.frozen 8
  have KR2 := hide kr2
  clear k2 kr2
  go_wp2_with fail
  refine (unhide HC3 _).mono ?_
  rintro e1 w4 ⟨rfl, hw4⟩
  subst hw4
  go_wp2_with fail
  refine (unhide HC4 _).mono ?_
  rintro e1 w4 ⟨rfl, hw4⟩
  subst hw4
  go_wp2
  have kk := (((((((((((((((unhide KR2).away (show w.heap.size ≠ w.heap.size + 1 by omega) (.string LL) (o := 0)).away (show w.heap.size ≠ w.heap.size + 1 by omega) (.bool true) (o := 5)).away (show w.heap.size ≠ w.heap.size + 1 by omega) (.bool true) (o := 7)).away (show w.heap.size ≠ w.heap.size + 1 by omega) (.string QU) (o := 3)).away (show w.heap.size ≠ w.heap.size + 1 by omega) (.string X3) (o := 2)).set 0 (by simp) (.string LL)).set 1 (by simp) (.string ⟨#[]⟩)).set 2 (by simp) (.string X3)).set 3 (by simp) (.string QU)).set 4 (by simp) (.string ⟨#[]⟩)).set 5 (by simp) (.bool true)).set 6 (by simp) (.bool false)).set 7 (by simp) (.bool true)).set 8 (by simp) (.bool false))
  have dd0 := kk.cell 0
  have dd1 := kk.cell 1
  have dd2 := kk.cell 2
  have dd3 := kk.cell 3
  have dd4 := kk.cell 4
  have dd5 := kk.cell 5
  have dd6 := kk.cell 6
  have dd7 := kk.cell 7
  have dd8 := kk.cell 8
  exact bodyPost_ret (v := .agg #[.string LL, .string ⟨#[]⟩, .string X3, .string QU, .string ⟨#[]⟩, .bool true, .bool false, .bool true, .bool false]) (by simp [results, Tryz.results60, go_sem, dd0, dd1, dd2, dd3, dd4, dd5, dd6, dd7, dd8]) rfl ⟨rfl, ((((((((((((((hb2.setCell (by simp) _).setCell (by simp) _).setCell (by simp) _).setCell (by simp) _).setCell (by simp) _).setCell (by simp) _).setCell (by simp) _).setCell (by simp) _).setCell (by simp) _).setCell (by simp) _).setCell (by simp) _).setCell (by simp) _).setCell (by simp) _).setCell (by simp) _)⟩

set_option maxHeartbeats 2000000 in
set_option maxRecDepth 20000 in
theorem rsp_1012 (S X0 X1 X2 X3 L1 LL MA QU HO PA P2 Z : ByteArray) (n m q h : Nat) (w : World)
    (z0 : X0.size ≤ 100000)
    (z1 : X1.size ≤ 100000)
    (z3 : X3.size ≤ 100000)
    (C0 : ∀ w, Calls Tryz.prog 76 #[.string S] w fun e w' => e = .returned (.string X0) ∧ Below w.heap.size w w')
    (C1 : ∀ w, Calls Tryz.prog 77 #[.string X0] w fun e w' => e = .returned (.int .i64 (n : Int)) ∧ w' = w)
    (a1 : (0 : Int) < (n : Int))
    (a2 : (n : Int) + 1 ≤ (X0.size : Int))
    (a3 : X0.extract 0 n = L1)
    (a4 : X0.extract (n + 1) X0.size = X1)
    (C2 : ∀ w, Calls Tryz.prog 22 #[.string L1] w fun e w' => e = .returned (.string LL) ∧ Below w.heap.size w w')
    (C3 : ∀ w, Calls Tryz.prog 78 #[.string X1, .int .u8 35, .int .u8 35] w fun e w' => e = .returned (.int .i64 (m : Int)) ∧ w' = w)
    (b1 : ¬ m < X1.size)
    (C4 : ∀ w, Calls Tryz.prog 78 #[.string X1, .int .u8 63, .int .u8 63] w fun e w' => e = .returned (.int .i64 (q : Int)) ∧ w' = w)
    (c1 : (q : Int) + 1 ≤ (X1.size : Int))
    (c2 : X1.extract (q + 1) X1.size = QU)
    (c3 : X1.extract 0 q = X3)
    (d1 : (1 : Int) < (X3.size : Int))
    (d2 : X3.extract 0 2 = P2)
    (d3 : (P2.toList == [47, 47]) = true)
    (d4 : X3.extract 2 X3.size = Z)
    (C5 : ∀ w, Calls Tryz.prog 78 #[.string Z, .int .u8 47, .int .u8 92] w fun e w' => e = .returned (.int .i64 (h : Int)) ∧ w' = w)
    (d5 : (2 : Int) + (h : Int) ≤ (X3.size : Int))
    (d6 : X3.extract 2 (2 + h) = HO)
    (d7 : X3.extract (2 + h) X3.size = PA) :
    Calls Tryz.prog 60 #[.string S] w fun e w' => e = .returned (.agg #[.string LL, .string HO, .string PA, .string QU, .string ⟨#[]⟩, .bool true, .bool true, .bool true, .bool false]) ∧ Below w.heap.size w w' := by
  have HC0 := hide C0
  have HC1 := hide C1
  have HC2 := hide C2
  have HC3 := hide C3
  have HC4 := hide C4
  have HC5 := hide C5
  clear C0 C1 C3 C4 C2 C5
  have a6 : (n : Int) < (X0.size : Int) := by omega
  have a0 : (n : Int) ≤ (X0.size : Int) := by omega
  have a5 : (0 : Int) ≤ (n : Int) := by omega
  have c0 : (q : Int) < (X1.size : Int) := by omega
  have c5 : (q : Int) ≤ (X1.size : Int) := by omega
  have d0 : (2 : Int) ≤ (X3.size : Int) := by omega
  have d8 : (0 : Int) ≤ (2 : Int) + (h : Int) := by omega
  have d9 : (2 : Int) ≤ (2 : Int) + (h : Int) := by omega
  have e1 : ((2 : Int) + (h : Int)).toNat = 2 + h := by omega
  have kR : Hid (Blk ((w.alloc (Obj.cells #[.string ⟨#[]⟩, .string ⟨#[]⟩, .string ⟨#[]⟩, .string ⟨#[]⟩, .string ⟨#[]⟩, .bool false, .bool false, .bool false, .bool false] 104)).alloc (Obj.cells #[.string ⟨#[]⟩, .string ⟨#[]⟩, .string ⟨#[]⟩, .string ⟨#[]⟩, .string ⟨#[]⟩, .bool false, .bool false, .bool false, .bool false] 104)) w.heap.size #[.string ⟨#[]⟩, .string ⟨#[]⟩, .string ⟨#[]⟩, .string ⟨#[]⟩, .string ⟨#[]⟩, .bool false, .bool false, .bool false, .bool false] 104) := hide ((Blk.new w _ _).alloc _)
  have kB : Hid (Blk ((w.alloc (Obj.cells #[.string ⟨#[]⟩, .string ⟨#[]⟩, .string ⟨#[]⟩, .string ⟨#[]⟩, .string ⟨#[]⟩, .bool false, .bool false, .bool false, .bool false] 104)).alloc (Obj.cells #[.string ⟨#[]⟩, .string ⟨#[]⟩, .string ⟨#[]⟩, .string ⟨#[]⟩, .string ⟨#[]⟩, .bool false, .bool false, .bool false, .bool false] 104)) (w.heap.size + 1) #[.string ⟨#[]⟩, .string ⟨#[]⟩, .string ⟨#[]⟩, .string ⟨#[]⟩, .string ⟨#[]⟩, .bool false, .bool false, .bool false, .bool false] 104) := hide (Eq.mp (by simp) (Blk.new (w.alloc (Obj.cells #[.string ⟨#[]⟩, .string ⟨#[]⟩, .string ⟨#[]⟩, .string ⟨#[]⟩, .string ⟨#[]⟩, .bool false, .bool false, .bool false, .bool false] 104)) #[.string ⟨#[]⟩, .string ⟨#[]⟩, .string ⟨#[]⟩, .string ⟨#[]⟩, .string ⟨#[]⟩, .bool false, .bool false, .bool false, .bool false] 104))
  go_enter Tryz.func60, Tryz.ntmps60
  go_wp2_with fail
  refine (unhide HC0 _).mono ?_
  rintro e1 w1 ⟨rfl, hb⟩
  have kR1 := hide ((unhide kR).later hb)
  have kB1 := hide ((unhide kB).later hb)
  have hb1 : Below w.heap.size w w1 := (((Below.refl _ w).alloc (Nat.le_refl _) _).alloc (by simp) _).trans (hb.mono (by simp; omega))
  clear hb kR kB
  go_wp2_with fail
  refine (unhide HC1 _).mono ?_
  rintro e1 w2 ⟨rfl, hw2⟩
  obtain rfl : w1 = w2 := hw2.symm
  clear hw2
  go_wp2_with fail
  refine (unhide HC2 _).mono ?_
  rintro e1 w3 ⟨rfl, hb⟩
  have kr2 := (unhide kR1).later hb
  have k2 := (unhide kB1).later hb
  have hb2 : Below w.heap.size w w3 := tr2 hb1 hb
  clear hb kR1 kB1 hb1
  have pc0 : w3.cell? ⟨w.heap.size + 1, 0, none⟩ = some (.string ⟨#[]⟩) := k2.cell 0
  have pf0 : w3.frozen? ⟨w.heap.size + 1, 0, none⟩ = false := k2.frozen 0
  have rc0 : w3.cell? ⟨w.heap.size, 0, none⟩ = some (.string ⟨#[]⟩) := kr2.cell 0
  have rf0 : w3.frozen? ⟨w.heap.size, 0, none⟩ = false := kr2.frozen 0
  have pc1 : w3.cell? ⟨w.heap.size + 1, 1, none⟩ = some (.string ⟨#[]⟩) := k2.cell 1
  have pf1 : w3.frozen? ⟨w.heap.size + 1, 1, none⟩ = false := k2.frozen 1
  have rc1 : w3.cell? ⟨w.heap.size, 1, none⟩ = some (.string ⟨#[]⟩) := kr2.cell 1
  have rf1 : w3.frozen? ⟨w.heap.size, 1, none⟩ = false := kr2.frozen 1
  have pc2 : w3.cell? ⟨w.heap.size + 1, 2, none⟩ = some (.string ⟨#[]⟩) := k2.cell 2
  have pf2 : w3.frozen? ⟨w.heap.size + 1, 2, none⟩ = false := k2.frozen 2
  have rc2 : w3.cell? ⟨w.heap.size, 2, none⟩ = some (.string ⟨#[]⟩) := kr2.cell 2
  have rf2 : w3.frozen? ⟨w.heap.size, 2, none⟩ = false := kr2.frozen 2
  have pc3 : w3.cell? ⟨w.heap.size + 1, 3, none⟩ = some (.string ⟨#[]⟩) := k2.cell 3
  have pf3 : w3.frozen? ⟨w.heap.size + 1, 3, none⟩ = false := k2.frozen 3
  have rc3 : w3.cell? ⟨w.heap.size, 3, none⟩ = some (.string ⟨#[]⟩) := kr2.cell 3
  have rf3 : w3.frozen? ⟨w.heap.size, 3, none⟩ = false := kr2.frozen 3
  have pc4 : w3.cell? ⟨w.heap.size + 1, 4, none⟩ = some (.string ⟨#[]⟩) := k2.cell 4
  have pf4 : w3.frozen? ⟨w.heap.size + 1, 4, none⟩ = false := k2.frozen 4
  have rc4 : w3.cell? ⟨w.heap.size, 4, none⟩ = some (.string ⟨#[]⟩) := kr2.cell 4
  have rf4 : w3.frozen? ⟨w.heap.size, 4, none⟩ = false := kr2.frozen 4
  have pc5 : w3.cell? ⟨w.heap.size + 1, 5, none⟩ = some (.bool false) := k2.cell 5
  have pf5 : w3.frozen? ⟨w.heap.size + 1, 5, none⟩ = false := k2.frozen 5
  have rc5 : w3.cell? ⟨w.heap.size, 5, none⟩ = some (.bool false) := kr2.cell 5
  have rf5 : w3.frozen? ⟨w.heap.size, 5, none⟩ = false := kr2.frozen 5
  have pc6 : w3.cell? ⟨w.heap.size + 1, 6, none⟩ = some (.bool false) := k2.cell 6
  have pf6 : w3.frozen? ⟨w.heap.size + 1, 6, none⟩ = false := k2.frozen 6
  have rc6 : w3.cell? ⟨w.heap.size, 6, none⟩ = some (.bool false) := kr2.cell 6
  have rf6 : w3.frozen? ⟨w.heap.size, 6, none⟩ = false := kr2.frozen 6
  have pc7 : w3.cell? ⟨w.heap.size + 1, 7, none⟩ = some (.bool false) := k2.cell 7
  have pf7 : w3.frozen? ⟨w.heap.size + 1, 7, none⟩ = false := k2.frozen 7
  have rc7 : w3.cell? ⟨w.heap.size, 7, none⟩ = some (.bool false) := kr2.cell 7
  have rf7 : w3.frozen? ⟨w.heap.size, 7, none⟩ = false := kr2.frozen 7
  have pc8 : w3.cell? ⟨w.heap.size + 1, 8, none⟩ = some (.bool false) := k2.cell 8
  have pf8 : w3.frozen? ⟨w.heap.size + 1, 8, none⟩ = false := k2.frozen 8
  have rc8 : w3.cell? ⟨w.heap.size, 8, none⟩ = some (.bool false) := kr2.cell 8
  have rf8 : w3.frozen? ⟨w.heap.size, 8, none⟩ = false := kr2.frozen 8
  have KR2 := hide kr2
  clear k2 kr2
  go_wp2_with fail
  refine (unhide HC3 _).mono ?_
  rintro e1 w4 ⟨rfl, hw4⟩
  subst hw4
  go_wp2_with fail
  refine (unhide HC4 _).mono ?_
  rintro e1 w4 ⟨rfl, hw4⟩
  subst hw4
  go_wp2_with fail
  refine (unhide HC5 _).mono ?_
  rintro e1 w4 ⟨rfl, hw4⟩
  subst hw4
  go_wp2
  have kk := (((((((((((((((((unhide KR2).away (show w.heap.size ≠ w.heap.size + 1 by omega) (.string LL) (o := 0)).away (show w.heap.size ≠ w.heap.size + 1 by omega) (.bool true) (o := 5)).away (show w.heap.size ≠ w.heap.size + 1 by omega) (.bool true) (o := 7)).away (show w.heap.size ≠ w.heap.size + 1 by omega) (.string QU) (o := 3)).away (show w.heap.size ≠ w.heap.size + 1 by omega) (.bool true) (o := 6)).away (show w.heap.size ≠ w.heap.size + 1 by omega) (.string HO) (o := 1)).away (show w.heap.size ≠ w.heap.size + 1 by omega) (.string PA) (o := 2)).set 0 (by simp) (.string LL)).set 1 (by simp) (.string HO)).set 2 (by simp) (.string PA)).set 3 (by simp) (.string QU)).set 4 (by simp) (.string ⟨#[]⟩)).set 5 (by simp) (.bool true)).set 6 (by simp) (.bool true)).set 7 (by simp) (.bool true)).set 8 (by simp) (.bool false))
  have dd0 := kk.cell 0
  have dd1 := kk.cell 1
  have dd2 := kk.cell 2
  have dd3 := kk.cell 3
  have dd4 := kk.cell 4
  have dd5 := kk.cell 5
  have dd6 := kk.cell 6
  have dd7 := kk.cell 7
  have dd8 := kk.cell 8
  exact bodyPost_ret (v := .agg #[.string LL, .string HO, .string PA, .string QU, .string ⟨#[]⟩, .bool true, .bool true, .bool true, .bool false]) (by simp [results, Tryz.results60, go_sem, dd0, dd1, dd2, dd3, dd4, dd5, dd6, dd7, dd8]) rfl ⟨rfl, ((((((((((((((((hb2.setCell (by simp) _).setCell (by simp) _).setCell (by simp) _).setCell (by simp) _).setCell (by simp) _).setCell (by simp) _).setCell (by simp) _).setCell (by simp) _).setCell (by simp) _).setCell (by simp) _).setCell (by simp) _).setCell (by simp) _).setCell (by simp) _).setCell (by simp) _).setCell (by simp) _).setCell (by simp) _)⟩
end Go.Proofs.YtfdhmhdemfbfeaaGreatDoor
