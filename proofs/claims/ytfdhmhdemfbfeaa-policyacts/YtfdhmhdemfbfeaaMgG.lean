/-
  Several texts in one: what the functions of the program and of the document's answer do.
-/
import Derived.Test.YtfdhmhdemfbfeaaVSp
import Derived.Test.YtfdhmhdemfbfeaaVSq

/-
  The reference's Split of layer 15: one way after another (ways 00).
-/
namespace Go.Proofs.Ytfdhmhdemfbfeaa
open Go.RowKit
set_option linter.unusedVariables false

set_option maxHeartbeats 2000000 in
set_option maxRecDepth 20000 in
theorem rsp_0000 (S X0 X1 X2 X3 L1 LL MA QU HO PA P2 Z : ByteArray) (n m q h : Nat) (w : World)
    (z0 : X0.size ≤ 100000)
    (C0 : ∀ w, Calls Try.prog 68 #[.string S] w fun e w' => e = .returned (.string X0) ∧ Below w.heap.size w w')
    (C1 : ∀ w, Calls Try.prog 69 #[.string X0] w fun e w' => e = .returned (.int .i64 0) ∧ w' = w)
    (C3 : ∀ w, Calls Try.prog 70 #[.string X0, .int .u8 35, .int .u8 35] w fun e w' => e = .returned (.int .i64 (m : Int)) ∧ w' = w)
    (b1 : ¬ m < X0.size)
    (C4 : ∀ w, Calls Try.prog 70 #[.string X0, .int .u8 63, .int .u8 63] w fun e w' => e = .returned (.int .i64 (q : Int)) ∧ w' = w)
    (c1 : ¬ q < X0.size)
    (d1 : ¬ 1 < X0.size) :
    Calls Try.prog 52 #[.string S] w fun e w' => e = .returned (.agg #[.string ⟨#[]⟩, .string ⟨#[]⟩, .string X0, .string ⟨#[]⟩, .string ⟨#[]⟩, .bool false, .bool false, .bool false, .bool false]) ∧ Below w.heap.size w w' := by
  have HC0 := hide C0
  have HC1 := hide C1
  have HC3 := hide C3
  have HC4 := hide C4
  clear C0 C1 C3 C4
  have kR : Hid (Blk ((w.alloc (Obj.cells #[.string ⟨#[]⟩, .string ⟨#[]⟩, .string ⟨#[]⟩, .string ⟨#[]⟩, .string ⟨#[]⟩, .bool false, .bool false, .bool false, .bool false] 86)).alloc (Obj.cells #[.string ⟨#[]⟩, .string ⟨#[]⟩, .string ⟨#[]⟩, .string ⟨#[]⟩, .string ⟨#[]⟩, .bool false, .bool false, .bool false, .bool false] 86)) w.heap.size #[.string ⟨#[]⟩, .string ⟨#[]⟩, .string ⟨#[]⟩, .string ⟨#[]⟩, .string ⟨#[]⟩, .bool false, .bool false, .bool false, .bool false] 86) := hide ((Blk.new w _ _).alloc _)
  have kB : Hid (Blk ((w.alloc (Obj.cells #[.string ⟨#[]⟩, .string ⟨#[]⟩, .string ⟨#[]⟩, .string ⟨#[]⟩, .string ⟨#[]⟩, .bool false, .bool false, .bool false, .bool false] 86)).alloc (Obj.cells #[.string ⟨#[]⟩, .string ⟨#[]⟩, .string ⟨#[]⟩, .string ⟨#[]⟩, .string ⟨#[]⟩, .bool false, .bool false, .bool false, .bool false] 86)) (w.heap.size + 1) #[.string ⟨#[]⟩, .string ⟨#[]⟩, .string ⟨#[]⟩, .string ⟨#[]⟩, .string ⟨#[]⟩, .bool false, .bool false, .bool false, .bool false] 86) := hide (Eq.mp (by simp) (Blk.new (w.alloc (Obj.cells #[.string ⟨#[]⟩, .string ⟨#[]⟩, .string ⟨#[]⟩, .string ⟨#[]⟩, .string ⟨#[]⟩, .bool false, .bool false, .bool false, .bool false] 86)) #[.string ⟨#[]⟩, .string ⟨#[]⟩, .string ⟨#[]⟩, .string ⟨#[]⟩, .string ⟨#[]⟩, .bool false, .bool false, .bool false, .bool false] 86))
  go_enter Try.func52, Try.ntmps52
  go_wp2_with fail
  refine (unhide HC0 _).mono ?_
  rintro e1 w1 ⟨rfl, hb⟩
  have kR1 := hide ((unhide kR).later hb)
  have kB1 := hide ((unhide kB).later hb)
  have hb1 : Below w.heap.size w w1 := (((Below.refl _ w).alloc (Nat.le_refl _) _).alloc (by simp) _).trans (hb.mono (by simp; omega))
  clear hb kR kB
  go_wp2_with fail
  refine (unhide HC1 _).mono ?_
  rintro e1 w2 ⟨rfl, hw2⟩
  obtain rfl : w1 = w2 := hw2.symm
  clear hw2
  have kr2 := unhide kR1
  have k2 := unhide kB1
  have hb2 := hb1
  clear kR1 kB1 hb1
  have pc0 : w1.cell? ⟨w.heap.size + 1, 0, none⟩ = some (.string ⟨#[]⟩) := k2.cell 0
  have pf0 : w1.frozen? ⟨w.heap.size + 1, 0, none⟩ = false := k2.frozen 0
  have rc0 : w1.cell? ⟨w.heap.size, 0, none⟩ = some (.string ⟨#[]⟩) := kr2.cell 0
  have rf0 : w1.frozen? ⟨w.heap.size, 0, none⟩ = false := kr2.frozen 0
  have pc1 : w1.cell? ⟨w.heap.size + 1, 1, none⟩ = some (.string ⟨#[]⟩) := k2.cell 1
  have pf1 : w1.frozen? ⟨w.heap.size + 1, 1, none⟩ = false := k2.frozen 1
  have rc1 : w1.cell? ⟨w.heap.size, 1, none⟩ = some (.string ⟨#[]⟩) := kr2.cell 1
  have rf1 : w1.frozen? ⟨w.heap.size, 1, none⟩ = false := kr2.frozen 1
  have pc2 : w1.cell? ⟨w.heap.size + 1, 2, none⟩ = some (.string ⟨#[]⟩) := k2.cell 2
  have pf2 : w1.frozen? ⟨w.heap.size + 1, 2, none⟩ = false := k2.frozen 2
  have rc2 : w1.cell? ⟨w.heap.size, 2, none⟩ = some (.string ⟨#[]⟩) := kr2.cell 2
  have rf2 : w1.frozen? ⟨w.heap.size, 2, none⟩ = false := kr2.frozen 2
  have pc3 : w1.cell? ⟨w.heap.size + 1, 3, none⟩ = some (.string ⟨#[]⟩) := k2.cell 3
  have pf3 : w1.frozen? ⟨w.heap.size + 1, 3, none⟩ = false := k2.frozen 3
  have rc3 : w1.cell? ⟨w.heap.size, 3, none⟩ = some (.string ⟨#[]⟩) := kr2.cell 3
  have rf3 : w1.frozen? ⟨w.heap.size, 3, none⟩ = false := kr2.frozen 3
  have pc4 : w1.cell? ⟨w.heap.size + 1, 4, none⟩ = some (.string ⟨#[]⟩) := k2.cell 4
  have pf4 : w1.frozen? ⟨w.heap.size + 1, 4, none⟩ = false := k2.frozen 4
  have rc4 : w1.cell? ⟨w.heap.size, 4, none⟩ = some (.string ⟨#[]⟩) := kr2.cell 4
  have rf4 : w1.frozen? ⟨w.heap.size, 4, none⟩ = false := kr2.frozen 4
  have pc5 : w1.cell? ⟨w.heap.size + 1, 5, none⟩ = some (.bool false) := k2.cell 5
  have pf5 : w1.frozen? ⟨w.heap.size + 1, 5, none⟩ = false := k2.frozen 5
  have rc5 : w1.cell? ⟨w.heap.size, 5, none⟩ = some (.bool false) := kr2.cell 5
  have rf5 : w1.frozen? ⟨w.heap.size, 5, none⟩ = false := kr2.frozen 5
  have pc6 : w1.cell? ⟨w.heap.size + 1, 6, none⟩ = some (.bool false) := k2.cell 6
  have pf6 : w1.frozen? ⟨w.heap.size + 1, 6, none⟩ = false := k2.frozen 6
  have rc6 : w1.cell? ⟨w.heap.size, 6, none⟩ = some (.bool false) := kr2.cell 6
  have rf6 : w1.frozen? ⟨w.heap.size, 6, none⟩ = false := kr2.frozen 6
  have pc7 : w1.cell? ⟨w.heap.size + 1, 7, none⟩ = some (.bool false) := k2.cell 7
  have pf7 : w1.frozen? ⟨w.heap.size + 1, 7, none⟩ = false := k2.frozen 7
  have rc7 : w1.cell? ⟨w.heap.size, 7, none⟩ = some (.bool false) := kr2.cell 7
  have rf7 : w1.frozen? ⟨w.heap.size, 7, none⟩ = false := kr2.frozen 7
  have pc8 : w1.cell? ⟨w.heap.size + 1, 8, none⟩ = some (.bool false) := k2.cell 8
  have pf8 : w1.frozen? ⟨w.heap.size + 1, 8, none⟩ = false := k2.frozen 8
  have rc8 : w1.cell? ⟨w.heap.size, 8, none⟩ = some (.bool false) := kr2.cell 8
  have rf8 : w1.frozen? ⟨w.heap.size, 8, none⟩ = false := kr2.frozen 8
  have KR2 := hide kr2
  clear k2 kr2
  go_wp2_with fail
  refine (unhide HC3 _).mono ?_
  rintro e1 w4 ⟨rfl, hw4⟩
  subst hw4
  go_wp2_with fail
  refine (unhide HC4 _).mono ?_
  rintro e1 w4 ⟨rfl, hw4⟩
  subst hw4
  go_wp2
  have kk := (((((((((((unhide KR2).away (show w.heap.size ≠ w.heap.size + 1 by omega) (.string X0) (o := 2)).set 0 (by simp) (.string ⟨#[]⟩)).set 1 (by simp) (.string ⟨#[]⟩)).set 2 (by simp) (.string X0)).set 3 (by simp) (.string ⟨#[]⟩)).set 4 (by simp) (.string ⟨#[]⟩)).set 5 (by simp) (.bool false)).set 6 (by simp) (.bool false)).set 7 (by simp) (.bool false)).set 8 (by simp) (.bool false))
  have dd0 := kk.cell 0
  have dd1 := kk.cell 1
  have dd2 := kk.cell 2
  have dd3 := kk.cell 3
  have dd4 := kk.cell 4
  have dd5 := kk.cell 5
  have dd6 := kk.cell 6
  have dd7 := kk.cell 7
  have dd8 := kk.cell 8
  exact bodyPost_ret (v := .agg #[.string ⟨#[]⟩, .string ⟨#[]⟩, .string X0, .string ⟨#[]⟩, .string ⟨#[]⟩, .bool false, .bool false, .bool false, .bool false]) (by simp [results, Try.results52, go_sem, dd0, dd1, dd2, dd3, dd4, dd5, dd6, dd7, dd8]) rfl ⟨rfl, ((((((((((hb2.setCell (by simp) _).setCell (by simp) _).setCell (by simp) _).setCell (by simp) _).setCell (by simp) _).setCell (by simp) _).setCell (by simp) _).setCell (by simp) _).setCell (by simp) _).setCell (by simp) _)⟩

set_option maxHeartbeats 2000000 in
set_option maxRecDepth 20000 in
theorem rsp_0001 (S X0 X1 X2 X3 L1 LL MA QU HO PA P2 Z : ByteArray) (n m q h : Nat) (w : World)
    (z0 : X0.size ≤ 100000)
    (C0 : ∀ w, Calls Try.prog 68 #[.string S] w fun e w' => e = .returned (.string X0) ∧ Below w.heap.size w w')
    (C1 : ∀ w, Calls Try.prog 69 #[.string X0] w fun e w' => e = .returned (.int .i64 0) ∧ w' = w)
    (C3 : ∀ w, Calls Try.prog 70 #[.string X0, .int .u8 35, .int .u8 35] w fun e w' => e = .returned (.int .i64 (m : Int)) ∧ w' = w)
    (b1 : ¬ m < X0.size)
    (C4 : ∀ w, Calls Try.prog 70 #[.string X0, .int .u8 63, .int .u8 63] w fun e w' => e = .returned (.int .i64 (q : Int)) ∧ w' = w)
    (c1 : ¬ q < X0.size)
    (d1 : (1 : Int) < (X0.size : Int))
    (d2 : X0.extract 0 2 = P2)
    (d3 : (P2.toList == [47, 47]) = false) :
    Calls Try.prog 52 #[.string S] w fun e w' => e = .returned (.agg #[.string ⟨#[]⟩, .string ⟨#[]⟩, .string X0, .string ⟨#[]⟩, .string ⟨#[]⟩, .bool false, .bool false, .bool false, .bool false]) ∧ Below w.heap.size w w' := by
  have HC0 := hide C0
  have HC1 := hide C1
  have HC3 := hide C3
  have HC4 := hide C4
  clear C0 C1 C3 C4
  have d0 : (2 : Int) ≤ (X0.size : Int) := by omega
  have kR : Hid (Blk ((w.alloc (Obj.cells #[.string ⟨#[]⟩, .string ⟨#[]⟩, .string ⟨#[]⟩, .string ⟨#[]⟩, .string ⟨#[]⟩, .bool false, .bool false, .bool false, .bool false] 86)).alloc (Obj.cells #[.string ⟨#[]⟩, .string ⟨#[]⟩, .string ⟨#[]⟩, .string ⟨#[]⟩, .string ⟨#[]⟩, .bool false, .bool false, .bool false, .bool false] 86)) w.heap.size #[.string ⟨#[]⟩, .string ⟨#[]⟩, .string ⟨#[]⟩, .string ⟨#[]⟩, .string ⟨#[]⟩, .bool false, .bool false, .bool false, .bool false] 86) := hide ((Blk.new w _ _).alloc _)
  have kB : Hid (Blk ((w.alloc (Obj.cells #[.string ⟨#[]⟩, .string ⟨#[]⟩, .string ⟨#[]⟩, .string ⟨#[]⟩, .string ⟨#[]⟩, .bool false, .bool false, .bool false, .bool false] 86)).alloc (Obj.cells #[.string ⟨#[]⟩, .string ⟨#[]⟩, .string ⟨#[]⟩, .string ⟨#[]⟩, .string ⟨#[]⟩, .bool false, .bool false, .bool false, .bool false] 86)) (w.heap.size + 1) #[.string ⟨#[]⟩, .string ⟨#[]⟩, .string ⟨#[]⟩, .string ⟨#[]⟩, .string ⟨#[]⟩, .bool false, .bool false, .bool false, .bool false] 86) := hide (Eq.mp (by simp) (Blk.new (w.alloc (Obj.cells #[.string ⟨#[]⟩, .string ⟨#[]⟩, .string ⟨#[]⟩, .string ⟨#[]⟩, .string ⟨#[]⟩, .bool false, .bool false, .bool false, .bool false] 86)) #[.string ⟨#[]⟩, .string ⟨#[]⟩, .string ⟨#[]⟩, .string ⟨#[]⟩, .string ⟨#[]⟩, .bool false, .bool false, .bool false, .bool false] 86))
  go_enter Try.func52, Try.ntmps52
  go_wp2_with fail
  refine (unhide HC0 _).mono ?_
  rintro e1 w1 ⟨rfl, hb⟩
  have kR1 := hide ((unhide kR).later hb)
  have kB1 := hide ((unhide kB).later hb)
  have hb1 : Below w.heap.size w w1 := (((Below.refl _ w).alloc (Nat.le_refl _) _).alloc (by simp) _).trans (hb.mono (by simp; omega))
  clear hb kR kB
  go_wp2_with fail
  refine (unhide HC1 _).mono ?_
  rintro e1 w2 ⟨rfl, hw2⟩
  obtain rfl : w1 = w2 := hw2.symm
  clear hw2
  have kr2 := unhide kR1
  have k2 := unhide kB1
  have hb2 := hb1
  clear kR1 kB1 hb1
  have pc0 : w1.cell? ⟨w.heap.size + 1, 0, none⟩ = some (.string ⟨#[]⟩) := k2.cell 0
  have pf0 : w1.frozen? ⟨w.heap.size + 1, 0, none⟩ = false := k2.frozen 0
  have rc0 : w1.cell? ⟨w.heap.size, 0, none⟩ = some (.string ⟨#[]⟩) := kr2.cell 0
  have rf0 : w1.frozen? ⟨w.heap.size, 0, none⟩ = false := kr2.frozen 0
  have pc1 : w1.cell? ⟨w.heap.size + 1, 1, none⟩ = some (.string ⟨#[]⟩) := k2.cell 1
  have pf1 : w1.frozen? ⟨w.heap.size + 1, 1, none⟩ = false := k2.frozen 1
  have rc1 : w1.cell? ⟨w.heap.size, 1, none⟩ = some (.string ⟨#[]⟩) := kr2.cell 1
  have rf1 : w1.frozen? ⟨w.heap.size, 1, none⟩ = false := kr2.frozen 1
  have pc2 : w1.cell? ⟨w.heap.size + 1, 2, none⟩ = some (.string ⟨#[]⟩) := k2.cell 2
  have pf2 : w1.frozen? ⟨w.heap.size + 1, 2, none⟩ = false := k2.frozen 2
  have rc2 : w1.cell? ⟨w.heap.size, 2, none⟩ = some (.string ⟨#[]⟩) := kr2.cell 2
  have rf2 : w1.frozen? ⟨w.heap.size, 2, none⟩ = false := kr2.frozen 2
  have pc3 : w1.cell? ⟨w.heap.size + 1, 3, none⟩ = some (.string ⟨#[]⟩) := k2.cell 3
  have pf3 : w1.frozen? ⟨w.heap.size + 1, 3, none⟩ = false := k2.frozen 3
  have rc3 : w1.cell? ⟨w.heap.size, 3, none⟩ = some (.string ⟨#[]⟩) := kr2.cell 3
  have rf3 : w1.frozen? ⟨w.heap.size, 3, none⟩ = false := kr2.frozen 3
  have pc4 : w1.cell? ⟨w.heap.size + 1, 4, none⟩ = some (.string ⟨#[]⟩) := k2.cell 4
  have pf4 : w1.frozen? ⟨w.heap.size + 1, 4, none⟩ = false := k2.frozen 4
  have rc4 : w1.cell? ⟨w.heap.size, 4, none⟩ = some (.string ⟨#[]⟩) := kr2.cell 4
  have rf4 : w1.frozen? ⟨w.heap.size, 4, none⟩ = false := kr2.frozen 4
  have pc5 : w1.cell? ⟨w.heap.size + 1, 5, none⟩ = some (.bool false) := k2.cell 5
  have pf5 : w1.frozen? ⟨w.heap.size + 1, 5, none⟩ = false := k2.frozen 5
  have rc5 : w1.cell? ⟨w.heap.size, 5, none⟩ = some (.bool false) := kr2.cell 5
  have rf5 : w1.frozen? ⟨w.heap.size, 5, none⟩ = false := kr2.frozen 5
  have pc6 : w1.cell? ⟨w.heap.size + 1, 6, none⟩ = some (.bool false) := k2.cell 6
  have pf6 : w1.frozen? ⟨w.heap.size + 1, 6, none⟩ = false := k2.frozen 6
  have rc6 : w1.cell? ⟨w.heap.size, 6, none⟩ = some (.bool false) := kr2.cell 6
  have rf6 : w1.frozen? ⟨w.heap.size, 6, none⟩ = false := kr2.frozen 6
  have pc7 : w1.cell? ⟨w.heap.size + 1, 7, none⟩ = some (.bool false) := k2.cell 7
  have pf7 : w1.frozen? ⟨w.heap.size + 1, 7, none⟩ = false := k2.frozen 7
  have rc7 : w1.cell? ⟨w.heap.size, 7, none⟩ = some (.bool false) := kr2.cell 7
  have rf7 : w1.frozen? ⟨w.heap.size, 7, none⟩ = false := kr2.frozen 7
  have pc8 : w1.cell? ⟨w.heap.size + 1, 8, none⟩ = some (.bool false) := k2.cell 8
  have pf8 : w1.frozen? ⟨w.heap.size + 1, 8, none⟩ = false := k2.frozen 8
  have rc8 : w1.cell? ⟨w.heap.size, 8, none⟩ = some (.bool false) := kr2.cell 8
  have rf8 : w1.frozen? ⟨w.heap.size, 8, none⟩ = false := kr2.frozen 8
  have KR2 := hide kr2
  clear k2 kr2
  go_wp2_with fail
  refine (unhide HC3 _).mono ?_
  rintro e1 w4 ⟨rfl, hw4⟩
  subst hw4
  go_wp2_with fail
  refine (unhide HC4 _).mono ?_
  rintro e1 w4 ⟨rfl, hw4⟩
  subst hw4
  go_wp2
  have kk := (((((((((((unhide KR2).away (show w.heap.size ≠ w.heap.size + 1 by omega) (.string X0) (o := 2)).set 0 (by simp) (.string ⟨#[]⟩)).set 1 (by simp) (.string ⟨#[]⟩)).set 2 (by simp) (.string X0)).set 3 (by simp) (.string ⟨#[]⟩)).set 4 (by simp) (.string ⟨#[]⟩)).set 5 (by simp) (.bool false)).set 6 (by simp) (.bool false)).set 7 (by simp) (.bool false)).set 8 (by simp) (.bool false))
  have dd0 := kk.cell 0
  have dd1 := kk.cell 1
  have dd2 := kk.cell 2
  have dd3 := kk.cell 3
  have dd4 := kk.cell 4
  have dd5 := kk.cell 5
  have dd6 := kk.cell 6
  have dd7 := kk.cell 7
  have dd8 := kk.cell 8
  exact bodyPost_ret (v := .agg #[.string ⟨#[]⟩, .string ⟨#[]⟩, .string X0, .string ⟨#[]⟩, .string ⟨#[]⟩, .bool false, .bool false, .bool false, .bool false]) (by simp [results, Try.results52, go_sem, dd0, dd1, dd2, dd3, dd4, dd5, dd6, dd7, dd8]) rfl ⟨rfl, ((((((((((hb2.setCell (by simp) _).setCell (by simp) _).setCell (by simp) _).setCell (by simp) _).setCell (by simp) _).setCell (by simp) _).setCell (by simp) _).setCell (by simp) _).setCell (by simp) _).setCell (by simp) _)⟩

set_option maxHeartbeats 2000000 in
set_option maxRecDepth 20000 in
theorem rsp_0002 (S X0 X1 X2 X3 L1 LL MA QU HO PA P2 Z : ByteArray) (n m q h : Nat) (w : World)
    (z0 : X0.size ≤ 100000)
    (C0 : ∀ w, Calls Try.prog 68 #[.string S] w fun e w' => e = .returned (.string X0) ∧ Below w.heap.size w w')
    (C1 : ∀ w, Calls Try.prog 69 #[.string X0] w fun e w' => e = .returned (.int .i64 0) ∧ w' = w)
    (C3 : ∀ w, Calls Try.prog 70 #[.string X0, .int .u8 35, .int .u8 35] w fun e w' => e = .returned (.int .i64 (m : Int)) ∧ w' = w)
    (b1 : ¬ m < X0.size)
    (C4 : ∀ w, Calls Try.prog 70 #[.string X0, .int .u8 63, .int .u8 63] w fun e w' => e = .returned (.int .i64 (q : Int)) ∧ w' = w)
    (c1 : ¬ q < X0.size)
    (d1 : (1 : Int) < (X0.size : Int))
    (d2 : X0.extract 0 2 = P2)
    (d3 : (P2.toList == [47, 47]) = true)
    (d4 : X0.extract 2 X0.size = Z)
    (C5 : ∀ w, Calls Try.prog 70 #[.string Z, .int .u8 47, .int .u8 92] w fun e w' => e = .returned (.int .i64 (h : Int)) ∧ w' = w)
    (d5 : (2 : Int) + (h : Int) ≤ (X0.size : Int))
    (d6 : X0.extract 2 (2 + h) = HO)
    (d7 : X0.extract (2 + h) X0.size = PA) :
    Calls Try.prog 52 #[.string S] w fun e w' => e = .returned (.agg #[.string ⟨#[]⟩, .string HO, .string PA, .string ⟨#[]⟩, .string ⟨#[]⟩, .bool false, .bool true, .bool false, .bool false]) ∧ Below w.heap.size w w' := by
  have HC0 := hide C0
  have HC1 := hide C1
  have HC3 := hide C3
  have HC4 := hide C4
  have HC5 := hide C5
  clear C0 C1 C3 C4 C5
  have d0 : (2 : Int) ≤ (X0.size : Int) := by omega
  have d8 : (0 : Int) ≤ (2 : Int) + (h : Int) := by omega
  have d9 : (2 : Int) ≤ (2 : Int) + (h : Int) := by omega
  have e1 : ((2 : Int) + (h : Int)).toNat = 2 + h := by omega
  have kR : Hid (Blk ((w.alloc (Obj.cells #[.string ⟨#[]⟩, .string ⟨#[]⟩, .string ⟨#[]⟩, .string ⟨#[]⟩, .string ⟨#[]⟩, .bool false, .bool false, .bool false, .bool false] 86)).alloc (Obj.cells #[.string ⟨#[]⟩, .string ⟨#[]⟩, .string ⟨#[]⟩, .string ⟨#[]⟩, .string ⟨#[]⟩, .bool false, .bool false, .bool false, .bool false] 86)) w.heap.size #[.string ⟨#[]⟩, .string ⟨#[]⟩, .string ⟨#[]⟩, .string ⟨#[]⟩, .string ⟨#[]⟩, .bool false, .bool false, .bool false, .bool false] 86) := hide ((Blk.new w _ _).alloc _)
  have kB : Hid (Blk ((w.alloc (Obj.cells #[.string ⟨#[]⟩, .string ⟨#[]⟩, .string ⟨#[]⟩, .string ⟨#[]⟩, .string ⟨#[]⟩, .bool false, .bool false, .bool false, .bool false] 86)).alloc (Obj.cells #[.string ⟨#[]⟩, .string ⟨#[]⟩, .string ⟨#[]⟩, .string ⟨#[]⟩, .string ⟨#[]⟩, .bool false, .bool false, .bool false, .bool false] 86)) (w.heap.size + 1) #[.string ⟨#[]⟩, .string ⟨#[]⟩, .string ⟨#[]⟩, .string ⟨#[]⟩, .string ⟨#[]⟩, .bool false, .bool false, .bool false, .bool false] 86) := hide (Eq.mp (by simp) (Blk.new (w.alloc (Obj.cells #[.string ⟨#[]⟩, .string ⟨#[]⟩, .string ⟨#[]⟩, .string ⟨#[]⟩, .string ⟨#[]⟩, .bool false, .bool false, .bool false, .bool false] 86)) #[.string ⟨#[]⟩, .string ⟨#[]⟩, .string ⟨#[]⟩, .string ⟨#[]⟩, .string ⟨#[]⟩, .bool false, .bool false, .bool false, .bool false] 86))
  go_enter Try.func52, Try.ntmps52
  go_wp2_with fail
  refine (unhide HC0 _).mono ?_
  rintro e1 w1 ⟨rfl, hb⟩
  have kR1 := hide ((unhide kR).later hb)
  have kB1 := hide ((unhide kB).later hb)
  have hb1 : Below w.heap.size w w1 := (((Below.refl _ w).alloc (Nat.le_refl _) _).alloc (by simp) _).trans (hb.mono (by simp; omega))
  clear hb kR kB
  go_wp2_with fail
  refine (unhide HC1 _).mono ?_
  rintro e1 w2 ⟨rfl, hw2⟩
  obtain rfl : w1 = w2 := hw2.symm
  clear hw2
  have kr2 := unhide kR1
  have k2 := unhide kB1
  have hb2 := hb1
  clear kR1 kB1 hb1
  have pc0 : w1.cell? ⟨w.heap.size + 1, 0, none⟩ = some (.string ⟨#[]⟩) := k2.cell 0
  have pf0 : w1.frozen? ⟨w.heap.size + 1, 0, none⟩ = false := k2.frozen 0
  have rc0 : w1.cell? ⟨w.heap.size, 0, none⟩ = some (.string ⟨#[]⟩) := kr2.cell 0
  have rf0 : w1.frozen? ⟨w.heap.size, 0, none⟩ = false := kr2.frozen 0
  have pc1 : w1.cell? ⟨w.heap.size + 1, 1, none⟩ = some (.string ⟨#[]⟩) := k2.cell 1
  have pf1 : w1.frozen? ⟨w.heap.size + 1, 1, none⟩ = false := k2.frozen 1
  have rc1 : w1.cell? ⟨w.heap.size, 1, none⟩ = some (.string ⟨#[]⟩) := kr2.cell 1
  have rf1 : w1.frozen? ⟨w.heap.size, 1, none⟩ = false := kr2.frozen 1
  have pc2 : w1.cell? ⟨w.heap.size + 1, 2, none⟩ = some (.string ⟨#[]⟩) := k2.cell 2
  have pf2 : w1.frozen? ⟨w.heap.size + 1, 2, none⟩ = false := k2.frozen 2
  have rc2 : w1.cell? ⟨w.heap.size, 2, none⟩ = some (.string ⟨#[]⟩) := kr2.cell 2
  have rf2 : w1.frozen? ⟨w.heap.size, 2, none⟩ = false := kr2.frozen 2
  have pc3 : w1.cell? ⟨w.heap.size + 1, 3, none⟩ = some (.string ⟨#[]⟩) := k2.cell 3
  have pf3 : w1.frozen? ⟨w.heap.size + 1, 3, none⟩ = false := k2.frozen 3
  have rc3 : w1.cell? ⟨w.heap.size, 3, none⟩ = some (.string ⟨#[]⟩) := kr2.cell 3
  have rf3 : w1.frozen? ⟨w.heap.size, 3, none⟩ = false := kr2.frozen 3
  have pc4 : w1.cell? ⟨w.heap.size + 1, 4, none⟩ = some (.string ⟨#[]⟩) := k2.cell 4
  have pf4 : w1.frozen? ⟨w.heap.size + 1, 4, none⟩ = false := k2.frozen 4
  have rc4 : w1.cell? ⟨w.heap.size, 4, none⟩ = some (.string ⟨#[]⟩) := kr2.cell 4
  have rf4 : w1.frozen? ⟨w.heap.size, 4, none⟩ = false := kr2.frozen 4
  have pc5 : w1.cell? ⟨w.heap.size + 1, 5, none⟩ = some (.bool false) := k2.cell 5
  have pf5 : w1.frozen? ⟨w.heap.size + 1, 5, none⟩ = false := k2.frozen 5
  have rc5 : w1.cell? ⟨w.heap.size, 5, none⟩ = some (.bool false) := kr2.cell 5
  have rf5 : w1.frozen? ⟨w.heap.size, 5, none⟩ = false := kr2.frozen 5
  have pc6 : w1.cell? ⟨w.heap.size + 1, 6, none⟩ = some (.bool false) := k2.cell 6
  have pf6 : w1.frozen? ⟨w.heap.size + 1, 6, none⟩ = false := k2.frozen 6
  have rc6 : w1.cell? ⟨w.heap.size, 6, none⟩ = some (.bool false) := kr2.cell 6
  have rf6 : w1.frozen? ⟨w.heap.size, 6, none⟩ = false := kr2.frozen 6
  have pc7 : w1.cell? ⟨w.heap.size + 1, 7, none⟩ = some (.bool false) := k2.cell 7
  have pf7 : w1.frozen? ⟨w.heap.size + 1, 7, none⟩ = false := k2.frozen 7
  have rc7 : w1.cell? ⟨w.heap.size, 7, none⟩ = some (.bool false) := kr2.cell 7
  have rf7 : w1.frozen? ⟨w.heap.size, 7, none⟩ = false := kr2.frozen 7
  have pc8 : w1.cell? ⟨w.heap.size + 1, 8, none⟩ = some (.bool false) := k2.cell 8
  have pf8 : w1.frozen? ⟨w.heap.size + 1, 8, none⟩ = false := k2.frozen 8
  have rc8 : w1.cell? ⟨w.heap.size, 8, none⟩ = some (.bool false) := kr2.cell 8
  have rf8 : w1.frozen? ⟨w.heap.size, 8, none⟩ = false := kr2.frozen 8
  have KR2 := hide kr2
  clear k2 kr2
  go_wp2_with fail
  refine (unhide HC3 _).mono ?_
  rintro e1 w4 ⟨rfl, hw4⟩
  subst hw4
  go_wp2_with fail
  refine (unhide HC4 _).mono ?_
  rintro e1 w4 ⟨rfl, hw4⟩
  subst hw4
  go_wp2_with fail
  refine (unhide HC5 _).mono ?_
  rintro e1 w4 ⟨rfl, hw4⟩
  subst hw4
  go_wp2
  have kk := (((((((((((((unhide KR2).away (show w.heap.size ≠ w.heap.size + 1 by omega) (.bool true) (o := 6)).away (show w.heap.size ≠ w.heap.size + 1 by omega) (.string HO) (o := 1)).away (show w.heap.size ≠ w.heap.size + 1 by omega) (.string PA) (o := 2)).set 0 (by simp) (.string ⟨#[]⟩)).set 1 (by simp) (.string HO)).set 2 (by simp) (.string PA)).set 3 (by simp) (.string ⟨#[]⟩)).set 4 (by simp) (.string ⟨#[]⟩)).set 5 (by simp) (.bool false)).set 6 (by simp) (.bool true)).set 7 (by simp) (.bool false)).set 8 (by simp) (.bool false))
  have dd0 := kk.cell 0
  have dd1 := kk.cell 1
  have dd2 := kk.cell 2
  have dd3 := kk.cell 3
  have dd4 := kk.cell 4
  have dd5 := kk.cell 5
  have dd6 := kk.cell 6
  have dd7 := kk.cell 7
  have dd8 := kk.cell 8
  exact bodyPost_ret (v := .agg #[.string ⟨#[]⟩, .string HO, .string PA, .string ⟨#[]⟩, .string ⟨#[]⟩, .bool false, .bool true, .bool false, .bool false]) (by simp [results, Try.results52, go_sem, dd0, dd1, dd2, dd3, dd4, dd5, dd6, dd7, dd8]) rfl ⟨rfl, ((((((((((((hb2.setCell (by simp) _).setCell (by simp) _).setCell (by simp) _).setCell (by simp) _).setCell (by simp) _).setCell (by simp) _).setCell (by simp) _).setCell (by simp) _).setCell (by simp) _).setCell (by simp) _).setCell (by simp) _).setCell (by simp) _)⟩

set_option maxHeartbeats 2000000 in
set_option maxRecDepth 20000 in
theorem rsp_0010 (S X0 X1 X2 X3 L1 LL MA QU HO PA P2 Z : ByteArray) (n m q h : Nat) (w : World)
    (z0 : X0.size ≤ 100000)
    (z3 : X3.size ≤ 100000)
    (C0 : ∀ w, Calls Try.prog 68 #[.string S] w fun e w' => e = .returned (.string X0) ∧ Below w.heap.size w w')
    (C1 : ∀ w, Calls Try.prog 69 #[.string X0] w fun e w' => e = .returned (.int .i64 0) ∧ w' = w)
    (C3 : ∀ w, Calls Try.prog 70 #[.string X0, .int .u8 35, .int .u8 35] w fun e w' => e = .returned (.int .i64 (m : Int)) ∧ w' = w)
    (b1 : ¬ m < X0.size)
    (C4 : ∀ w, Calls Try.prog 70 #[.string X0, .int .u8 63, .int .u8 63] w fun e w' => e = .returned (.int .i64 (q : Int)) ∧ w' = w)
    (c1 : (q : Int) + 1 ≤ (X0.size : Int))
    (c2 : X0.extract (q + 1) X0.size = QU)
    (c3 : X0.extract 0 q = X3)
    (d1 : ¬ 1 < X3.size) :
    Calls Try.prog 52 #[.string S] w fun e w' => e = .returned (.agg #[.string ⟨#[]⟩, .string ⟨#[]⟩, .string X3, .string QU, .string ⟨#[]⟩, .bool false, .bool false, .bool true, .bool false]) ∧ Below w.heap.size w w' := by
  have HC0 := hide C0
  have HC1 := hide C1
  have HC3 := hide C3
  have HC4 := hide C4
  clear C0 C1 C3 C4
  have c0 : (q : Int) < (X0.size : Int) := by omega
  have c5 : (q : Int) ≤ (X0.size : Int) := by omega
  have kR : Hid (Blk ((w.alloc (Obj.cells #[.string ⟨#[]⟩, .string ⟨#[]⟩, .string ⟨#[]⟩, .string ⟨#[]⟩, .string ⟨#[]⟩, .bool false, .bool false, .bool false, .bool false] 86)).alloc (Obj.cells #[.string ⟨#[]⟩, .string ⟨#[]⟩, .string ⟨#[]⟩, .string ⟨#[]⟩, .string ⟨#[]⟩, .bool false, .bool false, .bool false, .bool false] 86)) w.heap.size #[.string ⟨#[]⟩, .string ⟨#[]⟩, .string ⟨#[]⟩, .string ⟨#[]⟩, .string ⟨#[]⟩, .bool false, .bool false, .bool false, .bool false] 86) := hide ((Blk.new w _ _).alloc _)
  have kB : Hid (Blk ((w.alloc (Obj.cells #[.string ⟨#[]⟩, .string ⟨#[]⟩, .string ⟨#[]⟩, .string ⟨#[]⟩, .string ⟨#[]⟩, .bool false, .bool false, .bool false, .bool false] 86)).alloc (Obj.cells #[.string ⟨#[]⟩, .string ⟨#[]⟩, .string ⟨#[]⟩, .string ⟨#[]⟩, .string ⟨#[]⟩, .bool false, .bool false, .bool false, .bool false] 86)) (w.heap.size + 1) #[.string ⟨#[]⟩, .string ⟨#[]⟩, .string ⟨#[]⟩, .string ⟨#[]⟩, .string ⟨#[]⟩, .bool false, .bool false, .bool false, .bool false] 86) := hide (Eq.mp (by simp) (Blk.new (w.alloc (Obj.cells #[.string ⟨#[]⟩, .string ⟨#[]⟩, .string ⟨#[]⟩, .string ⟨#[]⟩, .string ⟨#[]⟩, .bool false, .bool false, .bool false, .bool false] 86)) #[.string ⟨#[]⟩, .string ⟨#[]⟩, .string ⟨#[]⟩, .string ⟨#[]⟩, .string ⟨#[]⟩, .bool false, .bool false, .bool false, .bool false] 86))
  go_enter Try.func52, Try.ntmps52
  go_wp2_with fail
  refine (unhide HC0 _).mono ?_
  rintro e1 w1 ⟨rfl, hb⟩
  have kR1 := hide ((unhide kR).later hb)
  have kB1 := hide ((unhide kB).later hb)
  have hb1 : Below w.heap.size w w1 := (((Below.refl _ w).alloc (Nat.le_refl _) _).alloc (by simp) _).trans (hb.mono (by simp; omega))
  clear hb kR kB
  go_wp2_with fail
  refine (unhide HC1 _).mono ?_
  rintro e1 w2 ⟨rfl, hw2⟩
  obtain rfl : w1 = w2 := hw2.symm
  clear hw2
  have kr2 := unhide kR1
  have k2 := unhide kB1
  have hb2 := hb1
  clear kR1 kB1 hb1
  have pc0 : w1.cell? ⟨w.heap.size + 1, 0, none⟩ = some (.string ⟨#[]⟩) := k2.cell 0
  have pf0 : w1.frozen? ⟨w.heap.size + 1, 0, none⟩ = false := k2.frozen 0
  have rc0 : w1.cell? ⟨w.heap.size, 0, none⟩ = some (.string ⟨#[]⟩) := kr2.cell 0
  have rf0 : w1.frozen? ⟨w.heap.size, 0, none⟩ = false := kr2.frozen 0
  have pc1 : w1.cell? ⟨w.heap.size + 1, 1, none⟩ = some (.string ⟨#[]⟩) := k2.cell 1
  have pf1 : w1.frozen? ⟨w.heap.size + 1, 1, none⟩ = false := k2.frozen 1
  have rc1 : w1.cell? ⟨w.heap.size, 1, none⟩ = some (.string ⟨#[]⟩) := kr2.cell 1
  have rf1 : w1.frozen? ⟨w.heap.size, 1, none⟩ = false := kr2.frozen 1
  have pc2 : w1.cell? ⟨w.heap.size + 1, 2, none⟩ = some (.string ⟨#[]⟩) := k2.cell 2
  have pf2 : w1.frozen? ⟨w.heap.size + 1, 2, none⟩ = false := k2.frozen 2
  have rc2 : w1.cell? ⟨w.heap.size, 2, none⟩ = some (.string ⟨#[]⟩) := kr2.cell 2
  have rf2 : w1.frozen? ⟨w.heap.size, 2, none⟩ = false := kr2.frozen 2
  have pc3 : w1.cell? ⟨w.heap.size + 1, 3, none⟩ = some (.string ⟨#[]⟩) := k2.cell 3
  have pf3 : w1.frozen? ⟨w.heap.size + 1, 3, none⟩ = false := k2.frozen 3
  have rc3 : w1.cell? ⟨w.heap.size, 3, none⟩ = some (.string ⟨#[]⟩) := kr2.cell 3
  have rf3 : w1.frozen? ⟨w.heap.size, 3, none⟩ = false := kr2.frozen 3
  have pc4 : w1.cell? ⟨w.heap.size + 1, 4, none⟩ = some (.string ⟨#[]⟩) := k2.cell 4
  have pf4 : w1.frozen? ⟨w.heap.size + 1, 4, none⟩ = false := k2.frozen 4
  have rc4 : w1.cell? ⟨w.heap.size, 4, none⟩ = some (.string ⟨#[]⟩) := kr2.cell 4
  have rf4 : w1.frozen? ⟨w.heap.size, 4, none⟩ = false := kr2.frozen 4
  have pc5 : w1.cell? ⟨w.heap.size + 1, 5, none⟩ = some (.bool false) := k2.cell 5
  have pf5 : w1.frozen? ⟨w.heap.size + 1, 5, none⟩ = false := k2.frozen 5
  have rc5 : w1.cell? ⟨w.heap.size, 5, none⟩ = some (.bool false) := kr2.cell 5
  have rf5 : w1.frozen? ⟨w.heap.size, 5, none⟩ = false := kr2.frozen 5
  have pc6 : w1.cell? ⟨w.heap.size + 1, 6, none⟩ = some (.bool false) := k2.cell 6
  have pf6 : w1.frozen? ⟨w.heap.size + 1, 6, none⟩ = false := k2.frozen 6
  have rc6 : w1.cell? ⟨w.heap.size, 6, none⟩ = some (.bool false) := kr2.cell 6
  have rf6 : w1.frozen? ⟨w.heap.size, 6, none⟩ = false := kr2.frozen 6
  have pc7 : w1.cell? ⟨w.heap.size + 1, 7, none⟩ = some (.bool false) := k2.cell 7
  have pf7 : w1.frozen? ⟨w.heap.size + 1, 7, none⟩ = false := k2.frozen 7
  have rc7 : w1.cell? ⟨w.heap.size, 7, none⟩ = some (.bool false) := kr2.cell 7
  have rf7 : w1.frozen? ⟨w.heap.size, 7, none⟩ = false := kr2.frozen 7
  have pc8 : w1.cell? ⟨w.heap.size + 1, 8, none⟩ = some (.bool false) := k2.cell 8
  have pf8 : w1.frozen? ⟨w.heap.size + 1, 8, none⟩ = false := k2.frozen 8
  have rc8 : w1.cell? ⟨w.heap.size, 8, none⟩ = some (.bool false) := kr2.cell 8
  have rf8 : w1.frozen? ⟨w.heap.size, 8, none⟩ = false := kr2.frozen 8
  have KR2 := hide kr2
  clear k2 kr2
  go_wp2_with fail
  refine (unhide HC3 _).mono ?_
  rintro e1 w4 ⟨rfl, hw4⟩
  subst hw4
  go_wp2_with fail
  refine (unhide HC4 _).mono ?_
  rintro e1 w4 ⟨rfl, hw4⟩
  subst hw4
  go_wp2
  have kk := (((((((((((((unhide KR2).away (show w.heap.size ≠ w.heap.size + 1 by omega) (.bool true) (o := 7)).away (show w.heap.size ≠ w.heap.size + 1 by omega) (.string QU) (o := 3)).away (show w.heap.size ≠ w.heap.size + 1 by omega) (.string X3) (o := 2)).set 0 (by simp) (.string ⟨#[]⟩)).set 1 (by simp) (.string ⟨#[]⟩)).set 2 (by simp) (.string X3)).set 3 (by simp) (.string QU)).set 4 (by simp) (.string ⟨#[]⟩)).set 5 (by simp) (.bool false)).set 6 (by simp) (.bool false)).set 7 (by simp) (.bool true)).set 8 (by simp) (.bool false))
  have dd0 := kk.cell 0
  have dd1 := kk.cell 1
  have dd2 := kk.cell 2
  have dd3 := kk.cell 3
  have dd4 := kk.cell 4
  have dd5 := kk.cell 5
  have dd6 := kk.cell 6
  have dd7 := kk.cell 7
  have dd8 := kk.cell 8
  exact bodyPost_ret (v := .agg #[.string ⟨#[]⟩, .string ⟨#[]⟩, .string X3, .string QU, .string ⟨#[]⟩, .bool false, .bool false, .bool true, .bool false]) (by simp [results, Try.results52, go_sem, dd0, dd1, dd2, dd3, dd4, dd5, dd6, dd7, dd8]) rfl ⟨rfl, ((((((((((((hb2.setCell (by simp) _).setCell (by simp) _).setCell (by simp) _).setCell (by simp) _).setCell (by simp) _).setCell (by simp) _).setCell (by simp) _).setCell (by simp) _).setCell (by simp) _).setCell (by simp) _).setCell (by simp) _).setCell (by simp) _)⟩

set_option maxHeartbeats 2000000 in
set_option maxRecDepth 20000 in
theorem rsp_0011 (S X0 X1 X2 X3 L1 LL MA QU HO PA P2 Z : ByteArray) (n m q h : Nat) (w : World)
    (z0 : X0.size ≤ 100000)
    (z3 : X3.size ≤ 100000)
    (C0 : ∀ w, Calls Try.prog 68 #[.string S] w fun e w' => e = .returned (.string X0) ∧ Below w.heap.size w w')
    (C1 : ∀ w, Calls Try.prog 69 #[.string X0] w fun e w' => e = .returned (.int .i64 0) ∧ w' = w)
    (C3 : ∀ w, Calls Try.prog 70 #[.string X0, .int .u8 35, .int .u8 35] w fun e w' => e = .returned (.int .i64 (m : Int)) ∧ w' = w)
    (b1 : ¬ m < X0.size)
    (C4 : ∀ w, Calls Try.prog 70 #[.string X0, .int .u8 63, .int .u8 63] w fun e w' => e = .returned (.int .i64 (q : Int)) ∧ w' = w)
    (c1 : (q : Int) + 1 ≤ (X0.size : Int))
    (c2 : X0.extract (q + 1) X0.size = QU)
    (c3 : X0.extract 0 q = X3)
    (d1 : (1 : Int) < (X3.size : Int))
    (d2 : X3.extract 0 2 = P2)
    (d3 : (P2.toList == [47, 47]) = false) :
    Calls Try.prog 52 #[.string S] w fun e w' => e = .returned (.agg #[.string ⟨#[]⟩, .string ⟨#[]⟩, .string X3, .string QU, .string ⟨#[]⟩, .bool false, .bool false, .bool true, .bool false]) ∧ Below w.heap.size w w' := by
  have HC0 := hide C0
  have HC1 := hide C1
  have HC3 := hide C3
  have HC4 := hide C4
  clear C0 C1 C3 C4
  have c0 : (q : Int) < (X0.size : Int) := by omega
  have c5 : (q : Int) ≤ (X0.size : Int) := by omega
  have d0 : (2 : Int) ≤ (X3.size : Int) := by omega
  have kR : Hid (Blk ((w.alloc (Obj.cells #[.string ⟨#[]⟩, .string ⟨#[]⟩, .string ⟨#[]⟩, .string ⟨#[]⟩, .string ⟨#[]⟩, .bool false, .bool false, .bool false, .bool false] 86)).alloc (Obj.cells #[.string ⟨#[]⟩, .string ⟨#[]⟩, .string ⟨#[]⟩, .string ⟨#[]⟩, .string ⟨#[]⟩, .bool false, .bool false, .bool false, .bool false] 86)) w.heap.size #[.string ⟨#[]⟩, .string ⟨#[]⟩, .string ⟨#[]⟩, .string ⟨#[]⟩, .string ⟨#[]⟩, .bool false, .bool false, .bool false, .bool false] 86) := hide ((Blk.new w _ _).alloc _)
  have kB : Hid (Blk ((w.alloc (Obj.cells #[.string ⟨#[]⟩, .string ⟨#[]⟩, .string ⟨#[]⟩, .string ⟨#[]⟩, .string ⟨#[]⟩, .bool false, .bool false, .bool false, .bool false] 86)).alloc (Obj.cells #[.string ⟨#[]⟩, .string ⟨#[]⟩, .string ⟨#[]⟩, .string ⟨#[]⟩, .string ⟨#[]⟩, .bool false, .bool false, .bool false, .bool false] 86)) (w.heap.size + 1) #[.string ⟨#[]⟩, .string ⟨#[]⟩, .string ⟨#[]⟩, .string ⟨#[]⟩, .string ⟨#[]⟩, .bool false, .bool false, .bool false, .bool false] 86) := hide (Eq.mp (by simp) (Blk.new (w.alloc (Obj.cells #[.string ⟨#[]⟩, .string ⟨#[]⟩, .string ⟨#[]⟩, .string ⟨#[]⟩, .string ⟨#[]⟩, .bool false, .bool false, .bool false, .bool false] 86)) #[.string ⟨#[]⟩, .string ⟨#[]⟩, .string ⟨#[]⟩, .string ⟨#[]⟩, .string ⟨#[]⟩, .bool false, .bool false, .bool false, .bool false] 86))
  go_enter Try.func52, Try.ntmps52
  go_wp2_with fail
  refine (unhide HC0 _).mono ?_
  rintro e1 w1 ⟨rfl, hb⟩
  have kR1 := hide ((unhide kR).later hb)
  have kB1 := hide ((unhide kB).later hb)
  have hb1 : Below w.heap.size w w1 := (((Below.refl _ w).alloc (Nat.le_refl _) _).alloc (by simp) _).trans (hb.mono (by simp; omega))
  clear hb kR kB
  go_wp2_with fail
  refine (unhide HC1 _).mono ?_
  rintro e1 w2 ⟨rfl, hw2⟩
  obtain rfl : w1 = w2 := hw2.symm
  clear hw2
  have kr2 := unhide kR1
  have k2 := unhide kB1
  have hb2 := hb1
  clear kR1 kB1 hb1
  have pc0 : w1.cell? ⟨w.heap.size + 1, 0, none⟩ = some (.string ⟨#[]⟩) := k2.cell 0
  have pf0 : w1.frozen? ⟨w.heap.size + 1, 0, none⟩ = false := k2.frozen 0
  have rc0 : w1.cell? ⟨w.heap.size, 0, none⟩ = some (.string ⟨#[]⟩) := kr2.cell 0
  have rf0 : w1.frozen? ⟨w.heap.size, 0, none⟩ = false := kr2.frozen 0
  have pc1 : w1.cell? ⟨w.heap.size + 1, 1, none⟩ = some (.string ⟨#[]⟩) := k2.cell 1
  have pf1 : w1.frozen? ⟨w.heap.size + 1, 1, none⟩ = false := k2.frozen 1
  have rc1 : w1.cell? ⟨w.heap.size, 1, none⟩ = some (.string ⟨#[]⟩) := kr2.cell 1
  have rf1 : w1.frozen? ⟨w.heap.size, 1, none⟩ = false := kr2.frozen 1
  have pc2 : w1.cell? ⟨w.heap.size + 1, 2, none⟩ = some (.string ⟨#[]⟩) := k2.cell 2
  have pf2 : w1.frozen? ⟨w.heap.size + 1, 2, none⟩ = false := k2.frozen 2
  have rc2 : w1.cell? ⟨w.heap.size, 2, none⟩ = some (.string ⟨#[]⟩) := kr2.cell 2
  have rf2 : w1.frozen? ⟨w.heap.size, 2, none⟩ = false := kr2.frozen 2
  have pc3 : w1.cell? ⟨w.heap.size + 1, 3, none⟩ = some (.string ⟨#[]⟩) := k2.cell 3
  have pf3 : w1.frozen? ⟨w.heap.size + 1, 3, none⟩ = false := k2.frozen 3
  have rc3 : w1.cell? ⟨w.heap.size, 3, none⟩ = some (.string ⟨#[]⟩) := kr2.cell 3
  have rf3 : w1.frozen? ⟨w.heap.size, 3, none⟩ = false := kr2.frozen 3
  have pc4 : w1.cell? ⟨w.heap.size + 1, 4, none⟩ = some (.string ⟨#[]⟩) := k2.cell 4
  have pf4 : w1.frozen? ⟨w.heap.size + 1, 4, none⟩ = false := k2.frozen 4
  have rc4 : w1.cell? ⟨w.heap.size, 4, none⟩ = some (.string ⟨#[]⟩) := kr2.cell 4
  have rf4 : w1.frozen? ⟨w.heap.size, 4, none⟩ = false := kr2.frozen 4
  have pc5 : w1.cell? ⟨w.heap.size + 1, 5, none⟩ = some (.bool false) := k2.cell 5
  have pf5 : w1.frozen? ⟨w.heap.size + 1, 5, none⟩ = false := k2.frozen 5
  have rc5 : w1.cell? ⟨w.heap.size, 5, none⟩ = some (.bool false) := kr2.cell 5
  have rf5 : w1.frozen? ⟨w.heap.size, 5, none⟩ = false := kr2.frozen 5
  have pc6 : w1.cell? ⟨w.heap.size + 1, 6, none⟩ = some (.bool false) := k2.cell 6
  have pf6 : w1.frozen? ⟨w.heap.size + 1, 6, none⟩ = false := k2.frozen 6
  have rc6 : w1.cell? ⟨w.heap.size, 6, none⟩ = some (.bool false) := kr2.cell 6
  have rf6 : w1.frozen? ⟨w.heap.size, 6, none⟩ = false := kr2.frozen 6
  have pc7 : w1.cell? ⟨w.heap.size + 1, 7, none⟩ = some (.bool false) := k2.cell 7
  have pf7 : w1.frozen? ⟨w.heap.size + 1, 7, none⟩ = false := k2.frozen 7
  have rc7 : w1.cell? ⟨w.heap.size, 7, none⟩ = some (.bool false) := kr2.cell 7
  have rf7 : w1.frozen? ⟨w.heap.size, 7, none⟩ = false := kr2.frozen 7
  have pc8 : w1.cell? ⟨w.heap.size + 1, 8, none⟩ = some (.bool false) := k2.cell 8
  have pf8 : w1.frozen? ⟨w.heap.size + 1, 8, none⟩ = false := k2.frozen 8
  have rc8 : w1.cell? ⟨w.heap.size, 8, none⟩ = some (.bool false) := kr2.cell 8
  have rf8 : w1.frozen? ⟨w.heap.size, 8, none⟩ = false := kr2.frozen 8
  have KR2 := hide kr2
  clear k2 kr2
  go_wp2_with fail
  refine (unhide HC3 _).mono ?_
  rintro e1 w4 ⟨rfl, hw4⟩
  subst hw4
  go_wp2_with fail
  refine (unhide HC4 _).mono ?_
  rintro e1 w4 ⟨rfl, hw4⟩
  subst hw4
  go_wp2
  have kk := (((((((((((((unhide KR2).away (show w.heap.size ≠ w.heap.size + 1 by omega) (.bool true) (o := 7)).away (show w.heap.size ≠ w.heap.size + 1 by omega) (.string QU) (o := 3)).away (show w.heap.size ≠ w.heap.size + 1 by omega) (.string X3) (o := 2)).set 0 (by simp) (.string ⟨#[]⟩)).set 1 (by simp) (.string ⟨#[]⟩)).set 2 (by simp) (.string X3)).set 3 (by simp) (.string QU)).set 4 (by simp) (.string ⟨#[]⟩)).set 5 (by simp) (.bool false)).set 6 (by simp) (.bool false)).set 7 (by simp) (.bool true)).set 8 (by simp) (.bool false))
  have dd0 := kk.cell 0
  have dd1 := kk.cell 1
  have dd2 := kk.cell 2
  have dd3 := kk.cell 3
  have dd4 := kk.cell 4
  have dd5 := kk.cell 5
  have dd6 := kk.cell 6
  have dd7 := kk.cell 7
  have dd8 := kk.cell 8
  exact bodyPost_ret (v := .agg #[.string ⟨#[]⟩, .string ⟨#[]⟩, .string X3, .string QU, .string ⟨#[]⟩, .bool false, .bool false, .bool true, .bool false]) (by simp [results, Try.results52, go_sem, dd0, dd1, dd2, dd3, dd4, dd5, dd6, dd7, dd8]) rfl ⟨rfl, ((((((((((((hb2.setCell (by simp) _).setCell (by simp) _).setCell (by simp) _).setCell (by simp) _).setCell (by simp) _).setCell (by simp) _).setCell (by simp) _).setCell (by simp) _).setCell (by simp) _).setCell (by simp) _).setCell (by simp) _).setCell (by simp) _)⟩

set_option maxHeartbeats 2000000 in
set_option maxRecDepth 20000 in
theorem rsp_0012 (S X0 X1 X2 X3 L1 LL MA QU HO PA P2 Z : ByteArray) (n m q h : Nat) (w : World)
    (z0 : X0.size ≤ 100000)
    (z3 : X3.size ≤ 100000)
    (C0 : ∀ w, Calls Try.prog 68 #[.string S] w fun e w' => e = .returned (.string X0) ∧ Below w.heap.size w w')
    (C1 : ∀ w, Calls Try.prog 69 #[.string X0] w fun e w' => e = .returned (.int .i64 0) ∧ w' = w)
    (C3 : ∀ w, Calls Try.prog 70 #[.string X0, .int .u8 35, .int .u8 35] w fun e w' => e = .returned (.int .i64 (m : Int)) ∧ w' = w)
    (b1 : ¬ m < X0.size)
    (C4 : ∀ w, Calls Try.prog 70 #[.string X0, .int .u8 63, .int .u8 63] w fun e w' => e = .returned (.int .i64 (q : Int)) ∧ w' = w)
    (c1 : (q : Int) + 1 ≤ (X0.size : Int))
    (c2 : X0.extract (q + 1) X0.size = QU)
    (c3 : X0.extract 0 q = X3)
    (d1 : (1 : Int) < (X3.size : Int))
    (d2 : X3.extract 0 2 = P2)
    (d3 : (P2.toList == [47, 47]) = true)
    (d4 : X3.extract 2 X3.size = Z)
    (C5 : ∀ w, Calls Try.prog 70 #[.string Z, .int .u8 47, .int .u8 92] w fun e w' => e = .returned (.int .i64 (h : Int)) ∧ w' = w)
    (d5 : (2 : Int) + (h : Int) ≤ (X3.size : Int))
    (d6 : X3.extract 2 (2 + h) = HO)
    (d7 : X3.extract (2 + h) X3.size = PA) :
    Calls Try.prog 52 #[.string S] w fun e w' => e = .returned (.agg #[.string ⟨#[]⟩, .string HO, .string PA, .string QU, .string ⟨#[]⟩, .bool false, .bool true, .bool true, .bool false]) ∧ Below w.heap.size w w' := by
  have HC0 := hide C0
  have HC1 := hide C1
  have HC3 := hide C3
  have HC4 := hide C4
  have HC5 := hide C5
  clear C0 C1 C3 C4 C5
  have c0 : (q : Int) < (X0.size : Int) := by omega
  have c5 : (q : Int) ≤ (X0.size : Int) := by omega
  have d0 : (2 : Int) ≤ (X3.size : Int) := by omega
  have d8 : (0 : Int) ≤ (2 : Int) + (h : Int) := by omega
  have d9 : (2 : Int) ≤ (2 : Int) + (h : Int) := by omega
  have e1 : ((2 : Int) + (h : Int)).toNat = 2 + h := by omega
  have kR : Hid (Blk ((w.alloc (Obj.cells #[.string ⟨#[]⟩, .string ⟨#[]⟩, .string ⟨#[]⟩, .string ⟨#[]⟩, .string ⟨#[]⟩, .bool false, .bool false, .bool false, .bool false] 86)).alloc (Obj.cells #[.string ⟨#[]⟩, .string ⟨#[]⟩, .string ⟨#[]⟩, .string ⟨#[]⟩, .string ⟨#[]⟩, .bool false, .bool false, .bool false, .bool false] 86)) w.heap.size #[.string ⟨#[]⟩, .string ⟨#[]⟩, .string ⟨#[]⟩, .string ⟨#[]⟩, .string ⟨#[]⟩, .bool false, .bool false, .bool false, .bool false] 86) := hide ((Blk.new w _ _).alloc _)
  have kB : Hid (Blk ((w.alloc (Obj.cells #[.string ⟨#[]⟩, .string ⟨#[]⟩, .string ⟨#[]⟩, .string ⟨#[]⟩, .string ⟨#[]⟩, .bool false, .bool false, .bool false, .bool false] 86)).alloc (Obj.cells #[.string ⟨#[]⟩, .string ⟨#[]⟩, .string ⟨#[]⟩, .string ⟨#[]⟩, .string ⟨#[]⟩, .bool false, .bool false, .bool false, .bool false] 86)) (w.heap.size + 1) #[.string ⟨#[]⟩, .string ⟨#[]⟩, .string ⟨#[]⟩, .string ⟨#[]⟩, .string ⟨#[]⟩, .bool false, .bool false, .bool false, .bool false] 86) := hide (Eq.mp (by simp) (Blk.new (w.alloc (Obj.cells #[.string ⟨#[]⟩, .string ⟨#[]⟩, .string ⟨#[]⟩, .string ⟨#[]⟩, .string ⟨#[]⟩, .bool false, .bool false, .bool false, .bool false] 86)) #[.string ⟨#[]⟩, .string ⟨#[]⟩, .string ⟨#[]⟩, .string ⟨#[]⟩, .string ⟨#[]⟩, .bool false, .bool false, .bool false, .bool false] 86))
  go_enter Try.func52, Try.ntmps52
  go_wp2_with fail
  refine (unhide HC0 _).mono ?_
  rintro e1 w1 ⟨rfl, hb⟩
  have kR1 := hide ((unhide kR).later hb)
  have kB1 := hide ((unhide kB).later hb)
  have hb1 : Below w.heap.size w w1 := (((Below.refl _ w).alloc (Nat.le_refl _) _).alloc (by simp) _).trans (hb.mono (by simp; omega))
  clear hb kR kB
  go_wp2_with fail
  refine (unhide HC1 _).mono ?_
  rintro e1 w2 ⟨rfl, hw2⟩
  obtain rfl : w1 = w2 := hw2.symm
  clear hw2
  have kr2 := unhide kR1
  have k2 := unhide kB1
  have hb2 := hb1
  clear kR1 kB1 hb1
  have pc0 : w1.cell? ⟨w.heap.size + 1, 0, none⟩ = some (.string ⟨#[]⟩) := k2.cell 0
  have pf0 : w1.frozen? ⟨w.heap.size + 1, 0, none⟩ = false := k2.frozen 0
  have rc0 : w1.cell? ⟨w.heap.size, 0, none⟩ = some (.string ⟨#[]⟩) := kr2.cell 0
  have rf0 : w1.frozen? ⟨w.heap.size, 0, none⟩ = false := kr2.frozen 0
  have pc1 : w1.cell? ⟨w.heap.size + 1, 1, none⟩ = some (.string ⟨#[]⟩) := k2.cell 1
  have pf1 : w1.frozen? ⟨w.heap.size + 1, 1, none⟩ = false := k2.frozen 1
  have rc1 : w1.cell? ⟨w.heap.size, 1, none⟩ = some (.string ⟨#[]⟩) := kr2.cell 1
  have rf1 : w1.frozen? ⟨w.heap.size, 1, none⟩ = false := kr2.frozen 1
  have pc2 : w1.cell? ⟨w.heap.size + 1, 2, none⟩ = some (.string ⟨#[]⟩) := k2.cell 2
  have pf2 : w1.frozen? ⟨w.heap.size + 1, 2, none⟩ = false := k2.frozen 2
  have rc2 : w1.cell? ⟨w.heap.size, 2, none⟩ = some (.string ⟨#[]⟩) := kr2.cell 2
  have rf2 : w1.frozen? ⟨w.heap.size, 2, none⟩ = false := kr2.frozen 2
  have pc3 : w1.cell? ⟨w.heap.size + 1, 3, none⟩ = some (.string ⟨#[]⟩) := k2.cell 3
  have pf3 : w1.frozen? ⟨w.heap.size + 1, 3, none⟩ = false := k2.frozen 3
  have rc3 : w1.cell? ⟨w.heap.size, 3, none⟩ = some (.string ⟨#[]⟩) := kr2.cell 3
  have rf3 : w1.frozen? ⟨w.heap.size, 3, none⟩ = false := kr2.frozen 3
  have pc4 : w1.cell? ⟨w.heap.size + 1, 4, none⟩ = some (.string ⟨#[]⟩) := k2.cell 4
  have pf4 : w1.frozen? ⟨w.heap.size + 1, 4, none⟩ = false := k2.frozen 4
  have rc4 : w1.cell? ⟨w.heap.size, 4, none⟩ = some (.string ⟨#[]⟩) := kr2.cell 4
  have rf4 : w1.frozen? ⟨w.heap.size, 4, none⟩ = false := kr2.frozen 4
  have pc5 : w1.cell? ⟨w.heap.size + 1, 5, none⟩ = some (.bool false) := k2.cell 5
  have pf5 : w1.frozen? ⟨w.heap.size + 1, 5, none⟩ = false := k2.frozen 5
  have rc5 : w1.cell? ⟨w.heap.size, 5, none⟩ = some (.bool false) := kr2.cell 5
  have rf5 : w1.frozen? ⟨w.heap.size, 5, none⟩ = false := kr2.frozen 5
  have pc6 : w1.cell? ⟨w.heap.size + 1, 6, none⟩ = some (.bool false) := k2.cell 6
  have pf6 : w1.frozen? ⟨w.heap.size + 1, 6, none⟩ = false := k2.frozen 6
  have rc6 : w1.cell? ⟨w.heap.size, 6, none⟩ = some (.bool false) := kr2.cell 6
  have rf6 : w1.frozen? ⟨w.heap.size, 6, none⟩ = false := kr2.frozen 6
  have pc7 : w1.cell? ⟨w.heap.size + 1, 7, none⟩ = some (.bool false) := k2.cell 7
  have pf7 : w1.frozen? ⟨w.heap.size + 1, 7, none⟩ = false := k2.frozen 7
  have rc7 : w1.cell? ⟨w.heap.size, 7, none⟩ = some (.bool false) := kr2.cell 7
  have rf7 : w1.frozen? ⟨w.heap.size, 7, none⟩ = false := kr2.frozen 7
  have pc8 : w1.cell? ⟨w.heap.size + 1, 8, none⟩ = some (.bool false) := k2.cell 8
  have pf8 : w1.frozen? ⟨w.heap.size + 1, 8, none⟩ = false := k2.frozen 8
  have rc8 : w1.cell? ⟨w.heap.size, 8, none⟩ = some (.bool false) := kr2.cell 8
  have rf8 : w1.frozen? ⟨w.heap.size, 8, none⟩ = false := kr2.frozen 8
  have KR2 := hide kr2
  clear k2 kr2
  go_wp2_with fail
  refine (unhide HC3 _).mono ?_
  rintro e1 w4 ⟨rfl, hw4⟩
  subst hw4
  go_wp2_with fail
  refine (unhide HC4 _).mono ?_
  rintro e1 w4 ⟨rfl, hw4⟩
  subst hw4
  go_wp2_with fail
  refine (unhide HC5 _).mono ?_
  rintro e1 w4 ⟨rfl, hw4⟩
  subst hw4
  go_wp2
  have kk := (((((((((((((((unhide KR2).away (show w.heap.size ≠ w.heap.size + 1 by omega) (.bool true) (o := 7)).away (show w.heap.size ≠ w.heap.size + 1 by omega) (.string QU) (o := 3)).away (show w.heap.size ≠ w.heap.size + 1 by omega) (.bool true) (o := 6)).away (show w.heap.size ≠ w.heap.size + 1 by omega) (.string HO) (o := 1)).away (show w.heap.size ≠ w.heap.size + 1 by omega) (.string PA) (o := 2)).set 0 (by simp) (.string ⟨#[]⟩)).set 1 (by simp) (.string HO)).set 2 (by simp) (.string PA)).set 3 (by simp) (.string QU)).set 4 (by simp) (.string ⟨#[]⟩)).set 5 (by simp) (.bool false)).set 6 (by simp) (.bool true)).set 7 (by simp) (.bool true)).set 8 (by simp) (.bool false))
  have dd0 := kk.cell 0
  have dd1 := kk.cell 1
  have dd2 := kk.cell 2
  have dd3 := kk.cell 3
  have dd4 := kk.cell 4
  have dd5 := kk.cell 5
  have dd6 := kk.cell 6
  have dd7 := kk.cell 7
  have dd8 := kk.cell 8
  exact bodyPost_ret (v := .agg #[.string ⟨#[]⟩, .string HO, .string PA, .string QU, .string ⟨#[]⟩, .bool false, .bool true, .bool true, .bool false]) (by simp [results, Try.results52, go_sem, dd0, dd1, dd2, dd3, dd4, dd5, dd6, dd7, dd8]) rfl ⟨rfl, ((((((((((((((hb2.setCell (by simp) _).setCell (by simp) _).setCell (by simp) _).setCell (by simp) _).setCell (by simp) _).setCell (by simp) _).setCell (by simp) _).setCell (by simp) _).setCell (by simp) _).setCell (by simp) _).setCell (by simp) _).setCell (by simp) _).setCell (by simp) _).setCell (by simp) _)⟩
end Go.Proofs.Ytfdhmhdemfbfeaa

/-
  The reference's Split of layer 15: one way after another (ways 01).
-/
namespace Go.Proofs.Ytfdhmhdemfbfeaa
open Go.RowKit
set_option linter.unusedVariables false

set_option maxHeartbeats 2000000 in
set_option maxRecDepth 20000 in
theorem rsp_0100 (S X0 X1 X2 X3 L1 LL MA QU HO PA P2 Z : ByteArray) (n m q h : Nat) (w : World)
    (z0 : X0.size ≤ 100000)
    (z2 : X2.size ≤ 100000)
    (C0 : ∀ w, Calls Try.prog 68 #[.string S] w fun e w' => e = .returned (.string X0) ∧ Below w.heap.size w w')
    (C1 : ∀ w, Calls Try.prog 69 #[.string X0] w fun e w' => e = .returned (.int .i64 0) ∧ w' = w)
    (C3 : ∀ w, Calls Try.prog 70 #[.string X0, .int .u8 35, .int .u8 35] w fun e w' => e = .returned (.int .i64 (m : Int)) ∧ w' = w)
    (b1 : (m : Int) + 1 ≤ (X0.size : Int))
    (b2 : X0.extract (m + 1) X0.size = MA)
    (b3 : X0.extract 0 m = X2)
    (C4 : ∀ w, Calls Try.prog 70 #[.string X2, .int .u8 63, .int .u8 63] w fun e w' => e = .returned (.int .i64 (q : Int)) ∧ w' = w)
    (c1 : ¬ q < X2.size)
    (d1 : ¬ 1 < X2.size) :
    Calls Try.prog 52 #[.string S] w fun e w' => e = .returned (.agg #[.string ⟨#[]⟩, .string ⟨#[]⟩, .string X2, .string ⟨#[]⟩, .string MA, .bool false, .bool false, .bool false, .bool true]) ∧ Below w.heap.size w w' := by
  have HC0 := hide C0
  have HC1 := hide C1
  have HC3 := hide C3
  have HC4 := hide C4
  clear C0 C1 C3 C4
  have b0 : (m : Int) < (X0.size : Int) := by omega
  have b5 : (m : Int) ≤ (X0.size : Int) := by omega
  have kR : Hid (Blk ((w.alloc (Obj.cells #[.string ⟨#[]⟩, .string ⟨#[]⟩, .string ⟨#[]⟩, .string ⟨#[]⟩, .string ⟨#[]⟩, .bool false, .bool false, .bool false, .bool false] 86)).alloc (Obj.cells #[.string ⟨#[]⟩, .string ⟨#[]⟩, .string ⟨#[]⟩, .string ⟨#[]⟩, .string ⟨#[]⟩, .bool false, .bool false, .bool false, .bool false] 86)) w.heap.size #[.string ⟨#[]⟩, .string ⟨#[]⟩, .string ⟨#[]⟩, .string ⟨#[]⟩, .string ⟨#[]⟩, .bool false, .bool false, .bool false, .bool false] 86) := hide ((Blk.new w _ _).alloc _)
  have kB : Hid (Blk ((w.alloc (Obj.cells #[.string ⟨#[]⟩, .string ⟨#[]⟩, .string ⟨#[]⟩, .string ⟨#[]⟩, .string ⟨#[]⟩, .bool false, .bool false, .bool false, .bool false] 86)).alloc (Obj.cells #[.string ⟨#[]⟩, .string ⟨#[]⟩, .string ⟨#[]⟩, .string ⟨#[]⟩, .string ⟨#[]⟩, .bool false, .bool false, .bool false, .bool false] 86)) (w.heap.size + 1) #[.string ⟨#[]⟩, .string ⟨#[]⟩, .string ⟨#[]⟩, .string ⟨#[]⟩, .string ⟨#[]⟩, .bool false, .bool false, .bool false, .bool false] 86) := hide (Eq.mp (by simp) (Blk.new (w.alloc (Obj.cells #[.string ⟨#[]⟩, .string ⟨#[]⟩, .string ⟨#[]⟩, .string ⟨#[]⟩, .string ⟨#[]⟩, .bool false, .bool false, .bool false, .bool false] 86)) #[.string ⟨#[]⟩, .string ⟨#[]⟩, .string ⟨#[]⟩, .string ⟨#[]⟩, .string ⟨#[]⟩, .bool false, .bool false, .bool false, .bool false] 86))
  go_enter Try.func52, Try.ntmps52
  go_wp2_with fail
  refine (unhide HC0 _).mono ?_
  rintro e1 w1 ⟨rfl, hb⟩
  have kR1 := hide ((unhide kR).later hb)
  have kB1 := hide ((unhide kB).later hb)
  have hb1 : Below w.heap.size w w1 := (((Below.refl _ w).alloc (Nat.le_refl _) _).alloc (by simp) _).trans (hb.mono (by simp; omega))
  clear hb kR kB
  go_wp2_with fail
  refine (unhide HC1 _).mono ?_
  rintro e1 w2 ⟨rfl, hw2⟩
  obtain rfl : w1 = w2 := hw2.symm
  clear hw2
  have kr2 := unhide kR1
  have k2 := unhide kB1
  have hb2 := hb1
  clear kR1 kB1 hb1
  have pc0 : w1.cell? ⟨w.heap.size + 1, 0, none⟩ = some (.string ⟨#[]⟩) := k2.cell 0
  have pf0 : w1.frozen? ⟨w.heap.size + 1, 0, none⟩ = false := k2.frozen 0
  have rc0 : w1.cell? ⟨w.heap.size, 0, none⟩ = some (.string ⟨#[]⟩) := kr2.cell 0
  have rf0 : w1.frozen? ⟨w.heap.size, 0, none⟩ = false := kr2.frozen 0
  have pc1 : w1.cell? ⟨w.heap.size + 1, 1, none⟩ = some (.string ⟨#[]⟩) := k2.cell 1
  have pf1 : w1.frozen? ⟨w.heap.size + 1, 1, none⟩ = false := k2.frozen 1
  have rc1 : w1.cell? ⟨w.heap.size, 1, none⟩ = some (.string ⟨#[]⟩) := kr2.cell 1
  have rf1 : w1.frozen? ⟨w.heap.size, 1, none⟩ = false := kr2.frozen 1
  have pc2 : w1.cell? ⟨w.heap.size + 1, 2, none⟩ = some (.string ⟨#[]⟩) := k2.cell 2
  have pf2 : w1.frozen? ⟨w.heap.size + 1, 2, none⟩ = false := k2.frozen 2
  have rc2 : w1.cell? ⟨w.heap.size, 2, none⟩ = some (.string ⟨#[]⟩) := kr2.cell 2
  have rf2 : w1.frozen? ⟨w.heap.size, 2, none⟩ = false := kr2.frozen 2
  have pc3 : w1.cell? ⟨w.heap.size + 1, 3, none⟩ = some (.string ⟨#[]⟩) := k2.cell 3
  have pf3 : w1.frozen? ⟨w.heap.size + 1, 3, none⟩ = false := k2.frozen 3
  have rc3 : w1.cell? ⟨w.heap.size, 3, none⟩ = some (.string ⟨#[]⟩) := kr2.cell 3
  have rf3 : w1.frozen? ⟨w.heap.size, 3, none⟩ = false := kr2.frozen 3
  have pc4 : w1.cell? ⟨w.heap.size + 1, 4, none⟩ = some (.string ⟨#[]⟩) := k2.cell 4
  have pf4 : w1.frozen? ⟨w.heap.size + 1, 4, none⟩ = false := k2.frozen 4
  have rc4 : w1.cell? ⟨w.heap.size, 4, none⟩ = some (.string ⟨#[]⟩) := kr2.cell 4
  have rf4 : w1.frozen? ⟨w.heap.size, 4, none⟩ = false := kr2.frozen 4
  have pc5 : w1.cell? ⟨w.heap.size + 1, 5, none⟩ = some (.bool false) := k2.cell 5
  have pf5 : w1.frozen? ⟨w.heap.size + 1, 5, none⟩ = false := k2.frozen 5
  have rc5 : w1.cell? ⟨w.heap.size, 5, none⟩ = some (.bool false) := kr2.cell 5
  have rf5 : w1.frozen? ⟨w.heap.size, 5, none⟩ = false := kr2.frozen 5
  have pc6 : w1.cell? ⟨w.heap.size + 1, 6, none⟩ = some (.bool false) := k2.cell 6
  have pf6 : w1.frozen? ⟨w.heap.size + 1, 6, none⟩ = false := k2.frozen 6
  have rc6 : w1.cell? ⟨w.heap.size, 6, none⟩ = some (.bool false) := kr2.cell 6
  have rf6 : w1.frozen? ⟨w.heap.size, 6, none⟩ = false := kr2.frozen 6
  have pc7 : w1.cell? ⟨w.heap.size + 1, 7, none⟩ = some (.bool false) := k2.cell 7
  have pf7 : w1.frozen? ⟨w.heap.size + 1, 7, none⟩ = false := k2.frozen 7
  have rc7 : w1.cell? ⟨w.heap.size, 7, none⟩ = some (.bool false) := kr2.cell 7
  have rf7 : w1.frozen? ⟨w.heap.size, 7, none⟩ = false := kr2.frozen 7
  have pc8 : w1.cell? ⟨w.heap.size + 1, 8, none⟩ = some (.bool false) := k2.cell 8
  have pf8 : w1.frozen? ⟨w.heap.size + 1, 8, none⟩ = false := k2.frozen 8
  have rc8 : w1.cell? ⟨w.heap.size, 8, none⟩ = some (.bool false) := kr2.cell 8
  have rf8 : w1.frozen? ⟨w.heap.size, 8, none⟩ = false := kr2.frozen 8
  have KR2 := hide kr2
  clear k2 kr2
  go_wp2_with fail
  refine (unhide HC3 _).mono ?_
  rintro e1 w4 ⟨rfl, hw4⟩
  subst hw4
  go_wp2_with fail
  refine (unhide HC4 _).mono ?_
  rintro e1 w4 ⟨rfl, hw4⟩
  subst hw4
  go_wp2
  have kk := (((((((((((((unhide KR2).away (show w.heap.size ≠ w.heap.size + 1 by omega) (.bool true) (o := 8)).away (show w.heap.size ≠ w.heap.size + 1 by omega) (.string MA) (o := 4)).away (show w.heap.size ≠ w.heap.size + 1 by omega) (.string X2) (o := 2)).set 0 (by simp) (.string ⟨#[]⟩)).set 1 (by simp) (.string ⟨#[]⟩)).set 2 (by simp) (.string X2)).set 3 (by simp) (.string ⟨#[]⟩)).set 4 (by simp) (.string MA)).set 5 (by simp) (.bool false)).set 6 (by simp) (.bool false)).set 7 (by simp) (.bool false)).set 8 (by simp) (.bool true))
  have dd0 := kk.cell 0
  have dd1 := kk.cell 1
  have dd2 := kk.cell 2
  have dd3 := kk.cell 3
  have dd4 := kk.cell 4
  have dd5 := kk.cell 5
  have dd6 := kk.cell 6
  have dd7 := kk.cell 7
  have dd8 := kk.cell 8
  exact bodyPost_ret (v := .agg #[.string ⟨#[]⟩, .string ⟨#[]⟩, .string X2, .string ⟨#[]⟩, .string MA, .bool false, .bool false, .bool false, .bool true]) (by simp [results, Try.results52, go_sem, dd0, dd1, dd2, dd3, dd4, dd5, dd6, dd7, dd8]) rfl ⟨rfl, ((((((((((((hb2.setCell (by simp) _).setCell (by simp) _).setCell (by simp) _).setCell (by simp) _).setCell (by simp) _).setCell (by simp) _).setCell (by simp) _).setCell (by simp) _).setCell (by simp) _).setCell (by simp) _).setCell (by simp) _).setCell (by simp) _)⟩

set_option maxHeartbeats 2000000 in
set_option maxRecDepth 20000 in
theorem rsp_0101 (S X0 X1 X2 X3 L1 LL MA QU HO PA P2 Z : ByteArray) (n m q h : Nat) (w : World)
    (z0 : X0.size ≤ 100000)
    (z2 : X2.size ≤ 100000)
    (C0 : ∀ w, Calls Try.prog 68 #[.string S] w fun e w' => e = .returned (.string X0) ∧ Below w.heap.size w w')
    (C1 : ∀ w, Calls Try.prog 69 #[.string X0] w fun e w' => e = .returned (.int .i64 0) ∧ w' = w)
    (C3 : ∀ w, Calls Try.prog 70 #[.string X0, .int .u8 35, .int .u8 35] w fun e w' => e = .returned (.int .i64 (m : Int)) ∧ w' = w)
    (b1 : (m : Int) + 1 ≤ (X0.size : Int))
    (b2 : X0.extract (m + 1) X0.size = MA)
    (b3 : X0.extract 0 m = X2)
    (C4 : ∀ w, Calls Try.prog 70 #[.string X2, .int .u8 63, .int .u8 63] w fun e w' => e = .returned (.int .i64 (q : Int)) ∧ w' = w)
    (c1 : ¬ q < X2.size)
    (d1 : (1 : Int) < (X2.size : Int))
    (d2 : X2.extract 0 2 = P2)
    (d3 : (P2.toList == [47, 47]) = false) :
    Calls Try.prog 52 #[.string S] w fun e w' => e = .returned (.agg #[.string ⟨#[]⟩, .string ⟨#[]⟩, .string X2, .string ⟨#[]⟩, .string MA, .bool false, .bool false, .bool false, .bool true]) ∧ Below w.heap.size w w' := by
  have HC0 := hide C0
  have HC1 := hide C1
  have HC3 := hide C3
  have HC4 := hide C4
  clear C0 C1 C3 C4
  have b0 : (m : Int) < (X0.size : Int) := by omega
  have b5 : (m : Int) ≤ (X0.size : Int) := by omega
  have d0 : (2 : Int) ≤ (X2.size : Int) := by omega
  have kR : Hid (Blk ((w.alloc (Obj.cells #[.string ⟨#[]⟩, .string ⟨#[]⟩, .string ⟨#[]⟩, .string ⟨#[]⟩, .string ⟨#[]⟩, .bool false, .bool false, .bool false, .bool false] 86)).alloc (Obj.cells #[.string ⟨#[]⟩, .string ⟨#[]⟩, .string ⟨#[]⟩, .string ⟨#[]⟩, .string ⟨#[]⟩, .bool false, .bool false, .bool false, .bool false] 86)) w.heap.size #[.string ⟨#[]⟩, .string ⟨#[]⟩, .string ⟨#[]⟩, .string ⟨#[]⟩, .string ⟨#[]⟩, .bool false, .bool false, .bool false, .bool false] 86) := hide ((Blk.new w _ _).alloc _)
  have kB : Hid (Blk ((w.alloc (Obj.cells #[.string ⟨#[]⟩, .string ⟨#[]⟩, .string ⟨#[]⟩, .string ⟨#[]⟩, .string ⟨#[]⟩, .bool false, .bool false, .bool false, .bool false] 86)).alloc (Obj.cells #[.string ⟨#[]⟩, .string ⟨#[]⟩, .string ⟨#[]⟩, .string ⟨#[]⟩, .string ⟨#[]⟩, .bool false, .bool false, .bool false, .bool false] 86)) (w.heap.size + 1) #[.string ⟨#[]⟩, .string ⟨#[]⟩, .string ⟨#[]⟩, .string ⟨#[]⟩, .string ⟨#[]⟩, .bool false, .bool false, .bool false, .bool false] 86) := hide (Eq.mp (by simp) (Blk.new (w.alloc (Obj.cells #[.string ⟨#[]⟩, .string ⟨#[]⟩, .string ⟨#[]⟩, .string ⟨#[]⟩, .string ⟨#[]⟩, .bool false, .bool false, .bool false, .bool false] 86)) #[.string ⟨#[]⟩, .string ⟨#[]⟩, .string ⟨#[]⟩, .string ⟨#[]⟩, .string ⟨#[]⟩, .bool false, .bool false, .bool false, .bool false] 86))
  go_enter Try.func52, Try.ntmps52
  go_wp2_with fail
  refine (unhide HC0 _).mono ?_
  rintro e1 w1 ⟨rfl, hb⟩
  have kR1 := hide ((unhide kR).later hb)
  have kB1 := hide ((unhide kB).later hb)
  have hb1 : Below w.heap.size w w1 := (((Below.refl _ w).alloc (Nat.le_refl _) _).alloc (by simp) _).trans (hb.mono (by simp; omega))
  clear hb kR kB
  go_wp2_with fail
  refine (unhide HC1 _).mono ?_
  rintro e1 w2 ⟨rfl, hw2⟩
  obtain rfl : w1 = w2 := hw2.symm
  clear hw2
  have kr2 := unhide kR1
  have k2 := unhide kB1
  have hb2 := hb1
  clear kR1 kB1 hb1
  have pc0 : w1.cell? ⟨w.heap.size + 1, 0, none⟩ = some (.string ⟨#[]⟩) := k2.cell 0
  have pf0 : w1.frozen? ⟨w.heap.size + 1, 0, none⟩ = false := k2.frozen 0
  have rc0 : w1.cell? ⟨w.heap.size, 0, none⟩ = some (.string ⟨#[]⟩) := kr2.cell 0
  have rf0 : w1.frozen? ⟨w.heap.size, 0, none⟩ = false := kr2.frozen 0
  have pc1 : w1.cell? ⟨w.heap.size + 1, 1, none⟩ = some (.string ⟨#[]⟩) := k2.cell 1
  have pf1 : w1.frozen? ⟨w.heap.size + 1, 1, none⟩ = false := k2.frozen 1
  have rc1 : w1.cell? ⟨w.heap.size, 1, none⟩ = some (.string ⟨#[]⟩) := kr2.cell 1
  have rf1 : w1.frozen? ⟨w.heap.size, 1, none⟩ = false := kr2.frozen 1
  have pc2 : w1.cell? ⟨w.heap.size + 1, 2, none⟩ = some (.string ⟨#[]⟩) := k2.cell 2
  have pf2 : w1.frozen? ⟨w.heap.size + 1, 2, none⟩ = false := k2.frozen 2
  have rc2 : w1.cell? ⟨w.heap.size, 2, none⟩ = some (.string ⟨#[]⟩) := kr2.cell 2
  have rf2 : w1.frozen? ⟨w.heap.size, 2, none⟩ = false := kr2.frozen 2
  have pc3 : w1.cell? ⟨w.heap.size + 1, 3, none⟩ = some (.string ⟨#[]⟩) := k2.cell 3
  have pf3 : w1.frozen? ⟨w.heap.size + 1, 3, none⟩ = false := k2.frozen 3
  have rc3 : w1.cell? ⟨w.heap.size, 3, none⟩ = some (.string ⟨#[]⟩) := kr2.cell 3
  have rf3 : w1.frozen? ⟨w.heap.size, 3, none⟩ = false := kr2.frozen 3
  have pc4 : w1.cell? ⟨w.heap.size + 1, 4, none⟩ = some (.string ⟨#[]⟩) := k2.cell 4
  have pf4 : w1.frozen? ⟨w.heap.size + 1, 4, none⟩ = false := k2.frozen 4
  have rc4 : w1.cell? ⟨w.heap.size, 4, none⟩ = some (.string ⟨#[]⟩) := kr2.cell 4
  have rf4 : w1.frozen? ⟨w.heap.size, 4, none⟩ = false := kr2.frozen 4
  have pc5 : w1.cell? ⟨w.heap.size + 1, 5, none⟩ = some (.bool false) := k2.cell 5
  have pf5 : w1.frozen? ⟨w.heap.size + 1, 5, none⟩ = false := k2.frozen 5
  have rc5 : w1.cell? ⟨w.heap.size, 5, none⟩ = some (.bool false) := kr2.cell 5
  have rf5 : w1.frozen? ⟨w.heap.size, 5, none⟩ = false := kr2.frozen 5
  have pc6 : w1.cell? ⟨w.heap.size + 1, 6, none⟩ = some (.bool false) := k2.cell 6
  have pf6 : w1.frozen? ⟨w.heap.size + 1, 6, none⟩ = false := k2.frozen 6
  have rc6 : w1.cell? ⟨w.heap.size, 6, none⟩ = some (.bool false) := kr2.cell 6
  have rf6 : w1.frozen? ⟨w.heap.size, 6, none⟩ = false := kr2.frozen 6
  have pc7 : w1.cell? ⟨w.heap.size + 1, 7, none⟩ = some (.bool false) := k2.cell 7
  have pf7 : w1.frozen? ⟨w.heap.size + 1, 7, none⟩ = false := k2.frozen 7
  have rc7 : w1.cell? ⟨w.heap.size, 7, none⟩ = some (.bool false) := kr2.cell 7
  have rf7 : w1.frozen? ⟨w.heap.size, 7, none⟩ = false := kr2.frozen 7
  have pc8 : w1.cell? ⟨w.heap.size + 1, 8, none⟩ = some (.bool false) := k2.cell 8
  have pf8 : w1.frozen? ⟨w.heap.size + 1, 8, none⟩ = false := k2.frozen 8
  have rc8 : w1.cell? ⟨w.heap.size, 8, none⟩ = some (.bool false) := kr2.cell 8
  have rf8 : w1.frozen? ⟨w.heap.size, 8, none⟩ = false := kr2.frozen 8
  have KR2 := hide kr2
  clear k2 kr2
  go_wp2_with fail
  refine (unhide HC3 _).mono ?_
  rintro e1 w4 ⟨rfl, hw4⟩
  subst hw4
  go_wp2_with fail
  refine (unhide HC4 _).mono ?_
  rintro e1 w4 ⟨rfl, hw4⟩
  subst hw4
  go_wp2
  have kk := (((((((((((((unhide KR2).away (show w.heap.size ≠ w.heap.size + 1 by omega) (.bool true) (o := 8)).away (show w.heap.size ≠ w.heap.size + 1 by omega) (.string MA) (o := 4)).away (show w.heap.size ≠ w.heap.size + 1 by omega) (.string X2) (o := 2)).set 0 (by simp) (.string ⟨#[]⟩)).set 1 (by simp) (.string ⟨#[]⟩)).set 2 (by simp) (.string X2)).set 3 (by simp) (.string ⟨#[]⟩)).set 4 (by simp) (.string MA)).set 5 (by simp) (.bool false)).set 6 (by simp) (.bool false)).set 7 (by simp) (.bool false)).set 8 (by simp) (.bool true))
  have dd0 := kk.cell 0
  have dd1 := kk.cell 1
  have dd2 := kk.cell 2
  have dd3 := kk.cell 3
  have dd4 := kk.cell 4
  have dd5 := kk.cell 5
  have dd6 := kk.cell 6
  have dd7 := kk.cell 7
  have dd8 := kk.cell 8
  exact bodyPost_ret (v := .agg #[.string ⟨#[]⟩, .string ⟨#[]⟩, .string X2, .string ⟨#[]⟩, .string MA, .bool false, .bool false, .bool false, .bool true]) (by simp [results, Try.results52, go_sem, dd0, dd1, dd2, dd3, dd4, dd5, dd6, dd7, dd8]) rfl ⟨rfl, ((((((((((((hb2.setCell (by simp) _).setCell (by simp) _).setCell (by simp) _).setCell (by simp) _).setCell (by simp) _).setCell (by simp) _).setCell (by simp) _).setCell (by simp) _).setCell (by simp) _).setCell (by simp) _).setCell (by simp) _).setCell (by simp) _)⟩

set_option maxHeartbeats 2000000 in
set_option maxRecDepth 20000 in
theorem rsp_0102 (S X0 X1 X2 X3 L1 LL MA QU HO PA P2 Z : ByteArray) (n m q h : Nat) (w : World)
    (z0 : X0.size ≤ 100000)
    (z2 : X2.size ≤ 100000)
    (C0 : ∀ w, Calls Try.prog 68 #[.string S] w fun e w' => e = .returned (.string X0) ∧ Below w.heap.size w w')
    (C1 : ∀ w, Calls Try.prog 69 #[.string X0] w fun e w' => e = .returned (.int .i64 0) ∧ w' = w)
    (C3 : ∀ w, Calls Try.prog 70 #[.string X0, .int .u8 35, .int .u8 35] w fun e w' => e = .returned (.int .i64 (m : Int)) ∧ w' = w)
    (b1 : (m : Int) + 1 ≤ (X0.size : Int))
    (b2 : X0.extract (m + 1) X0.size = MA)
    (b3 : X0.extract 0 m = X2)
    (C4 : ∀ w, Calls Try.prog 70 #[.string X2, .int .u8 63, .int .u8 63] w fun e w' => e = .returned (.int .i64 (q : Int)) ∧ w' = w)
    (c1 : ¬ q < X2.size)
    (d1 : (1 : Int) < (X2.size : Int))
    (d2 : X2.extract 0 2 = P2)
    (d3 : (P2.toList == [47, 47]) = true)
    (d4 : X2.extract 2 X2.size = Z)
    (C5 : ∀ w, Calls Try.prog 70 #[.string Z, .int .u8 47, .int .u8 92] w fun e w' => e = .returned (.int .i64 (h : Int)) ∧ w' = w)
    (d5 : (2 : Int) + (h : Int) ≤ (X2.size : Int))
    (d6 : X2.extract 2 (2 + h) = HO)
    (d7 : X2.extract (2 + h) X2.size = PA) :
    Calls Try.prog 52 #[.string S] w fun e w' => e = .returned (.agg #[.string ⟨#[]⟩, .string HO, .string PA, .string ⟨#[]⟩, .string MA, .bool false, .bool true, .bool false, .bool true]) ∧ Below w.heap.size w w' := by
  have HC0 := hide C0
  have HC1 := hide C1
  have HC3 := hide C3
  have HC4 := hide C4
  have HC5 := hide C5
  clear C0 C1 C3 C4 C5
  have b0 : (m : Int) < (X0.size : Int) := by omega
  have b5 : (m : Int) ≤ (X0.size : Int) := by omega
  have d0 : (2 : Int) ≤ (X2.size : Int) := by omega
  have d8 : (0 : Int) ≤ (2 : Int) + (h : Int) := by omega
  have d9 : (2 : Int) ≤ (2 : Int) + (h : Int) := by omega
  have e1 : ((2 : Int) + (h : Int)).toNat = 2 + h := by omega
  have kR : Hid (Blk ((w.alloc (Obj.cells #[.string ⟨#[]⟩, .string ⟨#[]⟩, .string ⟨#[]⟩, .string ⟨#[]⟩, .string ⟨#[]⟩, .bool false, .bool false, .bool false, .bool false] 86)).alloc (Obj.cells #[.string ⟨#[]⟩, .string ⟨#[]⟩, .string ⟨#[]⟩, .string ⟨#[]⟩, .string ⟨#[]⟩, .bool false, .bool false, .bool false, .bool false] 86)) w.heap.size #[.string ⟨#[]⟩, .string ⟨#[]⟩, .string ⟨#[]⟩, .string ⟨#[]⟩, .string ⟨#[]⟩, .bool false, .bool false, .bool false, .bool false] 86) := hide ((Blk.new w _ _).alloc _)
  have kB : Hid (Blk ((w.alloc (Obj.cells #[.string ⟨#[]⟩, .string ⟨#[]⟩, .string ⟨#[]⟩, .string ⟨#[]⟩, .string ⟨#[]⟩, .bool false, .bool false, .bool false, .bool false] 86)).alloc (Obj.cells #[.string ⟨#[]⟩, .string ⟨#[]⟩, .string ⟨#[]⟩, .string ⟨#[]⟩, .string ⟨#[]⟩, .bool false, .bool false, .bool false, .bool false] 86)) (w.heap.size + 1) #[.string ⟨#[]⟩, .string ⟨#[]⟩, .string ⟨#[]⟩, .string ⟨#[]⟩, .string ⟨#[]⟩, .bool false, .bool false, .bool false, .bool false] 86) := hide (Eq.mp (by simp) (Blk.new (w.alloc (Obj.cells #[.string ⟨#[]⟩, .string ⟨#[]⟩, .string ⟨#[]⟩, .string ⟨#[]⟩, .string ⟨#[]⟩, .bool false, .bool false, .bool false, .bool false] 86)) #[.string ⟨#[]⟩, .string ⟨#[]⟩, .string ⟨#[]⟩, .string ⟨#[]⟩, .string ⟨#[]⟩, .bool false, .bool false, .bool false, .bool false] 86))
  go_enter Try.func52, Try.ntmps52
  go_wp2_with fail
  refine (unhide HC0 _).mono ?_
  rintro e1 w1 ⟨rfl, hb⟩
  have kR1 := hide ((unhide kR).later hb)
  have kB1 := hide ((unhide kB).later hb)
  have hb1 : Below w.heap.size w w1 := (((Below.refl _ w).alloc (Nat.le_refl _) _).alloc (by simp) _).trans (hb.mono (by simp; omega))
  clear hb kR kB
  go_wp2_with fail
  refine (unhide HC1 _).mono ?_
  rintro e1 w2 ⟨rfl, hw2⟩
  obtain rfl : w1 = w2 := hw2.symm
  clear hw2
  have kr2 := unhide kR1
  have k2 := unhide kB1
  have hb2 := hb1
  clear kR1 kB1 hb1
  have pc0 : w1.cell? ⟨w.heap.size + 1, 0, none⟩ = some (.string ⟨#[]⟩) := k2.cell 0
  have pf0 : w1.frozen? ⟨w.heap.size + 1, 0, none⟩ = false := k2.frozen 0
  have rc0 : w1.cell? ⟨w.heap.size, 0, none⟩ = some (.string ⟨#[]⟩) := kr2.cell 0
  have rf0 : w1.frozen? ⟨w.heap.size, 0, none⟩ = false := kr2.frozen 0
  have pc1 : w1.cell? ⟨w.heap.size + 1, 1, none⟩ = some (.string ⟨#[]⟩) := k2.cell 1
  have pf1 : w1.frozen? ⟨w.heap.size + 1, 1, none⟩ = false := k2.frozen 1
  have rc1 : w1.cell? ⟨w.heap.size, 1, none⟩ = some (.string ⟨#[]⟩) := kr2.cell 1
  have rf1 : w1.frozen? ⟨w.heap.size, 1, none⟩ = false := kr2.frozen 1
  have pc2 : w1.cell? ⟨w.heap.size + 1, 2, none⟩ = some (.string ⟨#[]⟩) := k2.cell 2
  have pf2 : w1.frozen? ⟨w.heap.size + 1, 2, none⟩ = false := k2.frozen 2
  have rc2 : w1.cell? ⟨w.heap.size, 2, none⟩ = some (.string ⟨#[]⟩) := kr2.cell 2
  have rf2 : w1.frozen? ⟨w.heap.size, 2, none⟩ = false := kr2.frozen 2
  have pc3 : w1.cell? ⟨w.heap.size + 1, 3, none⟩ = some (.string ⟨#[]⟩) := k2.cell 3
  have pf3 : w1.frozen? ⟨w.heap.size + 1, 3, none⟩ = false := k2.frozen 3
  have rc3 : w1.cell? ⟨w.heap.size, 3, none⟩ = some (.string ⟨#[]⟩) := kr2.cell 3
  have rf3 : w1.frozen? ⟨w.heap.size, 3, none⟩ = false := kr2.frozen 3
  have pc4 : w1.cell? ⟨w.heap.size + 1, 4, none⟩ = some (.string ⟨#[]⟩) := k2.cell 4
  have pf4 : w1.frozen? ⟨w.heap.size + 1, 4, none⟩ = false := k2.frozen 4
  have rc4 : w1.cell? ⟨w.heap.size, 4, none⟩ = some (.string ⟨#[]⟩) := kr2.cell 4
  have rf4 : w1.frozen? ⟨w.heap.size, 4, none⟩ = false := kr2.frozen 4
  have pc5 : w1.cell? ⟨w.heap.size + 1, 5, none⟩ = some (.bool false) := k2.cell 5
  have pf5 : w1.frozen? ⟨w.heap.size + 1, 5, none⟩ = false := k2.frozen 5
  have rc5 : w1.cell? ⟨w.heap.size, 5, none⟩ = some (.bool false) := kr2.cell 5
  have rf5 : w1.frozen? ⟨w.heap.size, 5, none⟩ = false := kr2.frozen 5
  have pc6 : w1.cell? ⟨w.heap.size + 1, 6, none⟩ = some (.bool false) := k2.cell 6
  have pf6 : w1.frozen? ⟨w.heap.size + 1, 6, none⟩ = false := k2.frozen 6
  have rc6 : w1.cell? ⟨w.heap.size, 6, none⟩ = some (.bool false) := kr2.cell 6
  have rf6 : w1.frozen? ⟨w.heap.size, 6, none⟩ = false := kr2.frozen 6
  have pc7 : w1.cell? ⟨w.heap.size + 1, 7, none⟩ = some (.bool false) := k2.cell 7
  have pf7 : w1.frozen? ⟨w.heap.size + 1, 7, none⟩ = false := k2.frozen 7
  have rc7 : w1.cell? ⟨w.heap.size, 7, none⟩ = some (.bool false) := kr2.cell 7
  have rf7 : w1.frozen? ⟨w.heap.size, 7, none⟩ = false := kr2.frozen 7
  have pc8 : w1.cell? ⟨w.heap.size + 1, 8, none⟩ = some (.bool false) := k2.cell 8
  have pf8 : w1.frozen? ⟨w.heap.size + 1, 8, none⟩ = false := k2.frozen 8
  have rc8 : w1.cell? ⟨w.heap.size, 8, none⟩ = some (.bool false) := kr2.cell 8
  have rf8 : w1.frozen? ⟨w.heap.size, 8, none⟩ = false := kr2.frozen 8
  have KR2 := hide kr2
  clear k2 kr2
  go_wp2_with fail
  refine (unhide HC3 _).mono ?_
  rintro e1 w4 ⟨rfl, hw4⟩
  subst hw4
  go_wp2_with fail
  refine (unhide HC4 _).mono ?_
  rintro e1 w4 ⟨rfl, hw4⟩
  subst hw4
  go_wp2_with fail
  refine (unhide HC5 _).mono ?_
  rintro e1 w4 ⟨rfl, hw4⟩
  subst hw4
  go_wp2
  have kk := (((((((((((((((unhide KR2).away (show w.heap.size ≠ w.heap.size + 1 by omega) (.bool true) (o := 8)).away (show w.heap.size ≠ w.heap.size + 1 by omega) (.string MA) (o := 4)).away (show w.heap.size ≠ w.heap.size + 1 by omega) (.bool true) (o := 6)).away (show w.heap.size ≠ w.heap.size + 1 by omega) (.string HO) (o := 1)).away (show w.heap.size ≠ w.heap.size + 1 by omega) (.string PA) (o := 2)).set 0 (by simp) (.string ⟨#[]⟩)).set 1 (by simp) (.string HO)).set 2 (by simp) (.string PA)).set 3 (by simp) (.string ⟨#[]⟩)).set 4 (by simp) (.string MA)).set 5 (by simp) (.bool false)).set 6 (by simp) (.bool true)).set 7 (by simp) (.bool false)).set 8 (by simp) (.bool true))
  have dd0 := kk.cell 0
  have dd1 := kk.cell 1
  have dd2 := kk.cell 2
  have dd3 := kk.cell 3
  have dd4 := kk.cell 4
  have dd5 := kk.cell 5
  have dd6 := kk.cell 6
  have dd7 := kk.cell 7
  have dd8 := kk.cell 8
  exact bodyPost_ret (v := .agg #[.string ⟨#[]⟩, .string HO, .string PA, .string ⟨#[]⟩, .string MA, .bool false, .bool true, .bool false, .bool true]) (by simp [results, Try.results52, go_sem, dd0, dd1, dd2, dd3, dd4, dd5, dd6, dd7, dd8]) rfl ⟨rfl, ((((((((((((((hb2.setCell (by simp) _).setCell (by simp) _).setCell (by simp) _).setCell (by simp) _).setCell (by simp) _).setCell (by simp) _).setCell (by simp) _).setCell (by simp) _).setCell (by simp) _).setCell (by simp) _).setCell (by simp) _).setCell (by simp) _).setCell (by simp) _).setCell (by simp) _)⟩

set_option maxHeartbeats 2000000 in
set_option maxRecDepth 20000 in
theorem rsp_0110 (S X0 X1 X2 X3 L1 LL MA QU HO PA P2 Z : ByteArray) (n m q h : Nat) (w : World)
    (z0 : X0.size ≤ 100000)
    (z2 : X2.size ≤ 100000)
    (z3 : X3.size ≤ 100000)
    (C0 : ∀ w, Calls Try.prog 68 #[.string S] w fun e w' => e = .returned (.string X0) ∧ Below w.heap.size w w')
    (C1 : ∀ w, Calls Try.prog 69 #[.string X0] w fun e w' => e = .returned (.int .i64 0) ∧ w' = w)
    (C3 : ∀ w, Calls Try.prog 70 #[.string X0, .int .u8 35, .int .u8 35] w fun e w' => e = .returned (.int .i64 (m : Int)) ∧ w' = w)
    (b1 : (m : Int) + 1 ≤ (X0.size : Int))
    (b2 : X0.extract (m + 1) X0.size = MA)
    (b3 : X0.extract 0 m = X2)
    (C4 : ∀ w, Calls Try.prog 70 #[.string X2, .int .u8 63, .int .u8 63] w fun e w' => e = .returned (.int .i64 (q : Int)) ∧ w' = w)
    (c1 : (q : Int) + 1 ≤ (X2.size : Int))
    (c2 : X2.extract (q + 1) X2.size = QU)
    (c3 : X2.extract 0 q = X3)
    (d1 : ¬ 1 < X3.size) :
    Calls Try.prog 52 #[.string S] w fun e w' => e = .returned (.agg #[.string ⟨#[]⟩, .string ⟨#[]⟩, .string X3, .string QU, .string MA, .bool false, .bool false, .bool true, .bool true]) ∧ Below w.heap.size w w' := by
  have HC0 := hide C0
  have HC1 := hide C1
  have HC3 := hide C3
  have HC4 := hide C4
  clear C0 C1 C3 C4
  have b0 : (m : Int) < (X0.size : Int) := by omega
  have b5 : (m : Int) ≤ (X0.size : Int) := by omega
  have c0 : (q : Int) < (X2.size : Int) := by omega
  have c5 : (q : Int) ≤ (X2.size : Int) := by omega
  have kR : Hid (Blk ((w.alloc (Obj.cells #[.string ⟨#[]⟩, .string ⟨#[]⟩, .string ⟨#[]⟩, .string ⟨#[]⟩, .string ⟨#[]⟩, .bool false, .bool false, .bool false, .bool false] 86)).alloc (Obj.cells #[.string ⟨#[]⟩, .string ⟨#[]⟩, .string ⟨#[]⟩, .string ⟨#[]⟩, .string ⟨#[]⟩, .bool false, .bool false, .bool false, .bool false] 86)) w.heap.size #[.string ⟨#[]⟩, .string ⟨#[]⟩, .string ⟨#[]⟩, .string ⟨#[]⟩, .string ⟨#[]⟩, .bool false, .bool false, .bool false, .bool false] 86) := hide ((Blk.new w _ _).alloc _)
  have kB : Hid (Blk ((w.alloc (Obj.cells #[.string ⟨#[]⟩, .string ⟨#[]⟩, .string ⟨#[]⟩, .string ⟨#[]⟩, .string ⟨#[]⟩, .bool false, .bool false, .bool false, .bool false] 86)).alloc (Obj.cells #[.string ⟨#[]⟩, .string ⟨#[]⟩, .string ⟨#[]⟩, .string ⟨#[]⟩, .string ⟨#[]⟩, .bool false, .bool false, .bool false, .bool false] 86)) (w.heap.size + 1) #[.string ⟨#[]⟩, .string ⟨#[]⟩, .string ⟨#[]⟩, .string ⟨#[]⟩, .string ⟨#[]⟩, .bool false, .bool false, .bool false, .bool false] 86) := hide (Eq.mp (by simp) (Blk.new (w.alloc (Obj.cells #[.string ⟨#[]⟩, .string ⟨#[]⟩, .string ⟨#[]⟩, .string ⟨#[]⟩, .string ⟨#[]⟩, .bool false, .bool false, .bool false, .bool false] 86)) #[.string ⟨#[]⟩, .string ⟨#[]⟩, .string ⟨#[]⟩, .string ⟨#[]⟩, .string ⟨#[]⟩, .bool false, .bool false, .bool false, .bool false] 86))
  go_enter Try.func52, Try.ntmps52
  go_wp2_with fail
  refine (unhide HC0 _).mono ?_
  rintro e1 w1 ⟨rfl, hb⟩
  have kR1 := hide ((unhide kR).later hb)
  have kB1 := hide ((unhide kB).later hb)
  have hb1 : Below w.heap.size w w1 := (((Below.refl _ w).alloc (Nat.le_refl _) _).alloc (by simp) _).trans (hb.mono (by simp; omega))
  clear hb kR kB
  go_wp2_with fail
  refine (unhide HC1 _).mono ?_
  rintro e1 w2 ⟨rfl, hw2⟩
  obtain rfl : w1 = w2 := hw2.symm
  clear hw2
  have kr2 := unhide kR1
  have k2 := unhide kB1
  have hb2 := hb1
  clear kR1 kB1 hb1
  have pc0 : w1.cell? ⟨w.heap.size + 1, 0, none⟩ = some (.string ⟨#[]⟩) := k2.cell 0
  have pf0 : w1.frozen? ⟨w.heap.size + 1, 0, none⟩ = false := k2.frozen 0
  have rc0 : w1.cell? ⟨w.heap.size, 0, none⟩ = some (.string ⟨#[]⟩) := kr2.cell 0
  have rf0 : w1.frozen? ⟨w.heap.size, 0, none⟩ = false := kr2.frozen 0
  have pc1 : w1.cell? ⟨w.heap.size + 1, 1, none⟩ = some (.string ⟨#[]⟩) := k2.cell 1
  have pf1 : w1.frozen? ⟨w.heap.size + 1, 1, none⟩ = false := k2.frozen 1
  have rc1 : w1.cell? ⟨w.heap.size, 1, none⟩ = some (.string ⟨#[]⟩) := kr2.cell 1
  have rf1 : w1.frozen? ⟨w.heap.size, 1, none⟩ = false := kr2.frozen 1
  have pc2 : w1.cell? ⟨w.heap.size + 1, 2, none⟩ = some (.string ⟨#[]⟩) := k2.cell 2
  have pf2 : w1.frozen? ⟨w.heap.size + 1, 2, none⟩ = false := k2.frozen 2
  have rc2 : w1.cell? ⟨w.heap.size, 2, none⟩ = some (.string ⟨#[]⟩) := kr2.cell 2
  have rf2 : w1.frozen? ⟨w.heap.size, 2, none⟩ = false := kr2.frozen 2
  have pc3 : w1.cell? ⟨w.heap.size + 1, 3, none⟩ = some (.string ⟨#[]⟩) := k2.cell 3
  have pf3 : w1.frozen? ⟨w.heap.size + 1, 3, none⟩ = false := k2.frozen 3
  have rc3 : w1.cell? ⟨w.heap.size, 3, none⟩ = some (.string ⟨#[]⟩) := kr2.cell 3
  have rf3 : w1.frozen? ⟨w.heap.size, 3, none⟩ = false := kr2.frozen 3
  have pc4 : w1.cell? ⟨w.heap.size + 1, 4, none⟩ = some (.string ⟨#[]⟩) := k2.cell 4
  have pf4 : w1.frozen? ⟨w.heap.size + 1, 4, none⟩ = false := k2.frozen 4
  have rc4 : w1.cell? ⟨w.heap.size, 4, none⟩ = some (.string ⟨#[]⟩) := kr2.cell 4
  have rf4 : w1.frozen? ⟨w.heap.size, 4, none⟩ = false := kr2.frozen 4
  have pc5 : w1.cell? ⟨w.heap.size + 1, 5, none⟩ = some (.bool false) := k2.cell 5
  have pf5 : w1.frozen? ⟨w.heap.size + 1, 5, none⟩ = false := k2.frozen 5
  have rc5 : w1.cell? ⟨w.heap.size, 5, none⟩ = some (.bool false) := kr2.cell 5
  have rf5 : w1.frozen? ⟨w.heap.size, 5, none⟩ = false := kr2.frozen 5
  have pc6 : w1.cell? ⟨w.heap.size + 1, 6, none⟩ = some (.bool false) := k2.cell 6
  have pf6 : w1.frozen? ⟨w.heap.size + 1, 6, none⟩ = false := k2.frozen 6
  have rc6 : w1.cell? ⟨w.heap.size, 6, none⟩ = some (.bool false) := kr2.cell 6
  have rf6 : w1.frozen? ⟨w.heap.size, 6, none⟩ = false := kr2.frozen 6
  have pc7 : w1.cell? ⟨w.heap.size + 1, 7, none⟩ = some (.bool false) := k2.cell 7
  have pf7 : w1.frozen? ⟨w.heap.size + 1, 7, none⟩ = false := k2.frozen 7
  have rc7 : w1.cell? ⟨w.heap.size, 7, none⟩ = some (.bool false) := kr2.cell 7
  have rf7 : w1.frozen? ⟨w.heap.size, 7, none⟩ = false := kr2.frozen 7
  have pc8 : w1.cell? ⟨w.heap.size + 1, 8, none⟩ = some (.bool false) := k2.cell 8
  have pf8 : w1.frozen? ⟨w.heap.size + 1, 8, none⟩ = false := k2.frozen 8
  have rc8 : w1.cell? ⟨w.heap.size, 8, none⟩ = some (.bool false) := kr2.cell 8
  have rf8 : w1.frozen? ⟨w.heap.size, 8, none⟩ = false := kr2.frozen 8
  have KR2 := hide kr2
  clear k2 kr2
  go_wp2_with fail
  refine (unhide HC3 _).mono ?_
  rintro e1 w4 ⟨rfl, hw4⟩
  subst hw4
  go_wp2_with fail
  refine (unhide HC4 _).mono ?_
  rintro e1 w4 ⟨rfl, hw4⟩
  subst hw4
  go_wp2
  have kk := (((((((((((((((unhide KR2).away (show w.heap.size ≠ w.heap.size + 1 by omega) (.bool true) (o := 8)).away (show w.heap.size ≠ w.heap.size + 1 by omega) (.string MA) (o := 4)).away (show w.heap.size ≠ w.heap.size + 1 by omega) (.bool true) (o := 7)).away (show w.heap.size ≠ w.heap.size + 1 by omega) (.string QU) (o := 3)).away (show w.heap.size ≠ w.heap.size + 1 by omega) (.string X3) (o := 2)).set 0 (by simp) (.string ⟨#[]⟩)).set 1 (by simp) (.string ⟨#[]⟩)).set 2 (by simp) (.string X3)).set 3 (by simp) (.string QU)).set 4 (by simp) (.string MA)).set 5 (by simp) (.bool false)).set 6 (by simp) (.bool false)).set 7 (by simp) (.bool true)).set 8 (by simp) (.bool true))
  have dd0 := kk.cell 0
  have dd1 := kk.cell 1
  have dd2 := kk.cell 2
  have dd3 := kk.cell 3
  have dd4 := kk.cell 4
  have dd5 := kk.cell 5
  have dd6 := kk.cell 6
  have dd7 := kk.cell 7
  have dd8 := kk.cell 8
  exact bodyPost_ret (v := .agg #[.string ⟨#[]⟩, .string ⟨#[]⟩, .string X3, .string QU, .string MA, .bool false, .bool false, .bool true, .bool true]) (by simp [results, Try.results52, go_sem, dd0, dd1, dd2, dd3, dd4, dd5, dd6, dd7, dd8]) rfl ⟨rfl, ((((((((((((((hb2.setCell (by simp) _).setCell (by simp) _).setCell (by simp) _).setCell (by simp) _).setCell (by simp) _).setCell (by simp) _).setCell (by simp) _).setCell (by simp) _).setCell (by simp) _).setCell (by simp) _).setCell (by simp) _).setCell (by simp) _).setCell (by simp) _).setCell (by simp) _)⟩

set_option maxHeartbeats 2000000 in
set_option maxRecDepth 20000 in
theorem rsp_0111 (S X0 X1 X2 X3 L1 LL MA QU HO PA P2 Z : ByteArray) (n m q h : Nat) (w : World)
    (z0 : X0.size ≤ 100000)
    (z2 : X2.size ≤ 100000)
    (z3 : X3.size ≤ 100000)
    (C0 : ∀ w, Calls Try.prog 68 #[.string S] w fun e w' => e = .returned (.string X0) ∧ Below w.heap.size w w')
    (C1 : ∀ w, Calls Try.prog 69 #[.string X0] w fun e w' => e = .returned (.int .i64 0) ∧ w' = w)
    (C3 : ∀ w, Calls Try.prog 70 #[.string X0, .int .u8 35, .int .u8 35] w fun e w' => e = .returned (.int .i64 (m : Int)) ∧ w' = w)
    (b1 : (m : Int) + 1 ≤ (X0.size : Int))
    (b2 : X0.extract (m + 1) X0.size = MA)
    (b3 : X0.extract 0 m = X2)
    (C4 : ∀ w, Calls Try.prog 70 #[.string X2, .int .u8 63, .int .u8 63] w fun e w' => e = .returned (.int .i64 (q : Int)) ∧ w' = w)
    (c1 : (q : Int) + 1 ≤ (X2.size : Int))
    (c2 : X2.extract (q + 1) X2.size = QU)
    (c3 : X2.extract 0 q = X3)
    (d1 : (1 : Int) < (X3.size : Int))
    (d2 : X3.extract 0 2 = P2)
    (d3 : (P2.toList == [47, 47]) = false) :
    Calls Try.prog 52 #[.string S] w fun e w' => e = .returned (.agg #[.string ⟨#[]⟩, .string ⟨#[]⟩, .string X3, .string QU, .string MA, .bool false, .bool false, .bool true, .bool true]) ∧ Below w.heap.size w w' := by
  have HC0 := hide C0
  have HC1 := hide C1
  have HC3 := hide C3
  have HC4 := hide C4
  clear C0 C1 C3 C4
  have b0 : (m : Int) < (X0.size : Int) := by omega
  have b5 : (m : Int) ≤ (X0.size : Int) := by omega
  have c0 : (q : Int) < (X2.size : Int) := by omega
  have c5 : (q : Int) ≤ (X2.size : Int) := by omega
  have d0 : (2 : Int) ≤ (X3.size : Int) := by omega
  have kR : Hid (Blk ((w.alloc (Obj.cells #[.string ⟨#[]⟩, .string ⟨#[]⟩, .string ⟨#[]⟩, .string ⟨#[]⟩, .string ⟨#[]⟩, .bool false, .bool false, .bool false, .bool false] 86)).alloc (Obj.cells #[.string ⟨#[]⟩, .string ⟨#[]⟩, .string ⟨#[]⟩, .string ⟨#[]⟩, .string ⟨#[]⟩, .bool false, .bool false, .bool false, .bool false] 86)) w.heap.size #[.string ⟨#[]⟩, .string ⟨#[]⟩, .string ⟨#[]⟩, .string ⟨#[]⟩, .string ⟨#[]⟩, .bool false, .bool false, .bool false, .bool false] 86) := hide ((Blk.new w _ _).alloc _)
  have kB : Hid (Blk ((w.alloc (Obj.cells #[.string ⟨#[]⟩, .string ⟨#[]⟩, .string ⟨#[]⟩, .string ⟨#[]⟩, .string ⟨#[]⟩, .bool false, .bool false, .bool false, .bool false] 86)).alloc (Obj.cells #[.string ⟨#[]⟩, .string ⟨#[]⟩, .string ⟨#[]⟩, .string ⟨#[]⟩, .string ⟨#[]⟩, .bool false, .bool false, .bool false, .bool false] 86)) (w.heap.size + 1) #[.string ⟨#[]⟩, .string ⟨#[]⟩, .string ⟨#[]⟩, .string ⟨#[]⟩, .string ⟨#[]⟩, .bool false, .bool false, .bool false, .bool false] 86) := hide (Eq.mp (by simp) (Blk.new (w.alloc (Obj.cells #[.string ⟨#[]⟩, .string ⟨#[]⟩, .string ⟨#[]⟩, .string ⟨#[]⟩, .string ⟨#[]⟩, .bool false, .bool false, .bool false, .bool false] 86)) #[.string ⟨#[]⟩, .string ⟨#[]⟩, .string ⟨#[]⟩, .string ⟨#[]⟩, .string ⟨#[]⟩, .bool false, .bool false, .bool false, .bool false] 86))
  go_enter Try.func52, Try.ntmps52
  go_wp2_with fail
  refine (unhide HC0 _).mono ?_
  rintro e1 w1 ⟨rfl, hb⟩
  have kR1 := hide ((unhide kR).later hb)
  have kB1 := hide ((unhide kB).later hb)
  have hb1 : Below w.heap.size w w1 := (((Below.refl _ w).alloc (Nat.le_refl _) _).alloc (by simp) _).trans (hb.mono (by simp; omega))
  clear hb kR kB
  go_wp2_with fail
  refine (unhide HC1 _).mono ?_
  rintro e1 w2 ⟨rfl, hw2⟩
  obtain rfl : w1 = w2 := hw2.symm
  clear hw2
  have kr2 := unhide kR1
  have k2 := unhide kB1
  have hb2 := hb1
  clear kR1 kB1 hb1
  have pc0 : w1.cell? ⟨w.heap.size + 1, 0, none⟩ = some (.string ⟨#[]⟩) := k2.cell 0
  have pf0 : w1.frozen? ⟨w.heap.size + 1, 0, none⟩ = false := k2.frozen 0
  have rc0 : w1.cell? ⟨w.heap.size, 0, none⟩ = some (.string ⟨#[]⟩) := kr2.cell 0
  have rf0 : w1.frozen? ⟨w.heap.size, 0, none⟩ = false := kr2.frozen 0
  have pc1 : w1.cell? ⟨w.heap.size + 1, 1, none⟩ = some (.string ⟨#[]⟩) := k2.cell 1
  have pf1 : w1.frozen? ⟨w.heap.size + 1, 1, none⟩ = false := k2.frozen 1
  have rc1 : w1.cell? ⟨w.heap.size, 1, none⟩ = some (.string ⟨#[]⟩) := kr2.cell 1
  have rf1 : w1.frozen? ⟨w.heap.size, 1, none⟩ = false := kr2.frozen 1
  have pc2 : w1.cell? ⟨w.heap.size + 1, 2, none⟩ = some (.string ⟨#[]⟩) := k2.cell 2
  have pf2 : w1.frozen? ⟨w.heap.size + 1, 2, none⟩ = false := k2.frozen 2
  have rc2 : w1.cell? ⟨w.heap.size, 2, none⟩ = some (.string ⟨#[]⟩) := kr2.cell 2
  have rf2 : w1.frozen? ⟨w.heap.size, 2, none⟩ = false := kr2.frozen 2
  have pc3 : w1.cell? ⟨w.heap.size + 1, 3, none⟩ = some (.string ⟨#[]⟩) := k2.cell 3
  have pf3 : w1.frozen? ⟨w.heap.size + 1, 3, none⟩ = false := k2.frozen 3
  have rc3 : w1.cell? ⟨w.heap.size, 3, none⟩ = some (.string ⟨#[]⟩) := kr2.cell 3
  have rf3 : w1.frozen? ⟨w.heap.size, 3, none⟩ = false := kr2.frozen 3
  have pc4 : w1.cell? ⟨w.heap.size + 1, 4, none⟩ = some (.string ⟨#[]⟩) := k2.cell 4
  have pf4 : w1.frozen? ⟨w.heap.size + 1, 4, none⟩ = false := k2.frozen 4
  have rc4 : w1.cell? ⟨w.heap.size, 4, none⟩ = some (.string ⟨#[]⟩) := kr2.cell 4
  have rf4 : w1.frozen? ⟨w.heap.size, 4, none⟩ = false := kr2.frozen 4
  have pc5 : w1.cell? ⟨w.heap.size + 1, 5, none⟩ = some (.bool false) := k2.cell 5
  have pf5 : w1.frozen? ⟨w.heap.size + 1, 5, none⟩ = false := k2.frozen 5
  have rc5 : w1.cell? ⟨w.heap.size, 5, none⟩ = some (.bool false) := kr2.cell 5
  have rf5 : w1.frozen? ⟨w.heap.size, 5, none⟩ = false := kr2.frozen 5
  have pc6 : w1.cell? ⟨w.heap.size + 1, 6, none⟩ = some (.bool false) := k2.cell 6
  have pf6 : w1.frozen? ⟨w.heap.size + 1, 6, none⟩ = false := k2.frozen 6
  have rc6 : w1.cell? ⟨w.heap.size, 6, none⟩ = some (.bool false) := kr2.cell 6
  have rf6 : w1.frozen? ⟨w.heap.size, 6, none⟩ = false := kr2.frozen 6
  have pc7 : w1.cell? ⟨w.heap.size + 1, 7, none⟩ = some (.bool false) := k2.cell 7
  have pf7 : w1.frozen? ⟨w.heap.size + 1, 7, none⟩ = false := k2.frozen 7
  have rc7 : w1.cell? ⟨w.heap.size, 7, none⟩ = some (.bool false) := kr2.cell 7
  have rf7 : w1.frozen? ⟨w.heap.size, 7, none⟩ = false := kr2.frozen 7
  have pc8 : w1.cell? ⟨w.heap.size + 1, 8, none⟩ = some (.bool false) := k2.cell 8
  have pf8 : w1.frozen? ⟨w.heap.size + 1, 8, none⟩ = false := k2.frozen 8
  have rc8 : w1.cell? ⟨w.heap.size, 8, none⟩ = some (.bool false) := kr2.cell 8
  have rf8 : w1.frozen? ⟨w.heap.size, 8, none⟩ = false := kr2.frozen 8
  have KR2 := hide kr2
  clear k2 kr2
  go_wp2_with fail
  refine (unhide HC3 _).mono ?_
  rintro e1 w4 ⟨rfl, hw4⟩
  subst hw4
  go_wp2_with fail
  refine (unhide HC4 _).mono ?_
  rintro e1 w4 ⟨rfl, hw4⟩
  subst hw4
  go_wp2
  have kk := (((((((((((((((unhide KR2).away (show w.heap.size ≠ w.heap.size + 1 by omega) (.bool true) (o := 8)).away (show w.heap.size ≠ w.heap.size + 1 by omega) (.string MA) (o := 4)).away (show w.heap.size ≠ w.heap.size + 1 by omega) (.bool true) (o := 7)).away (show w.heap.size ≠ w.heap.size + 1 by omega) (.string QU) (o := 3)).away (show w.heap.size ≠ w.heap.size + 1 by omega) (.string X3) (o := 2)).set 0 (by simp) (.string ⟨#[]⟩)).set 1 (by simp) (.string ⟨#[]⟩)).set 2 (by simp) (.string X3)).set 3 (by simp) (.string QU)).set 4 (by simp) (.string MA)).set 5 (by simp) (.bool false)).set 6 (by simp) (.bool false)).set 7 (by simp) (.bool true)).set 8 (by simp) (.bool true))
  have dd0 := kk.cell 0
  have dd1 := kk.cell 1
  have dd2 := kk.cell 2
  have dd3 := kk.cell 3
  have dd4 := kk.cell 4
  have dd5 := kk.cell 5
  have dd6 := kk.cell 6
  have dd7 := kk.cell 7
  have dd8 := kk.cell 8
  exact bodyPost_ret (v := .agg #[.string ⟨#[]⟩, .string ⟨#[]⟩, .string X3, .string QU, .string MA, .bool false, .bool false, .bool true, .bool true]) (by simp [results, Try.results52, go_sem, dd0, dd1, dd2, dd3, dd4, dd5, dd6, dd7, dd8]) rfl ⟨rfl, ((((((((((((((hb2.setCell (by simp) _).setCell (by simp) _).setCell (by simp) _).setCell (by simp) _).setCell (by simp) _).setCell (by simp) _).setCell (by simp) _).setCell (by simp) _).setCell (by simp) _).setCell (by simp) _).setCell (by simp) _).setCell (by simp) _).setCell (by simp) _).setCell (by simp) _)⟩

set_option maxHeartbeats 2000000 in
set_option maxRecDepth 20000 in
theorem rsp_0112 (S X0 X1 X2 X3 L1 LL MA QU HO PA P2 Z : ByteArray) (n m q h : Nat) (w : World)
    (z0 : X0.size ≤ 100000)
    (z2 : X2.size ≤ 100000)
    (z3 : X3.size ≤ 100000)
    (C0 : ∀ w, Calls Try.prog 68 #[.string S] w fun e w' => e = .returned (.string X0) ∧ Below w.heap.size w w')
    (C1 : ∀ w, Calls Try.prog 69 #[.string X0] w fun e w' => e = .returned (.int .i64 0) ∧ w' = w)
    (C3 : ∀ w, Calls Try.prog 70 #[.string X0, .int .u8 35, .int .u8 35] w fun e w' => e = .returned (.int .i64 (m : Int)) ∧ w' = w)
    (b1 : (m : Int) + 1 ≤ (X0.size : Int))
    (b2 : X0.extract (m + 1) X0.size = MA)
    (b3 : X0.extract 0 m = X2)
    (C4 : ∀ w, Calls Try.prog 70 #[.string X2, .int .u8 63, .int .u8 63] w fun e w' => e = .returned (.int .i64 (q : Int)) ∧ w' = w)
    (c1 : (q : Int) + 1 ≤ (X2.size : Int))
    (c2 : X2.extract (q + 1) X2.size = QU)
    (c3 : X2.extract 0 q = X3)
    (d1 : (1 : Int) < (X3.size : Int))
    (d2 : X3.extract 0 2 = P2)
    (d3 : (P2.toList == [47, 47]) = true)
    (d4 : X3.extract 2 X3.size = Z)
    (C5 : ∀ w, Calls Try.prog 70 #[.string Z, .int .u8 47, .int .u8 92] w fun e w' => e = .returned (.int .i64 (h : Int)) ∧ w' = w)
    (d5 : (2 : Int) + (h : Int) ≤ (X3.size : Int))
    (d6 : X3.extract 2 (2 + h) = HO)
    (d7 : X3.extract (2 + h) X3.size = PA) :
    Calls Try.prog 52 #[.string S] w fun e w' => e = .returned (.agg #[.string ⟨#[]⟩, .string HO, .string PA, .string QU, .string MA, .bool false, .bool true, .bool true, .bool true]) ∧ Below w.heap.size w w' := by
  have HC0 := hide C0
  have HC1 := hide C1
  have HC3 := hide C3
  have HC4 := hide C4
  have HC5 := hide C5
  clear C0 C1 C3 C4 C5
  have b0 : (m : Int) < (X0.size : Int) := by omega
  have b5 : (m : Int) ≤ (X0.size : Int) := by omega
  have c0 : (q : Int) < (X2.size : Int) := by omega
  have c5 : (q : Int) ≤ (X2.size : Int) := by omega
  have d0 : (2 : Int) ≤ (X3.size : Int) := by omega
  have d8 : (0 : Int) ≤ (2 : Int) + (h : Int) := by omega
  have d9 : (2 : Int) ≤ (2 : Int) + (h : Int) := by omega
  have e1 : ((2 : Int) + (h : Int)).toNat = 2 + h := by omega
  have kR : Hid (Blk ((w.alloc (Obj.cells #[.string ⟨#[]⟩, .string ⟨#[]⟩, .string ⟨#[]⟩, .string ⟨#[]⟩, .string ⟨#[]⟩, .bool false, .bool false, .bool false, .bool false] 86)).alloc (Obj.cells #[.string ⟨#[]⟩, .string ⟨#[]⟩, .string ⟨#[]⟩, .string ⟨#[]⟩, .string ⟨#[]⟩, .bool false, .bool false, .bool false, .bool false] 86)) w.heap.size #[.string ⟨#[]⟩, .string ⟨#[]⟩, .string ⟨#[]⟩, .string ⟨#[]⟩, .string ⟨#[]⟩, .bool false, .bool false, .bool false, .bool false] 86) := hide ((Blk.new w _ _).alloc _)
  have kB : Hid (Blk ((w.alloc (Obj.cells #[.string ⟨#[]⟩, .string ⟨#[]⟩, .string ⟨#[]⟩, .string ⟨#[]⟩, .string ⟨#[]⟩, .bool false, .bool false, .bool false, .bool false] 86)).alloc (Obj.cells #[.string ⟨#[]⟩, .string ⟨#[]⟩, .string ⟨#[]⟩, .string ⟨#[]⟩, .string ⟨#[]⟩, .bool false, .bool false, .bool false, .bool false] 86)) (w.heap.size + 1) #[.string ⟨#[]⟩, .string ⟨#[]⟩, .string ⟨#[]⟩, .string ⟨#[]⟩, .string ⟨#[]⟩, .bool false, .bool false, .bool false, .bool false] 86) := hide (Eq.mp (by simp) (Blk.new (w.alloc (Obj.cells #[.string ⟨#[]⟩, .string ⟨#[]⟩, .string ⟨#[]⟩, .string ⟨#[]⟩, .string ⟨#[]⟩, .bool false, .bool false, .bool false, .bool false] 86)) #[.string ⟨#[]⟩, .string ⟨#[]⟩, .string ⟨#[]⟩, .string ⟨#[]⟩, .string ⟨#[]⟩, .bool false, .bool false, .bool false, .bool false] 86))
  go_enter Try.func52, Try.ntmps52
  go_wp2_with fail
  refine (unhide HC0 _).mono ?_
  rintro e1 w1 ⟨rfl, hb⟩
  have kR1 := hide ((unhide kR).later hb)
  have kB1 := hide ((unhide kB).later hb)
  have hb1 : Below w.heap.size w w1 := (((Below.refl _ w).alloc (Nat.le_refl _) _).alloc (by simp) _).trans (hb.mono (by simp; omega))
  clear hb kR kB
  go_wp2_with fail
  refine (unhide HC1 _).mono ?_
  rintro e1 w2 ⟨rfl, hw2⟩
  obtain rfl : w1 = w2 := hw2.symm
  clear hw2
  have kr2 := unhide kR1
  have k2 := unhide kB1
  have hb2 := hb1
  clear kR1 kB1 hb1
  have pc0 : w1.cell? ⟨w.heap.size + 1, 0, none⟩ = some (.string ⟨#[]⟩) := k2.cell 0
  have pf0 : w1.frozen? ⟨w.heap.size + 1, 0, none⟩ = false := k2.frozen 0
  have rc0 : w1.cell? ⟨w.heap.size, 0, none⟩ = some (.string ⟨#[]⟩) := kr2.cell 0
  have rf0 : w1.frozen? ⟨w.heap.size, 0, none⟩ = false := kr2.frozen 0
  have pc1 : w1.cell? ⟨w.heap.size + 1, 1, none⟩ = some (.string ⟨#[]⟩) := k2.cell 1
  have pf1 : w1.frozen? ⟨w.heap.size + 1, 1, none⟩ = false := k2.frozen 1
  have rc1 : w1.cell? ⟨w.heap.size, 1, none⟩ = some (.string ⟨#[]⟩) := kr2.cell 1
  have rf1 : w1.frozen? ⟨w.heap.size, 1, none⟩ = false := kr2.frozen 1
  have pc2 : w1.cell? ⟨w.heap.size + 1, 2, none⟩ = some (.string ⟨#[]⟩) := k2.cell 2
  have pf2 : w1.frozen? ⟨w.heap.size + 1, 2, none⟩ = false := k2.frozen 2
  have rc2 : w1.cell? ⟨w.heap.size, 2, none⟩ = some (.string ⟨#[]⟩) := kr2.cell 2
  have rf2 : w1.frozen? ⟨w.heap.size, 2, none⟩ = false := kr2.frozen 2
  have pc3 : w1.cell? ⟨w.heap.size + 1, 3, none⟩ = some (.string ⟨#[]⟩) := k2.cell 3
  have pf3 : w1.frozen? ⟨w.heap.size + 1, 3, none⟩ = false := k2.frozen 3
  have rc3 : w1.cell? ⟨w.heap.size, 3, none⟩ = some (.string ⟨#[]⟩) := kr2.cell 3
  have rf3 : w1.frozen? ⟨w.heap.size, 3, none⟩ = false := kr2.frozen 3
  have pc4 : w1.cell? ⟨w.heap.size + 1, 4, none⟩ = some (.string ⟨#[]⟩) := k2.cell 4
  have pf4 : w1.frozen? ⟨w.heap.size + 1, 4, none⟩ = false := k2.frozen 4
  have rc4 : w1.cell? ⟨w.heap.size, 4, none⟩ = some (.string ⟨#[]⟩) := kr2.cell 4
  have rf4 : w1.frozen? ⟨w.heap.size, 4, none⟩ = false := kr2.frozen 4
  have pc5 : w1.cell? ⟨w.heap.size + 1, 5, none⟩ = some (.bool false) := k2.cell 5
  have pf5 : w1.frozen? ⟨w.heap.size + 1, 5, none⟩ = false := k2.frozen 5
  have rc5 : w1.cell? ⟨w.heap.size, 5, none⟩ = some (.bool false) := kr2.cell 5
  have rf5 : w1.frozen? ⟨w.heap.size, 5, none⟩ = false := kr2.frozen 5
  have pc6 : w1.cell? ⟨w.heap.size + 1, 6, none⟩ = some (.bool false) := k2.cell 6
  have pf6 : w1.frozen? ⟨w.heap.size + 1, 6, none⟩ = false := k2.frozen 6
  have rc6 : w1.cell? ⟨w.heap.size, 6, none⟩ = some (.bool false) := kr2.cell 6
  have rf6 : w1.frozen? ⟨w.heap.size, 6, none⟩ = false := kr2.frozen 6
  have pc7 : w1.cell? ⟨w.heap.size + 1, 7, none⟩ = some (.bool false) := k2.cell 7
  have pf7 : w1.frozen? ⟨w.heap.size + 1, 7, none⟩ = false := k2.frozen 7
  have rc7 : w1.cell? ⟨w.heap.size, 7, none⟩ = some (.bool false) := kr2.cell 7
  have rf7 : w1.frozen? ⟨w.heap.size, 7, none⟩ = false := kr2.frozen 7
  have pc8 : w1.cell? ⟨w.heap.size + 1, 8, none⟩ = some (.bool false) := k2.cell 8
  have pf8 : w1.frozen? ⟨w.heap.size + 1, 8, none⟩ = false := k2.frozen 8
  have rc8 : w1.cell? ⟨w.heap.size, 8, none⟩ = some (.bool false) := kr2.cell 8
  have rf8 : w1.frozen? ⟨w.heap.size, 8, none⟩ = false := kr2.frozen 8
  have KR2 := hide kr2
  clear k2 kr2
  go_wp2_with fail
  refine (unhide HC3 _).mono ?_
  rintro e1 w4 ⟨rfl, hw4⟩
  subst hw4
  go_wp2_with fail
  refine (unhide HC4 _).mono ?_
  rintro e1 w4 ⟨rfl, hw4⟩
  subst hw4
  go_wp2_with fail
  refine (unhide HC5 _).mono ?_
  rintro e1 w4 ⟨rfl, hw4⟩
  subst hw4
  go_wp2
  have kk := (((((((((((((((((unhide KR2).away (show w.heap.size ≠ w.heap.size + 1 by omega) (.bool true) (o := 8)).away (show w.heap.size ≠ w.heap.size + 1 by omega) (.string MA) (o := 4)).away (show w.heap.size ≠ w.heap.size + 1 by omega) (.bool true) (o := 7)).away (show w.heap.size ≠ w.heap.size + 1 by omega) (.string QU) (o := 3)).away (show w.heap.size ≠ w.heap.size + 1 by omega) (.bool true) (o := 6)).away (show w.heap.size ≠ w.heap.size + 1 by omega) (.string HO) (o := 1)).away (show w.heap.size ≠ w.heap.size + 1 by omega) (.string PA) (o := 2)).set 0 (by simp) (.string ⟨#[]⟩)).set 1 (by simp) (.string HO)).set 2 (by simp) (.string PA)).set 3 (by simp) (.string QU)).set 4 (by simp) (.string MA)).set 5 (by simp) (.bool false)).set 6 (by simp) (.bool true)).set 7 (by simp) (.bool true)).set 8 (by simp) (.bool true))
  have dd0 := kk.cell 0
  have dd1 := kk.cell 1
  have dd2 := kk.cell 2
  have dd3 := kk.cell 3
  have dd4 := kk.cell 4
  have dd5 := kk.cell 5
  have dd6 := kk.cell 6
  have dd7 := kk.cell 7
  have dd8 := kk.cell 8
  exact bodyPost_ret (v := .agg #[.string ⟨#[]⟩, .string HO, .string PA, .string QU, .string MA, .bool false, .bool true, .bool true, .bool true]) (by simp [results, Try.results52, go_sem, dd0, dd1, dd2, dd3, dd4, dd5, dd6, dd7, dd8]) rfl ⟨rfl, ((((((((((((((((hb2.setCell (by simp) _).setCell (by simp) _).setCell (by simp) _).setCell (by simp) _).setCell (by simp) _).setCell (by simp) _).setCell (by simp) _).setCell (by simp) _).setCell (by simp) _).setCell (by simp) _).setCell (by simp) _).setCell (by simp) _).setCell (by simp) _).setCell (by simp) _).setCell (by simp) _).setCell (by simp) _)⟩
end Go.Proofs.Ytfdhmhdemfbfeaa

/-
  The reference's Split of layer 15: one way after another (ways 10).
-/
namespace Go.Proofs.Ytfdhmhdemfbfeaa
open Go.RowKit
set_option linter.unusedVariables false

set_option maxHeartbeats 2000000 in
set_option maxRecDepth 20000 in
theorem rsp_1000 (S X0 X1 X2 X3 L1 LL MA QU HO PA P2 Z : ByteArray) (n m q h : Nat) (w : World)
    (z0 : X0.size ≤ 100000)
    (z1 : X1.size ≤ 100000)
    (C0 : ∀ w, Calls Try.prog 68 #[.string S] w fun e w' => e = .returned (.string X0) ∧ Below w.heap.size w w')
    (C1 : ∀ w, Calls Try.prog 69 #[.string X0] w fun e w' => e = .returned (.int .i64 (n : Int)) ∧ w' = w)
    (a1 : (0 : Int) < (n : Int))
    (a2 : (n : Int) + 1 ≤ (X0.size : Int))
    (a3 : X0.extract 0 n = L1)
    (a4 : X0.extract (n + 1) X0.size = X1)
    (C2 : ∀ w, Calls Try.prog 27 #[.string L1] w fun e w' => e = .returned (.string LL) ∧ Below w.heap.size w w')
    (C3 : ∀ w, Calls Try.prog 70 #[.string X1, .int .u8 35, .int .u8 35] w fun e w' => e = .returned (.int .i64 (m : Int)) ∧ w' = w)
    (b1 : ¬ m < X1.size)
    (C4 : ∀ w, Calls Try.prog 70 #[.string X1, .int .u8 63, .int .u8 63] w fun e w' => e = .returned (.int .i64 (q : Int)) ∧ w' = w)
    (c1 : ¬ q < X1.size)
    (d1 : ¬ 1 < X1.size) :
    Calls Try.prog 52 #[.string S] w fun e w' => e = .returned (.agg #[.string LL, .string ⟨#[]⟩, .string X1, .string ⟨#[]⟩, .string ⟨#[]⟩, .bool true, .bool false, .bool false, .bool false]) ∧ Below w.heap.size w w' := by
  have HC0 := hide C0
  have HC1 := hide C1
  have HC2 := hide C2
  have HC3 := hide C3
  have HC4 := hide C4
  clear C0 C1 C3 C4 C2
  have a6 : (n : Int) < (X0.size : Int) := by omega
  have a0 : (n : Int) ≤ (X0.size : Int) := by omega
  have a5 : (0 : Int) ≤ (n : Int) := by omega
  have kR : Hid (Blk ((w.alloc (Obj.cells #[.string ⟨#[]⟩, .string ⟨#[]⟩, .string ⟨#[]⟩, .string ⟨#[]⟩, .string ⟨#[]⟩, .bool false, .bool false, .bool false, .bool false] 86)).alloc (Obj.cells #[.string ⟨#[]⟩, .string ⟨#[]⟩, .string ⟨#[]⟩, .string ⟨#[]⟩, .string ⟨#[]⟩, .bool false, .bool false, .bool false, .bool false] 86)) w.heap.size #[.string ⟨#[]⟩, .string ⟨#[]⟩, .string ⟨#[]⟩, .string ⟨#[]⟩, .string ⟨#[]⟩, .bool false, .bool false, .bool false, .bool false] 86) := hide ((Blk.new w _ _).alloc _)
  have kB : Hid (Blk ((w.alloc (Obj.cells #[.string ⟨#[]⟩, .string ⟨#[]⟩, .string ⟨#[]⟩, .string ⟨#[]⟩, .string ⟨#[]⟩, .bool false, .bool false, .bool false, .bool false] 86)).alloc (Obj.cells #[.string ⟨#[]⟩, .string ⟨#[]⟩, .string ⟨#[]⟩, .string ⟨#[]⟩, .string ⟨#[]⟩, .bool false, .bool false, .bool false, .bool false] 86)) (w.heap.size + 1) #[.string ⟨#[]⟩, .string ⟨#[]⟩, .string ⟨#[]⟩, .string ⟨#[]⟩, .string ⟨#[]⟩, .bool false, .bool false, .bool false, .bool false] 86) := hide (Eq.mp (by simp) (Blk.new (w.alloc (Obj.cells #[.string ⟨#[]⟩, .string ⟨#[]⟩, .string ⟨#[]⟩, .string ⟨#[]⟩, .string ⟨#[]⟩, .bool false, .bool false, .bool false, .bool false] 86)) #[.string ⟨#[]⟩, .string ⟨#[]⟩, .string ⟨#[]⟩, .string ⟨#[]⟩, .string ⟨#[]⟩, .bool false, .bool false, .bool false, .bool false] 86))
  go_enter Try.func52, Try.ntmps52
  go_wp2_with fail
  refine (unhide HC0 _).mono ?_
  rintro e1 w1 ⟨rfl, hb⟩
  have kR1 := hide ((unhide kR).later hb)
  have kB1 := hide ((unhide kB).later hb)
  have hb1 : Below w.heap.size w w1 := (((Below.refl _ w).alloc (Nat.le_refl _) _).alloc (by simp) _).trans (hb.mono (by simp; omega))
  clear hb kR kB
  go_wp2_with fail
  refine (unhide HC1 _).mono ?_
  rintro e1 w2 ⟨rfl, hw2⟩
  obtain rfl : w1 = w2 := hw2.symm
  clear hw2
  go_wp2_with fail
  refine (unhide HC2 _).mono ?_
  rintro e1 w3 ⟨rfl, hb⟩
  have kr2 := (unhide kR1).later hb
  have k2 := (unhide kB1).later hb
  have hb2 : Below w.heap.size w w3 := tr2 hb1 hb
  clear hb kR1 kB1 hb1
  have pc0 : w3.cell? ⟨w.heap.size + 1, 0, none⟩ = some (.string ⟨#[]⟩) := k2.cell 0
  have pf0 : w3.frozen? ⟨w.heap.size + 1, 0, none⟩ = false := k2.frozen 0
  have rc0 : w3.cell? ⟨w.heap.size, 0, none⟩ = some (.string ⟨#[]⟩) := kr2.cell 0
  have rf0 : w3.frozen? ⟨w.heap.size, 0, none⟩ = false := kr2.frozen 0
  have pc1 : w3.cell? ⟨w.heap.size + 1, 1, none⟩ = some (.string ⟨#[]⟩) := k2.cell 1
  have pf1 : w3.frozen? ⟨w.heap.size + 1, 1, none⟩ = false := k2.frozen 1
  have rc1 : w3.cell? ⟨w.heap.size, 1, none⟩ = some (.string ⟨#[]⟩) := kr2.cell 1
  have rf1 : w3.frozen? ⟨w.heap.size, 1, none⟩ = false := kr2.frozen 1
  have pc2 : w3.cell? ⟨w.heap.size + 1, 2, none⟩ = some (.string ⟨#[]⟩) := k2.cell 2
  have pf2 : w3.frozen? ⟨w.heap.size + 1, 2, none⟩ = false := k2.frozen 2
  have rc2 : w3.cell? ⟨w.heap.size, 2, none⟩ = some (.string ⟨#[]⟩) := kr2.cell 2
  have rf2 : w3.frozen? ⟨w.heap.size, 2, none⟩ = false := kr2.frozen 2
  have pc3 : w3.cell? ⟨w.heap.size + 1, 3, none⟩ = some (.string ⟨#[]⟩) := k2.cell 3
  have pf3 : w3.frozen? ⟨w.heap.size + 1, 3, none⟩ = false := k2.frozen 3
  have rc3 : w3.cell? ⟨w.heap.size, 3, none⟩ = some (.string ⟨#[]⟩) := kr2.cell 3
  have rf3 : w3.frozen? ⟨w.heap.size, 3, none⟩ = false := kr2.frozen 3
  have pc4 : w3.cell? ⟨w.heap.size + 1, 4, none⟩ = some (.string ⟨#[]⟩) := k2.cell 4
  have pf4 : w3.frozen? ⟨w.heap.size + 1, 4, none⟩ = false := k2.frozen 4
  have rc4 : w3.cell? ⟨w.heap.size, 4, none⟩ = some (.string ⟨#[]⟩) := kr2.cell 4
  have rf4 : w3.frozen? ⟨w.heap.size, 4, none⟩ = false := kr2.frozen 4
  have pc5 : w3.cell? ⟨w.heap.size + 1, 5, none⟩ = some (.bool false) := k2.cell 5
  have pf5 : w3.frozen? ⟨w.heap.size + 1, 5, none⟩ = false := k2.frozen 5
  have rc5 : w3.cell? ⟨w.heap.size, 5, none⟩ = some (.bool false) := kr2.cell 5
  have rf5 : w3.frozen? ⟨w.heap.size, 5, none⟩ = false := kr2.frozen 5
  have pc6 : w3.cell? ⟨w.heap.size + 1, 6, none⟩ = some (.bool false) := k2.cell 6
  have pf6 : w3.frozen? ⟨w.heap.size + 1, 6, none⟩ = false := k2.frozen 6
  have rc6 : w3.cell? ⟨w.heap.size, 6, none⟩ = some (.bool false) := kr2.cell 6
  have rf6 : w3.frozen? ⟨w.heap.size, 6, none⟩ = false := kr2.frozen 6
  have pc7 : w3.cell? ⟨w.heap.size + 1, 7, none⟩ = some (.bool false) := k2.cell 7
  have pf7 : w3.frozen? ⟨w.heap.size + 1, 7, none⟩ = false := k2.frozen 7
  have rc7 : w3.cell? ⟨w.heap.size, 7, none⟩ = some (.bool false) := kr2.cell 7
  have rf7 : w3.frozen? ⟨w.heap.size, 7, none⟩ = false := kr2.frozen 7
  have pc8 : w3.cell? ⟨w.heap.size + 1, 8, none⟩ = some (.bool false) := k2.cell 8
  have pf8 : w3.frozen? ⟨w.heap.size + 1, 8, none⟩ = false := k2.frozen 8
  have rc8 : w3.cell? ⟨w.heap.size, 8, none⟩ = some (.bool false) := kr2.cell 8
  have rf8 : w3.frozen? ⟨w.heap.size, 8, none⟩ = false := kr2.frozen 8
  have KR2 := hide kr2
  clear k2 kr2
  go_wp2_with fail
  refine (unhide HC3 _).mono ?_
  rintro e1 w4 ⟨rfl, hw4⟩
  subst hw4
  go_wp2_with fail
  refine (unhide HC4 _).mono ?_
  rintro e1 w4 ⟨rfl, hw4⟩
  subst hw4
  go_wp2
  have kk := (((((((((((((unhide KR2).away (show w.heap.size ≠ w.heap.size + 1 by omega) (.string LL) (o := 0)).away (show w.heap.size ≠ w.heap.size + 1 by omega) (.bool true) (o := 5)).away (show w.heap.size ≠ w.heap.size + 1 by omega) (.string X1) (o := 2)).set 0 (by simp) (.string LL)).set 1 (by simp) (.string ⟨#[]⟩)).set 2 (by simp) (.string X1)).set 3 (by simp) (.string ⟨#[]⟩)).set 4 (by simp) (.string ⟨#[]⟩)).set 5 (by simp) (.bool true)).set 6 (by simp) (.bool false)).set 7 (by simp) (.bool false)).set 8 (by simp) (.bool false))
  have dd0 := kk.cell 0
  have dd1 := kk.cell 1
  have dd2 := kk.cell 2
  have dd3 := kk.cell 3
  have dd4 := kk.cell 4
  have dd5 := kk.cell 5
  have dd6 := kk.cell 6
  have dd7 := kk.cell 7
  have dd8 := kk.cell 8
  exact bodyPost_ret (v := .agg #[.string LL, .string ⟨#[]⟩, .string X1, .string ⟨#[]⟩, .string ⟨#[]⟩, .bool true, .bool false, .bool false, .bool false]) (by simp [results, Try.results52, go_sem, dd0, dd1, dd2, dd3, dd4, dd5, dd6, dd7, dd8]) rfl ⟨rfl, ((((((((((((hb2.setCell (by simp) _).setCell (by simp) _).setCell (by simp) _).setCell (by simp) _).setCell (by simp) _).setCell (by simp) _).setCell (by simp) _).setCell (by simp) _).setCell (by simp) _).setCell (by simp) _).setCell (by simp) _).setCell (by simp) _)⟩

set_option maxHeartbeats 2000000 in
set_option maxRecDepth 20000 in
theorem rsp_1001 (S X0 X1 X2 X3 L1 LL MA QU HO PA P2 Z : ByteArray) (n m q h : Nat) (w : World)
    (z0 : X0.size ≤ 100000)
    (z1 : X1.size ≤ 100000)
    (C0 : ∀ w, Calls Try.prog 68 #[.string S] w fun e w' => e = .returned (.string X0) ∧ Below w.heap.size w w')
    (C1 : ∀ w, Calls Try.prog 69 #[.string X0] w fun e w' => e = .returned (.int .i64 (n : Int)) ∧ w' = w)
    (a1 : (0 : Int) < (n : Int))
    (a2 : (n : Int) + 1 ≤ (X0.size : Int))
    (a3 : X0.extract 0 n = L1)
    (a4 : X0.extract (n + 1) X0.size = X1)
    (C2 : ∀ w, Calls Try.prog 27 #[.string L1] w fun e w' => e = .returned (.string LL) ∧ Below w.heap.size w w')
    (C3 : ∀ w, Calls Try.prog 70 #[.string X1, .int .u8 35, .int .u8 35] w fun e w' => e = .returned (.int .i64 (m : Int)) ∧ w' = w)
    (b1 : ¬ m < X1.size)
    (C4 : ∀ w, Calls Try.prog 70 #[.string X1, .int .u8 63, .int .u8 63] w fun e w' => e = .returned (.int .i64 (q : Int)) ∧ w' = w)
    (c1 : ¬ q < X1.size)
    (d1 : (1 : Int) < (X1.size : Int))
    (d2 : X1.extract 0 2 = P2)
    (d3 : (P2.toList == [47, 47]) = false) :
    Calls Try.prog 52 #[.string S] w fun e w' => e = .returned (.agg #[.string LL, .string ⟨#[]⟩, .string X1, .string ⟨#[]⟩, .string ⟨#[]⟩, .bool true, .bool false, .bool false, .bool false]) ∧ Below w.heap.size w w' := by
  have HC0 := hide C0
  have HC1 := hide C1
  have HC2 := hide C2
  have HC3 := hide C3
  have HC4 := hide C4
  clear C0 C1 C3 C4 C2
  have a6 : (n : Int) < (X0.size : Int) := by omega
  have a0 : (n : Int) ≤ (X0.size : Int) := by omega
  have a5 : (0 : Int) ≤ (n : Int) := by omega
  have d0 : (2 : Int) ≤ (X1.size : Int) := by omega
  have kR : Hid (Blk ((w.alloc (Obj.cells #[.string ⟨#[]⟩, .string ⟨#[]⟩, .string ⟨#[]⟩, .string ⟨#[]⟩, .string ⟨#[]⟩, .bool false, .bool false, .bool false, .bool false] 86)).alloc (Obj.cells #[.string ⟨#[]⟩, .string ⟨#[]⟩, .string ⟨#[]⟩, .string ⟨#[]⟩, .string ⟨#[]⟩, .bool false, .bool false, .bool false, .bool false] 86)) w.heap.size #[.string ⟨#[]⟩, .string ⟨#[]⟩, .string ⟨#[]⟩, .string ⟨#[]⟩, .string ⟨#[]⟩, .bool false, .bool false, .bool false, .bool false] 86) := hide ((Blk.new w _ _).alloc _)
  have kB : Hid (Blk ((w.alloc (Obj.cells #[.string ⟨#[]⟩, .string ⟨#[]⟩, .string ⟨#[]⟩, .string ⟨#[]⟩, .string ⟨#[]⟩, .bool false, .bool false, .bool false, .bool false] 86)).alloc (Obj.cells #[.string ⟨#[]⟩, .string ⟨#[]⟩, .string ⟨#[]⟩, .string ⟨#[]⟩, .string ⟨#[]⟩, .bool false, .bool false, .bool false, .bool false] 86)) (w.heap.size + 1) #[.string ⟨#[]⟩, .string ⟨#[]⟩, .string ⟨#[]⟩, .string ⟨#[]⟩, .string ⟨#[]⟩, .bool false, .bool false, .bool false, .bool false] 86) := hide (Eq.mp (by simp) (Blk.new (w.alloc (Obj.cells #[.string ⟨#[]⟩, .string ⟨#[]⟩, .string ⟨#[]⟩, .string ⟨#[]⟩, .string ⟨#[]⟩, .bool false, .bool false, .bool false, .bool false] 86)) #[.string ⟨#[]⟩, .string ⟨#[]⟩, .string ⟨#[]⟩, .string ⟨#[]⟩, .string ⟨#[]⟩, .bool false, .bool false, .bool false, .bool false] 86))
  go_enter Try.func52, Try.ntmps52
  go_wp2_with fail
  refine (unhide HC0 _).mono ?_
  rintro e1 w1 ⟨rfl, hb⟩
  have kR1 := hide ((unhide kR).later hb)
  have kB1 := hide ((unhide kB).later hb)
  have hb1 : Below w.heap.size w w1 := (((Below.refl _ w).alloc (Nat.le_refl _) _).alloc (by simp) _).trans (hb.mono (by simp; omega))
  clear hb kR kB
  go_wp2_with fail
  refine (unhide HC1 _).mono ?_
  rintro e1 w2 ⟨rfl, hw2⟩
  obtain rfl : w1 = w2 := hw2.symm
  clear hw2
  go_wp2_with fail
  refine (unhide HC2 _).mono ?_
  rintro e1 w3 ⟨rfl, hb⟩
  have kr2 := (unhide kR1).later hb
  have k2 := (unhide kB1).later hb
  have hb2 : Below w.heap.size w w3 := tr2 hb1 hb
  clear hb kR1 kB1 hb1
  have pc0 : w3.cell? ⟨w.heap.size + 1, 0, none⟩ = some (.string ⟨#[]⟩) := k2.cell 0
  have pf0 : w3.frozen? ⟨w.heap.size + 1, 0, none⟩ = false := k2.frozen 0
  have rc0 : w3.cell? ⟨w.heap.size, 0, none⟩ = some (.string ⟨#[]⟩) := kr2.cell 0
  have rf0 : w3.frozen? ⟨w.heap.size, 0, none⟩ = false := kr2.frozen 0
  have pc1 : w3.cell? ⟨w.heap.size + 1, 1, none⟩ = some (.string ⟨#[]⟩) := k2.cell 1
  have pf1 : w3.frozen? ⟨w.heap.size + 1, 1, none⟩ = false := k2.frozen 1
  have rc1 : w3.cell? ⟨w.heap.size, 1, none⟩ = some (.string ⟨#[]⟩) := kr2.cell 1
  have rf1 : w3.frozen? ⟨w.heap.size, 1, none⟩ = false := kr2.frozen 1
  have pc2 : w3.cell? ⟨w.heap.size + 1, 2, none⟩ = some (.string ⟨#[]⟩) := k2.cell 2
  have pf2 : w3.frozen? ⟨w.heap.size + 1, 2, none⟩ = false := k2.frozen 2
  have rc2 : w3.cell? ⟨w.heap.size, 2, none⟩ = some (.string ⟨#[]⟩) := kr2.cell 2
  have rf2 : w3.frozen? ⟨w.heap.size, 2, none⟩ = false := kr2.frozen 2
  have pc3 : w3.cell? ⟨w.heap.size + 1, 3, none⟩ = some (.string ⟨#[]⟩) := k2.cell 3
  have pf3 : w3.frozen? ⟨w.heap.size + 1, 3, none⟩ = false := k2.frozen 3
  have rc3 : w3.cell? ⟨w.heap.size, 3, none⟩ = some (.string ⟨#[]⟩) := kr2.cell 3
  have rf3 : w3.frozen? ⟨w.heap.size, 3, none⟩ = false := kr2.frozen 3
  have pc4 : w3.cell? ⟨w.heap.size + 1, 4, none⟩ = some (.string ⟨#[]⟩) := k2.cell 4
  have pf4 : w3.frozen? ⟨w.heap.size + 1, 4, none⟩ = false := k2.frozen 4
  have rc4 : w3.cell? ⟨w.heap.size, 4, none⟩ = some (.string ⟨#[]⟩) := kr2.cell 4
  have rf4 : w3.frozen? ⟨w.heap.size, 4, none⟩ = false := kr2.frozen 4
  have pc5 : w3.cell? ⟨w.heap.size + 1, 5, none⟩ = some (.bool false) := k2.cell 5
  have pf5 : w3.frozen? ⟨w.heap.size + 1, 5, none⟩ = false := k2.frozen 5
  have rc5 : w3.cell? ⟨w.heap.size, 5, none⟩ = some (.bool false) := kr2.cell 5
  have rf5 : w3.frozen? ⟨w.heap.size, 5, none⟩ = false := kr2.frozen 5
  have pc6 : w3.cell? ⟨w.heap.size + 1, 6, none⟩ = some (.bool false) := k2.cell 6
  have pf6 : w3.frozen? ⟨w.heap.size + 1, 6, none⟩ = false := k2.frozen 6
  have rc6 : w3.cell? ⟨w.heap.size, 6, none⟩ = some (.bool false) := kr2.cell 6
  have rf6 : w3.frozen? ⟨w.heap.size, 6, none⟩ = false := kr2.frozen 6
  have pc7 : w3.cell? ⟨w.heap.size + 1, 7, none⟩ = some (.bool false) := k2.cell 7
  have pf7 : w3.frozen? ⟨w.heap.size + 1, 7, none⟩ = false := k2.frozen 7
  have rc7 : w3.cell? ⟨w.heap.size, 7, none⟩ = some (.bool false) := kr2.cell 7
  have rf7 : w3.frozen? ⟨w.heap.size, 7, none⟩ = false := kr2.frozen 7
  have pc8 : w3.cell? ⟨w.heap.size + 1, 8, none⟩ = some (.bool false) := k2.cell 8
  have pf8 : w3.frozen? ⟨w.heap.size + 1, 8, none⟩ = false := k2.frozen 8
  have rc8 : w3.cell? ⟨w.heap.size, 8, none⟩ = some (.bool false) := kr2.cell 8
  have rf8 : w3.frozen? ⟨w.heap.size, 8, none⟩ = false := kr2.frozen 8
  have KR2 := hide kr2
  clear k2 kr2
  go_wp2_with fail
  refine (unhide HC3 _).mono ?_
  rintro e1 w4 ⟨rfl, hw4⟩
  subst hw4
  go_wp2_with fail
  refine (unhide HC4 _).mono ?_
  rintro e1 w4 ⟨rfl, hw4⟩
  subst hw4
  go_wp2
  have kk := (((((((((((((unhide KR2).away (show w.heap.size ≠ w.heap.size + 1 by omega) (.string LL) (o := 0)).away (show w.heap.size ≠ w.heap.size + 1 by omega) (.bool true) (o := 5)).away (show w.heap.size ≠ w.heap.size + 1 by omega) (.string X1) (o := 2)).set 0 (by simp) (.string LL)).set 1 (by simp) (.string ⟨#[]⟩)).set 2 (by simp) (.string X1)).set 3 (by simp) (.string ⟨#[]⟩)).set 4 (by simp) (.string ⟨#[]⟩)).set 5 (by simp) (.bool true)).set 6 (by simp) (.bool false)).set 7 (by simp) (.bool false)).set 8 (by simp) (.bool false))
  have dd0 := kk.cell 0
  have dd1 := kk.cell 1
  have dd2 := kk.cell 2
  have dd3 := kk.cell 3
  have dd4 := kk.cell 4
  have dd5 := kk.cell 5
  have dd6 := kk.cell 6
  have dd7 := kk.cell 7
  have dd8 := kk.cell 8
  exact bodyPost_ret (v := .agg #[.string LL, .string ⟨#[]⟩, .string X1, .string ⟨#[]⟩, .string ⟨#[]⟩, .bool true, .bool false, .bool false, .bool false]) (by simp [results, Try.results52, go_sem, dd0, dd1, dd2, dd3, dd4, dd5, dd6, dd7, dd8]) rfl ⟨rfl, ((((((((((((hb2.setCell (by simp) _).setCell (by simp) _).setCell (by simp) _).setCell (by simp) _).setCell (by simp) _).setCell (by simp) _).setCell (by simp) _).setCell (by simp) _).setCell (by simp) _).setCell (by simp) _).setCell (by simp) _).setCell (by simp) _)⟩

set_option maxHeartbeats 2000000 in
set_option maxRecDepth 20000 in
theorem rsp_1002 (S X0 X1 X2 X3 L1 LL MA QU HO PA P2 Z : ByteArray) (n m q h : Nat) (w : World)
    (z0 : X0.size ≤ 100000)
    (z1 : X1.size ≤ 100000)
    (C0 : ∀ w, Calls Try.prog 68 #[.string S] w fun e w' => e = .returned (.string X0) ∧ Below w.heap.size w w')
    (C1 : ∀ w, Calls Try.prog 69 #[.string X0] w fun e w' => e = .returned (.int .i64 (n : Int)) ∧ w' = w)
    (a1 : (0 : Int) < (n : Int))
    (a2 : (n : Int) + 1 ≤ (X0.size : Int))
    (a3 : X0.extract 0 n = L1)
    (a4 : X0.extract (n + 1) X0.size = X1)
    (C2 : ∀ w, Calls Try.prog 27 #[.string L1] w fun e w' => e = .returned (.string LL) ∧ Below w.heap.size w w')
    (C3 : ∀ w, Calls Try.prog 70 #[.string X1, .int .u8 35, .int .u8 35] w fun e w' => e = .returned (.int .i64 (m : Int)) ∧ w' = w)
    (b1 : ¬ m < X1.size)
    (C4 : ∀ w, Calls Try.prog 70 #[.string X1, .int .u8 63, .int .u8 63] w fun e w' => e = .returned (.int .i64 (q : Int)) ∧ w' = w)
    (c1 : ¬ q < X1.size)
    (d1 : (1 : Int) < (X1.size : Int))
    (d2 : X1.extract 0 2 = P2)
    (d3 : (P2.toList == [47, 47]) = true)
    (d4 : X1.extract 2 X1.size = Z)
    (C5 : ∀ w, Calls Try.prog 70 #[.string Z, .int .u8 47, .int .u8 92] w fun e w' => e = .returned (.int .i64 (h : Int)) ∧ w' = w)
    (d5 : (2 : Int) + (h : Int) ≤ (X1.size : Int))
    (d6 : X1.extract 2 (2 + h) = HO)
    (d7 : X1.extract (2 + h) X1.size = PA) :
    Calls Try.prog 52 #[.string S] w fun e w' => e = .returned (.agg #[.string LL, .string HO, .string PA, .string ⟨#[]⟩, .string ⟨#[]⟩, .bool true, .bool true, .bool false, .bool false]) ∧ Below w.heap.size w w' := by
  have HC0 := hide C0
  have HC1 := hide C1
  have HC2 := hide C2
  have HC3 := hide C3
  have HC4 := hide C4
  have HC5 := hide C5
  clear C0 C1 C3 C4 C2 C5
  have a6 : (n : Int) < (X0.size : Int) := by omega
  have a0 : (n : Int) ≤ (X0.size : Int) := by omega
  have a5 : (0 : Int) ≤ (n : Int) := by omega
  have d0 : (2 : Int) ≤ (X1.size : Int) := by omega
  have d8 : (0 : Int) ≤ (2 : Int) + (h : Int) := by omega
  have d9 : (2 : Int) ≤ (2 : Int) + (h : Int) := by omega
  have e1 : ((2 : Int) + (h : Int)).toNat = 2 + h := by omega
  have kR : Hid (Blk ((w.alloc (Obj.cells #[.string ⟨#[]⟩, .string ⟨#[]⟩, .string ⟨#[]⟩, .string ⟨#[]⟩, .string ⟨#[]⟩, .bool false, .bool false, .bool false, .bool false] 86)).alloc (Obj.cells #[.string ⟨#[]⟩, .string ⟨#[]⟩, .string ⟨#[]⟩, .string ⟨#[]⟩, .string ⟨#[]⟩, .bool false, .bool false, .bool false, .bool false] 86)) w.heap.size #[.string ⟨#[]⟩, .string ⟨#[]⟩, .string ⟨#[]⟩, .string ⟨#[]⟩, .string ⟨#[]⟩, .bool false, .bool false, .bool false, .bool false] 86) := hide ((Blk.new w _ _).alloc _)
  have kB : Hid (Blk ((w.alloc (Obj.cells #[.string ⟨#[]⟩, .string ⟨#[]⟩, .string ⟨#[]⟩, .string ⟨#[]⟩, .string ⟨#[]⟩, .bool false, .bool false, .bool false, .bool false] 86)).alloc (Obj.cells #[.string ⟨#[]⟩, .string ⟨#[]⟩, .string ⟨#[]⟩, .string ⟨#[]⟩, .string ⟨#[]⟩, .bool false, .bool false, .bool false, .bool false] 86)) (w.heap.size + 1) #[.string ⟨#[]⟩, .string ⟨#[]⟩, .string ⟨#[]⟩, .string ⟨#[]⟩, .string ⟨#[]⟩, .bool false, .bool false, .bool false, .bool false] 86) := hide (Eq.mp (by simp) (Blk.new (w.alloc (Obj.cells #[.string ⟨#[]⟩, .string ⟨#[]⟩, .string ⟨#[]⟩, .string ⟨#[]⟩, .string ⟨#[]⟩, .bool false, .bool false, .bool false, .bool false] 86)) #[.string ⟨#[]⟩, .string ⟨#[]⟩, .string ⟨#[]⟩, .string ⟨#[]⟩, .string ⟨#[]⟩, .bool false, .bool false, .bool false, .bool false] 86))
  go_enter Try.func52, Try.ntmps52
  go_wp2_with fail
  refine (unhide HC0 _).mono ?_
  rintro e1 w1 ⟨rfl, hb⟩
  have kR1 := hide ((unhide kR).later hb)
  have kB1 := hide ((unhide kB).later hb)
  have hb1 : Below w.heap.size w w1 := (((Below.refl _ w).alloc (Nat.le_refl _) _).alloc (by simp) _).trans (hb.mono (by simp; omega))
  clear hb kR kB
  go_wp2_with fail
  refine (unhide HC1 _).mono ?_
  rintro e1 w2 ⟨rfl, hw2⟩
  obtain rfl : w1 = w2 := hw2.symm
  clear hw2
  go_wp2_with fail
  refine (unhide HC2 _).mono ?_
  rintro e1 w3 ⟨rfl, hb⟩
  have kr2 := (unhide kR1).later hb
  have k2 := (unhide kB1).later hb
  have hb2 : Below w.heap.size w w3 := tr2 hb1 hb
  clear hb kR1 kB1 hb1
  have pc0 : w3.cell? ⟨w.heap.size + 1, 0, none⟩ = some (.string ⟨#[]⟩) := k2.cell 0
  have pf0 : w3.frozen? ⟨w.heap.size + 1, 0, none⟩ = false := k2.frozen 0
  have rc0 : w3.cell? ⟨w.heap.size, 0, none⟩ = some (.string ⟨#[]⟩) := kr2.cell 0
  have rf0 : w3.frozen? ⟨w.heap.size, 0, none⟩ = false := kr2.frozen 0
  have pc1 : w3.cell? ⟨w.heap.size + 1, 1, none⟩ = some (.string ⟨#[]⟩) := k2.cell 1
  have pf1 : w3.frozen? ⟨w.heap.size + 1, 1, none⟩ = false := k2.frozen 1
  have rc1 : w3.cell? ⟨w.heap.size, 1, none⟩ = some (.string ⟨#[]⟩) := kr2.cell 1
  have rf1 : w3.frozen? ⟨w.heap.size, 1, none⟩ = false := kr2.frozen 1
  have pc2 : w3.cell? ⟨w.heap.size + 1, 2, none⟩ = some (.string ⟨#[]⟩) := k2.cell 2
  have pf2 : w3.frozen? ⟨w.heap.size + 1, 2, none⟩ = false := k2.frozen 2
  have rc2 : w3.cell? ⟨w.heap.size, 2, none⟩ = some (.string ⟨#[]⟩) := kr2.cell 2
  have rf2 : w3.frozen? ⟨w.heap.size, 2, none⟩ = false := kr2.frozen 2
  have pc3 : w3.cell? ⟨w.heap.size + 1, 3, none⟩ = some (.string ⟨#[]⟩) := k2.cell 3
  have pf3 : w3.frozen? ⟨w.heap.size + 1, 3, none⟩ = false := k2.frozen 3
  have rc3 : w3.cell? ⟨w.heap.size, 3, none⟩ = some (.string ⟨#[]⟩) := kr2.cell 3
  have rf3 : w3.frozen? ⟨w.heap.size, 3, none⟩ = false := kr2.frozen 3
  have pc4 : w3.cell? ⟨w.heap.size + 1, 4, none⟩ = some (.string ⟨#[]⟩) := k2.cell 4
  have pf4 : w3.frozen? ⟨w.heap.size + 1, 4, none⟩ = false := k2.frozen 4
  have rc4 : w3.cell? ⟨w.heap.size, 4, none⟩ = some (.string ⟨#[]⟩) := kr2.cell 4
  have rf4 : w3.frozen? ⟨w.heap.size, 4, none⟩ = false := kr2.frozen 4
  have pc5 : w3.cell? ⟨w.heap.size + 1, 5, none⟩ = some (.bool false) := k2.cell 5
  have pf5 : w3.frozen? ⟨w.heap.size + 1, 5, none⟩ = false := k2.frozen 5
  have rc5 : w3.cell? ⟨w.heap.size, 5, none⟩ = some (.bool false) := kr2.cell 5
  have rf5 : w3.frozen? ⟨w.heap.size, 5, none⟩ = false := kr2.frozen 5
  have pc6 : w3.cell? ⟨w.heap.size + 1, 6, none⟩ = some (.bool false) := k2.cell 6
  have pf6 : w3.frozen? ⟨w.heap.size + 1, 6, none⟩ = false := k2.frozen 6
  have rc6 : w3.cell? ⟨w.heap.size, 6, none⟩ = some (.bool false) := kr2.cell 6
  have rf6 : w3.frozen? ⟨w.heap.size, 6, none⟩ = false := kr2.frozen 6
  have pc7 : w3.cell? ⟨w.heap.size + 1, 7, none⟩ = some (.bool false) := k2.cell 7
  have pf7 : w3.frozen? ⟨w.heap.size + 1, 7, none⟩ = false := k2.frozen 7
  have rc7 : w3.cell? ⟨w.heap.size, 7, none⟩ = some (.bool false) := kr2.cell 7
  have rf7 : w3.frozen? ⟨w.heap.size, 7, none⟩ = false := kr2.frozen 7
  have pc8 : w3.cell? ⟨w.heap.size + 1, 8, none⟩ = some (.bool false) := k2.cell 8
  have pf8 : w3.frozen? ⟨w.heap.size + 1, 8, none⟩ = false := k2.frozen 8
  have rc8 : w3.cell? ⟨w.heap.size, 8, none⟩ = some (.bool false) := kr2.cell 8
  have rf8 : w3.frozen? ⟨w.heap.size, 8, none⟩ = false := kr2.frozen 8
  have KR2 := hide kr2
  clear k2 kr2
  go_wp2_with fail
  refine (unhide HC3 _).mono ?_
  rintro e1 w4 ⟨rfl, hw4⟩
  subst hw4
  go_wp2_with fail
  refine (unhide HC4 _).mono ?_
  rintro e1 w4 ⟨rfl, hw4⟩
  subst hw4
  go_wp2_with fail
  refine (unhide HC5 _).mono ?_
  rintro e1 w4 ⟨rfl, hw4⟩
  subst hw4
  go_wp2
  have kk := (((((((((((((((unhide KR2).away (show w.heap.size ≠ w.heap.size + 1 by omega) (.string LL) (o := 0)).away (show w.heap.size ≠ w.heap.size + 1 by omega) (.bool true) (o := 5)).away (show w.heap.size ≠ w.heap.size + 1 by omega) (.bool true) (o := 6)).away (show w.heap.size ≠ w.heap.size + 1 by omega) (.string HO) (o := 1)).away (show w.heap.size ≠ w.heap.size + 1 by omega) (.string PA) (o := 2)).set 0 (by simp) (.string LL)).set 1 (by simp) (.string HO)).set 2 (by simp) (.string PA)).set 3 (by simp) (.string ⟨#[]⟩)).set 4 (by simp) (.string ⟨#[]⟩)).set 5 (by simp) (.bool true)).set 6 (by simp) (.bool true)).set 7 (by simp) (.bool false)).set 8 (by simp) (.bool false))
  have dd0 := kk.cell 0
  have dd1 := kk.cell 1
  have dd2 := kk.cell 2
  have dd3 := kk.cell 3
  have dd4 := kk.cell 4
  have dd5 := kk.cell 5
  have dd6 := kk.cell 6
  have dd7 := kk.cell 7
  have dd8 := kk.cell 8
  exact bodyPost_ret (v := .agg #[.string LL, .string HO, .string PA, .string ⟨#[]⟩, .string ⟨#[]⟩, .bool true, .bool true, .bool false, .bool false]) (by simp [results, Try.results52, go_sem, dd0, dd1, dd2, dd3, dd4, dd5, dd6, dd7, dd8]) rfl ⟨rfl, ((((((((((((((hb2.setCell (by simp) _).setCell (by simp) _).setCell (by simp) _).setCell (by simp) _).setCell (by simp) _).setCell (by simp) _).setCell (by simp) _).setCell (by simp) _).setCell (by simp) _).setCell (by simp) _).setCell (by simp) _).setCell (by simp) _).setCell (by simp) _).setCell (by simp) _)⟩

set_option maxHeartbeats 2000000 in
set_option maxRecDepth 20000 in
theorem rsp_1010 (S X0 X1 X2 X3 L1 LL MA QU HO PA P2 Z : ByteArray) (n m q h : Nat) (w : World)
    (z0 : X0.size ≤ 100000)
    (z1 : X1.size ≤ 100000)
    (z3 : X3.size ≤ 100000)
    (C0 : ∀ w, Calls Try.prog 68 #[.string S] w fun e w' => e = .returned (.string X0) ∧ Below w.heap.size w w')
    (C1 : ∀ w, Calls Try.prog 69 #[.string X0] w fun e w' => e = .returned (.int .i64 (n : Int)) ∧ w' = w)
    (a1 : (0 : Int) < (n : Int))
    (a2 : (n : Int) + 1 ≤ (X0.size : Int))
    (a3 : X0.extract 0 n = L1)
    (a4 : X0.extract (n + 1) X0.size = X1)
    (C2 : ∀ w, Calls Try.prog 27 #[.string L1] w fun e w' => e = .returned (.string LL) ∧ Below w.heap.size w w')
    (C3 : ∀ w, Calls Try.prog 70 #[.string X1, .int .u8 35, .int .u8 35] w fun e w' => e = .returned (.int .i64 (m : Int)) ∧ w' = w)
    (b1 : ¬ m < X1.size)
    (C4 : ∀ w, Calls Try.prog 70 #[.string X1, .int .u8 63, .int .u8 63] w fun e w' => e = .returned (.int .i64 (q : Int)) ∧ w' = w)
    (c1 : (q : Int) + 1 ≤ (X1.size : Int))
    (c2 : X1.extract (q + 1) X1.size = QU)
    (c3 : X1.extract 0 q = X3)
    (d1 : ¬ 1 < X3.size) :
    Calls Try.prog 52 #[.string S] w fun e w' => e = .returned (.agg #[.string LL, .string ⟨#[]⟩, .string X3, .string QU, .string ⟨#[]⟩, .bool true, .bool false, .bool true, .bool false]) ∧ Below w.heap.size w w' := by
  have HC0 := hide C0
  have HC1 := hide C1
  have HC2 := hide C2
  have HC3 := hide C3
  have HC4 := hide C4
  clear C0 C1 C3 C4 C2
  have a6 : (n : Int) < (X0.size : Int) := by omega
  have a0 : (n : Int) ≤ (X0.size : Int) := by omega
  have a5 : (0 : Int) ≤ (n : Int) := by omega
  have c0 : (q : Int) < (X1.size : Int) := by omega
  have c5 : (q : Int) ≤ (X1.size : Int) := by omega
  have kR : Hid (Blk ((w.alloc (Obj.cells #[.string ⟨#[]⟩, .string ⟨#[]⟩, .string ⟨#[]⟩, .string ⟨#[]⟩, .string ⟨#[]⟩, .bool false, .bool false, .bool false, .bool false] 86)).alloc (Obj.cells #[.string ⟨#[]⟩, .string ⟨#[]⟩, .string ⟨#[]⟩, .string ⟨#[]⟩, .string ⟨#[]⟩, .bool false, .bool false, .bool false, .bool false] 86)) w.heap.size #[.string ⟨#[]⟩, .string ⟨#[]⟩, .string ⟨#[]⟩, .string ⟨#[]⟩, .string ⟨#[]⟩, .bool false, .bool false, .bool false, .bool false] 86) := hide ((Blk.new w _ _).alloc _)
  have kB : Hid (Blk ((w.alloc (Obj.cells #[.string ⟨#[]⟩, .string ⟨#[]⟩, .string ⟨#[]⟩, .string ⟨#[]⟩, .string ⟨#[]⟩, .bool false, .bool false, .bool false, .bool false] 86)).alloc (Obj.cells #[.string ⟨#[]⟩, .string ⟨#[]⟩, .string ⟨#[]⟩, .string ⟨#[]⟩, .string ⟨#[]⟩, .bool false, .bool false, .bool false, .bool false] 86)) (w.heap.size + 1) #[.string ⟨#[]⟩, .string ⟨#[]⟩, .string ⟨#[]⟩, .string ⟨#[]⟩, .string ⟨#[]⟩, .bool false, .bool false, .bool false, .bool false] 86) := hide (Eq.mp (by simp) (Blk.new (w.alloc (Obj.cells #[.string ⟨#[]⟩, .string ⟨#[]⟩, .string ⟨#[]⟩, .string ⟨#[]⟩, .string ⟨#[]⟩, .bool false, .bool false, .bool false, .bool false] 86)) #[.string ⟨#[]⟩, .string ⟨#[]⟩, .string ⟨#[]⟩, .string ⟨#[]⟩, .string ⟨#[]⟩, .bool false, .bool false, .bool false, .bool false] 86))
  go_enter Try.func52, Try.ntmps52
  go_wp2_with fail
  refine (unhide HC0 _).mono ?_
  rintro e1 w1 ⟨rfl, hb⟩
  have kR1 := hide ((unhide kR).later hb)
  have kB1 := hide ((unhide kB).later hb)
  have hb1 : Below w.heap.size w w1 := (((Below.refl _ w).alloc (Nat.le_refl _) _).alloc (by simp) _).trans (hb.mono (by simp; omega))
  clear hb kR kB
  go_wp2_with fail
  refine (unhide HC1 _).mono ?_
  rintro e1 w2 ⟨rfl, hw2⟩
  obtain rfl : w1 = w2 := hw2.symm
  clear hw2
  go_wp2_with fail
  refine (unhide HC2 _).mono ?_
  rintro e1 w3 ⟨rfl, hb⟩
  have kr2 := (unhide kR1).later hb
  have k2 := (unhide kB1).later hb
  have hb2 : Below w.heap.size w w3 := tr2 hb1 hb
  clear hb kR1 kB1 hb1
  have pc0 : w3.cell? ⟨w.heap.size + 1, 0, none⟩ = some (.string ⟨#[]⟩) := k2.cell 0
  have pf0 : w3.frozen? ⟨w.heap.size + 1, 0, none⟩ = false := k2.frozen 0
  have rc0 : w3.cell? ⟨w.heap.size, 0, none⟩ = some (.string ⟨#[]⟩) := kr2.cell 0
  have rf0 : w3.frozen? ⟨w.heap.size, 0, none⟩ = false := kr2.frozen 0
  have pc1 : w3.cell? ⟨w.heap.size + 1, 1, none⟩ = some (.string ⟨#[]⟩) := k2.cell 1
  have pf1 : w3.frozen? ⟨w.heap.size + 1, 1, none⟩ = false := k2.frozen 1
  have rc1 : w3.cell? ⟨w.heap.size, 1, none⟩ = some (.string ⟨#[]⟩) := kr2.cell 1
  have rf1 : w3.frozen? ⟨w.heap.size, 1, none⟩ = false := kr2.frozen 1
  have pc2 : w3.cell? ⟨w.heap.size + 1, 2, none⟩ = some (.string ⟨#[]⟩) := k2.cell 2
  have pf2 : w3.frozen? ⟨w.heap.size + 1, 2, none⟩ = false := k2.frozen 2
  have rc2 : w3.cell? ⟨w.heap.size, 2, none⟩ = some (.string ⟨#[]⟩) := kr2.cell 2
  have rf2 : w3.frozen? ⟨w.heap.size, 2, none⟩ = false := kr2.frozen 2
  have pc3 : w3.cell? ⟨w.heap.size + 1, 3, none⟩ = some (.string ⟨#[]⟩) := k2.cell 3
  have pf3 : w3.frozen? ⟨w.heap.size + 1, 3, none⟩ = false := k2.frozen 3
  have rc3 : w3.cell? ⟨w.heap.size, 3, none⟩ = some (.string ⟨#[]⟩) := kr2.cell 3
  have rf3 : w3.frozen? ⟨w.heap.size, 3, none⟩ = false := kr2.frozen 3
  have pc4 : w3.cell? ⟨w.heap.size + 1, 4, none⟩ = some (.string ⟨#[]⟩) := k2.cell 4
  have pf4 : w3.frozen? ⟨w.heap.size + 1, 4, none⟩ = false := k2.frozen 4
  have rc4 : w3.cell? ⟨w.heap.size, 4, none⟩ = some (.string ⟨#[]⟩) := kr2.cell 4
  have rf4 : w3.frozen? ⟨w.heap.size, 4, none⟩ = false := kr2.frozen 4
  have pc5 : w3.cell? ⟨w.heap.size + 1, 5, none⟩ = some (.bool false) := k2.cell 5
  have pf5 : w3.frozen? ⟨w.heap.size + 1, 5, none⟩ = false := k2.frozen 5
  have rc5 : w3.cell? ⟨w.heap.size, 5, none⟩ = some (.bool false) := kr2.cell 5
  have rf5 : w3.frozen? ⟨w.heap.size, 5, none⟩ = false := kr2.frozen 5
  have pc6 : w3.cell? ⟨w.heap.size + 1, 6, none⟩ = some (.bool false) := k2.cell 6
  have pf6 : w3.frozen? ⟨w.heap.size + 1, 6, none⟩ = false := k2.frozen 6
  have rc6 : w3.cell? ⟨w.heap.size, 6, none⟩ = some (.bool false) := kr2.cell 6
  have rf6 : w3.frozen? ⟨w.heap.size, 6, none⟩ = false := kr2.frozen 6
  have pc7 : w3.cell? ⟨w.heap.size + 1, 7, none⟩ = some (.bool false) := k2.cell 7
  have pf7 : w3.frozen? ⟨w.heap.size + 1, 7, none⟩ = false := k2.frozen 7
  have rc7 : w3.cell? ⟨w.heap.size, 7, none⟩ = some (.bool false) := kr2.cell 7
  have rf7 : w3.frozen? ⟨w.heap.size, 7, none⟩ = false := kr2.frozen 7
  have pc8 : w3.cell? ⟨w.heap.size + 1, 8, none⟩ = some (.bool false) := k2.cell 8
  have pf8 : w3.frozen? ⟨w.heap.size + 1, 8, none⟩ = false := k2.frozen 8
  have rc8 : w3.cell? ⟨w.heap.size, 8, none⟩ = some (.bool false) := kr2.cell 8
  have rf8 : w3.frozen? ⟨w.heap.size, 8, none⟩ = false := kr2.frozen 8
  have KR2 := hide kr2
  clear k2 kr2
  go_wp2_with fail
  refine (unhide HC3 _).mono ?_
  rintro e1 w4 ⟨rfl, hw4⟩
  subst hw4
  go_wp2_with fail
  refine (unhide HC4 _).mono ?_
  rintro e1 w4 ⟨rfl, hw4⟩
  subst hw4
  go_wp2
  have kk := (((((((((((((((unhide KR2).away (show w.heap.size ≠ w.heap.size + 1 by omega) (.string LL) (o := 0)).away (show w.heap.size ≠ w.heap.size + 1 by omega) (.bool true) (o := 5)).away (show w.heap.size ≠ w.heap.size + 1 by omega) (.bool true) (o := 7)).away (show w.heap.size ≠ w.heap.size + 1 by omega) (.string QU) (o := 3)).away (show w.heap.size ≠ w.heap.size + 1 by omega) (.string X3) (o := 2)).set 0 (by simp) (.string LL)).set 1 (by simp) (.string ⟨#[]⟩)).set 2 (by simp) (.string X3)).set 3 (by simp) (.string QU)).set 4 (by simp) (.string ⟨#[]⟩)).set 5 (by simp) (.bool true)).set 6 (by simp) (.bool false)).set 7 (by simp) (.bool true)).set 8 (by simp) (.bool false))
  have dd0 := kk.cell 0
  have dd1 := kk.cell 1
  have dd2 := kk.cell 2
  have dd3 := kk.cell 3
  have dd4 := kk.cell 4
  have dd5 := kk.cell 5
  have dd6 := kk.cell 6
  have dd7 := kk.cell 7
  have dd8 := kk.cell 8
  exact bodyPost_ret (v := .agg #[.string LL, .string ⟨#[]⟩, .string X3, .string QU, .string ⟨#[]⟩, .bool true, .bool false, .bool true, .bool false]) (by simp [results, Try.results52, go_sem, dd0, dd1, dd2, dd3, dd4, dd5, dd6, dd7, dd8]) rfl ⟨rfl, ((((((((((((((hb2.setCell (by simp) _).setCell (by simp) _).setCell (by simp) _).setCell (by simp) _).setCell (by simp) _).setCell (by simp) _).setCell (by simp) _).setCell (by simp) _).setCell (by simp) _).setCell (by simp) _).setCell (by simp) _).setCell (by simp) _).setCell (by simp) _).setCell (by simp) _)⟩

set_option maxHeartbeats 2000000 in
set_option maxRecDepth 20000 in
theorem rsp_1011 (S X0 X1 X2 X3 L1 LL MA QU HO PA P2 Z : ByteArray) (n m q h : Nat) (w : World)
    (z0 : X0.size ≤ 100000)
    (z1 : X1.size ≤ 100000)
    (z3 : X3.size ≤ 100000)
    (C0 : ∀ w, Calls Try.prog 68 #[.string S] w fun e w' => e = .returned (.string X0) ∧ Below w.heap.size w w')
    (C1 : ∀ w, Calls Try.prog 69 #[.string X0] w fun e w' => e = .returned (.int .i64 (n : Int)) ∧ w' = w)
    (a1 : (0 : Int) < (n : Int))
    (a2 : (n : Int) + 1 ≤ (X0.size : Int))
    (a3 : X0.extract 0 n = L1)
    (a4 : X0.extract (n + 1) X0.size = X1)
    (C2 : ∀ w, Calls Try.prog 27 #[.string L1] w fun e w' => e = .returned (.string LL) ∧ Below w.heap.size w w')
    (C3 : ∀ w, Calls Try.prog 70 #[.string X1, .int .u8 35, .int .u8 35] w fun e w' => e = .returned (.int .i64 (m : Int)) ∧ w' = w)
    (b1 : ¬ m < X1.size)
    (C4 : ∀ w, Calls Try.prog 70 #[.string X1, .int .u8 63, .int .u8 63] w fun e w' => e = .returned (.int .i64 (q : Int)) ∧ w' = w)
    (c1 : (q : Int) + 1 ≤ (X1.size : Int))
    (c2 : X1.extract (q + 1) X1.size = QU)
    (c3 : X1.extract 0 q = X3)
    (d1 : (1 : Int) < (X3.size : Int))
    (d2 : X3.extract 0 2 = P2)
    (d3 : (P2.toList == [47, 47]) = false) :
    Calls Try.prog 52 #[.string S] w fun e w' => e = .returned (.agg #[.string LL, .string ⟨#[]⟩, .string X3, .string QU, .string ⟨#[]⟩, .bool true, .bool false, .bool true, .bool false]) ∧ Below w.heap.size w w' := by
  have HC0 := hide C0
  have HC1 := hide C1
  have HC2 := hide C2
  have HC3 := hide C3
  have HC4 := hide C4
  clear C0 C1 C3 C4 C2
  have a6 : (n : Int) < (X0.size : Int) := by omega
  have a0 : (n : Int) ≤ (X0.size : Int) := by omega
  have a5 : (0 : Int) ≤ (n : Int) := by omega
  have c0 : (q : Int) < (X1.size : Int) := by omega
  have c5 : (q : Int) ≤ (X1.size : Int) := by omega
  have d0 : (2 : Int) ≤ (X3.size : Int) := by omega
  have kR : Hid (Blk ((w.alloc (Obj.cells #[.string ⟨#[]⟩, .string ⟨#[]⟩, .string ⟨#[]⟩, .string ⟨#[]⟩, .string ⟨#[]⟩, .bool false, .bool false, .bool false, .bool false] 86)).alloc (Obj.cells #[.string ⟨#[]⟩, .string ⟨#[]⟩, .string ⟨#[]⟩, .string ⟨#[]⟩, .string ⟨#[]⟩, .bool false, .bool false, .bool false, .bool false] 86)) w.heap.size #[.string ⟨#[]⟩, .string ⟨#[]⟩, .string ⟨#[]⟩, .string ⟨#[]⟩, .string ⟨#[]⟩, .bool false, .bool false, .bool false, .bool false] 86) := hide ((Blk.new w _ _).alloc _)
  have kB : Hid (Blk ((w.alloc (Obj.cells #[.string ⟨#[]⟩, .string ⟨#[]⟩, .string ⟨#[]⟩, .string ⟨#[]⟩, .string ⟨#[]⟩, .bool false, .bool false, .bool false, .bool false] 86)).alloc (Obj.cells #[.string ⟨#[]⟩, .string ⟨#[]⟩, .string ⟨#[]⟩, .string ⟨#[]⟩, .string ⟨#[]⟩, .bool false, .bool false, .bool false, .bool false] 86)) (w.heap.size + 1) #[.string ⟨#[]⟩, .string ⟨#[]⟩, .string ⟨#[]⟩, .string ⟨#[]⟩, .string ⟨#[]⟩, .bool false, .bool false, .bool false, .bool false] 86) := hide (Eq.mp (by simp) (Blk.new (w.alloc (Obj.cells #[.string ⟨#[]⟩, .string ⟨#[]⟩, .string ⟨#[]⟩, .string ⟨#[]⟩, .string ⟨#[]⟩, .bool false, .bool false, .bool false, .bool false] 86)) #[.string ⟨#[]⟩, .string ⟨#[]⟩, .string ⟨#[]⟩, .string ⟨#[]⟩, .string ⟨#[]⟩, .bool false, .bool false, .bool false, .bool false] 86))
  go_enter Try.func52, Try.ntmps52
  go_wp2_with fail
  refine (unhide HC0 _).mono ?_
  rintro e1 w1 ⟨rfl, hb⟩
  have kR1 := hide ((unhide kR).later hb)
  have kB1 := hide ((unhide kB).later hb)
  have hb1 : Below w.heap.size w w1 := (((Below.refl _ w).alloc (Nat.le_refl _) _).alloc (by simp) _).trans (hb.mono (by simp; omega))
  clear hb kR kB
  go_wp2_with fail
  refine (unhide HC1 _).mono ?_
  rintro e1 w2 ⟨rfl, hw2⟩
  obtain rfl : w1 = w2 := hw2.symm
  clear hw2
  go_wp2_with fail
  refine (unhide HC2 _).mono ?_
  rintro e1 w3 ⟨rfl, hb⟩
  have kr2 := (unhide kR1).later hb
  have k2 := (unhide kB1).later hb
  have hb2 : Below w.heap.size w w3 := tr2 hb1 hb
  clear hb kR1 kB1 hb1
  have pc0 : w3.cell? ⟨w.heap.size + 1, 0, none⟩ = some (.string ⟨#[]⟩) := k2.cell 0
  have pf0 : w3.frozen? ⟨w.heap.size + 1, 0, none⟩ = false := k2.frozen 0
  have rc0 : w3.cell? ⟨w.heap.size, 0, none⟩ = some (.string ⟨#[]⟩) := kr2.cell 0
  have rf0 : w3.frozen? ⟨w.heap.size, 0, none⟩ = false := kr2.frozen 0
  have pc1 : w3.cell? ⟨w.heap.size + 1, 1, none⟩ = some (.string ⟨#[]⟩) := k2.cell 1
  have pf1 : w3.frozen? ⟨w.heap.size + 1, 1, none⟩ = false := k2.frozen 1
  have rc1 : w3.cell? ⟨w.heap.size, 1, none⟩ = some (.string ⟨#[]⟩) := kr2.cell 1
  have rf1 : w3.frozen? ⟨w.heap.size, 1, none⟩ = false := kr2.frozen 1
  have pc2 : w3.cell? ⟨w.heap.size + 1, 2, none⟩ = some (.string ⟨#[]⟩) := k2.cell 2
  have pf2 : w3.frozen? ⟨w.heap.size + 1, 2, none⟩ = false := k2.frozen 2
  have rc2 : w3.cell? ⟨w.heap.size, 2, none⟩ = some (.string ⟨#[]⟩) := kr2.cell 2
  have rf2 : w3.frozen? ⟨w.heap.size, 2, none⟩ = false := kr2.frozen 2
  have pc3 : w3.cell? ⟨w.heap.size + 1, 3, none⟩ = some (.string ⟨#[]⟩) := k2.cell 3
  have pf3 : w3.frozen? ⟨w.heap.size + 1, 3, none⟩ = false := k2.frozen 3
  have rc3 : w3.cell? ⟨w.heap.size, 3, none⟩ = some (.string ⟨#[]⟩) := kr2.cell 3
  have rf3 : w3.frozen? ⟨w.heap.size, 3, none⟩ = false := kr2.frozen 3
  have pc4 : w3.cell? ⟨w.heap.size + 1, 4, none⟩ = some (.string ⟨#[]⟩) := k2.cell 4
  have pf4 : w3.frozen? ⟨w.heap.size + 1, 4, none⟩ = false := k2.frozen 4
  have rc4 : w3.cell? ⟨w.heap.size, 4, none⟩ = some (.string ⟨#[]⟩) := kr2.cell 4
  have rf4 : w3.frozen? ⟨w.heap.size, 4, none⟩ = false := kr2.frozen 4
  have pc5 : w3.cell? ⟨w.heap.size + 1, 5, none⟩ = some (.bool false) := k2.cell 5
  have pf5 : w3.frozen? ⟨w.heap.size + 1, 5, none⟩ = false := k2.frozen 5
  have rc5 : w3.cell? ⟨w.heap.size, 5, none⟩ = some (.bool false) := kr2.cell 5
  have rf5 : w3.frozen? ⟨w.heap.size, 5, none⟩ = false := kr2.frozen 5
  have pc6 : w3.cell? ⟨w.heap.size + 1, 6, none⟩ = some (.bool false) := k2.cell 6
  have pf6 : w3.frozen? ⟨w.heap.size + 1, 6, none⟩ = false := k2.frozen 6
  have rc6 : w3.cell? ⟨w.heap.size, 6, none⟩ = some (.bool false) := kr2.cell 6
  have rf6 : w3.frozen? ⟨w.heap.size, 6, none⟩ = false := kr2.frozen 6
  have pc7 : w3.cell? ⟨w.heap.size + 1, 7, none⟩ = some (.bool false) := k2.cell 7
  have pf7 : w3.frozen? ⟨w.heap.size + 1, 7, none⟩ = false := k2.frozen 7
  have rc7 : w3.cell? ⟨w.heap.size, 7, none⟩ = some (.bool false) := kr2.cell 7
  have rf7 : w3.frozen? ⟨w.heap.size, 7, none⟩ = false := kr2.frozen 7
  have pc8 : w3.cell? ⟨w.heap.size + 1, 8, none⟩ = some (.bool false) := k2.cell 8
  have pf8 : w3.frozen? ⟨w.heap.size + 1, 8, none⟩ = false := k2.frozen 8
  have rc8 : w3.cell? ⟨w.heap.size, 8, none⟩ = some (.bool false) := kr2.cell 8
  have rf8 : w3.frozen? ⟨w.heap.size, 8, none⟩ = false := kr2.frozen 8
  have KR2 := hide kr2
  clear k2 kr2
  go_wp2_with fail
  refine (unhide HC3 _).mono ?_
  rintro e1 w4 ⟨rfl, hw4⟩
  subst hw4
  go_wp2_with fail
  refine (unhide HC4 _).mono ?_
  rintro e1 w4 ⟨rfl, hw4⟩
  subst hw4
  go_wp2
  have kk := (((((((((((((((unhide KR2).away (show w.heap.size ≠ w.heap.size + 1 by omega) (.string LL) (o := 0)).away (show w.heap.size ≠ w.heap.size + 1 by omega) (.bool true) (o := 5)).away (show w.heap.size ≠ w.heap.size + 1 by omega) (.bool true) (o := 7)).away (show w.heap.size ≠ w.heap.size + 1 by omega) (.string QU) (o := 3)).away (show w.heap.size ≠ w.heap.size + 1 by omega) (.string X3) (o := 2)).set 0 (by simp) (.string LL)).set 1 (by simp) (.string ⟨#[]⟩)).set 2 (by simp) (.string X3)).set 3 (by simp) (.string QU)).set 4 (by simp) (.string ⟨#[]⟩)).set 5 (by simp) (.bool true)).set 6 (by simp) (.bool false)).set 7 (by simp) (.bool true)).set 8 (by simp) (.bool false))
  have dd0 := kk.cell 0
  have dd1 := kk.cell 1
  have dd2 := kk.cell 2
  have dd3 := kk.cell 3
  have dd4 := kk.cell 4
  have dd5 := kk.cell 5
  have dd6 := kk.cell 6
  have dd7 := kk.cell 7
  have dd8 := kk.cell 8
  exact bodyPost_ret (v := .agg #[.string LL, .string ⟨#[]⟩, .string X3, .string QU, .string ⟨#[]⟩, .bool true, .bool false, .bool true, .bool false]) (by simp [results, Try.results52, go_sem, dd0, dd1, dd2, dd3, dd4, dd5, dd6, dd7, dd8]) rfl ⟨rfl, ((((((((((((((hb2.setCell (by simp) _).setCell (by simp) _).setCell (by simp) _).setCell (by simp) _).setCell (by simp) _).setCell (by simp) _).setCell (by simp) _).setCell (by simp) _).setCell (by simp) _).setCell (by simp) _).setCell (by simp) _).setCell (by simp) _).setCell (by simp) _).setCell (by simp) _)⟩

set_option maxHeartbeats 2000000 in
set_option maxRecDepth 20000 in
theorem rsp_1012 (S X0 X1 X2 X3 L1 LL MA QU HO PA P2 Z : ByteArray) (n m q h : Nat) (w : World)
    (z0 : X0.size ≤ 100000)
    (z1 : X1.size ≤ 100000)
    (z3 : X3.size ≤ 100000)
    (C0 : ∀ w, Calls Try.prog 68 #[.string S] w fun e w' => e = .returned (.string X0) ∧ Below w.heap.size w w')
    (C1 : ∀ w, Calls Try.prog 69 #[.string X0] w fun e w' => e = .returned (.int .i64 (n : Int)) ∧ w' = w)
    (a1 : (0 : Int) < (n : Int))
    (a2 : (n : Int) + 1 ≤ (X0.size : Int))
    (a3 : X0.extract 0 n = L1)
    (a4 : X0.extract (n + 1) X0.size = X1)
    (C2 : ∀ w, Calls Try.prog 27 #[.string L1] w fun e w' => e = .returned (.string LL) ∧ Below w.heap.size w w')
    (C3 : ∀ w, Calls Try.prog 70 #[.string X1, .int .u8 35, .int .u8 35] w fun e w' => e = .returned (.int .i64 (m : Int)) ∧ w' = w)
    (b1 : ¬ m < X1.size)
    (C4 : ∀ w, Calls Try.prog 70 #[.string X1, .int .u8 63, .int .u8 63] w fun e w' => e = .returned (.int .i64 (q : Int)) ∧ w' = w)
    (c1 : (q : Int) + 1 ≤ (X1.size : Int))
    (c2 : X1.extract (q + 1) X1.size = QU)
    (c3 : X1.extract 0 q = X3)
    (d1 : (1 : Int) < (X3.size : Int))
    (d2 : X3.extract 0 2 = P2)
    (d3 : (P2.toList == [47, 47]) = true)
    (d4 : X3.extract 2 X3.size = Z)
    (C5 : ∀ w, Calls Try.prog 70 #[.string Z, .int .u8 47, .int .u8 92] w fun e w' => e = .returned (.int .i64 (h : Int)) ∧ w' = w)
    (d5 : (2 : Int) + (h : Int) ≤ (X3.size : Int))
    (d6 : X3.extract 2 (2 + h) = HO)
    (d7 : X3.extract (2 + h) X3.size = PA) :
    Calls Try.prog 52 #[.string S] w fun e w' => e = .returned (.agg #[.string LL, .string HO, .string PA, .string QU, .string ⟨#[]⟩, .bool true, .bool true, .bool true, .bool false]) ∧ Below w.heap.size w w' := by
  have HC0 := hide C0
  have HC1 := hide C1
  have HC2 := hide C2
  have HC3 := hide C3
  have HC4 := hide C4
  have HC5 := hide C5
  clear C0 C1 C3 C4 C2 C5
  have a6 : (n : Int) < (X0.size : Int) := by omega
  have a0 : (n : Int) ≤ (X0.size : Int) := by omega
  have a5 : (0 : Int) ≤ (n : Int) := by omega
  have c0 : (q : Int) < (X1.size : Int) := by omega
  have c5 : (q : Int) ≤ (X1.size : Int) := by omega
  have d0 : (2 : Int) ≤ (X3.size : Int) := by omega
  have d8 : (0 : Int) ≤ (2 : Int) + (h : Int) := by omega
  have d9 : (2 : Int) ≤ (2 : Int) + (h : Int) := by omega
  have e1 : ((2 : Int) + (h : Int)).toNat = 2 + h := by omega
  have kR : Hid (Blk ((w.alloc (Obj.cells #[.string ⟨#[]⟩, .string ⟨#[]⟩, .string ⟨#[]⟩, .string ⟨#[]⟩, .string ⟨#[]⟩, .bool false, .bool false, .bool false, .bool false] 86)).alloc (Obj.cells #[.string ⟨#[]⟩, .string ⟨#[]⟩, .string ⟨#[]⟩, .string ⟨#[]⟩, .string ⟨#[]⟩, .bool false, .bool false, .bool false, .bool false] 86)) w.heap.size #[.string ⟨#[]⟩, .string ⟨#[]⟩, .string ⟨#[]⟩, .string ⟨#[]⟩, .string ⟨#[]⟩, .bool false, .bool false, .bool false, .bool false] 86) := hide ((Blk.new w _ _).alloc _)
  have kB : Hid (Blk ((w.alloc (Obj.cells #[.string ⟨#[]⟩, .string ⟨#[]⟩, .string ⟨#[]⟩, .string ⟨#[]⟩, .string ⟨#[]⟩, .bool false, .bool false, .bool false, .bool false] 86)).alloc (Obj.cells #[.string ⟨#[]⟩, .string ⟨#[]⟩, .string ⟨#[]⟩, .string ⟨#[]⟩, .string ⟨#[]⟩, .bool false, .bool false, .bool false, .bool false] 86)) (w.heap.size + 1) #[.string ⟨#[]⟩, .string ⟨#[]⟩, .string ⟨#[]⟩, .string ⟨#[]⟩, .string ⟨#[]⟩, .bool false, .bool false, .bool false, .bool false] 86) := hide (Eq.mp (by simp) (Blk.new (w.alloc (Obj.cells #[.string ⟨#[]⟩, .string ⟨#[]⟩, .string ⟨#[]⟩, .string ⟨#[]⟩, .string ⟨#[]⟩, .bool false, .bool false, .bool false, .bool false] 86)) #[.string ⟨#[]⟩, .string ⟨#[]⟩, .string ⟨#[]⟩, .string ⟨#[]⟩, .string ⟨#[]⟩, .bool false, .bool false, .bool false, .bool false] 86))
  go_enter Try.func52, Try.ntmps52
  go_wp2_with fail
  refine (unhide HC0 _).mono ?_
  rintro e1 w1 ⟨rfl, hb⟩
  have kR1 := hide ((unhide kR).later hb)
  have kB1 := hide ((unhide kB).later hb)
  have hb1 : Below w.heap.size w w1 := (((Below.refl _ w).alloc (Nat.le_refl _) _).alloc (by simp) _).trans (hb.mono (by simp; omega))
  clear hb kR kB
  go_wp2_with fail
  refine (unhide HC1 _).mono ?_
  rintro e1 w2 ⟨rfl, hw2⟩
  obtain rfl : w1 = w2 := hw2.symm
  clear hw2
  go_wp2_with fail
  refine (unhide HC2 _).mono ?_
  rintro e1 w3 ⟨rfl, hb⟩
  have kr2 := (unhide kR1).later hb
  have k2 := (unhide kB1).later hb
  have hb2 : Below w.heap.size w w3 := tr2 hb1 hb
  clear hb kR1 kB1 hb1
  have pc0 : w3.cell? ⟨w.heap.size + 1, 0, none⟩ = some (.string ⟨#[]⟩) := k2.cell 0
  have pf0 : w3.frozen? ⟨w.heap.size + 1, 0, none⟩ = false := k2.frozen 0
  have rc0 : w3.cell? ⟨w.heap.size, 0, none⟩ = some (.string ⟨#[]⟩) := kr2.cell 0
  have rf0 : w3.frozen? ⟨w.heap.size, 0, none⟩ = false := kr2.frozen 0
  have pc1 : w3.cell? ⟨w.heap.size + 1, 1, none⟩ = some (.string ⟨#[]⟩) := k2.cell 1
  have pf1 : w3.frozen? ⟨w.heap.size + 1, 1, none⟩ = false := k2.frozen 1
  have rc1 : w3.cell? ⟨w.heap.size, 1, none⟩ = some (.string ⟨#[]⟩) := kr2.cell 1
  have rf1 : w3.frozen? ⟨w.heap.size, 1, none⟩ = false := kr2.frozen 1
  have pc2 : w3.cell? ⟨w.heap.size + 1, 2, none⟩ = some (.string ⟨#[]⟩) := k2.cell 2
  have pf2 : w3.frozen? ⟨w.heap.size + 1, 2, none⟩ = false := k2.frozen 2
  have rc2 : w3.cell? ⟨w.heap.size, 2, none⟩ = some (.string ⟨#[]⟩) := kr2.cell 2
  have rf2 : w3.frozen? ⟨w.heap.size, 2, none⟩ = false := kr2.frozen 2
  have pc3 : w3.cell? ⟨w.heap.size + 1, 3, none⟩ = some (.string ⟨#[]⟩) := k2.cell 3
  have pf3 : w3.frozen? ⟨w.heap.size + 1, 3, none⟩ = false := k2.frozen 3
  have rc3 : w3.cell? ⟨w.heap.size, 3, none⟩ = some (.string ⟨#[]⟩) := kr2.cell 3
  have rf3 : w3.frozen? ⟨w.heap.size, 3, none⟩ = false := kr2.frozen 3
  have pc4 : w3.cell? ⟨w.heap.size + 1, 4, none⟩ = some (.string ⟨#[]⟩) := k2.cell 4
  have pf4 : w3.frozen? ⟨w.heap.size + 1, 4, none⟩ = false := k2.frozen 4
  have rc4 : w3.cell? ⟨w.heap.size, 4, none⟩ = some (.string ⟨#[]⟩) := kr2.cell 4
  have rf4 : w3.frozen? ⟨w.heap.size, 4, none⟩ = false := kr2.frozen 4
  have pc5 : w3.cell? ⟨w.heap.size + 1, 5, none⟩ = some (.bool false) := k2.cell 5
  have pf5 : w3.frozen? ⟨w.heap.size + 1, 5, none⟩ = false := k2.frozen 5
  have rc5 : w3.cell? ⟨w.heap.size, 5, none⟩ = some (.bool false) := kr2.cell 5
  have rf5 : w3.frozen? ⟨w.heap.size, 5, none⟩ = false := kr2.frozen 5
  have pc6 : w3.cell? ⟨w.heap.size + 1, 6, none⟩ = some (.bool false) := k2.cell 6
  have pf6 : w3.frozen? ⟨w.heap.size + 1, 6, none⟩ = false := k2.frozen 6
  have rc6 : w3.cell? ⟨w.heap.size, 6, none⟩ = some (.bool false) := kr2.cell 6
  have rf6 : w3.frozen? ⟨w.heap.size, 6, none⟩ = false := kr2.frozen 6
  have pc7 : w3.cell? ⟨w.heap.size + 1, 7, none⟩ = some (.bool false) := k2.cell 7
  have pf7 : w3.frozen? ⟨w.heap.size + 1, 7, none⟩ = false := k2.frozen 7
  have rc7 : w3.cell? ⟨w.heap.size, 7, none⟩ = some (.bool false) := kr2.cell 7
  have rf7 : w3.frozen? ⟨w.heap.size, 7, none⟩ = false := kr2.frozen 7
  have pc8 : w3.cell? ⟨w.heap.size + 1, 8, none⟩ = some (.bool false) := k2.cell 8
  have pf8 : w3.frozen? ⟨w.heap.size + 1, 8, none⟩ = false := k2.frozen 8
  have rc8 : w3.cell? ⟨w.heap.size, 8, none⟩ = some (.bool false) := kr2.cell 8
  have rf8 : w3.frozen? ⟨w.heap.size, 8, none⟩ = false := kr2.frozen 8
  have KR2 := hide kr2
  clear k2 kr2
  go_wp2_with fail
  refine (unhide HC3 _).mono ?_
  rintro e1 w4 ⟨rfl, hw4⟩
  subst hw4
  go_wp2_with fail
  refine (unhide HC4 _).mono ?_
  rintro e1 w4 ⟨rfl, hw4⟩
  subst hw4
  go_wp2_with fail
  refine (unhide HC5 _).mono ?_
  rintro e1 w4 ⟨rfl, hw4⟩
  subst hw4
  go_wp2
  have kk := (((((((((((((((((unhide KR2).away (show w.heap.size ≠ w.heap.size + 1 by omega) (.string LL) (o := 0)).away (show w.heap.size ≠ w.heap.size + 1 by omega) (.bool true) (o := 5)).away (show w.heap.size ≠ w.heap.size + 1 by omega) (.bool true) (o := 7)).away (show w.heap.size ≠ w.heap.size + 1 by omega) (.string QU) (o := 3)).away (show w.heap.size ≠ w.heap.size + 1 by omega) (.bool true) (o := 6)).away (show w.heap.size ≠ w.heap.size + 1 by omega) (.string HO) (o := 1)).away (show w.heap.size ≠ w.heap.size + 1 by omega) (.string PA) (o := 2)).set 0 (by simp) (.string LL)).set 1 (by simp) (.string HO)).set 2 (by simp) (.string PA)).set 3 (by simp) (.string QU)).set 4 (by simp) (.string ⟨#[]⟩)).set 5 (by simp) (.bool true)).set 6 (by simp) (.bool true)).set 7 (by simp) (.bool true)).set 8 (by simp) (.bool false))
  have dd0 := kk.cell 0
  have dd1 := kk.cell 1
  have dd2 := kk.cell 2
  have dd3 := kk.cell 3
  have dd4 := kk.cell 4
  have dd5 := kk.cell 5
  have dd6 := kk.cell 6
  have dd7 := kk.cell 7
  have dd8 := kk.cell 8
  exact bodyPost_ret (v := .agg #[.string LL, .string HO, .string PA, .string QU, .string ⟨#[]⟩, .bool true, .bool true, .bool true, .bool false]) (by simp [results, Try.results52, go_sem, dd0, dd1, dd2, dd3, dd4, dd5, dd6, dd7, dd8]) rfl ⟨rfl, ((((((((((((((((hb2.setCell (by simp) _).setCell (by simp) _).setCell (by simp) _).setCell (by simp) _).setCell (by simp) _).setCell (by simp) _).setCell (by simp) _).setCell (by simp) _).setCell (by simp) _).setCell (by simp) _).setCell (by simp) _).setCell (by simp) _).setCell (by simp) _).setCell (by simp) _).setCell (by simp) _).setCell (by simp) _)⟩
end Go.Proofs.Ytfdhmhdemfbfeaa

/-
  The reference's Split of layer 15: one way after another (ways 11).
-/
namespace Go.Proofs.Ytfdhmhdemfbfeaa
open Go.RowKit
set_option linter.unusedVariables false

set_option maxHeartbeats 2000000 in
set_option maxRecDepth 20000 in
theorem rsp_1100 (S X0 X1 X2 X3 L1 LL MA QU HO PA P2 Z : ByteArray) (n m q h : Nat) (w : World)
    (z0 : X0.size ≤ 100000)
    (z1 : X1.size ≤ 100000)
    (z2 : X2.size ≤ 100000)
    (C0 : ∀ w, Calls Try.prog 68 #[.string S] w fun e w' => e = .returned (.string X0) ∧ Below w.heap.size w w')
    (C1 : ∀ w, Calls Try.prog 69 #[.string X0] w fun e w' => e = .returned (.int .i64 (n : Int)) ∧ w' = w)
    (a1 : (0 : Int) < (n : Int))
    (a2 : (n : Int) + 1 ≤ (X0.size : Int))
    (a3 : X0.extract 0 n = L1)
    (a4 : X0.extract (n + 1) X0.size = X1)
    (C2 : ∀ w, Calls Try.prog 27 #[.string L1] w fun e w' => e = .returned (.string LL) ∧ Below w.heap.size w w')
    (C3 : ∀ w, Calls Try.prog 70 #[.string X1, .int .u8 35, .int .u8 35] w fun e w' => e = .returned (.int .i64 (m : Int)) ∧ w' = w)
    (b1 : (m : Int) + 1 ≤ (X1.size : Int))
    (b2 : X1.extract (m + 1) X1.size = MA)
    (b3 : X1.extract 0 m = X2)
    (C4 : ∀ w, Calls Try.prog 70 #[.string X2, .int .u8 63, .int .u8 63] w fun e w' => e = .returned (.int .i64 (q : Int)) ∧ w' = w)
    (c1 : ¬ q < X2.size)
    (d1 : ¬ 1 < X2.size) :
    Calls Try.prog 52 #[.string S] w fun e w' => e = .returned (.agg #[.string LL, .string ⟨#[]⟩, .string X2, .string ⟨#[]⟩, .string MA, .bool true, .bool false, .bool false, .bool true]) ∧ Below w.heap.size w w' := by
  have HC0 := hide C0
  have HC1 := hide C1
  have HC2 := hide C2
  have HC3 := hide C3
  have HC4 := hide C4
  clear C0 C1 C3 C4 C2
  have a6 : (n : Int) < (X0.size : Int) := by omega
  have a0 : (n : Int) ≤ (X0.size : Int) := by omega
  have a5 : (0 : Int) ≤ (n : Int) := by omega
  have b0 : (m : Int) < (X1.size : Int) := by omega
  have b5 : (m : Int) ≤ (X1.size : Int) := by omega
  have kR : Hid (Blk ((w.alloc (Obj.cells #[.string ⟨#[]⟩, .string ⟨#[]⟩, .string ⟨#[]⟩, .string ⟨#[]⟩, .string ⟨#[]⟩, .bool false, .bool false, .bool false, .bool false] 86)).alloc (Obj.cells #[.string ⟨#[]⟩, .string ⟨#[]⟩, .string ⟨#[]⟩, .string ⟨#[]⟩, .string ⟨#[]⟩, .bool false, .bool false, .bool false, .bool false] 86)) w.heap.size #[.string ⟨#[]⟩, .string ⟨#[]⟩, .string ⟨#[]⟩, .string ⟨#[]⟩, .string ⟨#[]⟩, .bool false, .bool false, .bool false, .bool false] 86) := hide ((Blk.new w _ _).alloc _)
  have kB : Hid (Blk ((w.alloc (Obj.cells #[.string ⟨#[]⟩, .string ⟨#[]⟩, .string ⟨#[]⟩, .string ⟨#[]⟩, .string ⟨#[]⟩, .bool false, .bool false, .bool false, .bool false] 86)).alloc (Obj.cells #[.string ⟨#[]⟩, .string ⟨#[]⟩, .string ⟨#[]⟩, .string ⟨#[]⟩, .string ⟨#[]⟩, .bool false, .bool false, .bool false, .bool false] 86)) (w.heap.size + 1) #[.string ⟨#[]⟩, .string ⟨#[]⟩, .string ⟨#[]⟩, .string ⟨#[]⟩, .string ⟨#[]⟩, .bool false, .bool false, .bool false, .bool false] 86) := hide (Eq.mp (by simp) (Blk.new (w.alloc (Obj.cells #[.string ⟨#[]⟩, .string ⟨#[]⟩, .string ⟨#[]⟩, .string ⟨#[]⟩, .string ⟨#[]⟩, .bool false, .bool false, .bool false, .bool false] 86)) #[.string ⟨#[]⟩, .string ⟨#[]⟩, .string ⟨#[]⟩, .string ⟨#[]⟩, .string ⟨#[]⟩, .bool false, .bool false, .bool false, .bool false] 86))
  go_enter Try.func52, Try.ntmps52
  go_wp2_with fail
  refine (unhide HC0 _).mono ?_
  rintro e1 w1 ⟨rfl, hb⟩
  have kR1 := hide ((unhide kR).later hb)
  have kB1 := hide ((unhide kB).later hb)
  have hb1 : Below w.heap.size w w1 := (((Below.refl _ w).alloc (Nat.le_refl _) _).alloc (by simp) _).trans (hb.mono (by simp; omega))
  clear hb kR kB
  go_wp2_with fail
  refine (unhide HC1 _).mono ?_
  rintro e1 w2 ⟨rfl, hw2⟩
  obtain rfl : w1 = w2 := hw2.symm
  clear hw2
  go_wp2_with fail
  refine (unhide HC2 _).mono ?_
  rintro e1 w3 ⟨rfl, hb⟩
  have kr2 := (unhide kR1).later hb
  have k2 := (unhide kB1).later hb
  have hb2 : Below w.heap.size w w3 := tr2 hb1 hb
  clear hb kR1 kB1 hb1
  have pc0 : w3.cell? ⟨w.heap.size + 1, 0, none⟩ = some (.string ⟨#[]⟩) := k2.cell 0
  have pf0 : w3.frozen? ⟨w.heap.size + 1, 0, none⟩ = false := k2.frozen 0
  have rc0 : w3.cell? ⟨w.heap.size, 0, none⟩ = some (.string ⟨#[]⟩) := kr2.cell 0
  have rf0 : w3.frozen? ⟨w.heap.size, 0, none⟩ = false := kr2.frozen 0
  have pc1 : w3.cell? ⟨w.heap.size + 1, 1, none⟩ = some (.string ⟨#[]⟩) := k2.cell 1
  have pf1 : w3.frozen? ⟨w.heap.size + 1, 1, none⟩ = false := k2.frozen 1
  have rc1 : w3.cell? ⟨w.heap.size, 1, none⟩ = some (.string ⟨#[]⟩) := kr2.cell 1
  have rf1 : w3.frozen? ⟨w.heap.size, 1, none⟩ = false := kr2.frozen 1
  have pc2 : w3.cell? ⟨w.heap.size + 1, 2, none⟩ = some (.string ⟨#[]⟩) := k2.cell 2
  have pf2 : w3.frozen? ⟨w.heap.size + 1, 2, none⟩ = false := k2.frozen 2
  have rc2 : w3.cell? ⟨w.heap.size, 2, none⟩ = some (.string ⟨#[]⟩) := kr2.cell 2
  have rf2 : w3.frozen? ⟨w.heap.size, 2, none⟩ = false := kr2.frozen 2
  have pc3 : w3.cell? ⟨w.heap.size + 1, 3, none⟩ = some (.string ⟨#[]⟩) := k2.cell 3
  have pf3 : w3.frozen? ⟨w.heap.size + 1, 3, none⟩ = false := k2.frozen 3
  have rc3 : w3.cell? ⟨w.heap.size, 3, none⟩ = some (.string ⟨#[]⟩) := kr2.cell 3
  have rf3 : w3.frozen? ⟨w.heap.size, 3, none⟩ = false := kr2.frozen 3
  have pc4 : w3.cell? ⟨w.heap.size + 1, 4, none⟩ = some (.string ⟨#[]⟩) := k2.cell 4
  have pf4 : w3.frozen? ⟨w.heap.size + 1, 4, none⟩ = false := k2.frozen 4
  have rc4 : w3.cell? ⟨w.heap.size, 4, none⟩ = some (.string ⟨#[]⟩) := kr2.cell 4
  have rf4 : w3.frozen? ⟨w.heap.size, 4, none⟩ = false := kr2.frozen 4
  have pc5 : w3.cell? ⟨w.heap.size + 1, 5, none⟩ = some (.bool false) := k2.cell 5
  have pf5 : w3.frozen? ⟨w.heap.size + 1, 5, none⟩ = false := k2.frozen 5
  have rc5 : w3.cell? ⟨w.heap.size, 5, none⟩ = some (.bool false) := kr2.cell 5
  have rf5 : w3.frozen? ⟨w.heap.size, 5, none⟩ = false := kr2.frozen 5
  have pc6 : w3.cell? ⟨w.heap.size + 1, 6, none⟩ = some (.bool false) := k2.cell 6
  have pf6 : w3.frozen? ⟨w.heap.size + 1, 6, none⟩ = false := k2.frozen 6
  have rc6 : w3.cell? ⟨w.heap.size, 6, none⟩ = some (.bool false) := kr2.cell 6
  have rf6 : w3.frozen? ⟨w.heap.size, 6, none⟩ = false := kr2.frozen 6
  have pc7 : w3.cell? ⟨w.heap.size + 1, 7, none⟩ = some (.bool false) := k2.cell 7
  have pf7 : w3.frozen? ⟨w.heap.size + 1, 7, none⟩ = false := k2.frozen 7
  have rc7 : w3.cell? ⟨w.heap.size, 7, none⟩ = some (.bool false) := kr2.cell 7
  have rf7 : w3.frozen? ⟨w.heap.size, 7, none⟩ = false := kr2.frozen 7
  have pc8 : w3.cell? ⟨w.heap.size + 1, 8, none⟩ = some (.bool false) := k2.cell 8
  have pf8 : w3.frozen? ⟨w.heap.size + 1, 8, none⟩ = false := k2.frozen 8
  have rc8 : w3.cell? ⟨w.heap.size, 8, none⟩ = some (.bool false) := kr2.cell 8
  have rf8 : w3.frozen? ⟨w.heap.size, 8, none⟩ = false := kr2.frozen 8
  have KR2 := hide kr2
  clear k2 kr2
  go_wp2_with fail
  refine (unhide HC3 _).mono ?_
  rintro e1 w4 ⟨rfl, hw4⟩
  subst hw4
  go_wp2_with fail
  refine (unhide HC4 _).mono ?_
  rintro e1 w4 ⟨rfl, hw4⟩
  subst hw4
  go_wp2
  have kk := (((((((((((((((unhide KR2).away (show w.heap.size ≠ w.heap.size + 1 by omega) (.string LL) (o := 0)).away (show w.heap.size ≠ w.heap.size + 1 by omega) (.bool true) (o := 5)).away (show w.heap.size ≠ w.heap.size + 1 by omega) (.bool true) (o := 8)).away (show w.heap.size ≠ w.heap.size + 1 by omega) (.string MA) (o := 4)).away (show w.heap.size ≠ w.heap.size + 1 by omega) (.string X2) (o := 2)).set 0 (by simp) (.string LL)).set 1 (by simp) (.string ⟨#[]⟩)).set 2 (by simp) (.string X2)).set 3 (by simp) (.string ⟨#[]⟩)).set 4 (by simp) (.string MA)).set 5 (by simp) (.bool true)).set 6 (by simp) (.bool false)).set 7 (by simp) (.bool false)).set 8 (by simp) (.bool true))
  have dd0 := kk.cell 0
  have dd1 := kk.cell 1
  have dd2 := kk.cell 2
  have dd3 := kk.cell 3
  have dd4 := kk.cell 4
  have dd5 := kk.cell 5
  have dd6 := kk.cell 6
  have dd7 := kk.cell 7
  have dd8 := kk.cell 8
  exact bodyPost_ret (v := .agg #[.string LL, .string ⟨#[]⟩, .string X2, .string ⟨#[]⟩, .string MA, .bool true, .bool false, .bool false, .bool true]) (by simp [results, Try.results52, go_sem, dd0, dd1, dd2, dd3, dd4, dd5, dd6, dd7, dd8]) rfl ⟨rfl, ((((((((((((((hb2.setCell (by simp) _).setCell (by simp) _).setCell (by simp) _).setCell (by simp) _).setCell (by simp) _).setCell (by simp) _).setCell (by simp) _).setCell (by simp) _).setCell (by simp) _).setCell (by simp) _).setCell (by simp) _).setCell (by simp) _).setCell (by simp) _).setCell (by simp) _)⟩

set_option maxHeartbeats 2000000 in
set_option maxRecDepth 20000 in
theorem rsp_1101 (S X0 X1 X2 X3 L1 LL MA QU HO PA P2 Z : ByteArray) (n m q h : Nat) (w : World)
    (z0 : X0.size ≤ 100000)
    (z1 : X1.size ≤ 100000)
    (z2 : X2.size ≤ 100000)
    (C0 : ∀ w, Calls Try.prog 68 #[.string S] w fun e w' => e = .returned (.string X0) ∧ Below w.heap.size w w')
    (C1 : ∀ w, Calls Try.prog 69 #[.string X0] w fun e w' => e = .returned (.int .i64 (n : Int)) ∧ w' = w)
    (a1 : (0 : Int) < (n : Int))
    (a2 : (n : Int) + 1 ≤ (X0.size : Int))
    (a3 : X0.extract 0 n = L1)
    (a4 : X0.extract (n + 1) X0.size = X1)
    (C2 : ∀ w, Calls Try.prog 27 #[.string L1] w fun e w' => e = .returned (.string LL) ∧ Below w.heap.size w w')
    (C3 : ∀ w, Calls Try.prog 70 #[.string X1, .int .u8 35, .int .u8 35] w fun e w' => e = .returned (.int .i64 (m : Int)) ∧ w' = w)
    (b1 : (m : Int) + 1 ≤ (X1.size : Int))
    (b2 : X1.extract (m + 1) X1.size = MA)
    (b3 : X1.extract 0 m = X2)
    (C4 : ∀ w, Calls Try.prog 70 #[.string X2, .int .u8 63, .int .u8 63] w fun e w' => e = .returned (.int .i64 (q : Int)) ∧ w' = w)
    (c1 : ¬ q < X2.size)
    (d1 : (1 : Int) < (X2.size : Int))
    (d2 : X2.extract 0 2 = P2)
    (d3 : (P2.toList == [47, 47]) = false) :
    Calls Try.prog 52 #[.string S] w fun e w' => e = .returned (.agg #[.string LL, .string ⟨#[]⟩, .string X2, .string ⟨#[]⟩, .string MA, .bool true, .bool false, .bool false, .bool true]) ∧ Below w.heap.size w w' := by
  have HC0 := hide C0
  have HC1 := hide C1
  have HC2 := hide C2
  have HC3 := hide C3
  have HC4 := hide C4
  clear C0 C1 C3 C4 C2
  have a6 : (n : Int) < (X0.size : Int) := by omega
  have a0 : (n : Int) ≤ (X0.size : Int) := by omega
  have a5 : (0 : Int) ≤ (n : Int) := by omega
  have b0 : (m : Int) < (X1.size : Int) := by omega
  have b5 : (m : Int) ≤ (X1.size : Int) := by omega
  have d0 : (2 : Int) ≤ (X2.size : Int) := by omega
  have kR : Hid (Blk ((w.alloc (Obj.cells #[.string ⟨#[]⟩, .string ⟨#[]⟩, .string ⟨#[]⟩, .string ⟨#[]⟩, .string ⟨#[]⟩, .bool false, .bool false, .bool false, .bool false] 86)).alloc (Obj.cells #[.string ⟨#[]⟩, .string ⟨#[]⟩, .string ⟨#[]⟩, .string ⟨#[]⟩, .string ⟨#[]⟩, .bool false, .bool false, .bool false, .bool false] 86)) w.heap.size #[.string ⟨#[]⟩, .string ⟨#[]⟩, .string ⟨#[]⟩, .string ⟨#[]⟩, .string ⟨#[]⟩, .bool false, .bool false, .bool false, .bool false] 86) := hide ((Blk.new w _ _).alloc _)
  have kB : Hid (Blk ((w.alloc (Obj.cells #[.string ⟨#[]⟩, .string ⟨#[]⟩, .string ⟨#[]⟩, .string ⟨#[]⟩, .string ⟨#[]⟩, .bool false, .bool false, .bool false, .bool false] 86)).alloc (Obj.cells #[.string ⟨#[]⟩, .string ⟨#[]⟩, .string ⟨#[]⟩, .string ⟨#[]⟩, .string ⟨#[]⟩, .bool false, .bool false, .bool false, .bool false] 86)) (w.heap.size + 1) #[.string ⟨#[]⟩, .string ⟨#[]⟩, .string ⟨#[]⟩, .string ⟨#[]⟩, .string ⟨#[]⟩, .bool false, .bool false, .bool false, .bool false] 86) := hide (Eq.mp (by simp) (Blk.new (w.alloc (Obj.cells #[.string ⟨#[]⟩, .string ⟨#[]⟩, .string ⟨#[]⟩, .string ⟨#[]⟩, .string ⟨#[]⟩, .bool false, .bool false, .bool false, .bool false] 86)) #[.string ⟨#[]⟩, .string ⟨#[]⟩, .string ⟨#[]⟩, .string ⟨#[]⟩, .string ⟨#[]⟩, .bool false, .bool false, .bool false, .bool false] 86))
  go_enter Try.func52, Try.ntmps52
  go_wp2_with fail
  refine (unhide HC0 _).mono ?_
  rintro e1 w1 ⟨rfl, hb⟩
  have kR1 := hide ((unhide kR).later hb)
  have kB1 := hide ((unhide kB).later hb)
  have hb1 : Below w.heap.size w w1 := (((Below.refl _ w).alloc (Nat.le_refl _) _).alloc (by simp) _).trans (hb.mono (by simp; omega))
  clear hb kR kB
  go_wp2_with fail
  refine (unhide HC1 _).mono ?_
  rintro e1 w2 ⟨rfl, hw2⟩
  obtain rfl : w1 = w2 := hw2.symm
  clear hw2
  go_wp2_with fail
  refine (unhide HC2 _).mono ?_
  rintro e1 w3 ⟨rfl, hb⟩
  have kr2 := (unhide kR1).later hb
  have k2 := (unhide kB1).later hb
  have hb2 : Below w.heap.size w w3 := tr2 hb1 hb
  clear hb kR1 kB1 hb1
  have pc0 : w3.cell? ⟨w.heap.size + 1, 0, none⟩ = some (.string ⟨#[]⟩) := k2.cell 0
  have pf0 : w3.frozen? ⟨w.heap.size + 1, 0, none⟩ = false := k2.frozen 0
  have rc0 : w3.cell? ⟨w.heap.size, 0, none⟩ = some (.string ⟨#[]⟩) := kr2.cell 0
  have rf0 : w3.frozen? ⟨w.heap.size, 0, none⟩ = false := kr2.frozen 0
  have pc1 : w3.cell? ⟨w.heap.size + 1, 1, none⟩ = some (.string ⟨#[]⟩) := k2.cell 1
  have pf1 : w3.frozen? ⟨w.heap.size + 1, 1, none⟩ = false := k2.frozen 1
  have rc1 : w3.cell? ⟨w.heap.size, 1, none⟩ = some (.string ⟨#[]⟩) := kr2.cell 1
  have rf1 : w3.frozen? ⟨w.heap.size, 1, none⟩ = false := kr2.frozen 1
  have pc2 : w3.cell? ⟨w.heap.size + 1, 2, none⟩ = some (.string ⟨#[]⟩) := k2.cell 2
  have pf2 : w3.frozen? ⟨w.heap.size + 1, 2, none⟩ = false := k2.frozen 2
  have rc2 : w3.cell? ⟨w.heap.size, 2, none⟩ = some (.string ⟨#[]⟩) := kr2.cell 2
  have rf2 : w3.frozen? ⟨w.heap.size, 2, none⟩ = false := kr2.frozen 2
  have pc3 : w3.cell? ⟨w.heap.size + 1, 3, none⟩ = some (.string ⟨#[]⟩) := k2.cell 3
  have pf3 : w3.frozen? ⟨w.heap.size + 1, 3, none⟩ = false := k2.frozen 3
  have rc3 : w3.cell? ⟨w.heap.size, 3, none⟩ = some (.string ⟨#[]⟩) := kr2.cell 3
  have rf3 : w3.frozen? ⟨w.heap.size, 3, none⟩ = false := kr2.frozen 3
  have pc4 : w3.cell? ⟨w.heap.size + 1, 4, none⟩ = some (.string ⟨#[]⟩) := k2.cell 4
  have pf4 : w3.frozen? ⟨w.heap.size + 1, 4, none⟩ = false := k2.frozen 4
  have rc4 : w3.cell? ⟨w.heap.size, 4, none⟩ = some (.string ⟨#[]⟩) := kr2.cell 4
  have rf4 : w3.frozen? ⟨w.heap.size, 4, none⟩ = false := kr2.frozen 4
  have pc5 : w3.cell? ⟨w.heap.size + 1, 5, none⟩ = some (.bool false) := k2.cell 5
  have pf5 : w3.frozen? ⟨w.heap.size + 1, 5, none⟩ = false := k2.frozen 5
  have rc5 : w3.cell? ⟨w.heap.size, 5, none⟩ = some (.bool false) := kr2.cell 5
  have rf5 : w3.frozen? ⟨w.heap.size, 5, none⟩ = false := kr2.frozen 5
  have pc6 : w3.cell? ⟨w.heap.size + 1, 6, none⟩ = some (.bool false) := k2.cell 6
  have pf6 : w3.frozen? ⟨w.heap.size + 1, 6, none⟩ = false := k2.frozen 6
  have rc6 : w3.cell? ⟨w.heap.size, 6, none⟩ = some (.bool false) := kr2.cell 6
  have rf6 : w3.frozen? ⟨w.heap.size, 6, none⟩ = false := kr2.frozen 6
  have pc7 : w3.cell? ⟨w.heap.size + 1, 7, none⟩ = some (.bool false) := k2.cell 7
  have pf7 : w3.frozen? ⟨w.heap.size + 1, 7, none⟩ = false := k2.frozen 7
  have rc7 : w3.cell? ⟨w.heap.size, 7, none⟩ = some (.bool false) := kr2.cell 7
  have rf7 : w3.frozen? ⟨w.heap.size, 7, none⟩ = false := kr2.frozen 7
  have pc8 : w3.cell? ⟨w.heap.size + 1, 8, none⟩ = some (.bool false) := k2.cell 8
  have pf8 : w3.frozen? ⟨w.heap.size + 1, 8, none⟩ = false := k2.frozen 8
  have rc8 : w3.cell? ⟨w.heap.size, 8, none⟩ = some (.bool false) := kr2.cell 8
  have rf8 : w3.frozen? ⟨w.heap.size, 8, none⟩ = false := kr2.frozen 8
  have KR2 := hide kr2
  clear k2 kr2
  go_wp2_with fail
  refine (unhide HC3 _).mono ?_
  rintro e1 w4 ⟨rfl, hw4⟩
  subst hw4
  go_wp2_with fail
  refine (unhide HC4 _).mono ?_
  rintro e1 w4 ⟨rfl, hw4⟩
  subst hw4
  go_wp2
  have kk := (((((((((((((((unhide KR2).away (show w.heap.size ≠ w.heap.size + 1 by omega) (.string LL) (o := 0)).away (show w.heap.size ≠ w.heap.size + 1 by omega) (.bool true) (o := 5)).away (show w.heap.size ≠ w.heap.size + 1 by omega) (.bool true) (o := 8)).away (show w.heap.size ≠ w.heap.size + 1 by omega) (.string MA) (o := 4)).away (show w.heap.size ≠ w.heap.size + 1 by omega) (.string X2) (o := 2)).set 0 (by simp) (.string LL)).set 1 (by simp) (.string ⟨#[]⟩)).set 2 (by simp) (.string X2)).set 3 (by simp) (.string ⟨#[]⟩)).set 4 (by simp) (.string MA)).set 5 (by simp) (.bool true)).set 6 (by simp) (.bool false)).set 7 (by simp) (.bool false)).set 8 (by simp) (.bool true))
  have dd0 := kk.cell 0
  have dd1 := kk.cell 1
  have dd2 := kk.cell 2
  have dd3 := kk.cell 3
  have dd4 := kk.cell 4
  have dd5 := kk.cell 5
  have dd6 := kk.cell 6
  have dd7 := kk.cell 7
  have dd8 := kk.cell 8
  exact bodyPost_ret (v := .agg #[.string LL, .string ⟨#[]⟩, .string X2, .string ⟨#[]⟩, .string MA, .bool true, .bool false, .bool false, .bool true]) (by simp [results, Try.results52, go_sem, dd0, dd1, dd2, dd3, dd4, dd5, dd6, dd7, dd8]) rfl ⟨rfl, ((((((((((((((hb2.setCell (by simp) _).setCell (by simp) _).setCell (by simp) _).setCell (by simp) _).setCell (by simp) _).setCell (by simp) _).setCell (by simp) _).setCell (by simp) _).setCell (by simp) _).setCell (by simp) _).setCell (by simp) _).setCell (by simp) _).setCell (by simp) _).setCell (by simp) _)⟩

set_option maxHeartbeats 2000000 in
set_option maxRecDepth 20000 in
theorem rsp_1102 (S X0 X1 X2 X3 L1 LL MA QU HO PA P2 Z : ByteArray) (n m q h : Nat) (w : World)
    (z0 : X0.size ≤ 100000)
    (z1 : X1.size ≤ 100000)
    (z2 : X2.size ≤ 100000)
    (C0 : ∀ w, Calls Try.prog 68 #[.string S] w fun e w' => e = .returned (.string X0) ∧ Below w.heap.size w w')
    (C1 : ∀ w, Calls Try.prog 69 #[.string X0] w fun e w' => e = .returned (.int .i64 (n : Int)) ∧ w' = w)
    (a1 : (0 : Int) < (n : Int))
    (a2 : (n : Int) + 1 ≤ (X0.size : Int))
    (a3 : X0.extract 0 n = L1)
    (a4 : X0.extract (n + 1) X0.size = X1)
    (C2 : ∀ w, Calls Try.prog 27 #[.string L1] w fun e w' => e = .returned (.string LL) ∧ Below w.heap.size w w')
    (C3 : ∀ w, Calls Try.prog 70 #[.string X1, .int .u8 35, .int .u8 35] w fun e w' => e = .returned (.int .i64 (m : Int)) ∧ w' = w)
    (b1 : (m : Int) + 1 ≤ (X1.size : Int))
    (b2 : X1.extract (m + 1) X1.size = MA)
    (b3 : X1.extract 0 m = X2)
    (C4 : ∀ w, Calls Try.prog 70 #[.string X2, .int .u8 63, .int .u8 63] w fun e w' => e = .returned (.int .i64 (q : Int)) ∧ w' = w)
    (c1 : ¬ q < X2.size)
    (d1 : (1 : Int) < (X2.size : Int))
    (d2 : X2.extract 0 2 = P2)
    (d3 : (P2.toList == [47, 47]) = true)
    (d4 : X2.extract 2 X2.size = Z)
    (C5 : ∀ w, Calls Try.prog 70 #[.string Z, .int .u8 47, .int .u8 92] w fun e w' => e = .returned (.int .i64 (h : Int)) ∧ w' = w)
    (d5 : (2 : Int) + (h : Int) ≤ (X2.size : Int))
    (d6 : X2.extract 2 (2 + h) = HO)
    (d7 : X2.extract (2 + h) X2.size = PA) :
    Calls Try.prog 52 #[.string S] w fun e w' => e = .returned (.agg #[.string LL, .string HO, .string PA, .string ⟨#[]⟩, .string MA, .bool true, .bool true, .bool false, .bool true]) ∧ Below w.heap.size w w' := by
  have HC0 := hide C0
  have HC1 := hide C1
  have HC2 := hide C2
  have HC3 := hide C3
  have HC4 := hide C4
  have HC5 := hide C5
  clear C0 C1 C3 C4 C2 C5
  have a6 : (n : Int) < (X0.size : Int) := by omega
  have a0 : (n : Int) ≤ (X0.size : Int) := by omega
  have a5 : (0 : Int) ≤ (n : Int) := by omega
  have b0 : (m : Int) < (X1.size : Int) := by omega
  have b5 : (m : Int) ≤ (X1.size : Int) := by omega
  have d0 : (2 : Int) ≤ (X2.size : Int) := by omega
  have d8 : (0 : Int) ≤ (2 : Int) + (h : Int) := by omega
  have d9 : (2 : Int) ≤ (2 : Int) + (h : Int) := by omega
  have e1 : ((2 : Int) + (h : Int)).toNat = 2 + h := by omega
  have kR : Hid (Blk ((w.alloc (Obj.cells #[.string ⟨#[]⟩, .string ⟨#[]⟩, .string ⟨#[]⟩, .string ⟨#[]⟩, .string ⟨#[]⟩, .bool false, .bool false, .bool false, .bool false] 86)).alloc (Obj.cells #[.string ⟨#[]⟩, .string ⟨#[]⟩, .string ⟨#[]⟩, .string ⟨#[]⟩, .string ⟨#[]⟩, .bool false, .bool false, .bool false, .bool false] 86)) w.heap.size #[.string ⟨#[]⟩, .string ⟨#[]⟩, .string ⟨#[]⟩, .string ⟨#[]⟩, .string ⟨#[]⟩, .bool false, .bool false, .bool false, .bool false] 86) := hide ((Blk.new w _ _).alloc _)
  have kB : Hid (Blk ((w.alloc (Obj.cells #[.string ⟨#[]⟩, .string ⟨#[]⟩, .string ⟨#[]⟩, .string ⟨#[]⟩, .string ⟨#[]⟩, .bool false, .bool false, .bool false, .bool false] 86)).alloc (Obj.cells #[.string ⟨#[]⟩, .string ⟨#[]⟩, .string ⟨#[]⟩, .string ⟨#[]⟩, .string ⟨#[]⟩, .bool false, .bool false, .bool false, .bool false] 86)) (w.heap.size + 1) #[.string ⟨#[]⟩, .string ⟨#[]⟩, .string ⟨#[]⟩, .string ⟨#[]⟩, .string ⟨#[]⟩, .bool false, .bool false, .bool false, .bool false] 86) := hide (Eq.mp (by simp) (Blk.new (w.alloc (Obj.cells #[.string ⟨#[]⟩, .string ⟨#[]⟩, .string ⟨#[]⟩, .string ⟨#[]⟩, .string ⟨#[]⟩, .bool false, .bool false, .bool false, .bool false] 86)) #[.string ⟨#[]⟩, .string ⟨#[]⟩, .string ⟨#[]⟩, .string ⟨#[]⟩, .string ⟨#[]⟩, .bool false, .bool false, .bool false, .bool false] 86))
  go_enter Try.func52, Try.ntmps52
  go_wp2_with fail
  refine (unhide HC0 _).mono ?_
  rintro e1 w1 ⟨rfl, hb⟩
  have kR1 := hide ((unhide kR).later hb)
  have kB1 := hide ((unhide kB).later hb)
  have hb1 : Below w.heap.size w w1 := (((Below.refl _ w).alloc (Nat.le_refl _) _).alloc (by simp) _).trans (hb.mono (by simp; omega))
  clear hb kR kB
  go_wp2_with fail
  refine (unhide HC1 _).mono ?_
  rintro e1 w2 ⟨rfl, hw2⟩
  obtain rfl : w1 = w2 := hw2.symm
  clear hw2
  go_wp2_with fail
  refine (unhide HC2 _).mono ?_
  rintro e1 w3 ⟨rfl, hb⟩
  have kr2 := (unhide kR1).later hb
  have k2 := (unhide kB1).later hb
  have hb2 : Below w.heap.size w w3 := tr2 hb1 hb
  clear hb kR1 kB1 hb1
  have pc0 : w3.cell? ⟨w.heap.size + 1, 0, none⟩ = some (.string ⟨#[]⟩) := k2.cell 0
  have pf0 : w3.frozen? ⟨w.heap.size + 1, 0, none⟩ = false := k2.frozen 0
  have rc0 : w3.cell? ⟨w.heap.size, 0, none⟩ = some (.string ⟨#[]⟩) := kr2.cell 0
  have rf0 : w3.frozen? ⟨w.heap.size, 0, none⟩ = false := kr2.frozen 0
  have pc1 : w3.cell? ⟨w.heap.size + 1, 1, none⟩ = some (.string ⟨#[]⟩) := k2.cell 1
  have pf1 : w3.frozen? ⟨w.heap.size + 1, 1, none⟩ = false := k2.frozen 1
  have rc1 : w3.cell? ⟨w.heap.size, 1, none⟩ = some (.string ⟨#[]⟩) := kr2.cell 1
  have rf1 : w3.frozen? ⟨w.heap.size, 1, none⟩ = false := kr2.frozen 1
  have pc2 : w3.cell? ⟨w.heap.size + 1, 2, none⟩ = some (.string ⟨#[]⟩) := k2.cell 2
  have pf2 : w3.frozen? ⟨w.heap.size + 1, 2, none⟩ = false := k2.frozen 2
  have rc2 : w3.cell? ⟨w.heap.size, 2, none⟩ = some (.string ⟨#[]⟩) := kr2.cell 2
  have rf2 : w3.frozen? ⟨w.heap.size, 2, none⟩ = false := kr2.frozen 2
  have pc3 : w3.cell? ⟨w.heap.size + 1, 3, none⟩ = some (.string ⟨#[]⟩) := k2.cell 3
  have pf3 : w3.frozen? ⟨w.heap.size + 1, 3, none⟩ = false := k2.frozen 3
  have rc3 : w3.cell? ⟨w.heap.size, 3, none⟩ = some (.string ⟨#[]⟩) := kr2.cell 3
  have rf3 : w3.frozen? ⟨w.heap.size, 3, none⟩ = false := kr2.frozen 3
  have pc4 : w3.cell? ⟨w.heap.size + 1, 4, none⟩ = some (.string ⟨#[]⟩) := k2.cell 4
  have pf4 : w3.frozen? ⟨w.heap.size + 1, 4, none⟩ = false := k2.frozen 4
  have rc4 : w3.cell? ⟨w.heap.size, 4, none⟩ = some (.string ⟨#[]⟩) := kr2.cell 4
  have rf4 : w3.frozen? ⟨w.heap.size, 4, none⟩ = false := kr2.frozen 4
  have pc5 : w3.cell? ⟨w.heap.size + 1, 5, none⟩ = some (.bool false) := k2.cell 5
  have pf5 : w3.frozen? ⟨w.heap.size + 1, 5, none⟩ = false := k2.frozen 5
  have rc5 : w3.cell? ⟨w.heap.size, 5, none⟩ = some (.bool false) := kr2.cell 5
  have rf5 : w3.frozen? ⟨w.heap.size, 5, none⟩ = false := kr2.frozen 5
  have pc6 : w3.cell? ⟨w.heap.size + 1, 6, none⟩ = some (.bool false) := k2.cell 6
  have pf6 : w3.frozen? ⟨w.heap.size + 1, 6, none⟩ = false := k2.frozen 6
  have rc6 : w3.cell? ⟨w.heap.size, 6, none⟩ = some (.bool false) := kr2.cell 6
  have rf6 : w3.frozen? ⟨w.heap.size, 6, none⟩ = false := kr2.frozen 6
  have pc7 : w3.cell? ⟨w.heap.size + 1, 7, none⟩ = some (.bool false) := k2.cell 7
  have pf7 : w3.frozen? ⟨w.heap.size + 1, 7, none⟩ = false := k2.frozen 7
  have rc7 : w3.cell? ⟨w.heap.size, 7, none⟩ = some (.bool false) := kr2.cell 7
  have rf7 : w3.frozen? ⟨w.heap.size, 7, none⟩ = false := kr2.frozen 7
  have pc8 : w3.cell? ⟨w.heap.size + 1, 8, none⟩ = some (.bool false) := k2.cell 8
  have pf8 : w3.frozen? ⟨w.heap.size + 1, 8, none⟩ = false := k2.frozen 8
  have rc8 : w3.cell? ⟨w.heap.size, 8, none⟩ = some (.bool false) := kr2.cell 8
  have rf8 : w3.frozen? ⟨w.heap.size, 8, none⟩ = false := kr2.frozen 8
  have KR2 := hide kr2
  clear k2 kr2
  go_wp2_with fail
  refine (unhide HC3 _).mono ?_
  rintro e1 w4 ⟨rfl, hw4⟩
  subst hw4
  go_wp2_with fail
  refine (unhide HC4 _).mono ?_
  rintro e1 w4 ⟨rfl, hw4⟩
  subst hw4
  go_wp2_with fail
  refine (unhide HC5 _).mono ?_
  rintro e1 w4 ⟨rfl, hw4⟩
  subst hw4
  go_wp2
  have kk := (((((((((((((((((unhide KR2).away (show w.heap.size ≠ w.heap.size + 1 by omega) (.string LL) (o := 0)).away (show w.heap.size ≠ w.heap.size + 1 by omega) (.bool true) (o := 5)).away (show w.heap.size ≠ w.heap.size + 1 by omega) (.bool true) (o := 8)).away (show w.heap.size ≠ w.heap.size + 1 by omega) (.string MA) (o := 4)).away (show w.heap.size ≠ w.heap.size + 1 by omega) (.bool true) (o := 6)).away (show w.heap.size ≠ w.heap.size + 1 by omega) (.string HO) (o := 1)).away (show w.heap.size ≠ w.heap.size + 1 by omega) (.string PA) (o := 2)).set 0 (by simp) (.string LL)).set 1 (by simp) (.string HO)).set 2 (by simp) (.string PA)).set 3 (by simp) (.string ⟨#[]⟩)).set 4 (by simp) (.string MA)).set 5 (by simp) (.bool true)).set 6 (by simp) (.bool true)).set 7 (by simp) (.bool false)).set 8 (by simp) (.bool true))
  have dd0 := kk.cell 0
  have dd1 := kk.cell 1
  have dd2 := kk.cell 2
  have dd3 := kk.cell 3
  have dd4 := kk.cell 4
  have dd5 := kk.cell 5
  have dd6 := kk.cell 6
  have dd7 := kk.cell 7
  have dd8 := kk.cell 8
  exact bodyPost_ret (v := .agg #[.string LL, .string HO, .string PA, .string ⟨#[]⟩, .string MA, .bool true, .bool true, .bool false, .bool true]) (by simp [results, Try.results52, go_sem, dd0, dd1, dd2, dd3, dd4, dd5, dd6, dd7, dd8]) rfl ⟨rfl, ((((((((((((((((hb2.setCell (by simp) _).setCell (by simp) _).setCell (by simp) _).setCell (by simp) _).setCell (by simp) _).setCell (by simp) _).setCell (by simp) _).setCell (by simp) _).setCell (by simp) _).setCell (by simp) _).setCell (by simp) _).setCell (by simp) _).setCell (by simp) _).setCell (by simp) _).setCell (by simp) _).setCell (by simp) _)⟩

set_option maxHeartbeats 2000000 in
set_option maxRecDepth 20000 in
theorem rsp_1110 (S X0 X1 X2 X3 L1 LL MA QU HO PA P2 Z : ByteArray) (n m q h : Nat) (w : World)
    (z0 : X0.size ≤ 100000)
    (z1 : X1.size ≤ 100000)
    (z2 : X2.size ≤ 100000)
    (z3 : X3.size ≤ 100000)
    (C0 : ∀ w, Calls Try.prog 68 #[.string S] w fun e w' => e = .returned (.string X0) ∧ Below w.heap.size w w')
    (C1 : ∀ w, Calls Try.prog 69 #[.string X0] w fun e w' => e = .returned (.int .i64 (n : Int)) ∧ w' = w)
    (a1 : (0 : Int) < (n : Int))
    (a2 : (n : Int) + 1 ≤ (X0.size : Int))
    (a3 : X0.extract 0 n = L1)
    (a4 : X0.extract (n + 1) X0.size = X1)
    (C2 : ∀ w, Calls Try.prog 27 #[.string L1] w fun e w' => e = .returned (.string LL) ∧ Below w.heap.size w w')
    (C3 : ∀ w, Calls Try.prog 70 #[.string X1, .int .u8 35, .int .u8 35] w fun e w' => e = .returned (.int .i64 (m : Int)) ∧ w' = w)
    (b1 : (m : Int) + 1 ≤ (X1.size : Int))
    (b2 : X1.extract (m + 1) X1.size = MA)
    (b3 : X1.extract 0 m = X2)
    (C4 : ∀ w, Calls Try.prog 70 #[.string X2, .int .u8 63, .int .u8 63] w fun e w' => e = .returned (.int .i64 (q : Int)) ∧ w' = w)
    (c1 : (q : Int) + 1 ≤ (X2.size : Int))
    (c2 : X2.extract (q + 1) X2.size = QU)
    (c3 : X2.extract 0 q = X3)
    (d1 : ¬ 1 < X3.size) :
    Calls Try.prog 52 #[.string S] w fun e w' => e = .returned (.agg #[.string LL, .string ⟨#[]⟩, .string X3, .string QU, .string MA, .bool true, .bool false, .bool true, .bool true]) ∧ Below w.heap.size w w' := by
  have HC0 := hide C0
  have HC1 := hide C1
  have HC2 := hide C2
  have HC3 := hide C3
  have HC4 := hide C4
  clear C0 C1 C3 C4 C2
  have a6 : (n : Int) < (X0.size : Int) := by omega
  have a0 : (n : Int) ≤ (X0.size : Int) := by omega
  have a5 : (0 : Int) ≤ (n : Int) := by omega
  have b0 : (m : Int) < (X1.size : Int) := by omega
  have b5 : (m : Int) ≤ (X1.size : Int) := by omega
  have c0 : (q : Int) < (X2.size : Int) := by omega
  have c5 : (q : Int) ≤ (X2.size : Int) := by omega
  have kR : Hid (Blk ((w.alloc (Obj.cells #[.string ⟨#[]⟩, .string ⟨#[]⟩, .string ⟨#[]⟩, .string ⟨#[]⟩, .string ⟨#[]⟩, .bool false, .bool false, .bool false, .bool false] 86)).alloc (Obj.cells #[.string ⟨#[]⟩, .string ⟨#[]⟩, .string ⟨#[]⟩, .string ⟨#[]⟩, .string ⟨#[]⟩, .bool false, .bool false, .bool false, .bool false] 86)) w.heap.size #[.string ⟨#[]⟩, .string ⟨#[]⟩, .string ⟨#[]⟩, .string ⟨#[]⟩, .string ⟨#[]⟩, .bool false, .bool false, .bool false, .bool false] 86) := hide ((Blk.new w _ _).alloc _)
  have kB : Hid (Blk ((w.alloc (Obj.cells #[.string ⟨#[]⟩, .string ⟨#[]⟩, .string ⟨#[]⟩, .string ⟨#[]⟩, .string ⟨#[]⟩, .bool false, .bool false, .bool false, .bool false] 86)).alloc (Obj.cells #[.string ⟨#[]⟩, .string ⟨#[]⟩, .string ⟨#[]⟩, .string ⟨#[]⟩, .string ⟨#[]⟩, .bool false, .bool false, .bool false, .bool false] 86)) (w.heap.size + 1) #[.string ⟨#[]⟩, .string ⟨#[]⟩, .string ⟨#[]⟩, .string ⟨#[]⟩, .string ⟨#[]⟩, .bool false, .bool false, .bool false, .bool false] 86) := hide (Eq.mp (by simp) (Blk.new (w.alloc (Obj.cells #[.string ⟨#[]⟩, .string ⟨#[]⟩, .string ⟨#[]⟩, .string ⟨#[]⟩, .string ⟨#[]⟩, .bool false, .bool false, .bool false, .bool false] 86)) #[.string ⟨#[]⟩, .string ⟨#[]⟩, .string ⟨#[]⟩, .string ⟨#[]⟩, .string ⟨#[]⟩, .bool false, .bool false, .bool false, .bool false] 86))
  go_enter Try.func52, Try.ntmps52
  go_wp2_with fail
  refine (unhide HC0 _).mono ?_
  rintro e1 w1 ⟨rfl, hb⟩
  have kR1 := hide ((unhide kR).later hb)
  have kB1 := hide ((unhide kB).later hb)
  have hb1 : Below w.heap.size w w1 := (((Below.refl _ w).alloc (Nat.le_refl _) _).alloc (by simp) _).trans (hb.mono (by simp; omega))
  clear hb kR kB
  go_wp2_with fail
  refine (unhide HC1 _).mono ?_
  rintro e1 w2 ⟨rfl, hw2⟩
  obtain rfl : w1 = w2 := hw2.symm
  clear hw2
  go_wp2_with fail
  refine (unhide HC2 _).mono ?_
  rintro e1 w3 ⟨rfl, hb⟩
  have kr2 := (unhide kR1).later hb
  have k2 := (unhide kB1).later hb
  have hb2 : Below w.heap.size w w3 := tr2 hb1 hb
  clear hb kR1 kB1 hb1
  have pc0 : w3.cell? ⟨w.heap.size + 1, 0, none⟩ = some (.string ⟨#[]⟩) := k2.cell 0
  have pf0 : w3.frozen? ⟨w.heap.size + 1, 0, none⟩ = false := k2.frozen 0
  have rc0 : w3.cell? ⟨w.heap.size, 0, none⟩ = some (.string ⟨#[]⟩) := kr2.cell 0
  have rf0 : w3.frozen? ⟨w.heap.size, 0, none⟩ = false := kr2.frozen 0
  have pc1 : w3.cell? ⟨w.heap.size + 1, 1, none⟩ = some (.string ⟨#[]⟩) := k2.cell 1
  have pf1 : w3.frozen? ⟨w.heap.size + 1, 1, none⟩ = false := k2.frozen 1
  have rc1 : w3.cell? ⟨w.heap.size, 1, none⟩ = some (.string ⟨#[]⟩) := kr2.cell 1
  have rf1 : w3.frozen? ⟨w.heap.size, 1, none⟩ = false := kr2.frozen 1
  have pc2 : w3.cell? ⟨w.heap.size + 1, 2, none⟩ = some (.string ⟨#[]⟩) := k2.cell 2
  have pf2 : w3.frozen? ⟨w.heap.size + 1, 2, none⟩ = false := k2.frozen 2
  have rc2 : w3.cell? ⟨w.heap.size, 2, none⟩ = some (.string ⟨#[]⟩) := kr2.cell 2
  have rf2 : w3.frozen? ⟨w.heap.size, 2, none⟩ = false := kr2.frozen 2
  have pc3 : w3.cell? ⟨w.heap.size + 1, 3, none⟩ = some (.string ⟨#[]⟩) := k2.cell 3
  have pf3 : w3.frozen? ⟨w.heap.size + 1, 3, none⟩ = false := k2.frozen 3
  have rc3 : w3.cell? ⟨w.heap.size, 3, none⟩ = some (.string ⟨#[]⟩) := kr2.cell 3
  have rf3 : w3.frozen? ⟨w.heap.size, 3, none⟩ = false := kr2.frozen 3
  have pc4 : w3.cell? ⟨w.heap.size + 1, 4, none⟩ = some (.string ⟨#[]⟩) := k2.cell 4
  have pf4 : w3.frozen? ⟨w.heap.size + 1, 4, none⟩ = false := k2.frozen 4
  have rc4 : w3.cell? ⟨w.heap.size, 4, none⟩ = some (.string ⟨#[]⟩) := kr2.cell 4
  have rf4 : w3.frozen? ⟨w.heap.size, 4, none⟩ = false := kr2.frozen 4
  have pc5 : w3.cell? ⟨w.heap.size + 1, 5, none⟩ = some (.bool false) := k2.cell 5
  have pf5 : w3.frozen? ⟨w.heap.size + 1, 5, none⟩ = false := k2.frozen 5
  have rc5 : w3.cell? ⟨w.heap.size, 5, none⟩ = some (.bool false) := kr2.cell 5
  have rf5 : w3.frozen? ⟨w.heap.size, 5, none⟩ = false := kr2.frozen 5
  have pc6 : w3.cell? ⟨w.heap.size + 1, 6, none⟩ = some (.bool false) := k2.cell 6
  have pf6 : w3.frozen? ⟨w.heap.size + 1, 6, none⟩ = false := k2.frozen 6
  have rc6 : w3.cell? ⟨w.heap.size, 6, none⟩ = some (.bool false) := kr2.cell 6
  have rf6 : w3.frozen? ⟨w.heap.size, 6, none⟩ = false := kr2.frozen 6
  have pc7 : w3.cell? ⟨w.heap.size + 1, 7, none⟩ = some (.bool false) := k2.cell 7
  have pf7 : w3.frozen? ⟨w.heap.size + 1, 7, none⟩ = false := k2.frozen 7
  have rc7 : w3.cell? ⟨w.heap.size, 7, none⟩ = some (.bool false) := kr2.cell 7
  have rf7 : w3.frozen? ⟨w.heap.size, 7, none⟩ = false := kr2.frozen 7
  have pc8 : w3.cell? ⟨w.heap.size + 1, 8, none⟩ = some (.bool false) := k2.cell 8
  have pf8 : w3.frozen? ⟨w.heap.size + 1, 8, none⟩ = false := k2.frozen 8
  have rc8 : w3.cell? ⟨w.heap.size, 8, none⟩ = some (.bool false) := kr2.cell 8
  have rf8 : w3.frozen? ⟨w.heap.size, 8, none⟩ = false := kr2.frozen 8
  have KR2 := hide kr2
  clear k2 kr2
  go_wp2_with fail
  refine (unhide HC3 _).mono ?_
  rintro e1 w4 ⟨rfl, hw4⟩
  subst hw4
  go_wp2_with fail
  refine (unhide HC4 _).mono ?_
  rintro e1 w4 ⟨rfl, hw4⟩
  subst hw4
  go_wp2
  have kk := (((((((((((((((((unhide KR2).away (show w.heap.size ≠ w.heap.size + 1 by omega) (.string LL) (o := 0)).away (show w.heap.size ≠ w.heap.size + 1 by omega) (.bool true) (o := 5)).away (show w.heap.size ≠ w.heap.size + 1 by omega) (.bool true) (o := 8)).away (show w.heap.size ≠ w.heap.size + 1 by omega) (.string MA) (o := 4)).away (show w.heap.size ≠ w.heap.size + 1 by omega) (.bool true) (o := 7)).away (show w.heap.size ≠ w.heap.size + 1 by omega) (.string QU) (o := 3)).away (show w.heap.size ≠ w.heap.size + 1 by omega) (.string X3) (o := 2)).set 0 (by simp) (.string LL)).set 1 (by simp) (.string ⟨#[]⟩)).set 2 (by simp) (.string X3)).set 3 (by simp) (.string QU)).set 4 (by simp) (.string MA)).set 5 (by simp) (.bool true)).set 6 (by simp) (.bool false)).set 7 (by simp) (.bool true)).set 8 (by simp) (.bool true))
  have dd0 := kk.cell 0
  have dd1 := kk.cell 1
  have dd2 := kk.cell 2
  have dd3 := kk.cell 3
  have dd4 := kk.cell 4
  have dd5 := kk.cell 5
  have dd6 := kk.cell 6
  have dd7 := kk.cell 7
  have dd8 := kk.cell 8
  exact bodyPost_ret (v := .agg #[.string LL, .string ⟨#[]⟩, .string X3, .string QU, .string MA, .bool true, .bool false, .bool true, .bool true]) (by simp [results, Try.results52, go_sem, dd0, dd1, dd2, dd3, dd4, dd5, dd6, dd7, dd8]) rfl ⟨rfl, ((((((((((((((((hb2.setCell (by simp) _).setCell (by simp) _).setCell (by simp) _).setCell (by simp) _).setCell (by simp) _).setCell (by simp) _).setCell (by simp) _).setCell (by simp) _).setCell (by simp) _).setCell (by simp) _).setCell (by simp) _).setCell (by simp) _).setCell (by simp) _).setCell (by simp) _).setCell (by simp) _).setCell (by simp) _)⟩

set_option maxHeartbeats 2000000 in
set_option maxRecDepth 20000 in
theorem rsp_1111 (S X0 X1 X2 X3 L1 LL MA QU HO PA P2 Z : ByteArray) (n m q h : Nat) (w : World)
    (z0 : X0.size ≤ 100000)
    (z1 : X1.size ≤ 100000)
    (z2 : X2.size ≤ 100000)
    (z3 : X3.size ≤ 100000)
    (C0 : ∀ w, Calls Try.prog 68 #[.string S] w fun e w' => e = .returned (.string X0) ∧ Below w.heap.size w w')
    (C1 : ∀ w, Calls Try.prog 69 #[.string X0] w fun e w' => e = .returned (.int .i64 (n : Int)) ∧ w' = w)
    (a1 : (0 : Int) < (n : Int))
    (a2 : (n : Int) + 1 ≤ (X0.size : Int))
    (a3 : X0.extract 0 n = L1)
    (a4 : X0.extract (n + 1) X0.size = X1)
    (C2 : ∀ w, Calls Try.prog 27 #[.string L1] w fun e w' => e = .returned (.string LL) ∧ Below w.heap.size w w')
    (C3 : ∀ w, Calls Try.prog 70 #[.string X1, .int .u8 35, .int .u8 35] w fun e w' => e = .returned (.int .i64 (m : Int)) ∧ w' = w)
    (b1 : (m : Int) + 1 ≤ (X1.size : Int))
    (b2 : X1.extract (m + 1) X1.size = MA)
    (b3 : X1.extract 0 m = X2)
    (C4 : ∀ w, Calls Try.prog 70 #[.string X2, .int .u8 63, .int .u8 63] w fun e w' => e = .returned (.int .i64 (q : Int)) ∧ w' = w)
    (c1 : (q : Int) + 1 ≤ (X2.size : Int))
    (c2 : X2.extract (q + 1) X2.size = QU)
    (c3 : X2.extract 0 q = X3)
    (d1 : (1 : Int) < (X3.size : Int))
    (d2 : X3.extract 0 2 = P2)
    (d3 : (P2.toList == [47, 47]) = false) :
    Calls Try.prog 52 #[.string S] w fun e w' => e = .returned (.agg #[.string LL, .string ⟨#[]⟩, .string X3, .string QU, .string MA, .bool true, .bool false, .bool true, .bool true]) ∧ Below w.heap.size w w' := by
  have HC0 := hide C0
  have HC1 := hide C1
  have HC2 := hide C2
  have HC3 := hide C3
  have HC4 := hide C4
  clear C0 C1 C3 C4 C2
  have a6 : (n : Int) < (X0.size : Int) := by omega
  have a0 : (n : Int) ≤ (X0.size : Int) := by omega
  have a5 : (0 : Int) ≤ (n : Int) := by omega
  have b0 : (m : Int) < (X1.size : Int) := by omega
  have b5 : (m : Int) ≤ (X1.size : Int) := by omega
  have c0 : (q : Int) < (X2.size : Int) := by omega
  have c5 : (q : Int) ≤ (X2.size : Int) := by omega
  have d0 : (2 : Int) ≤ (X3.size : Int) := by omega
  have kR : Hid (Blk ((w.alloc (Obj.cells #[.string ⟨#[]⟩, .string ⟨#[]⟩, .string ⟨#[]⟩, .string ⟨#[]⟩, .string ⟨#[]⟩, .bool false, .bool false, .bool false, .bool false] 86)).alloc (Obj.cells #[.string ⟨#[]⟩, .string ⟨#[]⟩, .string ⟨#[]⟩, .string ⟨#[]⟩, .string ⟨#[]⟩, .bool false, .bool false, .bool false, .bool false] 86)) w.heap.size #[.string ⟨#[]⟩, .string ⟨#[]⟩, .string ⟨#[]⟩, .string ⟨#[]⟩, .string ⟨#[]⟩, .bool false, .bool false, .bool false, .bool false] 86) := hide ((Blk.new w _ _).alloc _)
  have kB : Hid (Blk ((w.alloc (Obj.cells #[.string ⟨#[]⟩, .string ⟨#[]⟩, .string ⟨#[]⟩, .string ⟨#[]⟩, .string ⟨#[]⟩, .bool false, .bool false, .bool false, .bool false] 86)).alloc (Obj.cells #[.string ⟨#[]⟩, .string ⟨#[]⟩, .string ⟨#[]⟩, .string ⟨#[]⟩, .string ⟨#[]⟩, .bool false, .bool false, .bool false, .bool false] 86)) (w.heap.size + 1) #[.string ⟨#[]⟩, .string ⟨#[]⟩, .string ⟨#[]⟩, .string ⟨#[]⟩, .string ⟨#[]⟩, .bool false, .bool false, .bool false, .bool false] 86) := hide (Eq.mp (by simp) (Blk.new (w.alloc (Obj.cells #[.string ⟨#[]⟩, .string ⟨#[]⟩, .string ⟨#[]⟩, .string ⟨#[]⟩, .string ⟨#[]⟩, .bool false, .bool false, .bool false, .bool false] 86)) #[.string ⟨#[]⟩, .string ⟨#[]⟩, .string ⟨#[]⟩, .string ⟨#[]⟩, .string ⟨#[]⟩, .bool false, .bool false, .bool false, .bool false] 86))
  go_enter Try.func52, Try.ntmps52
  go_wp2_with fail
  refine (unhide HC0 _).mono ?_
  rintro e1 w1 ⟨rfl, hb⟩
  have kR1 := hide ((unhide kR).later hb)
  have kB1 := hide ((unhide kB).later hb)
  have hb1 : Below w.heap.size w w1 := (((Below.refl _ w).alloc (Nat.le_refl _) _).alloc (by simp) _).trans (hb.mono (by simp; omega))
  clear hb kR kB
  go_wp2_with fail
  refine (unhide HC1 _).mono ?_
  rintro e1 w2 ⟨rfl, hw2⟩
  obtain rfl : w1 = w2 := hw2.symm
  clear hw2
  go_wp2_with fail
  refine (unhide HC2 _).mono ?_
  rintro e1 w3 ⟨rfl, hb⟩
  have kr2 := (unhide kR1).later hb
  have k2 := (unhide kB1).later hb
  have hb2 : Below w.heap.size w w3 := tr2 hb1 hb
  clear hb kR1 kB1 hb1
  have pc0 : w3.cell? ⟨w.heap.size + 1, 0, none⟩ = some (.string ⟨#[]⟩) := k2.cell 0
  have pf0 : w3.frozen? ⟨w.heap.size + 1, 0, none⟩ = false := k2.frozen 0
  have rc0 : w3.cell? ⟨w.heap.size, 0, none⟩ = some (.string ⟨#[]⟩) := kr2.cell 0
  have rf0 : w3.frozen? ⟨w.heap.size, 0, none⟩ = false := kr2.frozen 0
  have pc1 : w3.cell? ⟨w.heap.size + 1, 1, none⟩ = some (.string ⟨#[]⟩) := k2.cell 1
  have pf1 : w3.frozen? ⟨w.heap.size + 1, 1, none⟩ = false := k2.frozen 1
  have rc1 : w3.cell? ⟨w.heap.size, 1, none⟩ = some (.string ⟨#[]⟩) := kr2.cell 1
  have rf1 : w3.frozen? ⟨w.heap.size, 1, none⟩ = false := kr2.frozen 1
  have pc2 : w3.cell? ⟨w.heap.size + 1, 2, none⟩ = some (.string ⟨#[]⟩) := k2.cell 2
  have pf2 : w3.frozen? ⟨w.heap.size + 1, 2, none⟩ = false := k2.frozen 2
  have rc2 : w3.cell? ⟨w.heap.size, 2, none⟩ = some (.string ⟨#[]⟩) := kr2.cell 2
  have rf2 : w3.frozen? ⟨w.heap.size, 2, none⟩ = false := kr2.frozen 2
  have pc3 : w3.cell? ⟨w.heap.size + 1, 3, none⟩ = some (.string ⟨#[]⟩) := k2.cell 3
  have pf3 : w3.frozen? ⟨w.heap.size + 1, 3, none⟩ = false := k2.frozen 3
  have rc3 : w3.cell? ⟨w.heap.size, 3, none⟩ = some (.string ⟨#[]⟩) := kr2.cell 3
  have rf3 : w3.frozen? ⟨w.heap.size, 3, none⟩ = false := kr2.frozen 3
  have pc4 : w3.cell? ⟨w.heap.size + 1, 4, none⟩ = some (.string ⟨#[]⟩) := k2.cell 4
  have pf4 : w3.frozen? ⟨w.heap.size + 1, 4, none⟩ = false := k2.frozen 4
  have rc4 : w3.cell? ⟨w.heap.size, 4, none⟩ = some (.string ⟨#[]⟩) := kr2.cell 4
  have rf4 : w3.frozen? ⟨w.heap.size, 4, none⟩ = false := kr2.frozen 4
  have pc5 : w3.cell? ⟨w.heap.size + 1, 5, none⟩ = some (.bool false) := k2.cell 5
  have pf5 : w3.frozen? ⟨w.heap.size + 1, 5, none⟩ = false := k2.frozen 5
  have rc5 : w3.cell? ⟨w.heap.size, 5, none⟩ = some (.bool false) := kr2.cell 5
  have rf5 : w3.frozen? ⟨w.heap.size, 5, none⟩ = false := kr2.frozen 5
  have pc6 : w3.cell? ⟨w.heap.size + 1, 6, none⟩ = some (.bool false) := k2.cell 6
  have pf6 : w3.frozen? ⟨w.heap.size + 1, 6, none⟩ = false := k2.frozen 6
  have rc6 : w3.cell? ⟨w.heap.size, 6, none⟩ = some (.bool false) := kr2.cell 6
  have rf6 : w3.frozen? ⟨w.heap.size, 6, none⟩ = false := kr2.frozen 6
  have pc7 : w3.cell? ⟨w.heap.size + 1, 7, none⟩ = some (.bool false) := k2.cell 7
  have pf7 : w3.frozen? ⟨w.heap.size + 1, 7, none⟩ = false := k2.frozen 7
  have rc7 : w3.cell? ⟨w.heap.size, 7, none⟩ = some (.bool false) := kr2.cell 7
  have rf7 : w3.frozen? ⟨w.heap.size, 7, none⟩ = false := kr2.frozen 7
  have pc8 : w3.cell? ⟨w.heap.size + 1, 8, none⟩ = some (.bool false) := k2.cell 8
  have pf8 : w3.frozen? ⟨w.heap.size + 1, 8, none⟩ = false := k2.frozen 8
  have rc8 : w3.cell? ⟨w.heap.size, 8, none⟩ = some (.bool false) := kr2.cell 8
  have rf8 : w3.frozen? ⟨w.heap.size, 8, none⟩ = false := kr2.frozen 8
  have KR2 := hide kr2
  clear k2 kr2
  go_wp2_with fail
  refine (unhide HC3 _).mono ?_
  rintro e1 w4 ⟨rfl, hw4⟩
  subst hw4
  go_wp2_with fail
  refine (unhide HC4 _).mono ?_
  rintro e1 w4 ⟨rfl, hw4⟩
  subst hw4
  go_wp2
  have kk := (((((((((((((((((unhide KR2).away (show w.heap.size ≠ w.heap.size + 1 by omega) (.string LL) (o := 0)).away (show w.heap.size ≠ w.heap.size + 1 by omega) (.bool true) (o := 5)).away (show w.heap.size ≠ w.heap.size + 1 by omega) (.bool true) (o := 8)).away (show w.heap.size ≠ w.heap.size + 1 by omega) (.string MA) (o := 4)).away (show w.heap.size ≠ w.heap.size + 1 by omega) (.bool true) (o := 7)).away (show w.heap.size ≠ w.heap.size + 1 by omega) (.string QU) (o := 3)).away (show w.heap.size ≠ w.heap.size + 1 by omega) (.string X3) (o := 2)).set 0 (by simp) (.string LL)).set 1 (by simp) (.string ⟨#[]⟩)).set 2 (by simp) (.string X3)).set 3 (by simp) (.string QU)).set 4 (by simp) (.string MA)).set 5 (by simp) (.bool true)).set 6 (by simp) (.bool false)).set 7 (by simp) (.bool true)).set 8 (by simp) (.bool true))
  have dd0 := kk.cell 0
  have dd1 := kk.cell 1
  have dd2 := kk.cell 2
  have dd3 := kk.cell 3
  have dd4 := kk.cell 4
  have dd5 := kk.cell 5
  have dd6 := kk.cell 6
  have dd7 := kk.cell 7
  have dd8 := kk.cell 8
  exact bodyPost_ret (v := .agg #[.string LL, .string ⟨#[]⟩, .string X3, .string QU, .string MA, .bool true, .bool false, .bool true, .bool true]) (by simp [results, Try.results52, go_sem, dd0, dd1, dd2, dd3, dd4, dd5, dd6, dd7, dd8]) rfl ⟨rfl, ((((((((((((((((hb2.setCell (by simp) _).setCell (by simp) _).setCell (by simp) _).setCell (by simp) _).setCell (by simp) _).setCell (by simp) _).setCell (by simp) _).setCell (by simp) _).setCell (by simp) _).setCell (by simp) _).setCell (by simp) _).setCell (by simp) _).setCell (by simp) _).setCell (by simp) _).setCell (by simp) _).setCell (by simp) _)⟩

set_option maxHeartbeats 2000000 in
set_option maxRecDepth 20000 in
theorem rsp_1112 (S X0 X1 X2 X3 L1 LL MA QU HO PA P2 Z : ByteArray) (n m q h : Nat) (w : World)
    (z0 : X0.size ≤ 100000)
    (z1 : X1.size ≤ 100000)
    (z2 : X2.size ≤ 100000)
    (z3 : X3.size ≤ 100000)
    (C0 : ∀ w, Calls Try.prog 68 #[.string S] w fun e w' => e = .returned (.string X0) ∧ Below w.heap.size w w')
    (C1 : ∀ w, Calls Try.prog 69 #[.string X0] w fun e w' => e = .returned (.int .i64 (n : Int)) ∧ w' = w)
    (a1 : (0 : Int) < (n : Int))
    (a2 : (n : Int) + 1 ≤ (X0.size : Int))
    (a3 : X0.extract 0 n = L1)
    (a4 : X0.extract (n + 1) X0.size = X1)
    (C2 : ∀ w, Calls Try.prog 27 #[.string L1] w fun e w' => e = .returned (.string LL) ∧ Below w.heap.size w w')
    (C3 : ∀ w, Calls Try.prog 70 #[.string X1, .int .u8 35, .int .u8 35] w fun e w' => e = .returned (.int .i64 (m : Int)) ∧ w' = w)
    (b1 : (m : Int) + 1 ≤ (X1.size : Int))
    (b2 : X1.extract (m + 1) X1.size = MA)
    (b3 : X1.extract 0 m = X2)
    (C4 : ∀ w, Calls Try.prog 70 #[.string X2, .int .u8 63, .int .u8 63] w fun e w' => e = .returned (.int .i64 (q : Int)) ∧ w' = w)
    (c1 : (q : Int) + 1 ≤ (X2.size : Int))
    (c2 : X2.extract (q + 1) X2.size = QU)
    (c3 : X2.extract 0 q = X3)
    (d1 : (1 : Int) < (X3.size : Int))
    (d2 : X3.extract 0 2 = P2)
    (d3 : (P2.toList == [47, 47]) = true)
    (d4 : X3.extract 2 X3.size = Z)
    (C5 : ∀ w, Calls Try.prog 70 #[.string Z, .int .u8 47, .int .u8 92] w fun e w' => e = .returned (.int .i64 (h : Int)) ∧ w' = w)
    (d5 : (2 : Int) + (h : Int) ≤ (X3.size : Int))
    (d6 : X3.extract 2 (2 + h) = HO)
    (d7 : X3.extract (2 + h) X3.size = PA) :
    Calls Try.prog 52 #[.string S] w fun e w' => e = .returned (.agg #[.string LL, .string HO, .string PA, .string QU, .string MA, .bool true, .bool true, .bool true, .bool true]) ∧ Below w.heap.size w w' := by
  have HC0 := hide C0
  have HC1 := hide C1
  have HC2 := hide C2
  have HC3 := hide C3
  have HC4 := hide C4
  have HC5 := hide C5
  clear C0 C1 C3 C4 C2 C5
  have a6 : (n : Int) < (X0.size : Int) := by omega
  have a0 : (n : Int) ≤ (X0.size : Int) := by omega
  have a5 : (0 : Int) ≤ (n : Int) := by omega
  have b0 : (m : Int) < (X1.size : Int) := by omega
  have b5 : (m : Int) ≤ (X1.size : Int) := by omega
  have c0 : (q : Int) < (X2.size : Int) := by omega
  have c5 : (q : Int) ≤ (X2.size : Int) := by omega
  have d0 : (2 : Int) ≤ (X3.size : Int) := by omega
  have d8 : (0 : Int) ≤ (2 : Int) + (h : Int) := by omega
  have d9 : (2 : Int) ≤ (2 : Int) + (h : Int) := by omega
  have e1 : ((2 : Int) + (h : Int)).toNat = 2 + h := by omega
  have kR : Hid (Blk ((w.alloc (Obj.cells #[.string ⟨#[]⟩, .string ⟨#[]⟩, .string ⟨#[]⟩, .string ⟨#[]⟩, .string ⟨#[]⟩, .bool false, .bool false, .bool false, .bool false] 86)).alloc (Obj.cells #[.string ⟨#[]⟩, .string ⟨#[]⟩, .string ⟨#[]⟩, .string ⟨#[]⟩, .string ⟨#[]⟩, .bool false, .bool false, .bool false, .bool false] 86)) w.heap.size #[.string ⟨#[]⟩, .string ⟨#[]⟩, .string ⟨#[]⟩, .string ⟨#[]⟩, .string ⟨#[]⟩, .bool false, .bool false, .bool false, .bool false] 86) := hide ((Blk.new w _ _).alloc _)
  have kB : Hid (Blk ((w.alloc (Obj.cells #[.string ⟨#[]⟩, .string ⟨#[]⟩, .string ⟨#[]⟩, .string ⟨#[]⟩, .string ⟨#[]⟩, .bool false, .bool false, .bool false, .bool false] 86)).alloc (Obj.cells #[.string ⟨#[]⟩, .string ⟨#[]⟩, .string ⟨#[]⟩, .string ⟨#[]⟩, .string ⟨#[]⟩, .bool false, .bool false, .bool false, .bool false] 86)) (w.heap.size + 1) #[.string ⟨#[]⟩, .string ⟨#[]⟩, .string ⟨#[]⟩, .string ⟨#[]⟩, .string ⟨#[]⟩, .bool false, .bool false, .bool false, .bool false] 86) := hide (Eq.mp (by simp) (Blk.new (w.alloc (Obj.cells #[.string ⟨#[]⟩, .string ⟨#[]⟩, .string ⟨#[]⟩, .string ⟨#[]⟩, .string ⟨#[]⟩, .bool false, .bool false, .bool false, .bool false] 86)) #[.string ⟨#[]⟩, .string ⟨#[]⟩, .string ⟨#[]⟩, .string ⟨#[]⟩, .string ⟨#[]⟩, .bool false, .bool false, .bool false, .bool false] 86))
  go_enter Try.func52, Try.ntmps52
  go_wp2_with fail
  refine (unhide HC0 _).mono ?_
  rintro e1 w1 ⟨rfl, hb⟩
  have kR1 := hide ((unhide kR).later hb)
  have kB1 := hide ((unhide kB).later hb)
  have hb1 : Below w.heap.size w w1 := (((Below.refl _ w).alloc (Nat.le_refl _) _).alloc (by simp) _).trans (hb.mono (by simp; omega))
  clear hb kR kB
  go_wp2_with fail
  refine (unhide HC1 _).mono ?_
  rintro e1 w2 ⟨rfl, hw2⟩
  obtain rfl : w1 = w2 := hw2.symm
  clear hw2
  go_wp2_with fail
  refine (unhide HC2 _).mono ?_
  rintro e1 w3 ⟨rfl, hb⟩
  have kr2 := (unhide kR1).later hb
  have k2 := (unhide kB1).later hb
  have hb2 : Below w.heap.size w w3 := tr2 hb1 hb
  clear hb kR1 kB1 hb1
  have pc0 : w3.cell? ⟨w.heap.size + 1, 0, none⟩ = some (.string ⟨#[]⟩) := k2.cell 0
  have pf0 : w3.frozen? ⟨w.heap.size + 1, 0, none⟩ = false := k2.frozen 0
  have rc0 : w3.cell? ⟨w.heap.size, 0, none⟩ = some (.string ⟨#[]⟩) := kr2.cell 0
  have rf0 : w3.frozen? ⟨w.heap.size, 0, none⟩ = false := kr2.frozen 0
  have pc1 : w3.cell? ⟨w.heap.size + 1, 1, none⟩ = some (.string ⟨#[]⟩) := k2.cell 1
  have pf1 : w3.frozen? ⟨w.heap.size + 1, 1, none⟩ = false := k2.frozen 1
  have rc1 : w3.cell? ⟨w.heap.size, 1, none⟩ = some (.string ⟨#[]⟩) := kr2.cell 1
  have rf1 : w3.frozen? ⟨w.heap.size, 1, none⟩ = false := kr2.frozen 1
  have pc2 : w3.cell? ⟨w.heap.size + 1, 2, none⟩ = some (.string ⟨#[]⟩) := k2.cell 2
  have pf2 : w3.frozen? ⟨w.heap.size + 1, 2, none⟩ = false := k2.frozen 2
  have rc2 : w3.cell? ⟨w.heap.size, 2, none⟩ = some (.string ⟨#[]⟩) := kr2.cell 2
  have rf2 : w3.frozen? ⟨w.heap.size, 2, none⟩ = false := kr2.frozen 2
  have pc3 : w3.cell? ⟨w.heap.size + 1, 3, none⟩ = some (.string ⟨#[]⟩) := k2.cell 3
  have pf3 : w3.frozen? ⟨w.heap.size + 1, 3, none⟩ = false := k2.frozen 3
  have rc3 : w3.cell? ⟨w.heap.size, 3, none⟩ = some (.string ⟨#[]⟩) := kr2.cell 3
  have rf3 : w3.frozen? ⟨w.heap.size, 3, none⟩ = false := kr2.frozen 3
  have pc4 : w3.cell? ⟨w.heap.size + 1, 4, none⟩ = some (.string ⟨#[]⟩) := k2.cell 4
  have pf4 : w3.frozen? ⟨w.heap.size + 1, 4, none⟩ = false := k2.frozen 4
  have rc4 : w3.cell? ⟨w.heap.size, 4, none⟩ = some (.string ⟨#[]⟩) := kr2.cell 4
  have rf4 : w3.frozen? ⟨w.heap.size, 4, none⟩ = false := kr2.frozen 4
  have pc5 : w3.cell? ⟨w.heap.size + 1, 5, none⟩ = some (.bool false) := k2.cell 5
  have pf5 : w3.frozen? ⟨w.heap.size + 1, 5, none⟩ = false := k2.frozen 5
  have rc5 : w3.cell? ⟨w.heap.size, 5, none⟩ = some (.bool false) := kr2.cell 5
  have rf5 : w3.frozen? ⟨w.heap.size, 5, none⟩ = false := kr2.frozen 5
  have pc6 : w3.cell? ⟨w.heap.size + 1, 6, none⟩ = some (.bool false) := k2.cell 6
  have pf6 : w3.frozen? ⟨w.heap.size + 1, 6, none⟩ = false := k2.frozen 6
  have rc6 : w3.cell? ⟨w.heap.size, 6, none⟩ = some (.bool false) := kr2.cell 6
  have rf6 : w3.frozen? ⟨w.heap.size, 6, none⟩ = false := kr2.frozen 6
  have pc7 : w3.cell? ⟨w.heap.size + 1, 7, none⟩ = some (.bool false) := k2.cell 7
  have pf7 : w3.frozen? ⟨w.heap.size + 1, 7, none⟩ = false := k2.frozen 7
  have rc7 : w3.cell? ⟨w.heap.size, 7, none⟩ = some (.bool false) := kr2.cell 7
  have rf7 : w3.frozen? ⟨w.heap.size, 7, none⟩ = false := kr2.frozen 7
  have pc8 : w3.cell? ⟨w.heap.size + 1, 8, none⟩ = some (.bool false) := k2.cell 8
  have pf8 : w3.frozen? ⟨w.heap.size + 1, 8, none⟩ = false := k2.frozen 8
  have rc8 : w3.cell? ⟨w.heap.size, 8, none⟩ = some (.bool false) := kr2.cell 8
  have rf8 : w3.frozen? ⟨w.heap.size, 8, none⟩ = false := kr2.frozen 8
  have KR2 := hide kr2
  clear k2 kr2
  go_wp2_with fail
  refine (unhide HC3 _).mono ?_
  rintro e1 w4 ⟨rfl, hw4⟩
  subst hw4
  go_wp2_with fail
  refine (unhide HC4 _).mono ?_
  rintro e1 w4 ⟨rfl, hw4⟩
  subst hw4
  go_wp2_with fail
  refine (unhide HC5 _).mono ?_
  rintro e1 w4 ⟨rfl, hw4⟩
  subst hw4
  go_wp2
  have kk := (((((((((((((((((((unhide KR2).away (show w.heap.size ≠ w.heap.size + 1 by omega) (.string LL) (o := 0)).away (show w.heap.size ≠ w.heap.size + 1 by omega) (.bool true) (o := 5)).away (show w.heap.size ≠ w.heap.size + 1 by omega) (.bool true) (o := 8)).away (show w.heap.size ≠ w.heap.size + 1 by omega) (.string MA) (o := 4)).away (show w.heap.size ≠ w.heap.size + 1 by omega) (.bool true) (o := 7)).away (show w.heap.size ≠ w.heap.size + 1 by omega) (.string QU) (o := 3)).away (show w.heap.size ≠ w.heap.size + 1 by omega) (.bool true) (o := 6)).away (show w.heap.size ≠ w.heap.size + 1 by omega) (.string HO) (o := 1)).away (show w.heap.size ≠ w.heap.size + 1 by omega) (.string PA) (o := 2)).set 0 (by simp) (.string LL)).set 1 (by simp) (.string HO)).set 2 (by simp) (.string PA)).set 3 (by simp) (.string QU)).set 4 (by simp) (.string MA)).set 5 (by simp) (.bool true)).set 6 (by simp) (.bool true)).set 7 (by simp) (.bool true)).set 8 (by simp) (.bool true))
  have dd0 := kk.cell 0
  have dd1 := kk.cell 1
  have dd2 := kk.cell 2
  have dd3 := kk.cell 3
  have dd4 := kk.cell 4
  have dd5 := kk.cell 5
  have dd6 := kk.cell 6
  have dd7 := kk.cell 7
  have dd8 := kk.cell 8
  exact bodyPost_ret (v := .agg #[.string LL, .string HO, .string PA, .string QU, .string MA, .bool true, .bool true, .bool true, .bool true]) (by simp [results, Try.results52, go_sem, dd0, dd1, dd2, dd3, dd4, dd5, dd6, dd7, dd8]) rfl ⟨rfl, ((((((((((((((((((hb2.setCell (by simp) _).setCell (by simp) _).setCell (by simp) _).setCell (by simp) _).setCell (by simp) _).setCell (by simp) _).setCell (by simp) _).setCell (by simp) _).setCell (by simp) _).setCell (by simp) _).setCell (by simp) _).setCell (by simp) _).setCell (by simp) _).setCell (by simp) _).setCell (by simp) _).setCell (by simp) _).setCell (by simp) _).setCell (by simp) _)⟩
end Go.Proofs.Ytfdhmhdemfbfeaa

/-
  The reference's Split of layer 15: of every address, the parts that the program tells.
-/
namespace Go.Proofs.Ytfdhmhdemfbfeaa
open Go.RowKit
set_option linter.unusedVariables false

theorem ex_drop (l : List UInt8) (k : Nat) : (bs l).extract k (bs l).size = bs (l.drop k) := by
  rw [← bs_self ((bs l).extract k (bs l).size), Lib.extract_to_end, bs_toList]
theorem ex_take (l : List UInt8) (k : Nat) : (bs l).extract 0 k = bs (l.take k) := by
  rw [← bs_self ((bs l).extract 0 k), Lib.Pa.extract_upto_list, bs_toList]
theorem ex_mid (l : List UInt8) (a k : Nat) : (bs l).extract a (a + k) = bs ((l.drop a).take k) := by
  rw [extract_take, bs_toList]
theorem hst_iff (l : List UInt8) : hstB l = true ↔ 2 ≤ l.length ∧ l.take 2 = [47, 47] := by
  unfold hstB
  rw [List.isPrefixOf_iff_prefix, List.prefix_iff_eq_take]
  constructor
  · intro h
    have h2 := congrArg List.length h
    simp at h2
    exact ⟨by omega, by simpa using h.symm⟩
  · rintro ⟨h1, h2⟩
    simpa using h2.symm

theorem rsplit_any (s : ByteArray) (w : World) (hs : s.size ≤ 100000) :
    Calls Try.prog 52 #[.string s] w fun e w' => e = .returned (.agg (spC (plL s.data.toList))) ∧ Below w.heap.size w w' := by
  have C0 := fun w => rplain_any s w hs
  have hpl : (plL s.data.toList).length ≤ 100000 := by have := plL_len s.data.toList; rw [data_len] at this; omega
  generalize plL s.data.toList = x at *
  have z1l : (s1 x).length ≤ 100000 := s1_sz hpl
  have z2l : (s2 x).length ≤ 100000 := take_sz z1l
  have z3l : (s3 x).length ≤ 100000 := take_sz z2l
  have z0 : (bs x).size ≤ 100000 := by rw [bs_size]; exact hpl
  have z1 : (bs (s1 x)).size ≤ 100000 := by rw [bs_size]; exact z1l
  have z2 : (bs (s2 x)).size ≤ 100000 := by rw [bs_size]; exact z2l
  have z3 : (bs (s3 x)).size ≤ 100000 := by rw [bs_size]; exact z3l
  have C1 := fun w => rscheme_any (bs x) w (by omega)
  rw [bs_toList] at C1
  have C3 : ∀ w, Calls Try.prog 70 #[.string (bs (s1 x)), .int .u8 35, .int .u8 35] w fun e w' => e = .returned (.int .i64 (sM x : Int)) ∧ w' = w := by
    intro w
    have := vfirst_any (bs (s1 x)) 35 35 w (by omega)
    rw [bs_toList] at this
    exact this
  have C4 : ∀ w, Calls Try.prog 70 #[.string (bs (s2 x)), .int .u8 63, .int .u8 63] w fun e w' => e = .returned (.int .i64 (sQ x : Int)) ∧ w' = w := by
    intro w
    have := vfirst_any (bs (s2 x)) 63 63 w (by omega)
    rw [bs_toList] at this
    exact this
  have hm := tkN_le (nfN 35 35) (s1 x)
  have hq := tkN_le (nfN 63 63) (s2 x)
  have C5 := fun w => vfirst_any (bs ((s3 x).drop 2)) 47 92 w (by rw [bs_size, List.length_drop]; omega)
  rw [bs_toList] at C5
  have hh := tkN_le (nfN 47 92) ((s3 x).drop 2)
  rw [List.length_drop] at hh
  by_cases hA : 0 < schN x
  · obtain ⟨p1, p2, p3⟩ := schN_parts hA
    have a1 : (0 : Int) < (schN x : Int) := by omega
    have a2 : (schN x : Int) + 1 ≤ ((bs x).size : Int) := by rw [bs_size]; omega
    have a4 : (bs x).extract (schN x + 1) (bs x).size = bs (s1 x) := by rw [ex_drop, s1, if_pos hA]
    have C2 : ∀ w, Calls Try.prog 27 #[.string (bs (x.take (schN x)))] w fun e w' => e = .returned (.string (bs (sSc x))) ∧ Below w.heap.size w w' := by
      intro w
      have := rlower_any (bs (x.take (schN x))) w (by rw [bs_size, List.length_take]; omega)
      rw [bs_toList] at this
      rw [sSc, if_pos hA]
      exact this
    have eA : decide (0 < schN x) = true := decide_eq_true hA
    have eS : True := trivial
    have e1 : s1 x = s1 x := rfl
    by_cases hB : sM x < (s1 x).length
    · have b1 : (sM x : Int) + 1 ≤ ((bs (s1 x)).size : Int) := by rw [bs_size]; omega
      have b3 : (bs (s1 x)).extract 0 (sM x) = bs (s2 x) := by rw [ex_take, s2]
      have b2 : (bs (s1 x)).extract (sM x + 1) (bs (s1 x)).size = bs (sMa x) := by rw [ex_drop, sMa]
      have eB : decide (sM x < (s1 x).length) = true := by rw [e1]; exact decide_eq_true hB
      have eM : True := trivial
      have e2 : s2 x = s2 x := rfl
      by_cases hC : sQ x < (s2 x).length
      · have c1 : (sQ x : Int) + 1 ≤ ((bs (s2 x)).size : Int) := by rw [bs_size]; omega
        have c3 : (bs (s2 x)).extract 0 (sQ x) = bs (s3 x) := by rw [ex_take, s3, e2]
        have c2 : (bs (s2 x)).extract (sQ x + 1) (bs (s2 x)).size = bs (sQu x) := by rw [ex_drop, sQu, e2]
        have eC : decide (sQ x < (s2 x).length) = true := by rw [e2]; exact decide_eq_true hC
        have eQ : True := trivial
        have e3 : s3 x = s3 x := rfl
        cases hD : hstB (s3 x) with
        | true =>
          obtain ⟨t1, t2⟩ := (hst_iff _).1 hD
          have d1 : (1 : Int) < ((bs (s3 x)).size : Int) := by rw [bs_size]; omega
          have d3 : ((bs ((s3 x).take 2)).toList == [47, 47]) = true := by rw [t2, Lib.toList_data, bs_toList]; rfl
          have d5 : (2 : Int) + (tkN (nfN 47 92) ((s3 x).drop 2) : Int) ≤ ((bs (s3 x)).size : Int) := by rw [bs_size]; omega
          have d6 : (bs (s3 x)).extract 2 (2 + tkN (nfN 47 92) ((s3 x).drop 2)) = bs (hoL (s3 x)) := by rw [ex_mid, hoL, e3, if_pos hD]
          have d7 : (bs (s3 x)).extract (2 + tkN (nfN 47 92) ((s3 x).drop 2)) (bs (s3 x)).size = bs (paL (s3 x)) := by rw [ex_drop, paL, e3, if_pos hD, List.drop_drop]
          have eD : hstB (s3 x) = true := by rw [e3]; exact hD
          have fin := rsp_1112 s (bs x) (bs (s1 x)) (bs (s2 x)) (bs (s3 x)) (bs (x.take (schN x))) (bs (sSc x)) (bs (sMa x)) (bs (sQu x)) (bs (hoL (s3 x))) (bs (paL (s3 x))) (bs ((s3 x).take 2)) (bs ((s3 x).drop 2)) (schN x) (sM x) (sQ x) (tkN (nfN 47 92) ((s3 x).drop 2)) w z0 z1 z2 z3 C0 C1 a1 a2 (ex_take x (schN x)) a4 C2 C3 b1 b2 b3 C4 c1 c2 c3 d1 (ex_take (s3 x) 2) d3 (ex_drop (s3 x) 2) C5 d5 d6 d7
          unfold spC ptC
          rw [eA, eB, eC, eD]
          first | exact fin | (simp only [] ; exact fin)
        | false =>
          have eD : hstB (s3 x) = false := by rw [e3]; exact hD
          have eH : bs (hoL (s3 x)) = noS := by rw [hoL, eD]; rfl
          have eP : paL (s3 x) = s3 x := by rw [paL, eD, if_neg (by decide), e3]
          by_cases hsz : 1 < (s3 x).length
          · have d1 : (1 : Int) < ((bs (s3 x)).size : Int) := by rw [bs_size]; omega
            have d3 : ((bs ((s3 x).take 2)).toList == [47, 47]) = false := by
              apply beq_eq_false_iff_ne.2
              intro h9
              rw [Lib.toList_data, bs_toList] at h9
              rw [(hst_iff _).2 ⟨by omega, h9⟩] at hD
              cases hD
            have fin := rsp_1111 s (bs x) (bs (s1 x)) (bs (s2 x)) (bs (s3 x)) (bs (x.take (schN x))) (bs (sSc x)) (bs (sMa x)) (bs (sQu x)) (bs (hoL (s3 x))) (bs (paL (s3 x))) (bs ((s3 x).take 2)) (bs ((s3 x).drop 2)) (schN x) (sM x) (sQ x) (tkN (nfN 47 92) ((s3 x).drop 2)) w z0 z1 z2 z3 C0 C1 a1 a2 (ex_take x (schN x)) a4 C2 C3 b1 b2 b3 C4 c1 c2 c3 d1 (ex_take (s3 x) 2) d3
            unfold spC ptC
            rw [eA, eB, eC, eD, eH, eP]
            first | exact fin | (simp only [] ; exact fin)
          · have d1 : ¬ 1 < (bs (s3 x)).size := by rw [bs_size]; omega
            have fin := rsp_1110 s (bs x) (bs (s1 x)) (bs (s2 x)) (bs (s3 x)) (bs (x.take (schN x))) (bs (sSc x)) (bs (sMa x)) (bs (sQu x)) (bs (hoL (s3 x))) (bs (paL (s3 x))) (bs ((s3 x).take 2)) (bs ((s3 x).drop 2)) (schN x) (sM x) (sQ x) (tkN (nfN 47 92) ((s3 x).drop 2)) w z0 z1 z2 z3 C0 C1 a1 a2 (ex_take x (schN x)) a4 C2 C3 b1 b2 b3 C4 c1 c2 c3 d1
            unfold spC ptC
            rw [eA, eB, eC, eD, eH, eP]
            first | exact fin | (simp only [] ; exact fin)
      · have hqq : sQ x = (s2 x).length := by have h9 : sQ x ≤ (s2 x).length := hq; rw [e2] at h9; omega
        have c1 : ¬ sQ x < (bs (s2 x)).size := by rw [bs_size]; omega
        have e3 : s3 x = s2 x := by rw [s3, e2]; exact List.take_of_length_le (by omega)
        have eC : decide (sQ x < (s2 x).length) = false := by rw [e2]; exact decide_eq_false hC
        have eQ : bs (sQu x) = noS := by rw [sQu, e2, List.drop_eq_nil_of_le (by omega)]; rfl
        rw [e3] at C5 hh
        cases hD : hstB (s2 x) with
        | true =>
          obtain ⟨t1, t2⟩ := (hst_iff _).1 hD
          have d1 : (1 : Int) < ((bs (s2 x)).size : Int) := by rw [bs_size]; omega
          have d3 : ((bs ((s2 x).take 2)).toList == [47, 47]) = true := by rw [t2, Lib.toList_data, bs_toList]; rfl
          have d5 : (2 : Int) + (tkN (nfN 47 92) ((s2 x).drop 2) : Int) ≤ ((bs (s2 x)).size : Int) := by rw [bs_size]; omega
          have d6 : (bs (s2 x)).extract 2 (2 + tkN (nfN 47 92) ((s2 x).drop 2)) = bs (hoL (s3 x)) := by rw [ex_mid, hoL, e3, if_pos hD]
          have d7 : (bs (s2 x)).extract (2 + tkN (nfN 47 92) ((s2 x).drop 2)) (bs (s2 x)).size = bs (paL (s3 x)) := by rw [ex_drop, paL, e3, if_pos hD, List.drop_drop]
          have eD : hstB (s3 x) = true := by rw [e3]; exact hD
          have fin := rsp_1102 s (bs x) (bs (s1 x)) (bs (s2 x)) (bs (s2 x)) (bs (x.take (schN x))) (bs (sSc x)) (bs (sMa x)) (bs (sQu x)) (bs (hoL (s3 x))) (bs (paL (s3 x))) (bs ((s2 x).take 2)) (bs ((s2 x).drop 2)) (schN x) (sM x) (sQ x) (tkN (nfN 47 92) ((s2 x).drop 2)) w z0 z1 z2 C0 C1 a1 a2 (ex_take x (schN x)) a4 C2 C3 b1 b2 b3 C4 c1 d1 (ex_take (s2 x) 2) d3 (ex_drop (s2 x) 2) C5 d5 d6 d7
          unfold spC ptC
          rw [eA, eB, eC, eD]
          first | exact fin | (simp only [eQ] ; exact fin)
        | false =>
          have eD : hstB (s3 x) = false := by rw [e3]; exact hD
          have eH : bs (hoL (s3 x)) = noS := by rw [hoL, eD]; rfl
          have eP : paL (s3 x) = s2 x := by rw [paL, eD, if_neg (by decide), e3]
          by_cases hsz : 1 < (s2 x).length
          · have d1 : (1 : Int) < ((bs (s2 x)).size : Int) := by rw [bs_size]; omega
            have d3 : ((bs ((s2 x).take 2)).toList == [47, 47]) = false := by
              apply beq_eq_false_iff_ne.2
              intro h9
              rw [Lib.toList_data, bs_toList] at h9
              rw [(hst_iff _).2 ⟨by omega, h9⟩] at hD
              cases hD
            have fin := rsp_1101 s (bs x) (bs (s1 x)) (bs (s2 x)) (bs (s2 x)) (bs (x.take (schN x))) (bs (sSc x)) (bs (sMa x)) (bs (sQu x)) (bs (hoL (s3 x))) (bs (paL (s3 x))) (bs ((s2 x).take 2)) (bs ((s2 x).drop 2)) (schN x) (sM x) (sQ x) (tkN (nfN 47 92) ((s2 x).drop 2)) w z0 z1 z2 C0 C1 a1 a2 (ex_take x (schN x)) a4 C2 C3 b1 b2 b3 C4 c1 d1 (ex_take (s2 x) 2) d3
            unfold spC ptC
            rw [eA, eB, eC, eD, eH, eP]
            first | exact fin | (simp only [eQ] ; exact fin)
          · have d1 : ¬ 1 < (bs (s2 x)).size := by rw [bs_size]; omega
            have fin := rsp_1100 s (bs x) (bs (s1 x)) (bs (s2 x)) (bs (s2 x)) (bs (x.take (schN x))) (bs (sSc x)) (bs (sMa x)) (bs (sQu x)) (bs (hoL (s3 x))) (bs (paL (s3 x))) (bs ((s2 x).take 2)) (bs ((s2 x).drop 2)) (schN x) (sM x) (sQ x) (tkN (nfN 47 92) ((s2 x).drop 2)) w z0 z1 z2 C0 C1 a1 a2 (ex_take x (schN x)) a4 C2 C3 b1 b2 b3 C4 c1 d1
            unfold spC ptC
            rw [eA, eB, eC, eD, eH, eP]
            first | exact fin | (simp only [eQ] ; exact fin)
    · have hmm : sM x = (s1 x).length := by have h9 : sM x ≤ (s1 x).length := hm; rw [e1] at h9; omega
      have b1 : ¬ sM x < (bs (s1 x)).size := by rw [bs_size]; omega
      have e2 : s2 x = s1 x := by rw [s2, e1]; exact List.take_of_length_le (by omega)
      have eB : decide (sM x < (s1 x).length) = false := by rw [e1]; exact decide_eq_false hB
      have eM : bs (sMa x) = noS := by rw [sMa, e1, List.drop_eq_nil_of_le (by omega)]; rfl
      rw [e2] at C4
      by_cases hC : sQ x < (s1 x).length
      · have c1 : (sQ x : Int) + 1 ≤ ((bs (s1 x)).size : Int) := by rw [bs_size]; omega
        have c3 : (bs (s1 x)).extract 0 (sQ x) = bs (s3 x) := by rw [ex_take, s3, e2]
        have c2 : (bs (s1 x)).extract (sQ x + 1) (bs (s1 x)).size = bs (sQu x) := by rw [ex_drop, sQu, e2]
        have eC : decide (sQ x < (s2 x).length) = true := by rw [e2]; exact decide_eq_true hC
        have eQ : True := trivial
        have e3 : s3 x = s3 x := rfl
        cases hD : hstB (s3 x) with
        | true =>
          obtain ⟨t1, t2⟩ := (hst_iff _).1 hD
          have d1 : (1 : Int) < ((bs (s3 x)).size : Int) := by rw [bs_size]; omega
          have d3 : ((bs ((s3 x).take 2)).toList == [47, 47]) = true := by rw [t2, Lib.toList_data, bs_toList]; rfl
          have d5 : (2 : Int) + (tkN (nfN 47 92) ((s3 x).drop 2) : Int) ≤ ((bs (s3 x)).size : Int) := by rw [bs_size]; omega
          have d6 : (bs (s3 x)).extract 2 (2 + tkN (nfN 47 92) ((s3 x).drop 2)) = bs (hoL (s3 x)) := by rw [ex_mid, hoL, e3, if_pos hD]
          have d7 : (bs (s3 x)).extract (2 + tkN (nfN 47 92) ((s3 x).drop 2)) (bs (s3 x)).size = bs (paL (s3 x)) := by rw [ex_drop, paL, e3, if_pos hD, List.drop_drop]
          have eD : hstB (s3 x) = true := by rw [e3]; exact hD
          have fin := rsp_1012 s (bs x) (bs (s1 x)) (bs (s1 x)) (bs (s3 x)) (bs (x.take (schN x))) (bs (sSc x)) (bs (sMa x)) (bs (sQu x)) (bs (hoL (s3 x))) (bs (paL (s3 x))) (bs ((s3 x).take 2)) (bs ((s3 x).drop 2)) (schN x) (sM x) (sQ x) (tkN (nfN 47 92) ((s3 x).drop 2)) w z0 z1 z3 C0 C1 a1 a2 (ex_take x (schN x)) a4 C2 C3 b1 C4 c1 c2 c3 d1 (ex_take (s3 x) 2) d3 (ex_drop (s3 x) 2) C5 d5 d6 d7
          unfold spC ptC
          rw [eA, eB, eC, eD]
          first | exact fin | (simp only [eM] ; exact fin)
        | false =>
          have eD : hstB (s3 x) = false := by rw [e3]; exact hD
          have eH : bs (hoL (s3 x)) = noS := by rw [hoL, eD]; rfl
          have eP : paL (s3 x) = s3 x := by rw [paL, eD, if_neg (by decide), e3]
          by_cases hsz : 1 < (s3 x).length
          · have d1 : (1 : Int) < ((bs (s3 x)).size : Int) := by rw [bs_size]; omega
            have d3 : ((bs ((s3 x).take 2)).toList == [47, 47]) = false := by
              apply beq_eq_false_iff_ne.2
              intro h9
              rw [Lib.toList_data, bs_toList] at h9
              rw [(hst_iff _).2 ⟨by omega, h9⟩] at hD
              cases hD
            have fin := rsp_1011 s (bs x) (bs (s1 x)) (bs (s1 x)) (bs (s3 x)) (bs (x.take (schN x))) (bs (sSc x)) (bs (sMa x)) (bs (sQu x)) (bs (hoL (s3 x))) (bs (paL (s3 x))) (bs ((s3 x).take 2)) (bs ((s3 x).drop 2)) (schN x) (sM x) (sQ x) (tkN (nfN 47 92) ((s3 x).drop 2)) w z0 z1 z3 C0 C1 a1 a2 (ex_take x (schN x)) a4 C2 C3 b1 C4 c1 c2 c3 d1 (ex_take (s3 x) 2) d3
            unfold spC ptC
            rw [eA, eB, eC, eD, eH, eP]
            first | exact fin | (simp only [eM] ; exact fin)
          · have d1 : ¬ 1 < (bs (s3 x)).size := by rw [bs_size]; omega
            have fin := rsp_1010 s (bs x) (bs (s1 x)) (bs (s1 x)) (bs (s3 x)) (bs (x.take (schN x))) (bs (sSc x)) (bs (sMa x)) (bs (sQu x)) (bs (hoL (s3 x))) (bs (paL (s3 x))) (bs ((s3 x).take 2)) (bs ((s3 x).drop 2)) (schN x) (sM x) (sQ x) (tkN (nfN 47 92) ((s3 x).drop 2)) w z0 z1 z3 C0 C1 a1 a2 (ex_take x (schN x)) a4 C2 C3 b1 C4 c1 c2 c3 d1
            unfold spC ptC
            rw [eA, eB, eC, eD, eH, eP]
            first | exact fin | (simp only [eM] ; exact fin)
      · have hqq : sQ x = (s1 x).length := by have h9 : sQ x ≤ (s2 x).length := hq; rw [e2] at h9; omega
        have c1 : ¬ sQ x < (bs (s1 x)).size := by rw [bs_size]; omega
        have e3 : s3 x = s1 x := by rw [s3, e2]; exact List.take_of_length_le (by omega)
        have eC : decide (sQ x < (s2 x).length) = false := by rw [e2]; exact decide_eq_false hC
        have eQ : bs (sQu x) = noS := by rw [sQu, e2, List.drop_eq_nil_of_le (by omega)]; rfl
        rw [e3] at C5 hh
        cases hD : hstB (s1 x) with
        | true =>
          obtain ⟨t1, t2⟩ := (hst_iff _).1 hD
          have d1 : (1 : Int) < ((bs (s1 x)).size : Int) := by rw [bs_size]; omega
          have d3 : ((bs ((s1 x).take 2)).toList == [47, 47]) = true := by rw [t2, Lib.toList_data, bs_toList]; rfl
          have d5 : (2 : Int) + (tkN (nfN 47 92) ((s1 x).drop 2) : Int) ≤ ((bs (s1 x)).size : Int) := by rw [bs_size]; omega
          have d6 : (bs (s1 x)).extract 2 (2 + tkN (nfN 47 92) ((s1 x).drop 2)) = bs (hoL (s3 x)) := by rw [ex_mid, hoL, e3, if_pos hD]
          have d7 : (bs (s1 x)).extract (2 + tkN (nfN 47 92) ((s1 x).drop 2)) (bs (s1 x)).size = bs (paL (s3 x)) := by rw [ex_drop, paL, e3, if_pos hD, List.drop_drop]
          have eD : hstB (s3 x) = true := by rw [e3]; exact hD
          have fin := rsp_1002 s (bs x) (bs (s1 x)) (bs (s1 x)) (bs (s1 x)) (bs (x.take (schN x))) (bs (sSc x)) (bs (sMa x)) (bs (sQu x)) (bs (hoL (s3 x))) (bs (paL (s3 x))) (bs ((s1 x).take 2)) (bs ((s1 x).drop 2)) (schN x) (sM x) (sQ x) (tkN (nfN 47 92) ((s1 x).drop 2)) w z0 z1 C0 C1 a1 a2 (ex_take x (schN x)) a4 C2 C3 b1 C4 c1 d1 (ex_take (s1 x) 2) d3 (ex_drop (s1 x) 2) C5 d5 d6 d7
          unfold spC ptC
          rw [eA, eB, eC, eD]
          first | exact fin | (simp only [eM, eQ] ; exact fin)
        | false =>
          have eD : hstB (s3 x) = false := by rw [e3]; exact hD
          have eH : bs (hoL (s3 x)) = noS := by rw [hoL, eD]; rfl
          have eP : paL (s3 x) = s1 x := by rw [paL, eD, if_neg (by decide), e3]
          by_cases hsz : 1 < (s1 x).length
          · have d1 : (1 : Int) < ((bs (s1 x)).size : Int) := by rw [bs_size]; omega
            have d3 : ((bs ((s1 x).take 2)).toList == [47, 47]) = false := by
              apply beq_eq_false_iff_ne.2
              intro h9
              rw [Lib.toList_data, bs_toList] at h9
              rw [(hst_iff _).2 ⟨by omega, h9⟩] at hD
              cases hD
            have fin := rsp_1001 s (bs x) (bs (s1 x)) (bs (s1 x)) (bs (s1 x)) (bs (x.take (schN x))) (bs (sSc x)) (bs (sMa x)) (bs (sQu x)) (bs (hoL (s3 x))) (bs (paL (s3 x))) (bs ((s1 x).take 2)) (bs ((s1 x).drop 2)) (schN x) (sM x) (sQ x) (tkN (nfN 47 92) ((s1 x).drop 2)) w z0 z1 C0 C1 a1 a2 (ex_take x (schN x)) a4 C2 C3 b1 C4 c1 d1 (ex_take (s1 x) 2) d3
            unfold spC ptC
            rw [eA, eB, eC, eD, eH, eP]
            first | exact fin | (simp only [eM, eQ] ; exact fin)
          · have d1 : ¬ 1 < (bs (s1 x)).size := by rw [bs_size]; omega
            have fin := rsp_1000 s (bs x) (bs (s1 x)) (bs (s1 x)) (bs (s1 x)) (bs (x.take (schN x))) (bs (sSc x)) (bs (sMa x)) (bs (sQu x)) (bs (hoL (s3 x))) (bs (paL (s3 x))) (bs ((s1 x).take 2)) (bs ((s1 x).drop 2)) (schN x) (sM x) (sQ x) (tkN (nfN 47 92) ((s1 x).drop 2)) w z0 z1 C0 C1 a1 a2 (ex_take x (schN x)) a4 C2 C3 b1 C4 c1 d1
            unfold spC ptC
            rw [eA, eB, eC, eD, eH, eP]
            first | exact fin | (simp only [eM, eQ] ; exact fin)
  · have e1 : s1 x = x := by rw [s1, if_neg hA]
    have n0 : schN x = 0 := by omega
    have eA : decide (0 < schN x) = false := decide_eq_false hA
    have eS : bs (sSc x) = noS := by rw [sSc, if_neg hA]; rfl
    rw [n0] at C1
    rw [e1] at C3
    by_cases hB : sM x < (x).length
    · have b1 : (sM x : Int) + 1 ≤ ((bs (x)).size : Int) := by rw [bs_size]; omega
      have b3 : (bs (x)).extract 0 (sM x) = bs (s2 x) := by rw [ex_take, s2, e1]
      have b2 : (bs x).extract (sM x + 1) (bs x).size = bs (sMa x) := by rw [ex_drop, sMa, e1]
      have eB : decide (sM x < (s1 x).length) = true := by rw [e1]; exact decide_eq_true hB
      have eM : True := trivial
      have e2 : s2 x = s2 x := rfl
      by_cases hC : sQ x < (s2 x).length
      · have c1 : (sQ x : Int) + 1 ≤ ((bs (s2 x)).size : Int) := by rw [bs_size]; omega
        have c3 : (bs (s2 x)).extract 0 (sQ x) = bs (s3 x) := by rw [ex_take, s3, e2]
        have c2 : (bs (s2 x)).extract (sQ x + 1) (bs (s2 x)).size = bs (sQu x) := by rw [ex_drop, sQu, e2]
        have eC : decide (sQ x < (s2 x).length) = true := by rw [e2]; exact decide_eq_true hC
        have eQ : True := trivial
        have e3 : s3 x = s3 x := rfl
        cases hD : hstB (s3 x) with
        | true =>
          obtain ⟨t1, t2⟩ := (hst_iff _).1 hD
          have d1 : (1 : Int) < ((bs (s3 x)).size : Int) := by rw [bs_size]; omega
          have d3 : ((bs ((s3 x).take 2)).toList == [47, 47]) = true := by rw [t2, Lib.toList_data, bs_toList]; rfl
          have d5 : (2 : Int) + (tkN (nfN 47 92) ((s3 x).drop 2) : Int) ≤ ((bs (s3 x)).size : Int) := by rw [bs_size]; omega
          have d6 : (bs (s3 x)).extract 2 (2 + tkN (nfN 47 92) ((s3 x).drop 2)) = bs (hoL (s3 x)) := by rw [ex_mid, hoL, e3, if_pos hD]
          have d7 : (bs (s3 x)).extract (2 + tkN (nfN 47 92) ((s3 x).drop 2)) (bs (s3 x)).size = bs (paL (s3 x)) := by rw [ex_drop, paL, e3, if_pos hD, List.drop_drop]
          have eD : hstB (s3 x) = true := by rw [e3]; exact hD
          have fin := rsp_0112 s (bs x) (bs x) (bs (s2 x)) (bs (s3 x)) (bs (x.take (schN x))) (bs (sSc x)) (bs (sMa x)) (bs (sQu x)) (bs (hoL (s3 x))) (bs (paL (s3 x))) (bs ((s3 x).take 2)) (bs ((s3 x).drop 2)) (schN x) (sM x) (sQ x) (tkN (nfN 47 92) ((s3 x).drop 2)) w z0 z2 z3 C0 C1 C3 b1 b2 b3 C4 c1 c2 c3 d1 (ex_take (s3 x) 2) d3 (ex_drop (s3 x) 2) C5 d5 d6 d7
          unfold spC ptC
          rw [eA, eB, eC, eD]
          first | exact fin | (simp only [eS] ; exact fin)
        | false =>
          have eD : hstB (s3 x) = false := by rw [e3]; exact hD
          have eH : bs (hoL (s3 x)) = noS := by rw [hoL, eD]; rfl
          have eP : paL (s3 x) = s3 x := by rw [paL, eD, if_neg (by decide), e3]
          by_cases hsz : 1 < (s3 x).length
          · have d1 : (1 : Int) < ((bs (s3 x)).size : Int) := by rw [bs_size]; omega
            have d3 : ((bs ((s3 x).take 2)).toList == [47, 47]) = false := by
              apply beq_eq_false_iff_ne.2
              intro h9
              rw [Lib.toList_data, bs_toList] at h9
              rw [(hst_iff _).2 ⟨by omega, h9⟩] at hD
              cases hD
            have fin := rsp_0111 s (bs x) (bs x) (bs (s2 x)) (bs (s3 x)) (bs (x.take (schN x))) (bs (sSc x)) (bs (sMa x)) (bs (sQu x)) (bs (hoL (s3 x))) (bs (paL (s3 x))) (bs ((s3 x).take 2)) (bs ((s3 x).drop 2)) (schN x) (sM x) (sQ x) (tkN (nfN 47 92) ((s3 x).drop 2)) w z0 z2 z3 C0 C1 C3 b1 b2 b3 C4 c1 c2 c3 d1 (ex_take (s3 x) 2) d3
            unfold spC ptC
            rw [eA, eB, eC, eD, eH, eP]
            first | exact fin | (simp only [eS] ; exact fin)
          · have d1 : ¬ 1 < (bs (s3 x)).size := by rw [bs_size]; omega
            have fin := rsp_0110 s (bs x) (bs x) (bs (s2 x)) (bs (s3 x)) (bs (x.take (schN x))) (bs (sSc x)) (bs (sMa x)) (bs (sQu x)) (bs (hoL (s3 x))) (bs (paL (s3 x))) (bs ((s3 x).take 2)) (bs ((s3 x).drop 2)) (schN x) (sM x) (sQ x) (tkN (nfN 47 92) ((s3 x).drop 2)) w z0 z2 z3 C0 C1 C3 b1 b2 b3 C4 c1 c2 c3 d1
            unfold spC ptC
            rw [eA, eB, eC, eD, eH, eP]
            first | exact fin | (simp only [eS] ; exact fin)
      · have hqq : sQ x = (s2 x).length := by have h9 : sQ x ≤ (s2 x).length := hq; rw [e2] at h9; omega
        have c1 : ¬ sQ x < (bs (s2 x)).size := by rw [bs_size]; omega
        have e3 : s3 x = s2 x := by rw [s3, e2]; exact List.take_of_length_le (by omega)
        have eC : decide (sQ x < (s2 x).length) = false := by rw [e2]; exact decide_eq_false hC
        have eQ : bs (sQu x) = noS := by rw [sQu, e2, List.drop_eq_nil_of_le (by omega)]; rfl
        rw [e3] at C5 hh
        cases hD : hstB (s2 x) with
        | true =>
          obtain ⟨t1, t2⟩ := (hst_iff _).1 hD
          have d1 : (1 : Int) < ((bs (s2 x)).size : Int) := by rw [bs_size]; omega
          have d3 : ((bs ((s2 x).take 2)).toList == [47, 47]) = true := by rw [t2, Lib.toList_data, bs_toList]; rfl
          have d5 : (2 : Int) + (tkN (nfN 47 92) ((s2 x).drop 2) : Int) ≤ ((bs (s2 x)).size : Int) := by rw [bs_size]; omega
          have d6 : (bs (s2 x)).extract 2 (2 + tkN (nfN 47 92) ((s2 x).drop 2)) = bs (hoL (s3 x)) := by rw [ex_mid, hoL, e3, if_pos hD]
          have d7 : (bs (s2 x)).extract (2 + tkN (nfN 47 92) ((s2 x).drop 2)) (bs (s2 x)).size = bs (paL (s3 x)) := by rw [ex_drop, paL, e3, if_pos hD, List.drop_drop]
          have eD : hstB (s3 x) = true := by rw [e3]; exact hD
          have fin := rsp_0102 s (bs x) (bs x) (bs (s2 x)) (bs (s2 x)) (bs (x.take (schN x))) (bs (sSc x)) (bs (sMa x)) (bs (sQu x)) (bs (hoL (s3 x))) (bs (paL (s3 x))) (bs ((s2 x).take 2)) (bs ((s2 x).drop 2)) (schN x) (sM x) (sQ x) (tkN (nfN 47 92) ((s2 x).drop 2)) w z0 z2 C0 C1 C3 b1 b2 b3 C4 c1 d1 (ex_take (s2 x) 2) d3 (ex_drop (s2 x) 2) C5 d5 d6 d7
          unfold spC ptC
          rw [eA, eB, eC, eD]
          first | exact fin | (simp only [eS, eQ] ; exact fin)
        | false =>
          have eD : hstB (s3 x) = false := by rw [e3]; exact hD
          have eH : bs (hoL (s3 x)) = noS := by rw [hoL, eD]; rfl
          have eP : paL (s3 x) = s2 x := by rw [paL, eD, if_neg (by decide), e3]
          by_cases hsz : 1 < (s2 x).length
          · have d1 : (1 : Int) < ((bs (s2 x)).size : Int) := by rw [bs_size]; omega
            have d3 : ((bs ((s2 x).take 2)).toList == [47, 47]) = false := by
              apply beq_eq_false_iff_ne.2
              intro h9
              rw [Lib.toList_data, bs_toList] at h9
              rw [(hst_iff _).2 ⟨by omega, h9⟩] at hD
              cases hD
            have fin := rsp_0101 s (bs x) (bs x) (bs (s2 x)) (bs (s2 x)) (bs (x.take (schN x))) (bs (sSc x)) (bs (sMa x)) (bs (sQu x)) (bs (hoL (s3 x))) (bs (paL (s3 x))) (bs ((s2 x).take 2)) (bs ((s2 x).drop 2)) (schN x) (sM x) (sQ x) (tkN (nfN 47 92) ((s2 x).drop 2)) w z0 z2 C0 C1 C3 b1 b2 b3 C4 c1 d1 (ex_take (s2 x) 2) d3
            unfold spC ptC
            rw [eA, eB, eC, eD, eH, eP]
            first | exact fin | (simp only [eS, eQ] ; exact fin)
          · have d1 : ¬ 1 < (bs (s2 x)).size := by rw [bs_size]; omega
            have fin := rsp_0100 s (bs x) (bs x) (bs (s2 x)) (bs (s2 x)) (bs (x.take (schN x))) (bs (sSc x)) (bs (sMa x)) (bs (sQu x)) (bs (hoL (s3 x))) (bs (paL (s3 x))) (bs ((s2 x).take 2)) (bs ((s2 x).drop 2)) (schN x) (sM x) (sQ x) (tkN (nfN 47 92) ((s2 x).drop 2)) w z0 z2 C0 C1 C3 b1 b2 b3 C4 c1 d1
            unfold spC ptC
            rw [eA, eB, eC, eD, eH, eP]
            first | exact fin | (simp only [eS, eQ] ; exact fin)
    · have hmm : sM x = (x).length := by have h9 : sM x ≤ (s1 x).length := hm; rw [e1] at h9; omega
      have b1 : ¬ sM x < (bs (x)).size := by rw [bs_size]; omega
      have e2 : s2 x = x := by rw [s2, e1]; exact List.take_of_length_le (by omega)
      have eB : decide (sM x < (s1 x).length) = false := by rw [e1]; exact decide_eq_false hB
      have eM : bs (sMa x) = noS := by rw [sMa, e1, List.drop_eq_nil_of_le (by omega)]; rfl
      rw [e2] at C4
      by_cases hC : sQ x < (x).length
      · have c1 : (sQ x : Int) + 1 ≤ ((bs (x)).size : Int) := by rw [bs_size]; omega
        have c3 : (bs (x)).extract 0 (sQ x) = bs (s3 x) := by rw [ex_take, s3, e2]
        have c2 : (bs (x)).extract (sQ x + 1) (bs (x)).size = bs (sQu x) := by rw [ex_drop, sQu, e2]
        have eC : decide (sQ x < (s2 x).length) = true := by rw [e2]; exact decide_eq_true hC
        have eQ : True := trivial
        have e3 : s3 x = s3 x := rfl
        cases hD : hstB (s3 x) with
        | true =>
          obtain ⟨t1, t2⟩ := (hst_iff _).1 hD
          have d1 : (1 : Int) < ((bs (s3 x)).size : Int) := by rw [bs_size]; omega
          have d3 : ((bs ((s3 x).take 2)).toList == [47, 47]) = true := by rw [t2, Lib.toList_data, bs_toList]; rfl
          have d5 : (2 : Int) + (tkN (nfN 47 92) ((s3 x).drop 2) : Int) ≤ ((bs (s3 x)).size : Int) := by rw [bs_size]; omega
          have d6 : (bs (s3 x)).extract 2 (2 + tkN (nfN 47 92) ((s3 x).drop 2)) = bs (hoL (s3 x)) := by rw [ex_mid, hoL, e3, if_pos hD]
          have d7 : (bs (s3 x)).extract (2 + tkN (nfN 47 92) ((s3 x).drop 2)) (bs (s3 x)).size = bs (paL (s3 x)) := by rw [ex_drop, paL, e3, if_pos hD, List.drop_drop]
          have eD : hstB (s3 x) = true := by rw [e3]; exact hD
          have fin := rsp_0012 s (bs x) (bs x) (bs x) (bs (s3 x)) (bs (x.take (schN x))) (bs (sSc x)) (bs (sMa x)) (bs (sQu x)) (bs (hoL (s3 x))) (bs (paL (s3 x))) (bs ((s3 x).take 2)) (bs ((s3 x).drop 2)) (schN x) (sM x) (sQ x) (tkN (nfN 47 92) ((s3 x).drop 2)) w z0 z3 C0 C1 C3 b1 C4 c1 c2 c3 d1 (ex_take (s3 x) 2) d3 (ex_drop (s3 x) 2) C5 d5 d6 d7
          unfold spC ptC
          rw [eA, eB, eC, eD]
          first | exact fin | (simp only [eS, eM] ; exact fin)
        | false =>
          have eD : hstB (s3 x) = false := by rw [e3]; exact hD
          have eH : bs (hoL (s3 x)) = noS := by rw [hoL, eD]; rfl
          have eP : paL (s3 x) = s3 x := by rw [paL, eD, if_neg (by decide), e3]
          by_cases hsz : 1 < (s3 x).length
          · have d1 : (1 : Int) < ((bs (s3 x)).size : Int) := by rw [bs_size]; omega
            have d3 : ((bs ((s3 x).take 2)).toList == [47, 47]) = false := by
              apply beq_eq_false_iff_ne.2
              intro h9
              rw [Lib.toList_data, bs_toList] at h9
              rw [(hst_iff _).2 ⟨by omega, h9⟩] at hD
              cases hD
            have fin := rsp_0011 s (bs x) (bs x) (bs x) (bs (s3 x)) (bs (x.take (schN x))) (bs (sSc x)) (bs (sMa x)) (bs (sQu x)) (bs (hoL (s3 x))) (bs (paL (s3 x))) (bs ((s3 x).take 2)) (bs ((s3 x).drop 2)) (schN x) (sM x) (sQ x) (tkN (nfN 47 92) ((s3 x).drop 2)) w z0 z3 C0 C1 C3 b1 C4 c1 c2 c3 d1 (ex_take (s3 x) 2) d3
            unfold spC ptC
            rw [eA, eB, eC, eD, eH, eP]
            first | exact fin | (simp only [eS, eM] ; exact fin)
          · have d1 : ¬ 1 < (bs (s3 x)).size := by rw [bs_size]; omega
            have fin := rsp_0010 s (bs x) (bs x) (bs x) (bs (s3 x)) (bs (x.take (schN x))) (bs (sSc x)) (bs (sMa x)) (bs (sQu x)) (bs (hoL (s3 x))) (bs (paL (s3 x))) (bs ((s3 x).take 2)) (bs ((s3 x).drop 2)) (schN x) (sM x) (sQ x) (tkN (nfN 47 92) ((s3 x).drop 2)) w z0 z3 C0 C1 C3 b1 C4 c1 c2 c3 d1
            unfold spC ptC
            rw [eA, eB, eC, eD, eH, eP]
            first | exact fin | (simp only [eS, eM] ; exact fin)
      · have hqq : sQ x = (x).length := by have h9 : sQ x ≤ (s2 x).length := hq; rw [e2] at h9; omega
        have c1 : ¬ sQ x < (bs (x)).size := by rw [bs_size]; omega
        have e3 : s3 x = x := by rw [s3, e2]; exact List.take_of_length_le (by omega)
        have eC : decide (sQ x < (s2 x).length) = false := by rw [e2]; exact decide_eq_false hC
        have eQ : bs (sQu x) = noS := by rw [sQu, e2, List.drop_eq_nil_of_le (by omega)]; rfl
        rw [e3] at C5 hh
        cases hD : hstB (x) with
        | true =>
          obtain ⟨t1, t2⟩ := (hst_iff _).1 hD
          have d1 : (1 : Int) < ((bs (x)).size : Int) := by rw [bs_size]; omega
          have d3 : ((bs ((x).take 2)).toList == [47, 47]) = true := by rw [t2, Lib.toList_data, bs_toList]; rfl
          have d5 : (2 : Int) + (tkN (nfN 47 92) ((x).drop 2) : Int) ≤ ((bs (x)).size : Int) := by rw [bs_size]; omega
          have d6 : (bs (x)).extract 2 (2 + tkN (nfN 47 92) ((x).drop 2)) = bs (hoL (s3 x)) := by rw [ex_mid, hoL, e3, if_pos hD]
          have d7 : (bs (x)).extract (2 + tkN (nfN 47 92) ((x).drop 2)) (bs (x)).size = bs (paL (s3 x)) := by rw [ex_drop, paL, e3, if_pos hD, List.drop_drop]
          have eD : hstB (s3 x) = true := by rw [e3]; exact hD
          have fin := rsp_0002 s (bs x) (bs x) (bs x) (bs x) (bs (x.take (schN x))) (bs (sSc x)) (bs (sMa x)) (bs (sQu x)) (bs (hoL (s3 x))) (bs (paL (s3 x))) (bs ((x).take 2)) (bs ((x).drop 2)) (schN x) (sM x) (sQ x) (tkN (nfN 47 92) ((x).drop 2)) w z0 C0 C1 C3 b1 C4 c1 d1 (ex_take (x) 2) d3 (ex_drop (x) 2) C5 d5 d6 d7
          unfold spC ptC
          rw [eA, eB, eC, eD]
          first | exact fin | (simp only [eS, eM, eQ] ; exact fin)
        | false =>
          have eD : hstB (s3 x) = false := by rw [e3]; exact hD
          have eH : bs (hoL (s3 x)) = noS := by rw [hoL, eD]; rfl
          have eP : paL (s3 x) = x := by rw [paL, eD, if_neg (by decide), e3]
          by_cases hsz : 1 < (x).length
          · have d1 : (1 : Int) < ((bs (x)).size : Int) := by rw [bs_size]; omega
            have d3 : ((bs ((x).take 2)).toList == [47, 47]) = false := by
              apply beq_eq_false_iff_ne.2
              intro h9
              rw [Lib.toList_data, bs_toList] at h9
              rw [(hst_iff _).2 ⟨by omega, h9⟩] at hD
              cases hD
            have fin := rsp_0001 s (bs x) (bs x) (bs x) (bs x) (bs (x.take (schN x))) (bs (sSc x)) (bs (sMa x)) (bs (sQu x)) (bs (hoL (s3 x))) (bs (paL (s3 x))) (bs ((x).take 2)) (bs ((x).drop 2)) (schN x) (sM x) (sQ x) (tkN (nfN 47 92) ((x).drop 2)) w z0 C0 C1 C3 b1 C4 c1 d1 (ex_take (x) 2) d3
            unfold spC ptC
            rw [eA, eB, eC, eD, eH, eP]
            first | exact fin | (simp only [eS, eM, eQ] ; exact fin)
          · have d1 : ¬ 1 < (bs (x)).size := by rw [bs_size]; omega
            have fin := rsp_0000 s (bs x) (bs x) (bs x) (bs x) (bs (x.take (schN x))) (bs (sSc x)) (bs (sMa x)) (bs (sQu x)) (bs (hoL (s3 x))) (bs (paL (s3 x))) (bs ((x).take 2)) (bs ((x).drop 2)) (schN x) (sM x) (sQ x) (tkN (nfN 47 92) ((x).drop 2)) w z0 C0 C1 C3 b1 C4 c1 d1
            unfold spC ptC
            rw [eA, eB, eC, eD, eH, eP]
            first | exact fin | (simp only [eS, eM, eQ] ; exact fin)
end Go.Proofs.Ytfdhmhdemfbfeaa
