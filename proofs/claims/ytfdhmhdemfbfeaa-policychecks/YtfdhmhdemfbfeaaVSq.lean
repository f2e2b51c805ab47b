/-
  What 'urls.Split' does: of every address, its parts; and 'urls.Scheme'.
-/
import Derived.Test.YtfdhmhdemfbfeaaVSp
namespace Go.Proofs.Ytfdhmhdemfbfeaa
open Go.RowKit
set_option linter.unusedVariables false

set_option maxHeartbeats 2000000 in
theorem split_any (s : ByteArray) (w : World) (hs : s.size ≤ 100000) :
    Calls Try.prog 55 #[.string s] w fun e w' => e = .returned (.agg (spC (plL s.data.toList))) ∧ Below w.heap.size w w' := by
  have C := hide (fun w => plain_any s w hs)
  have hpl : (bs (plL s.data.toList)).size ≤ 100000 := by rw [bs_size]; have := plL_len s.data.toList; rw [data_len] at this; omega
  have CC := hide (fun b g w hne h1 h2 => cutAll_any b g (bs (plL s.data.toList)) w hpl hne h1 h2)
  rw [bs_toList] at CC
  unfold spC
  generalize plL s.data.toList = x at *
  generalize decide (0 < schN x) = D1 at *
  generalize decide (sQ x < (s2 x).length) = D2 at *
  generalize decide (sM x < (s1 x).length) = D3 at *
  generalize hstB (s3 x) = D4 at *
  generalize bs (sSc x) = Y1 at *
  generalize bs (sMa x) = Y2 at *
  generalize bs (sQu x) = Y3 at *
  generalize bs (hoL (s3 x)) = Y4 at *
  generalize bs (paL (s3 x)) = Y5 at *
  generalize bs x = X at *
  clear hpl
  have kR : Hid (Blk ((w.alloc (Obj.cells #[.string ⟨#[]⟩, .string ⟨#[]⟩, .string ⟨#[]⟩, .string ⟨#[]⟩, .string ⟨#[]⟩, .bool false, .bool false, .bool false, .bool false] 91)).alloc (Obj.cells #[.string ⟨#[]⟩, .string ⟨#[]⟩, .string ⟨#[]⟩, .string ⟨#[]⟩, .string ⟨#[]⟩, .bool false, .bool false, .bool false, .bool false] 101)) w.heap.size (ptC noS noS noS noS noS false false false false) 91) := hide ((Blk.new w _ _).alloc _)
  have kB : Hid (Blk ((w.alloc (Obj.cells #[.string ⟨#[]⟩, .string ⟨#[]⟩, .string ⟨#[]⟩, .string ⟨#[]⟩, .string ⟨#[]⟩, .bool false, .bool false, .bool false, .bool false] 91)).alloc (Obj.cells #[.string ⟨#[]⟩, .string ⟨#[]⟩, .string ⟨#[]⟩, .string ⟨#[]⟩, .string ⟨#[]⟩, .bool false, .bool false, .bool false, .bool false] 101)) (w.heap.size + 1) (ptC noS noS noS noS noS false false false false) 101) := by
    have h1 := Blk.new (w.alloc (Obj.cells #[.string ⟨#[]⟩, .string ⟨#[]⟩, .string ⟨#[]⟩, .string ⟨#[]⟩, .string ⟨#[]⟩, .bool false, .bool false, .bool false, .bool false] 91)) #[.string ⟨#[]⟩, .string ⟨#[]⟩, .string ⟨#[]⟩, .string ⟨#[]⟩, .string ⟨#[]⟩, .bool false, .bool false, .bool false, .bool false] 101
    exact hide (Eq.mp (by simp [ptC, noS]) h1)
  go_enter Try.func55, Try.ntmps55
  go_wp2_with fail
  refine (unhide C _).mono ?_
  rintro e1 w1 ⟨rfl, hb⟩
  have kR1 := hide ((unhide kR).later hb)
  have kB1 := hide ((unhide kB).later hb)
  have hz1 : w.heap.size + 2 ≤ w1.heap.size := by have := hb.size; simp at this; omega
  have hb1 : Below w.heap.size w w1 := (((Below.refl _ w).alloc (Nat.le_refl _) _).alloc (by simp) _).trans (hb.mono (by simp; omega))
  clear hb kR kB
  go_wp2_with fail
  refine (unhide CC (w.heap.size + 1) w1.heap.size _ (by omega) ((unhide kB1).alloc _) (Blk.new w1 _ _)).mono ?_
  rintro e1 w2 ⟨rfl, k2, hc⟩
  have kr2 : Blk w2 w.heap.size _ _ := hc.blk ((unhide kR1).alloc _) (by omega)
  have hb2 : Below w.heap.size w w2 := (hb1.alloc (by omega) _).trans (hc.1.mono (by omega))
  have c0 : w2.cell? ⟨w.heap.size + 1, 0, none⟩ = some (.string Y1) := k2.cell 0
  have c1 : w2.cell? ⟨w.heap.size + 1, 1, none⟩ = some (.string Y4) := k2.cell 1
  have c2 : w2.cell? ⟨w.heap.size + 1, 2, none⟩ = some (.string noS) := k2.cell 2
  have c3 : w2.cell? ⟨w.heap.size + 1, 3, none⟩ = some (.string Y3) := k2.cell 3
  have c4 : w2.cell? ⟨w.heap.size + 1, 4, none⟩ = some (.string Y2) := k2.cell 4
  have c5 : w2.cell? ⟨w.heap.size + 1, 5, none⟩ = some (.bool D1) := k2.cell 5
  have c6 : w2.cell? ⟨w.heap.size + 1, 6, none⟩ = some (.bool D4) := k2.cell 6
  have c7 : w2.cell? ⟨w.heap.size + 1, 7, none⟩ = some (.bool D2) := k2.cell 7
  have c8 : w2.cell? ⟨w.heap.size + 1, 8, none⟩ = some (.bool D3) := k2.cell 8
  have f2 : w2.frozen? ⟨w.heap.size + 1, 2, none⟩ = false := k2.frozen 2
  have r0 : w2.cell? ⟨w.heap.size, 0, none⟩ = some (.string noS) := kr2.cell 0
  have q0 : w2.frozen? ⟨w.heap.size, 0, none⟩ = false := kr2.frozen 0
  have r1 : w2.cell? ⟨w.heap.size, 1, none⟩ = some (.string noS) := kr2.cell 1
  have q1 : w2.frozen? ⟨w.heap.size, 1, none⟩ = false := kr2.frozen 1
  have r2 : w2.cell? ⟨w.heap.size, 2, none⟩ = some (.string noS) := kr2.cell 2
  have q2 : w2.frozen? ⟨w.heap.size, 2, none⟩ = false := kr2.frozen 2
  have r3 : w2.cell? ⟨w.heap.size, 3, none⟩ = some (.string noS) := kr2.cell 3
  have q3 : w2.frozen? ⟨w.heap.size, 3, none⟩ = false := kr2.frozen 3
  have r4 : w2.cell? ⟨w.heap.size, 4, none⟩ = some (.string noS) := kr2.cell 4
  have q4 : w2.frozen? ⟨w.heap.size, 4, none⟩ = false := kr2.frozen 4
  have r5 : w2.cell? ⟨w.heap.size, 5, none⟩ = some (.bool false) := kr2.cell 5
  have q5 : w2.frozen? ⟨w.heap.size, 5, none⟩ = false := kr2.frozen 5
  have r6 : w2.cell? ⟨w.heap.size, 6, none⟩ = some (.bool false) := kr2.cell 6
  have q6 : w2.frozen? ⟨w.heap.size, 6, none⟩ = false := kr2.frozen 6
  have r7 : w2.cell? ⟨w.heap.size, 7, none⟩ = some (.bool false) := kr2.cell 7
  have q7 : w2.frozen? ⟨w.heap.size, 7, none⟩ = false := kr2.frozen 7
  have r8 : w2.cell? ⟨w.heap.size, 8, none⟩ = some (.bool false) := kr2.cell 8
  have q8 : w2.frozen? ⟨w.heap.size, 8, none⟩ = false := kr2.frozen 8
  have KR2 := hide kr2
  clear k2 kr2 kR1 kB1
  go_wp2
  have kk := (((((((((((unhide KR2).away (show w.heap.size ≠ w.heap.size + 1 by omega) (.string Y5) (o := 2)).set 0 (by simp [ptC]) (.string Y1)).set 1 (by simp [ptC]) (.string Y4)).set 2 (by simp [ptC]) (.string Y5)).set 3 (by simp [ptC]) (.string Y3)).set 4 (by simp [ptC]) (.string Y2)).set 5 (by simp [ptC]) (.bool D1)).set 6 (by simp [ptC]) (.bool D4)).set 7 (by simp [ptC]) (.bool D2)).set 8 (by simp [ptC]) (.bool D3))
  have d0 := kk.cell 0
  have d1 := kk.cell 1
  have d2 := kk.cell 2
  have d3 := kk.cell 3
  have d4 := kk.cell 4
  have d5 := kk.cell 5
  have d6 := kk.cell 6
  have d7 := kk.cell 7
  have d8 := kk.cell 8
  exact bodyPost_ret (v := .agg #[.string Y1, .string Y4, .string Y5, .string Y3, .string Y2, .bool D1, .bool D4, .bool D2, .bool D3]) (by simp [results, Try.results55, go_sem, d0, d1, d2, d3, d4, d5, d6, d7, d8, ptC]) rfl ⟨rfl, ((((((((((hb2.setCell (by simp) _).setCell (by simp) _).setCell (by simp) _).setCell (by simp) _).setCell (by simp) _).setCell (by simp) _).setCell (by simp) _).setCell (by simp) _).setCell (by simp) _).setCell (by simp) _)⟩

set_option maxHeartbeats 1000000 in
theorem schm_any (s : ByteArray) (w : World) (hs : s.size ≤ 100000) :
    Calls Try.prog 36 #[.string s] w fun e w' => e = .returned (.tuple #[.string (bs (sSc (plL s.data.toList))), .bool (decide (0 < schN (plL s.data.toList)))]) ∧ Below w.heap.size w w' := by
  have C := hide (fun w => split_any s w hs)
  unfold spC ptC at C
  generalize plL s.data.toList = x at *
  generalize decide (0 < schN x) = D1 at *
  generalize decide (sQ x < (s2 x).length) = D2 at *
  generalize decide (sM x < (s1 x).length) = D3 at *
  generalize hstB (s3 x) = D4 at *
  generalize bs (sSc x) = Y1 at *
  generalize bs (sMa x) = Y2 at *
  generalize bs (sQu x) = Y3 at *
  generalize bs (hoL (s3 x)) = Y4 at *
  generalize bs (paL (s3 x)) = Y5 at *
  go_enter Try.func36, Try.ntmps36
  go_wp2_with fail
  refine (unhide C _).mono ?_
  rintro e1 w1 ⟨rfl, hb⟩
  go_wp2
  go_quiet (fail)
  go_wp2
  go_ret2
  exact ⟨rfl, below_drewN (hb.alloc hb.size _) _⟩
end Go.Proofs.Ytfdhmhdemfbfeaa
