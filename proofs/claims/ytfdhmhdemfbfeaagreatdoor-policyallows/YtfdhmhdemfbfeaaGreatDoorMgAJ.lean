/-
  Several texts in one: what the functions of the program and of the document's answer do.
-/
import Derived.Test.YtfdhmhdemfbfeaaGreatDoorMgAI
import Derived.Laws.EntriesVeiled
import Derived.Test.YtfdhmhdemfbfeaaGreatDoorMgAA
import Derived.SliceStrings

/-
  What 'urls.Split' does: of every address, its parts.
-/
namespace Go.Proofs.YtfdhmhdemfbfeaaGreatDoor
open Go.RowKit
set_option linter.unusedVariables false

def s1 (x : List UInt8) : List UInt8 := if 0 < schN x then x.drop (schN x + 1) else x
def sSc (x : List UInt8) : List UInt8 := if 0 < schN x then lowL (x.take (schN x)) else []
def sM (x : List UInt8) : Nat := tkN (nfN 35 35) (s1 x)
def s2 (x : List UInt8) : List UInt8 := (s1 x).take (sM x)
def sMa (x : List UInt8) : List UInt8 := (s1 x).drop (sM x + 1)
def sQ (x : List UInt8) : Nat := tkN (nfN 63 63) (s2 x)
def s3 (x : List UInt8) : List UInt8 := (s2 x).take (sQ x)
def sQu (x : List UInt8) : List UInt8 := (s2 x).drop (sQ x + 1)
def hoL (y : List UInt8) : List UInt8 := if hstB y = true then (y.drop 2).take (tkN (nfN 47 92) (y.drop 2)) else []
def paL (y : List UInt8) : List UInt8 := if hstB y = true then (y.drop 2).drop (tkN (nfN 47 92) (y.drop 2)) else y
def noS : ByteArray := ⟨#[]⟩
def spC (x : List UInt8) : Array Value := ptC (bs (sSc x)) (bs (hoL (s3 x))) (bs (paL (s3 x))) (bs (sQu x)) (bs (sMa x)) (decide (0 < schN x)) (hstB (s3 x)) (decide (sQ x < (s2 x).length)) (decide (sM x < (s1 x).length))

theorem scheme_any (b : Nat) (s ho pa qu ma : ByteArray) (hh hq hm : Bool) (w : World) (hz : s.size ≤ 100000)
    (hB : Blk w b (ptC noS ho pa qu ma false hh hq hm) 124) :
    Calls Tryz.prog 91 #[.pointer (some ⟨b, 0, none⟩), .string s] w fun e w' => e = .returned (.string (bs (s1 s.data.toList))) ∧ Blk w' b (ptC (bs (sSc s.data.toList)) ho pa qu ma (decide (0 < schN s.data.toList)) hh hq hm) 124 ∧ Cz b w w' := by
  by_cases h0 : 0 < schN s.data.toList
  · rw [s1, if_pos h0, sSc, if_pos h0, decide_eq_true h0]
    exact scheme_yes b s noS ho pa qu ma false hh hq hm _ w hz rfl h0 hB
  · rw [s1, if_neg h0, sSc, if_neg h0, decide_eq_false h0, bs_self]
    refine (scheme_no _ s w hz (by omega)).mono ?_
    rintro e w' ⟨he, rfl⟩
    exact ⟨he, hB, Cz.refl _ _⟩
theorem host_any (b : Nat) (s sc pa qu ma : ByteArray) (hs hq hm : Bool) (w : World) (hz : s.size ≤ 100000)
    (hB : Blk w b (ptC sc noS pa qu ma hs false hq hm) 124) :
    Calls Tryz.prog 94 #[.pointer (some ⟨b, 0, none⟩), .string s] w fun e w' => e = .returned (.string (bs (paL s.data.toList))) ∧ Blk w' b (ptC sc (bs (hoL s.data.toList)) pa qu ma hs (hstB s.data.toList) hq hm) 124 ∧ Cz b w w' := by
  cases h0 : hstB s.data.toList with
  | true =>
    rw [paL, if_pos h0, hoL, if_pos h0]
    exact host_yes b s sc noS pa qu ma hs false hq hm _ w hz h0 rfl hB
  | false =>
    rw [paL, if_neg (by rw [h0]; decide), hoL, if_neg (by rw [h0]; decide), bs_self]
    refine (host_no _ s w hz h0).mono ?_
    rintro e w' ⟨he, rfl⟩
    exact ⟨he, hB, Cz.refl _ _⟩
theorem drop_sz {l : List UInt8} {n k : Nat} (h : l.length ≤ k) : (l.drop n).length ≤ k := by rw [List.length_drop]; omega
theorem take_sz {l : List UInt8} {n k : Nat} (h : l.length ≤ k) : (l.take n).length ≤ k := by rw [List.length_take]; omega
theorem s1_sz {x : List UInt8} {k : Nat} (h : x.length ≤ k) : (s1 x).length ≤ k := by
  unfold s1; split
  · exact drop_sz h
  · exact h

def fnV (f b : Nat) : Value := .func (Fn.func f) #[.pointer (some ⟨b, 0, none⟩)] #[]
set_option maxHeartbeats 1000000 in
theorem cutAll_any (b g : Nat) (x : ByteArray) (w : World) (hx : x.size ≤ 100000) (hne : g ≠ b) (hB : Blk w b (ptC noS noS noS noS noS false false false false) 124)
    (hG : Blk w g #[fnV 91 b, fnV 92 b, fnV 93 b, fnV 94 b] 65) :
    Calls Tryz.prog 89 #[.string x, .slice (some ⟨g, 0, none⟩) 4 4] w fun e w' => e = .returned (.string (bs (paL (s3 x.data.toList)))) ∧
      Blk w' b (ptC (bs (sSc x.data.toList)) (bs (hoL (s3 x.data.toList))) noS (bs (sQu x.data.toList)) (bs (sMa x.data.toList)) (decide (0 < schN x.data.toList)) (hstB (s3 x.data.toList)) (decide (sQ x.data.toList < (s2 x.data.toList).length)) (decide (sM x.data.toList < (s1 x.data.toList).length))) 124 ∧ Cz b w w' := by
  have z1 : (s1 x.data.toList).length ≤ 100000 := s1_sz (by rw [data_len]; exact hx)
  have z2 : (s2 x.data.toList).length ≤ 100000 := take_sz z1
  have z3 : (s3 x.data.toList).length ≤ 100000 := take_sz z2
  have C1 := hide (fun w h => scheme_any b x noS noS noS noS false false false w hx h)
  have C2 := hide (fun w h => mark_any b (bs (s1 x.data.toList)) (bs (sSc x.data.toList)) noS noS noS noS (decide (0 < schN x.data.toList)) false false false (sM x.data.toList) w (by rw [bs_size]; exact z1) (by rw [bs_toList]; rfl) h)
  have C3 := hide (fun w h => query_any b (bs (s2 x.data.toList)) (bs (sSc x.data.toList)) noS noS noS (bs (sMa x.data.toList)) (decide (0 < schN x.data.toList)) false false (decide (sM x.data.toList < (s1 x.data.toList).length)) (sQ x.data.toList) w (by rw [bs_size]; exact z2) (by rw [bs_toList]; rfl) h)
  have C4 := hide (fun w h => host_any b (bs (s3 x.data.toList)) (bs (sSc x.data.toList)) noS (bs (sQu x.data.toList)) (bs (sMa x.data.toList)) (decide (0 < schN x.data.toList)) (decide (sQ x.data.toList < (s2 x.data.toList).length)) (decide (sM x.data.toList < (s1 x.data.toList).length)) w (by rw [bs_size]; exact z3) h)
  rw [bs_toList, bs_size] at C2 C3
  rw [bs_toList] at C4
  have e2 : (s1 x.data.toList).take (sM x.data.toList) = s2 x.data.toList := rfl
  have e2' : (s1 x.data.toList).drop (sM x.data.toList + 1) = sMa x.data.toList := rfl
  have e3 : (s2 x.data.toList).take (sQ x.data.toList) = s3 x.data.toList := rfl
  have e3' : (s2 x.data.toList).drop (sQ x.data.toList + 1) = sQu x.data.toList := rfl
  rw [e2, e2'] at C2
  rw [e3, e3'] at C3
  generalize decide (0 < schN x.data.toList) = D1 at *
  generalize decide (sQ x.data.toList < (s2 x.data.toList).length) = D2 at *
  generalize decide (sM x.data.toList < (s1 x.data.toList).length) = D3 at *
  generalize hstB (s3 x.data.toList) = D4 at *
  clear e2 e2' e3 e3' z1 z2 z3
  generalize bs (s1 x.data.toList) = X1 at *
  generalize bs (s2 x.data.toList) = X2 at *
  generalize bs (s3 x.data.toList) = X3 at *
  generalize bs (sSc x.data.toList) = Y1 at *
  generalize bs (sMa x.data.toList) = Y2 at *
  generalize bs (sQu x.data.toList) = Y3 at *
  generalize bs (hoL (s3 x.data.toList)) = Y4 at *
  generalize bs (paL (s3 x.data.toList)) = Y5 at *
  have HB := hide hB
  have HG := hide hG
  have g0 : w.cell? ⟨g, 0, none⟩ = some (.func (Fn.func 91) #[.pointer (some ⟨b, 0, none⟩)] #[]) := hG.cell 0
  clear hB hG
  go_enter Tryz.func89, Tryz.ntmps89
  go_wp2
  refine wp_loop_rounds 5 ?_
  rw [rounds_succ]; go_wp2_with fail
  refine (unhide C1 _ (unhide HB)).mono ?_
  rintro e1 w1 ⟨rfl, k1, hc1⟩
  have G1 := hide (hc1.blk (unhide HG) hne)
  have K1 := hide k1
  have g1 : w1.cell? ⟨g, 1, none⟩ = some (.func (Fn.func 92) #[.pointer (some ⟨b, 0, none⟩)] #[]) := (unhide G1).cell 1
  clear k1 g0
  go_wp2
  rw [rounds_succ]; go_wp2_with fail
  refine (unhide C2 _ (unhide K1)).mono ?_
  rintro e1 w2 ⟨rfl, k2, hc2⟩
  have G2 := hide (hc2.blk (unhide G1) hne)
  have K2 := hide k2
  have g2 : w2.cell? ⟨g, 2, none⟩ = some (.func (Fn.func 93) #[.pointer (some ⟨b, 0, none⟩)] #[]) := (unhide G2).cell 2
  clear k2 g1
  go_wp2
  rw [rounds_succ]; go_wp2_with fail
  refine (unhide C3 _ (unhide K2)).mono ?_
  rintro e1 w3 ⟨rfl, k3, hc3⟩
  have G3 := hide (hc3.blk (unhide G2) hne)
  have K3 := hide k3
  have g3 : w3.cell? ⟨g, 3, none⟩ = some (.func (Fn.func 94) #[.pointer (some ⟨b, 0, none⟩)] #[]) := (unhide G3).cell 3
  clear k3 g2
  go_wp2
  rw [rounds_succ]; go_wp2_with fail
  refine (unhide C4 _ (unhide K3)).mono ?_
  rintro e1 w4 ⟨rfl, k4, hc4⟩
  clear g3
  go_wp2
  rw [rounds_succ]; go_wp2
  go_ret
  exact ⟨rfl, k4, ((hc1.trans hc2).trans hc3).trans hc4⟩
end Go.Proofs.YtfdhmhdemfbfeaaGreatDoor

/-
  What 'urls.Split' does: of every address, its parts; and 'urls.Scheme'.
-/
namespace Go.Proofs.YtfdhmhdemfbfeaaGreatDoor
open Go.RowKit
set_option linter.unusedVariables false

set_option maxHeartbeats 2000000 in
theorem split_any (s : ByteArray) (w : World) (hs : s.size ≤ 100000) :
    Calls Tryz.prog 86 #[.string s] w fun e w' => e = .returned (.agg (spC (plL s.data.toList))) ∧ Below w.heap.size w w' := by
  have C := hide (fun w => plain_any s w hs)
  have hpl : (bs (plL s.data.toList)).size ≤ 100000 := by rw [bs_size]; have := plL_len s.data.toList; rw [data_len] at this; omega
  have CC := hide (fun b g w hne h1 h2 => cutAll_any b g (bs (plL s.data.toList)) w hpl hne h1 h2)
  rw [bs_toList] at CC
  unfold spC
  generalize plL s.data.toList = x at *
  generalize decide (0 < schN x) = D1 at *
  generalize decide (sQ x < (s2 x).length) = D2 at *
  generalize decide (sM x < (s1 x).length) = D3 at *
  generalize hstB (s3 x) = D4 at *
  generalize bs (sSc x) = Y1 at *
  generalize bs (sMa x) = Y2 at *
  generalize bs (sQu x) = Y3 at *
  generalize bs (hoL (s3 x)) = Y4 at *
  generalize bs (paL (s3 x)) = Y5 at *
  generalize bs x = X at *
  clear hpl
  have kR : Hid (Blk ((w.alloc (Obj.cells #[.string ⟨#[]⟩, .string ⟨#[]⟩, .string ⟨#[]⟩, .string ⟨#[]⟩, .string ⟨#[]⟩, .bool false, .bool false, .bool false, .bool false] 121)).alloc (Obj.cells #[.string ⟨#[]⟩, .string ⟨#[]⟩, .string ⟨#[]⟩, .string ⟨#[]⟩, .string ⟨#[]⟩, .bool false, .bool false, .bool false, .bool false] 124)) w.heap.size (ptC noS noS noS noS noS false false false false) 121) := hide ((Blk.new w _ _).alloc _)
  have kB : Hid (Blk ((w.alloc (Obj.cells #[.string ⟨#[]⟩, .string ⟨#[]⟩, .string ⟨#[]⟩, .string ⟨#[]⟩, .string ⟨#[]⟩, .bool false, .bool false, .bool false, .bool false] 121)).alloc (Obj.cells #[.string ⟨#[]⟩, .string ⟨#[]⟩, .string ⟨#[]⟩, .string ⟨#[]⟩, .string ⟨#[]⟩, .bool false, .bool false, .bool false, .bool false] 124)) (w.heap.size + 1) (ptC noS noS noS noS noS false false false false) 124) := by
    have h1 := Blk.new (w.alloc (Obj.cells #[.string ⟨#[]⟩, .string ⟨#[]⟩, .string ⟨#[]⟩, .string ⟨#[]⟩, .string ⟨#[]⟩, .bool false, .bool false, .bool false, .bool false] 121)) #[.string ⟨#[]⟩, .string ⟨#[]⟩, .string ⟨#[]⟩, .string ⟨#[]⟩, .string ⟨#[]⟩, .bool false, .bool false, .bool false, .bool false] 124
    exact hide (Eq.mp (by simp [ptC, noS]) h1)
  go_enter Tryz.func86, Tryz.ntmps86
  go_wp2_with fail
  refine (unhide C _).mono ?_
  rintro e1 w1 ⟨rfl, hb⟩
  have kR1 := hide ((unhide kR).later hb)
  have kB1 := hide ((unhide kB).later hb)
  have hz1 : w.heap.size + 2 ≤ w1.heap.size := by have := hb.size; simp at this; omega
  have hb1 : Below w.heap.size w w1 := (((Below.refl _ w).alloc (Nat.le_refl _) _).alloc (by simp) _).trans (hb.mono (by simp; omega))
  clear hb kR kB
  go_wp2_with fail
  refine (unhide CC (w.heap.size + 1) w1.heap.size _ (by omega) ((unhide kB1).alloc _) (Blk.new w1 _ _)).mono ?_
  rintro e1 w2 ⟨rfl, k2, hc⟩
  have kr2 : Blk w2 w.heap.size _ _ := hc.blk ((unhide kR1).alloc _) (by omega)
  have hb2 : Below w.heap.size w w2 := (hb1.alloc (by omega) _).trans (hc.1.mono (by omega))
  have c0 : w2.cell? ⟨w.heap.size + 1, 0, none⟩ = some (.string Y1) := k2.cell 0
  have c1 : w2.cell? ⟨w.heap.size + 1, 1, none⟩ = some (.string Y4) := k2.cell 1
  have c2 : w2.cell? ⟨w.heap.size + 1, 2, none⟩ = some (.string noS) := k2.cell 2
  have c3 : w2.cell? ⟨w.heap.size + 1, 3, none⟩ = some (.string Y3) := k2.cell 3
  have c4 : w2.cell? ⟨w.heap.size + 1, 4, none⟩ = some (.string Y2) := k2.cell 4
  have c5 : w2.cell? ⟨w.heap.size + 1, 5, none⟩ = some (.bool D1) := k2.cell 5
  have c6 : w2.cell? ⟨w.heap.size + 1, 6, none⟩ = some (.bool D4) := k2.cell 6
  have c7 : w2.cell? ⟨w.heap.size + 1, 7, none⟩ = some (.bool D2) := k2.cell 7
  have c8 : w2.cell? ⟨w.heap.size + 1, 8, none⟩ = some (.bool D3) := k2.cell 8
  have f2 : w2.frozen? ⟨w.heap.size + 1, 2, none⟩ = false := k2.frozen 2
  have r0 : w2.cell? ⟨w.heap.size, 0, none⟩ = some (.string noS) := kr2.cell 0
  have q0 : w2.frozen? ⟨w.heap.size, 0, none⟩ = false := kr2.frozen 0
  have r1 : w2.cell? ⟨w.heap.size, 1, none⟩ = some (.string noS) := kr2.cell 1
  have q1 : w2.frozen? ⟨w.heap.size, 1, none⟩ = false := kr2.frozen 1
  have r2 : w2.cell? ⟨w.heap.size, 2, none⟩ = some (.string noS) := kr2.cell 2
  have q2 : w2.frozen? ⟨w.heap.size, 2, none⟩ = false := kr2.frozen 2
  have r3 : w2.cell? ⟨w.heap.size, 3, none⟩ = some (.string noS) := kr2.cell 3
  have q3 : w2.frozen? ⟨w.heap.size, 3, none⟩ = false := kr2.frozen 3
  have r4 : w2.cell? ⟨w.heap.size, 4, none⟩ = some (.string noS) := kr2.cell 4
  have q4 : w2.frozen? ⟨w.heap.size, 4, none⟩ = false := kr2.frozen 4
  have r5 : w2.cell? ⟨w.heap.size, 5, none⟩ = some (.bool false) := kr2.cell 5
  have q5 : w2.frozen? ⟨w.heap.size, 5, none⟩ = false := kr2.frozen 5
  have r6 : w2.cell? ⟨w.heap.size, 6, none⟩ = some (.bool false) := kr2.cell 6
  have q6 : w2.frozen? ⟨w.heap.size, 6, none⟩ = false := kr2.frozen 6
  have r7 : w2.cell? ⟨w.heap.size, 7, none⟩ = some (.bool false) := kr2.cell 7
  have q7 : w2.frozen? ⟨w.heap.size, 7, none⟩ = false := kr2.frozen 7
  have r8 : w2.cell? ⟨w.heap.size, 8, none⟩ = some (.bool false) := kr2.cell 8
  have q8 : w2.frozen? ⟨w.heap.size, 8, none⟩ = false := kr2.frozen 8
  have KR2 := hide kr2
  clear k2 kr2 kR1 kB1
  go_wp2
  have kk := (((((((((((unhide KR2).away (show w.heap.size ≠ w.heap.size + 1 by omega) (.string Y5) (o := 2)).set 0 (by simp [ptC]) (.string Y1)).set 1 (by simp [ptC]) (.string Y4)).set 2 (by simp [ptC]) (.string Y5)).set 3 (by simp [ptC]) (.string Y3)).set 4 (by simp [ptC]) (.string Y2)).set 5 (by simp [ptC]) (.bool D1)).set 6 (by simp [ptC]) (.bool D4)).set 7 (by simp [ptC]) (.bool D2)).set 8 (by simp [ptC]) (.bool D3))
  have d0 := kk.cell 0
  have d1 := kk.cell 1
  have d2 := kk.cell 2
  have d3 := kk.cell 3
  have d4 := kk.cell 4
  have d5 := kk.cell 5
  have d6 := kk.cell 6
  have d7 := kk.cell 7
  have d8 := kk.cell 8
  exact bodyPost_ret (v := .agg #[.string Y1, .string Y4, .string Y5, .string Y3, .string Y2, .bool D1, .bool D4, .bool D2, .bool D3]) (by simp [results, Tryz.results86, go_sem, d0, d1, d2, d3, d4, d5, d6, d7, d8, ptC]) rfl ⟨rfl, ((((((((((hb2.setCell (by simp) _).setCell (by simp) _).setCell (by simp) _).setCell (by simp) _).setCell (by simp) _).setCell (by simp) _).setCell (by simp) _).setCell (by simp) _).setCell (by simp) _).setCell (by simp) _)⟩

set_option maxHeartbeats 1000000 in
theorem schm_any (s : ByteArray) (w : World) (hs : s.size ≤ 100000) :
    Calls Tryz.prog 72 #[.string s] w fun e w' => e = .returned (.tuple #[.string (bs (sSc (plL s.data.toList))), .bool (decide (0 < schN (plL s.data.toList)))]) ∧ Below w.heap.size w w' := by
  have C := hide (fun w => split_any s w hs)
  unfold spC ptC at C
  generalize plL s.data.toList = x at *
  generalize decide (0 < schN x) = D1 at *
  generalize decide (sQ x < (s2 x).length) = D2 at *
  generalize decide (sM x < (s1 x).length) = D3 at *
  generalize hstB (s3 x) = D4 at *
  generalize bs (sSc x) = Y1 at *
  generalize bs (sMa x) = Y2 at *
  generalize bs (sQu x) = Y3 at *
  generalize bs (hoL (s3 x)) = Y4 at *
  generalize bs (paL (s3 x)) = Y5 at *
  go_enter Tryz.func72, Tryz.ntmps72
  go_wp2_with fail
  refine (unhide C _).mono ?_
  rintro e1 w1 ⟨rfl, hb⟩
  go_wp2
  go_quiet (fail)
  go_wp2
  go_ret2
  exact ⟨rfl, _root_.Go.below_drewN (hb.alloc hb.size _) _⟩
end Go.Proofs.YtfdhmhdemfbfeaaGreatDoor

/-
  Lists of texts as slice values: what a slice shows in a world, and that it stays.
-/
namespace Go.Proofs.YtfdhmhdemfbfeaaGreatDoor
open Go.RowKit
set_option linter.unusedVariables false

/-- A slice value that shows these texts in a world. -/
def View (w : World) (v : Value) (ss : List ByteArray) : Prop :=
  ss.length ≤ 9223372036854775807 ∧ ∃ a cap, v = .slice a ss.length cap ∧
    (0 < ss.length → ∃ b off, a = some ⟨b, off, none⟩ ∧ ∀ i, i < ss.length → w.cell? ⟨b, off + i, none⟩ = some (.string (ss.getD i ByteArray.empty)))

def sameT (a b : List ByteArray) : Bool := decide (a = b)
theorem sameT_refl (a : List ByteArray) : sameT a a = true := by simp [sameT]
theorem sameT_true {a b : List ByteArray} (h : a = b) : sameT a b = true := by simp [sameT, h]
theorem sameT_false {a b : List ByteArray} (h : ¬ a = b) : sameT a b = false := by simp [sameT, h]
theorem same_of (a b : List ByteArray) (hl : a.length = b.length) (h : ∀ i, i < a.length → a.getD i ByteArray.empty = b.getD i ByteArray.empty) : a = b := by
  apply List.ext_getElem hl
  intro i h1 h2
  have := h i h1
  rw [List.getD, List.getD, List.getElem?_eq_getElem h1, List.getElem?_eq_getElem h2] at this
  simpa using this
theorem view_of_owns {w : World} {base : Nat} {v : Value} {ts : List ByteArray} (h : w.ownsRow base 9 1 v ts.length (ts.map Value.string)) : View w v ts := by
  obtain ⟨_, h⟩ := h
  rcases h with ⟨rfl, h0⟩ | ⟨g, cap, cur, rfl, h1, h2, h3, h4, h5, h6⟩
  · exact ⟨by rw [h0]; decide, none, 0, by rw [h0], fun h => by omega⟩
  · refine ⟨Nat.le_trans h3 h4, some ⟨g, 0, none⟩, cap, rfl, fun _ => ⟨g, 0, rfl, fun i hi => ?_⟩⟩
    rw [Joins.cell_of_block h2]
    have e : cur.toList[i]? = some (.string (ts.getD i ByteArray.empty)) := by
      have : (cur.toList.take (ts.length * 1))[i]? = some (.string (ts.getD i ByteArray.empty)) := by
        rw [h6, List.getElem?_map, List.getD, List.getElem?_eq_getElem hi]; rfl
      rw [List.getElem?_take] at this
      rw [if_pos (by omega)] at this
      exact this
    simpa using e

theorem view_below {w w1 : World} {v : Value} {ss : List ByteArray} (h : View w v ss) (hb : Below w.heap.size w w1) : View w1 v ss := by
  obtain ⟨la, a, cap, rfl, hx⟩ := h
  refine ⟨la, a, cap, rfl, fun h0 => ?_⟩
  obtain ⟨b, off, rfl, hc⟩ := hx h0
  exact ⟨b, off, rfl, fun i hi => (hb.cell (p := ⟨b, off + i, none⟩) (World.block_lt_of_cell? w ⟨b, off + i, none⟩ (hc i hi))).trans (hc i hi)⟩
theorem view_alloc {w : World} {v : Value} {ss : List ByteArray} (h : View w v ss) (o : Obj) : View (w.alloc o) v ss := view_below h ((Below.refl _ _).alloc (Nat.le_refl _) _)
theorem getD_mem (ss : List ByteArray) (k : Nat) (h : k < ss.length) : ss.getD k ByteArray.empty ∈ ss := by
  have e : ss.getD k ByteArray.empty = ss[k] := by rw [List.getD, List.getElem?_eq_getElem h]; rfl
  rw [e]; exact List.getElem_mem h

/-- A slice of texts that came in, as a view. -/
theorem view_in {w : World} {a : Addr} {len cap : Nat} {ss : List ByteArray} (hl : len ≤ cap) (hm : cap ≤ maxLen) (hz : ss.length = cap)
    (hcell : ∀ i, i < ss.length → w.cell? (a.add i) = some (.string (ss.getD i ByteArray.empty))) : View w (.slice (some a) len cap) (ss.take len) := by
  have hlen : (ss.take len).length = len := by simp; omega
  refine ⟨by rw [hlen]; exact Nat.le_trans hl hm, some a, cap, by rw [hlen], fun h0 => ?_⟩
  rw [hlen] at h0 ⊢
  obtain ⟨b, off, spot⟩ := a
  have hc := hcell 0 (by omega)
  have hspot : spot = none := by simpa [Addr.add] using World.cell?_spot hc
  subst hspot
  refine ⟨b, off, rfl, fun i hi => ?_⟩
  have := hcell i (by omega)
  have e : (ss.take len).getD i ByteArray.empty = ss.getD i ByteArray.empty := by
    rw [List.getD, List.getD, List.getElem?_take, if_pos hi]
  rw [e]
  have hplain : (⟨b, off, none⟩ : Addr).add i = ⟨b, off + i, none⟩ := by unfold Addr.add; split <;> simp_all
  rw [hplain] at this
  exact this
theorem view_none (w : World) : View w (.slice none 0 0) [] := ⟨by decide, none, 0, rfl, fun h => by cases h⟩


theorem Tryz.infoStr : (Tryz.prog.info? 9).map (fun i => (i.zero, i.size, i.bytes)) = some (some (.string ⟨#[]⟩), 1, 16) := by kernel_rfl
end Go.Proofs.YtfdhmhdemfbfeaaGreatDoor
