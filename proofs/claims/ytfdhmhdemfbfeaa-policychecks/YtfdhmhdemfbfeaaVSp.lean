/-
  What 'urls.Split' does: of every address, its parts.
-/
import Derived.Test.YtfdhmhdemfbfeaaMgF
import Derived.Laws.EntriesVeiled
namespace Go.Proofs.Ytfdhmhdemfbfeaa
open Go.RowKit
set_option linter.unusedVariables false

def s1 (x : List UInt8) : List UInt8 := if 0 < schN x then x.drop (schN x + 1) else x
def sSc (x : List UInt8) : List UInt8 := if 0 < schN x then lowL (x.take (schN x)) else []
def sM (x : List UInt8) : Nat := tkN (nfN 35 35) (s1 x)
def s2 (x : List UInt8) : List UInt8 := (s1 x).take (sM x)
def sMa (x : List UInt8) : List UInt8 := (s1 x).drop (sM x + 1)
def sQ (x : List UInt8) : Nat := tkN (nfN 63 63) (s2 x)
def s3 (x : List UInt8) : List UInt8 := (s2 x).take (sQ x)
def sQu (x : List UInt8) : List UInt8 := (s2 x).drop (sQ x + 1)
def hoL (y : List UInt8) : List UInt8 := if hstB y = true then (y.drop 2).take (tkN (nfN 47 92) (y.drop 2)) else []
def paL (y : List UInt8) : List UInt8 := if hstB y = true then (y.drop 2).drop (tkN (nfN 47 92) (y.drop 2)) else y
def noS : ByteArray := ⟨#[]⟩
def spC (x : List UInt8) : Array Value := ptC (bs (sSc x)) (bs (hoL (s3 x))) (bs (paL (s3 x))) (bs (sQu x)) (bs (sMa x)) (decide (0 < schN x)) (hstB (s3 x)) (decide (sQ x < (s2 x).length)) (decide (sM x < (s1 x).length))

theorem scheme_any (b : Nat) (s ho pa qu ma : ByteArray) (hh hq hm : Bool) (w : World) (hz : s.size ≤ 100000)
    (hB : Blk w b (ptC noS ho pa qu ma false hh hq hm) 101) :
    Calls Try.prog 74 #[.pointer (some ⟨b, 0, none⟩), .string s] w fun e w' => e = .returned (.string (bs (s1 s.data.toList))) ∧ Blk w' b (ptC (bs (sSc s.data.toList)) ho pa qu ma (decide (0 < schN s.data.toList)) hh hq hm) 101 ∧ Cz b w w' := by
  by_cases h0 : 0 < schN s.data.toList
  · rw [s1, if_pos h0, sSc, if_pos h0, decide_eq_true h0]
    exact scheme_yes b s noS ho pa qu ma false hh hq hm _ w hz rfl h0 hB
  · rw [s1, if_neg h0, sSc, if_neg h0, decide_eq_false h0, bs_self]
    refine (scheme_no _ s w hz (by omega)).mono ?_
    rintro e w' ⟨he, rfl⟩
    exact ⟨he, hB, Cz.refl _ _⟩
theorem host_any (b : Nat) (s sc pa qu ma : ByteArray) (hs hq hm : Bool) (w : World) (hz : s.size ≤ 100000)
    (hB : Blk w b (ptC sc noS pa qu ma hs false hq hm) 101) :
    Calls Try.prog 77 #[.pointer (some ⟨b, 0, none⟩), .string s] w fun e w' => e = .returned (.string (bs (paL s.data.toList))) ∧ Blk w' b (ptC sc (bs (hoL s.data.toList)) pa qu ma hs (hstB s.data.toList) hq hm) 101 ∧ Cz b w w' := by
  cases h0 : hstB s.data.toList with
  | true =>
    rw [paL, if_pos h0, hoL, if_pos h0]
    exact host_yes b s sc noS pa qu ma hs false hq hm _ w hz h0 rfl hB
  | false =>
    rw [paL, if_neg (by rw [h0]; decide), hoL, if_neg (by rw [h0]; decide), bs_self]
    refine (host_no _ s w hz h0).mono ?_
    rintro e w' ⟨he, rfl⟩
    exact ⟨he, hB, Cz.refl _ _⟩
theorem drop_sz {l : List UInt8} {n k : Nat} (h : l.length ≤ k) : (l.drop n).length ≤ k := by rw [List.length_drop]; omega
theorem take_sz {l : List UInt8} {n k : Nat} (h : l.length ≤ k) : (l.take n).length ≤ k := by rw [List.length_take]; omega
theorem s1_sz {x : List UInt8} {k : Nat} (h : x.length ≤ k) : (s1 x).length ≤ k := by
  unfold s1; split
  · exact drop_sz h
  · exact h

def fnV (f b : Nat) : Value := .func (Fn.func f) #[.pointer (some ⟨b, 0, none⟩)] #[]
set_option maxHeartbeats 1000000 in
theorem cutAll_any (b g : Nat) (x : ByteArray) (w : World) (hx : x.size ≤ 100000) (hne : g ≠ b) (hB : Blk w b (ptC noS noS noS noS noS false false false false) 101)
    (hG : Blk w g #[fnV 74 b, fnV 75 b, fnV 76 b, fnV 77 b] 61) :
    Calls Try.prog 72 #[.string x, .slice (some ⟨g, 0, none⟩) 4 4] w fun e w' => e = .returned (.string (bs (paL (s3 x.data.toList)))) ∧
      Blk w' b (ptC (bs (sSc x.data.toList)) (bs (hoL (s3 x.data.toList))) noS (bs (sQu x.data.toList)) (bs (sMa x.data.toList)) (decide (0 < schN x.data.toList)) (hstB (s3 x.data.toList)) (decide (sQ x.data.toList < (s2 x.data.toList).length)) (decide (sM x.data.toList < (s1 x.data.toList).length))) 101 ∧ Cz b w w' := by
  have z1 : (s1 x.data.toList).length ≤ 100000 := s1_sz (by rw [data_len]; exact hx)
  have z2 : (s2 x.data.toList).length ≤ 100000 := take_sz z1
  have z3 : (s3 x.data.toList).length ≤ 100000 := take_sz z2
  have C1 := hide (fun w h => scheme_any b x noS noS noS noS false false false w hx h)
  have C2 := hide (fun w h => mark_any b (bs (s1 x.data.toList)) (bs (sSc x.data.toList)) noS noS noS noS (decide (0 < schN x.data.toList)) false false false (sM x.data.toList) w (by rw [bs_size]; exact z1) (by rw [bs_toList]; rfl) h)
  have C3 := hide (fun w h => query_any b (bs (s2 x.data.toList)) (bs (sSc x.data.toList)) noS noS noS (bs (sMa x.data.toList)) (decide (0 < schN x.data.toList)) false false (decide (sM x.data.toList < (s1 x.data.toList).length)) (sQ x.data.toList) w (by rw [bs_size]; exact z2) (by rw [bs_toList]; rfl) h)
  have C4 := hide (fun w h => host_any b (bs (s3 x.data.toList)) (bs (sSc x.data.toList)) noS (bs (sQu x.data.toList)) (bs (sMa x.data.toList)) (decide (0 < schN x.data.toList)) (decide (sQ x.data.toList < (s2 x.data.toList).length)) (decide (sM x.data.toList < (s1 x.data.toList).length)) w (by rw [bs_size]; exact z3) h)
  rw [bs_toList, bs_size] at C2 C3
  rw [bs_toList] at C4
  have e2 : (s1 x.data.toList).take (sM x.data.toList) = s2 x.data.toList := rfl
  have e2' : (s1 x.data.toList).drop (sM x.data.toList + 1) = sMa x.data.toList := rfl
  have e3 : (s2 x.data.toList).take (sQ x.data.toList) = s3 x.data.toList := rfl
  have e3' : (s2 x.data.toList).drop (sQ x.data.toList + 1) = sQu x.data.toList := rfl
  rw [e2, e2'] at C2
  rw [e3, e3'] at C3
  generalize decide (0 < schN x.data.toList) = D1 at *
  generalize decide (sQ x.data.toList < (s2 x.data.toList).length) = D2 at *
  generalize decide (sM x.data.toList < (s1 x.data.toList).length) = D3 at *
  generalize hstB (s3 x.data.toList) = D4 at *
  clear e2 e2' e3 e3' z1 z2 z3
  generalize bs (s1 x.data.toList) = X1 at *
  generalize bs (s2 x.data.toList) = X2 at *
  generalize bs (s3 x.data.toList) = X3 at *
  generalize bs (sSc x.data.toList) = Y1 at *
  generalize bs (sMa x.data.toList) = Y2 at *
  generalize bs (sQu x.data.toList) = Y3 at *
  generalize bs (hoL (s3 x.data.toList)) = Y4 at *
  generalize bs (paL (s3 x.data.toList)) = Y5 at *
  have HB := hide hB
  have HG := hide hG
  have g0 : w.cell? ⟨g, 0, none⟩ = some (.func (Fn.func 74) #[.pointer (some ⟨b, 0, none⟩)] #[]) := hG.cell 0
  clear hB hG
  go_enter Try.func72, Try.ntmps72
  go_wp2
  refine wp_loop_rounds 5 ?_
  rw [rounds_succ]; go_wp2_with fail
  refine (unhide C1 _ (unhide HB)).mono ?_
  rintro e1 w1 ⟨rfl, k1, hc1⟩
  have G1 := hide (hc1.blk (unhide HG) hne)
  have K1 := hide k1
  have g1 : w1.cell? ⟨g, 1, none⟩ = some (.func (Fn.func 75) #[.pointer (some ⟨b, 0, none⟩)] #[]) := (unhide G1).cell 1
  clear k1 g0
  go_wp2
  rw [rounds_succ]; go_wp2_with fail
  refine (unhide C2 _ (unhide K1)).mono ?_
  rintro e1 w2 ⟨rfl, k2, hc2⟩
  have G2 := hide (hc2.blk (unhide G1) hne)
  have K2 := hide k2
  have g2 : w2.cell? ⟨g, 2, none⟩ = some (.func (Fn.func 76) #[.pointer (some ⟨b, 0, none⟩)] #[]) := (unhide G2).cell 2
  clear k2 g1
  go_wp2
  rw [rounds_succ]; go_wp2_with fail
  refine (unhide C3 _ (unhide K2)).mono ?_
  rintro e1 w3 ⟨rfl, k3, hc3⟩
  have G3 := hide (hc3.blk (unhide G2) hne)
  have K3 := hide k3
  have g3 : w3.cell? ⟨g, 3, none⟩ = some (.func (Fn.func 77) #[.pointer (some ⟨b, 0, none⟩)] #[]) := (unhide G3).cell 3
  clear k3 g2
  go_wp2
  rw [rounds_succ]; go_wp2_with fail
  refine (unhide C4 _ (unhide K3)).mono ?_
  rintro e1 w4 ⟨rfl, k4, hc4⟩
  clear g3
  go_wp2
  rw [rounds_succ]; go_wp2
  go_ret
  exact ⟨rfl, k4, ((hc1.trans hc2).trans hc3).trans hc4⟩
end Go.Proofs.Ytfdhmhdemfbfeaa
