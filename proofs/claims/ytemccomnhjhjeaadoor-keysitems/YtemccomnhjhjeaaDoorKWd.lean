/-
  What a keys.writer's node writes.
-/
import Derived.Test.YtemccomnhjhjeaaDoorMgBG
import Derived.Test.YtemccomnhjhjeaaDoorMgBC
namespace Go.Proofs.YtemccomnhjhjeaaDoor
open Go.RowKit
set_option linter.unusedVariables false
set_option linter.unusedSimpArgs false

def atsB : List (ByteArray × ByteArray) → List UInt8
  | [] => []
  | a :: r => textB a.1 ++ (textB a.2 ++ atsB r)
def nodeB (k sp : Int) (n : ByteArray) (ats : List (ByteArray × ByteArray)) (tx : ByteArray) (kl : Nat) : List UInt8 :=
  labelB k sp n ++ (textB tx ++ (numB (ats.length : Nat) ++ (atsB ats ++ numB (kl : Nat))))
theorem atsB_drop (ats : List (ByteArray × ByteArray)) (j : Nat) (hj : j < ats.length) : atsB (ats.drop j) = textB (an ats j) ++ (textB (av ats j) ++ atsB (ats.drop (j + 1))) := by
  rw [List.drop_eq_getElem_cons hj, atsB]
  have h3 : ats.getD j (ByteArray.empty, ByteArray.empty) = ats[j] := by simp [List.getD, List.getElem?_eq_getElem hj]
  unfold an av
  rw [h3]
/-- The numbers that a node tells can be told. -/
def ItoaNd (w0 : World) (k sp : Int) (n : ByteArray) (ats : List (ByteArray × ByteArray)) (tx : ByteArray) (kl : Nat) : Prop :=
  ItoaAt w0 k ∧ ItoaAt w0 sp ∧ ItoaAt w0 (n.size : Nat) ∧ ItoaAt w0 (tx.size : Nat) ∧ ItoaAt w0 (ats.length : Nat) ∧ ItoaAt w0 (kl : Nat) ∧ ∀ j, j < ats.length → ItoaAt w0 ((an ats j).size : Nat) ∧ ItoaAt w0 ((av ats j).size : Nat)
set_option maxHeartbeats 8000000 in
set_option maxRecDepth 100000 in
theorem knode_any (w0 : World) (B b : Nat) (l : List UInt8) (k sp : Int) (n : ByteArray) (ats : List (ByteArray × ByteArray)) (tx : ByteArray) (qa : Option Addr) (ca : Nat) (qk : Option Addr) (kl ck : Nat) (g o : Nat) (w : World) (h : Kwt B b l w) (hb : Below w0.heap.size w0 w) (hB : w0.heap.size ≤ B) (hBw : B ≤ w.heap.size)
    (P : World → Prop) (hP : ∀ W l' W', P W → KwN w0 B b l' W W' → P W') (hPa : ∀ W X, P W → P (W.alloc X)) (hpw : P w)
    (hL : ∀ W, P W → W.cell? ⟨g, o, none⟩ = some (.int .i64 k) ∧ W.cell? ⟨g, o + 1, none⟩ = some (.int .i64 sp) ∧ W.cell? ⟨g, o + 2, none⟩ = some (.string n) ∧ W.cell? ⟨g, o + 3, none⟩ = some (.slice qa ats.length ca) ∧ W.cell? ⟨g, o + 4, none⟩ = some (.string tx) ∧ W.cell? ⟨g, o + 5, none⟩ = some (.slice qk kl ck))
    (hsl : ∀ W, P W → Sl qa ats W)
    (hN : ItoaNd w0 k sp n ats tx kl) (hns : n.size ≤ 5000) (hts : tx.size ≤ 5000) (hft : Fits ats) (hlen : l.length + (nodeB k sp n ats tx kl).length ≤ 100000000000) :
    Calls Tryd.prog 40 #[.pointer (some ⟨b, 0, none⟩), .pointer (some ⟨g, o, none⟩)] w fun e w' => e = .returned (.tuple #[]) ∧ KwN w0 B b (l ++ nodeB k sp n ats tx kl) w w' ∧ P w' := by
  obtain ⟨n1, n2, n3, n4, n5, n6, n7⟩ := hN
  have HTOT : Hid (l ++ nodeB k sp n ats tx kl = (((l ++ labelB k sp n) ++ textB tx) ++ numB (ats.length : Nat)) ++ atsB ats ++ numB (kl : Nat)) := hide (by rw [nodeB]; simp only [List.append_assoc])
  have hlen2 : ((((l ++ labelB k sp n) ++ textB tx) ++ numB (ats.length : Nat)) ++ atsB ats ++ numB (kl : Nat)).length ≤ 100000000000 := by rw [← unhide HTOT, List.length_append]; exact hlen
  rw [unhide HTOT]
  simp only [List.length_append] at hlen2
  have C1 := hide (klabel_any w0 B b l k sp n g o w h hb hB hBw n1 n2 n3 (by omega) (by omega) P hP hpw (fun W hW => ⟨(hL W hW).1, (hL W hW).2.1, (hL W hW).2.2.1⟩))
  have C2 := hide (fun W (h' : Kwt B b (l ++ labelB k sp n) W) hb' (hs' : B ≤ W.heap.size) => ktext_any w0 B b (l ++ labelB k sp n) tx W h' hb' hB hs' n4 (by omega) (by simp only [List.length_append]; omega))
  have C3 := hide (fun W (h' : Kwt B b ((l ++ labelB k sp n) ++ textB tx) W) hb' (hs' : B ≤ W.heap.size) => knum_any w0 B b ((l ++ labelB k sp n) ++ textB tx) (ats.length : Nat) W h' hb' hB hs' n5 (by simp only [List.length_append]; omega))
  have C4 := hide (fun W (h' : Kwt B b ((((l ++ labelB k sp n) ++ textB tx) ++ numB (ats.length : Nat)) ++ atsB ats) W) hb' (hs' : B ≤ W.heap.size) => knum_any w0 B b ((((l ++ labelB k sp n) ++ textB tx) ++ numB (ats.length : Nat)) ++ atsB ats) (kl : Nat) W h' hb' hB hs' n6 (by simp only [List.length_append]; omega))
  have q4 : ((((l ++ labelB k sp n) ++ textB tx) ++ numB (ats.length : Nat)) ++ atsB ats).length ≤ 100000000000 := by simp only [List.length_append]; omega
  generalize (((l ++ labelB k sp n) ++ textB tx) ++ numB (ats.length : Nat)) = m3 at *
  generalize (l ++ labelB k sp n) ++ textB tx = m2 at *
  generalize l ++ labelB k sp n = m1 at *
  have HL := hide hL
  have HP := hide hP
  have HPA := hide hPa
  have HSL := hide hsl
  have HPW := hide hpw
  have HFT := hide hft
  have HN7 := hide n7
  have hal : ats.length ≤ 1000 := hft.1
  have hsz := hb.size
  clear h hb hlen hlen2 hL hP hPa hsl hpw hft n1 n2 n3 n4 n5 n6 n7 hns hts HTOT
  go_enter Tryd.func40, Tryd.ntmps40
  go_wp2_with fail
  refine (unhide C1).mono ?_
  rintro e w1 ⟨rfl, hk1⟩
  have hp1 := unhide HP w _ w1 (unhide HPW) hk1
  have CC2 := hide (unhide C2 w1 hk1.1 hk1.2.1 (by have := hk1.2.2.1.size; omega))
  obtain ⟨-, -, -, -, d4, -⟩ := unhide HL w1 hp1
  have HK1 := hide hk1
  have HP1 := hide hp1
  clear C1 C2 hk1 hp1 HPW
  go_wp2_with fail
  refine (unhide CC2).mono ?_
  rintro e w2 ⟨rfl, hk2⟩
  have hp2 := unhide HP w1 _ w2 (unhide HP1) hk2
  have HK2 := hide ((unhide HK1).trans hk2)
  have CC3 := hide (unhide C3 w2 hk2.1 hk2.2.1 (by have := (unhide HK2).2.2.1.size; omega))
  obtain ⟨-, -, -, d3, -, -⟩ := unhide HL w2 hp2
  have HP2 := hide hp2
  clear CC2 C3 hk2 hp2 HP1 HK1 d4
  go_wp2_with fail
  refine (unhide CC3).mono ?_
  rintro e w3 ⟨rfl, hk3⟩
  have hp3 := unhide HP w2 _ w3 (unhide HP2) hk3
  have HK3 := hide ((unhide HK2).trans hk3)
  clear d3
  obtain ⟨-, -, -, d3, -, -⟩ := unhide HL w3 hp3
  have HP3 := hide hp3
  clear CC3 hk3 hp3 HP2 HK2
  go_wp2
  clear d3
  go_loopw [27] (fun i wr => ∃ (j : Nat) (m : List UInt8), j ≤ ats.length ∧ i = .int .i64 j ∧ m ++ atsB (ats.drop j) = m3 ++ atsB ats ∧ KwN w0 B b m w wr ∧ P wr) (fun i _ => ats.length - (intOf i).toNat)
  case atStart => exact ⟨0, m3, Nat.zero_le _, rfl, rfl, unhide HK3, unhide HP3⟩
  case round =>
    clear HK3 HP3
    obtain ⟨j, m, hj, rfl, hm, hkw, hpr⟩ := hrel
    have hszr := hkw.2.2.1.size
    by_cases hp : j < ats.length
    · have hpi : (j : Int) < (ats.length : Int) := by omega
      rcases unhide HSL wr hpr with h0 | ⟨ga, oa, hqa, hcl⟩
      · rw [h0] at hp; simp at hp
      subst hqa
      obtain ⟨c1, c2⟩ := hcl j hp
      obtain ⟨z1, z2⟩ := (unhide HFT).2 j hp
      obtain ⟨i1, i2⟩ := unhide HN7 j hp
      have hq := congrArg List.length hm
      rw [atsB_drop ats j hp] at hm hq
      simp only [List.length_append] at hq q4
      have CT1 := hide (fun W (h' : Kwt B b m W) hb' (hs' : B ≤ W.heap.size) => ktext_any w0 B b m (an ats j) W h' hb' hB hs' i1 (by omega) (by omega))
      have CT2 := hide (fun W (h' : Kwt B b (m ++ textB (an ats j)) W) hb' (hs' : B ≤ W.heap.size) => ktext_any w0 B b (m ++ textB (an ats j)) (av ats j) W h' hb' hB hs' i2 (by omega) (by rw [List.length_append]; omega))
      have HM : Hid (((m ++ textB (an ats j)) ++ textB (av ats j)) ++ atsB (ats.drop (j + 1)) = m3 ++ atsB ats) := hide (by rw [← hm]; simp only [List.append_assoc])
      have hbA := (Below.refl wr.heap.size wr).alloc (Nat.le_refl _) (Obj.cells #[.string (an ats j), .string (av ats j)] 82)
      have hblk := Blk.new wr #[.string (an ats j), .string (av ats j)] 82
      have hpA := unhide HPA wr (Obj.cells #[.string (an ats j), .string (av ats j)] 82) hpr
      have hkA : KwN w0 B b m w (wr.alloc (Obj.cells #[.string (an ats j), .string (av ats j)] 82)) := ⟨kwt_below hkw.1 hbA, tr2 hkw.2.1 hbA, hkw.2.2.1.alloc (by omega) _, Lib.OthersKept.trans hkw.2.2.2 (oth_of_belowK hbA)⟩
      have hbb : b < wr.heap.size := by
        obtain ⟨p, v, hp, hB, hbk, _⟩ := kwt_any hkw.1
        exact (Array.getElem?_eq_some_iff.1 hbk).1
      have CT1' := hide (unhide CT1 _ hkA.1 hkA.2.1 (by simp; omega))
      have HX := hide (And.intro hblk (And.intro hkA hpA))
      generalize an ats j = x at *
      generalize av ats j = y at *
      clear hm hq hkw hpr hcl hbA hblk hkA hpA z1 z2 i1 i2 CT1
      go_wp2_with fail
      refine (unhide CT1').mono ?_
      rintro e w5 ⟨rfl, hk5⟩
      have hK5 := (unhide HX).2.1.trans hk5
      have hP5 := unhide HP _ _ w5 (unhide HX).2.2 hk5
      have hblk5 : Blk w5 wr.heap.size #[.string x, .string y] 82 := hk5.2.2.2 _ _ (unhide HX).1 (fun e => by injection e with e; omega) (fun c fz e => by injection e with _ e; revert e; decide)
      have k1 : w5.cell? ⟨wr.heap.size, 1, none⟩ = some (.string y) := hblk5.cell 1
      have CT2' := hide (unhide CT2 w5 hk5.1 hk5.2.1 (by have := hK5.2.2.1.size; omega))
      have HX5 := hide (And.intro hK5 hP5)
      clear CT1' CT2 hk5 hK5 hP5 hblk5 HX c1 c2
      go_wp2_with fail
      refine (unhide CT2').mono ?_
      rintro e w6 ⟨rfl, hk6⟩
      have HX6 := hide (And.intro ((unhide HX5).1.trans hk6) (unhide HP _ _ w6 (unhide HX5).2 hk6))
      clear CT2' hk6 HX5 k1
      go_wp2
      go_roundw
      case rel => exact ⟨j + 1, _, by omega, by go_num, unhide HM, unhide HX6⟩
      case measure => simp [intOf]; omega
    · have hpi : ¬ (j : Int) < (ats.length : Int) := by omega
      rw [List.drop_eq_nil_of_le (by omega), atsB, List.append_nil] at hm
      subst hm
      have CK1 := hide (unhide C4 wr hkw.1 hkw.2.1 (by omega))
      obtain ⟨-, -, -, -, -, d5⟩ := unhide HL wr hpr
      have HX := hide (And.intro hkw hpr)
      clear hkw hpr C4 hp
      go_wp2_with fail
      refine (unhide CK1).mono ?_
      rintro e w5 ⟨rfl, hk5⟩
      have HY := hide (And.intro ((unhide HX).1.trans hk5) (unhide HP _ _ w5 (unhide HX).2 hk5))
      clear CK1 hk5 HX d5
      go_wp2
      refine bodyPost_end (v := .tuple #[]) (results_none Tryd.results40 _ _ _) rfl ?_
      exact ⟨rfl, unhide HY⟩
end Go.Proofs.YtemccomnhjhjeaaDoor
