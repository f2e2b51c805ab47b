/-
  The law MatchMost.
-/
import Derived.Test.YtmbhpkjepegogaaOPs
namespace Go.Proofs.Ytmbhpkjepegogaa
open Go.RowKit Go.Maps
set_option linter.unusedVariables false
set_option linter.unusedSimpArgs false

/-- A pair that is told, and rises. -/
def okO (ss tt : List ByteArray) (O : List (Int × Int × Bool)) (i : Nat) : Prop :=
  0 ≤ (O.getD i p0).1 ∧ (O.getD i p0).1 < ss.length ∧ 0 ≤ (O.getD i p0).2.1 ∧ (O.getD i p0).2.1 < tt.length ∧ eqT ss tt (O.getD i p0).1.toNat (O.getD i p0).2.1.toNat = true ∧ (0 < i → (O.getD (i - 1) p0).1 < (O.getD i p0).1 ∧ (O.getD (i - 1) p0).2.1 < (O.getD i p0).2.1)
theorem okO_rise (ss tt : List ByteArray) (O : List (Int × Int × Bool)) (h : ∀ i, i < O.length → okO ss tt O i) : ∀ (d k : Nat), k + d = O.length → RiseFrom (eqT ss tt) ss.length tt.length (if k = 0 then 0 else (O.getD (k - 1) p0).1.toNat + 1) (if k = 0 then 0 else (O.getD (k - 1) p0).2.1.toNat + 1) ((O.drop k).map (fun p => (p.1.toNat, p.2.1.toNat)))
  | 0, k, hk => by
    rw [List.drop_eq_nil_of_le (by omega)]
    exact trivial
  | d + 1, k, hk => by
    have hlt : k < O.length := by omega
    have ih := okO_rise ss tt O h d (k + 1) (by omega)
    obtain ⟨h1, h2, h3, h4, h5, h6⟩ := h k hlt
    rw [if_neg (by omega), if_neg (by omega), Nat.add_sub_cancel] at ih
    have e : O.drop k = O.getD k p0 :: O.drop (k + 1) := by
      rw [List.drop_eq_getElem_cons hlt, List.getD, List.getElem?_eq_getElem hlt]; rfl
    rw [e, List.map_cons]
    by_cases hk0 : k = 0
    · subst hk0
      refine ⟨?_, ?_, by omega, by omega, h5, ih⟩ <;> simp
    · obtain ⟨g1, g2⟩ := h6 (by omega)
      obtain ⟨f1, _, f3, _⟩ := h (k - 1) (by omega)
      refine ⟨?_, ?_, by omega, by omega, h5, ih⟩
      · rw [if_neg hk0]; show _ ≤ (O.getD k p0).1.toNat; omega
      · rw [if_neg hk0]; show _ ≤ (O.getD k p0).2.1.toNat; omega
theorem okO_le (ss tt : List ByteArray) (O : List (Int × Int × Bool)) (h : ∀ i, i < O.length → okO ss tt O i) : O.length ≤ (whP (lnP (eqT ss tt) ss.length tt.length 0 0)).length := by
  have r := rise_le _ _ _ _ _ _ (okO_rise ss tt O h O.length 0 (by omega))
  unfold whP
  rw [List.length_map, lnP_length]
  simpa using r
theorem line_flip (ss tt : List ByteArray) : (whP (lnP (eqT tt ss) tt.length ss.length 0 0)).length = (whP (lnP (eqT ss tt) ss.length tt.length 0 0)).length := by
  unfold whP
  rw [List.length_map, List.length_map, lnP_length, lnP_length, ← lcB_flip (eqT ss tt)]
  apply lcB_same
  intro a b _ _
  unfold eqT
  apply decide_eq_decide.2
  exact ⟨fun h => h.symm, fun h => h.symm⟩

theorem cell_on {w w' : World} {b o : Nat} {v : Value} (hb : Below w.heap.size w w') (h : w.cell? ⟨b, o, none⟩ = some v) : w'.cell? ⟨b, o, none⟩ = some v := (hb.cell (p := ⟨b, o, none⟩) (World.block_lt_of_cell? w _ h)).trans h
theorem view_at {w w' : World} {q : Option Addr} {n c : Nat} {ss : List ByteArray} (h : View w (.slice q n c) ss) (hb : Below w.heap.size w w') (i : Nat) (hi : i < ss.length) : ∃ b o, q = some ⟨b, o, none⟩ ∧ w'.cell? ⟨b, o + i, none⟩ = some (.string (tx ss i)) := by
  obtain ⟨_, a, cap, e, hc⟩ := view_below h hb
  cases e
  obtain ⟨b, o, rfl, h2⟩ := hc (by omega)
  exact ⟨b, o, rfl, h2 i hi⟩
set_option maxHeartbeats 1000000 in
theorem matchMost_great (n m lo ca cb co : Nat) (qa qb qo : Option Addr) (w : World) (h : 60 < n ∨ 60 < m) (hn : n ≤ 9223372036854775807) (hm : m ≤ 9223372036854775807) :
    Calls Try.prog 4 #[.slice qa n ca, .slice qb m cb, .slice qo lo co] w fun e w' => e = .returned (.bool true) ∧ Below w.heap.size w w' := by
  have C := hide (lines_any w)
  by_cases h1 : 60 < n
  · have h1i : (60 : Int) < (n : Int) := by omega
    go_enter Try.func4, Try.ntmps4
    go_wp2_with fail
    refine (unhide C).mono ?_
    rintro e w1 ⟨rfl, hb⟩
    go_wp2
    go_ret
    exact ⟨rfl, hb⟩
  · have h1i : ¬ (60 : Int) < (n : Int) := by omega
    have h2 : 60 < m := by omega
    have h2i : (60 : Int) < (m : Int) := by omega
    go_enter Try.func4, Try.ntmps4
    go_wp2_with fail
    refine (unhide C).mono ?_
    rintro e w1 ⟨rfl, hb⟩
    go_wp2
    go_ret
    exact ⟨rfl, hb⟩

set_option maxHeartbeats 4000000 in
set_option maxRecDepth 100000 in
theorem matchMost_small (va vb : Value) (ss tt : List ByteArray) (qo : Option Addr) (lo co : Nat) (O : List (Int × Int × Bool)) (w : World) (ha : View w va ss) (hb : View w vb tt) (h1 : ∀ k, k < ss.length → (tx ss k).size ≤ 9223372036854775807) (h2 : ∀ k, k < tt.length → (tx tt k).size ≤ 9223372036854775807) (hn : ss.length ≤ 60) (hm : tt.length ≤ 60)
    (ho : PairsA w qo O) (hlo : O.length = lo) (hl : lo ≤ 9223372036854775807) :
    Calls Try.prog 4 #[va, vb, .slice qo lo co] w fun e w' => e = .returned (.bool true) ∧ Below w.heap.size w w' := by
  have C1 := hide (mline_any va vb ss tt w ha hb h1 h2 (by omega) (by omega))
  have C2 := hide (fun W hW => mline_any vb va tt ss W (view_below hb hW) (view_below ha hW) h2 h1 (by omega) (by omega))
  have CL := hide lines_any
  have HF := hide (line_flip ss tt)
  have HLE := hide (okO_le ss tt O)
  have HVA := hide ha
  have HVB := hide hb
  have HO := hide ho
  have HLO := hide hlo
  obtain ⟨a1, c1, rfl⟩ := view_slice ha
  obtain ⟨a2, c2, rfl⟩ := view_slice hb
  have g1 : ¬ (60 : Int) < (ss.length : Int) := by omega
  have g2 : ¬ (60 : Int) < (tt.length : Int) := by omega
  clear ha hb h1 h2 ho hlo
  go_enter Try.func4, Try.ntmps4
  go_wp2_with fail
  refine (unhide C1).mono ?_
  rintro e w1 ⟨u1, rfl, hp1, hb1⟩
  obtain ⟨q1, k1, rfl, _⟩ := hp1.cells
  go_wp2_with fail
  refine (unhide C2 w1 hb1).mono ?_
  rintro e w2 ⟨u2, rfl, hp2, hb2⟩
  obtain ⟨q2, k2, rfl, _⟩ := hp2.cells
  have hbw2 := tr2 hb1 hb2
  rw [unhide HF]
  generalize hN : (whP (lnP (eqT ss tt) ss.length tt.length 0 0)).length = N at *
  have HB := hide hbw2
  clear hp1 hp2 hb1 hb2 hbw2 C1 C2 hN
  go_wp2
  go_loopw [28] (fun i wr => ∃ k : Nat, k ≤ lo ∧ i = .int .i64 (k : Int) ∧ (∀ j, j < k → okO ss tt O j) ∧ Below w.heap.size w wr) (fun i _ => lo - (intOf i).toNat)
  case atStart => exact ⟨0, Nat.zero_le _, rfl, fun j hj => by omega, unhide HB⟩
  case round =>
    obtain ⟨k, hk, rfl, hall, hbl⟩ := hrel
    have HALL := hide hall
    have HBL := hide hbl
    have hz := hbl.size
    clear hall hbl
    by_cases hkl : k < lo
    · have hkli : (k : Int) < (lo : Int) := by omega
      have hkO : k < O.length := by rw [unhide HLO]; exact hkl
      obtain ⟨go, oo, hq, cA, cB, cW⟩ := (unhide HO).at (unhide HBL) k hkO
      subst hq
      have HBA := hide ((unhide HBL).alloc hz (Obj.cells #[.int .i64 (O.getD k p0).1, .int .i64 (O.getD k p0).2.1, .bool (O.getD k p0).2.2] 31))
      have HOK : Hid (okO ss tt O k → ∀ j, j < k + 1 → okO ss tt O j) := hide (fun hx j hj => by
        by_cases e : j = k
        · rw [e]; exact hx
        · exact unhide HALL j (by omega))
      have HD : Hid (okO ss tt O k = (0 ≤ (O.getD k p0).1 ∧ (O.getD k p0).1 < ss.length ∧ 0 ≤ (O.getD k p0).2.1 ∧ (O.getD k p0).2.1 < tt.length ∧ eqT ss tt (O.getD k p0).1.toNat (O.getD k p0).2.1.toNat = true ∧ (0 < k → (O.getD (k - 1) p0).1 < (O.getD k p0).1 ∧ (O.getD (k - 1) p0).2.1 < (O.getD k p0).2.1))) := hide rfl
      have HPV : Hid (0 < k → (wr.cell? ⟨go, oo + (k - 1) * 3, none⟩ = some (.int .i64 (O.getD (k - 1) p0).1) ∧ wr.cell? ⟨go, oo + (k - 1) * 3 + 1, none⟩ = some (.int .i64 (O.getD (k - 1) p0).2.1))) := hide (fun hk0 => by
        obtain ⟨g', o', e', d1, d2, d3⟩ := (unhide HO).at (unhide HBL) (k - 1) (by omega)
        cases e'
        exact ⟨d1, d2⟩)
      rw [unhide HD] at HOK
      generalize (O.getD (k - 1) p0).1 = yA at *
      generalize (O.getD (k - 1) p0).2.1 = yB at *
      generalize (O.getD k p0).1 = xA at *
      generalize (O.getD k p0).2.1 = xB at *
      generalize (O.getD k p0).2.2 = xW at *
      clear HD HALL hkO
      by_cases r1 : xA < 0
      · clear HOK HPV
        go_wp2
        go_region
        go_wp2_with fail
        refine (unhide CL _).mono ?_
        rintro e w3 ⟨rfl, hb3⟩
        go_wp2
        go_ret
        exact ⟨rfl, tr2 (unhide HBA).drew hb3⟩
      obtain ⟨i, rfl⟩ : ∃ i : Nat, xA = (i : Int) := ⟨xA.toNat, by omega⟩
      have r1d : decide ((i : Int) < 0) = false := decide_eq_false (by omega)
      clear r1
      by_cases r2 : ss.length ≤ i
      · have r2d : decide (ss.length ≤ i) = true := decide_eq_true r2
        clear HOK HPV
        go_wp2
        go_region
        go_wp2_with fail
        refine (unhide CL _).mono ?_
        rintro e w3 ⟨rfl, hb3⟩
        go_wp2
        go_ret
        exact ⟨rfl, tr2 (unhide HBA).drew hb3⟩
      have r2d : decide (ss.length ≤ i) = false := decide_eq_false r2
      have r2l : (i : Int) < (ss.length : Int) := by omega
      by_cases r3 : xB < 0
      · clear HOK HPV
        go_wp2
        go_region
        go_wp2_with fail
        refine (unhide CL _).mono ?_
        rintro e w3 ⟨rfl, hb3⟩
        go_wp2
        go_ret
        exact ⟨rfl, tr2 (unhide HBA).drew hb3⟩
      obtain ⟨j, rfl⟩ : ∃ j : Nat, xB = (j : Int) := ⟨xB.toNat, by omega⟩
      have r3d : decide ((j : Int) < 0) = false := decide_eq_false (by omega)
      clear r3
      by_cases r4 : tt.length ≤ j
      · have r4d : decide (tt.length ≤ j) = true := decide_eq_true r4
        clear HOK HPV
        go_wp2
        go_region
        go_wp2_with fail
        refine (unhide CL _).mono ?_
        rintro e w3 ⟨rfl, hb3⟩
        go_wp2
        go_ret
        exact ⟨rfl, tr2 (unhide HBA).drew hb3⟩
      have r4d : decide (tt.length ≤ j) = false := decide_eq_false r4
      have r4l : (j : Int) < (tt.length : Int) := by omega
      obtain ⟨ba, oa, ha1, cS⟩ := view_at (unhide HVA) (unhide HBL) i (by omega)
      obtain ⟨bb, ob, hb1, cT⟩ := view_at (unhide HVB) (unhide HBL) j (by omega)
      subst ha1
      subst hb1
      have HEQ : Hid (eqT ss tt i j = decide ((tx ss i).data.toList = (tx tt j).data.toList)) := hide rfl
      rw [Int.toNat_natCast, Int.toNat_natCast] at HOK
      generalize tx ss i = s1 at *
      generalize tx tt j = s2 at *
      have bA : Below wr.heap.size wr (wr.alloc (Obj.cells #[.int .i64 (i : Int), .int .i64 (j : Int), .bool xW] 31)) := (Below.refl _ _).alloc (Nat.le_refl _) _
      have cS' : (wr.alloc (Obj.cells #[.int .i64 (i : Int), .int .i64 (j : Int), .bool xW] 31)).cell? ⟨ba, oa + i, none⟩ = some (.string s1) := cell_on bA cS
      have cT' : (wr.alloc (Obj.cells #[.int .i64 (i : Int), .int .i64 (j : Int), .bool xW] 31)).cell? ⟨bb, ob + j, none⟩ = some (.string s2) := cell_on bA cT
      by_cases r5 : s1 = s2
      · subst r5
        have HOK2 : Hid (((0 < k → yA < (i : Int) ∧ yB < (j : Int))) → ∀ j, j < k + 1 → okO ss tt O j) := hide (fun hx => unhide HOK ⟨by omega, by omega, by omega, by omega, by rw [unhide HEQ]; simp, hx⟩)
        clear HOK HEQ
        by_cases r6 : k = 0
        · have HOK := hide (unhide HOK2 (fun h => by omega))
          have hk0d : decide (0 < k) = false := decide_eq_false (by omega)
          have hk0e : decide ((0 : Int) < (k : Int)) = false := decide_eq_false (by omega)
          clear HOK2 HPV r6
          go_wp2
          go_region
          go_wp2
          go_roundw
          case rel => exact ⟨k + 1, by omega, by go_num, unhide HOK, (unhide HBA).drew⟩
          case measure => simp [intOf]; omega
        · obtain ⟨k', rfl⟩ : ∃ k', k = k' + 1 := ⟨k - 1, by omega⟩
          obtain ⟨dA, dB⟩ := unhide HPV (by omega)
          rw [Nat.add_sub_cancel] at dA dB
          have dA' := cell_on bA dA
          have dB' := cell_on bA dB
          have hk0 : (0 : Int) < (k' : Int) + 1 := by omega
          have hk0d : decide ((0 : Int) < (k' : Int) + 1) = true := decide_eq_true hk0
          by_cases r7 : (i : Int) ≤ yA
          · clear HOK2 HPV
            go_wp2
            go_region
            go_wp2_with fail
            refine (unhide CL _).mono ?_
            rintro e w3 ⟨rfl, hb3⟩
            go_wp2
            go_ret
            exact ⟨rfl, tr2 (unhide HBA).drew hb3⟩
          · have r7d : decide ((i : Int) ≤ yA) = false := decide_eq_false r7
            by_cases r8 : (j : Int) ≤ yB
            · have r8d : decide ((j : Int) ≤ yB) = true := decide_eq_true r8
              clear HOK2 HPV
              go_wp2
              go_region
              go_wp2_with fail
              refine (unhide CL _).mono ?_
              rintro e w3 ⟨rfl, hb3⟩
              go_wp2
              go_ret
              exact ⟨rfl, tr2 (unhide HBA).drew hb3⟩
            · have HOK := hide (unhide HOK2 (fun _ => ⟨by omega, by omega⟩))
              have r8d : decide ((j : Int) ≤ yB) = false := decide_eq_false r8
              clear HOK2 HPV
              go_wp2
              go_region
              go_wp2
              go_roundw
              case rel => exact ⟨k' + 1 + 1, by omega, by go_num, unhide HOK, (unhide HBA).drew⟩
              case measure => simp [intOf]; omega
      · have r5b : (s1.toList == s2.toList) = false := beq_no r5
        clear HOK HPV HEQ
        go_wp2
        go_region
        go_wp2_with fail
        refine (unhide CL _).mono ?_
        rintro e w3 ⟨rfl, hb3⟩
        go_wp2
        go_ret
        exact ⟨rfl, tr2 (unhide HBA).drew hb3⟩
    · have hke : k = lo := by omega
      have hkli : ¬ (k : Int) < (lo : Int) := by omega
      subst hke
      have hle := unhide HLE (fun i hi => unhide HALL i (by rw [← unhide HLO]; exact hi))
      rw [unhide HLO] at hle
      have hlei : (k : Int) ≤ (N : Int) := by omega
      clear HALL HLO HO
      go_wp2_with fail
      refine (unhide CL _).mono ?_
      rintro e w3 ⟨rfl, hb3⟩
      go_wp2
      go_ret
      exact ⟨rfl, tr2 (unhide HBL) hb3⟩
end Go.Proofs.Ytmbhpkjepegogaa
