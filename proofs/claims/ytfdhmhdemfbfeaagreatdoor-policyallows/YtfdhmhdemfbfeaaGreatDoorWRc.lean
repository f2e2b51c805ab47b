/-
  The reference's Check of layer 16.
-/
import Derived.Test.YtfdhmhdemfbfeaaGreatDoorMgBS
import Derived.Test.YtfdhmhdemfbfeaaGreatDoorWLg
namespace Go.Proofs.YtfdhmhdemfbfeaaGreatDoor
open Go.RowKit
set_option linter.unusedVariables false
set_option linter.unusedSimpArgs false

/-- Does one of the first j rules have the name of the rule at i? -/
def elJ (rs : List PRul) (i j : Nat) : Bool := isIn (rs.getD i noR).nm ((rs.map PRul.nm).take j)
def xJ (rs : List PRul) (i j : Nat) : Int := if elJ rs i j = true then 8 else oneR (rs.getD i noR)
theorem map_take {rs : List PRul} {j : Nat} (hj : j < rs.length) : (rs.map PRul.nm).take (j + 1) = (rs.map PRul.nm).take j ++ [(rs.getD j noR).nm] := by
  rw [List.take_add_one, List.getElem?_map, List.getElem?_eq_getElem hj, List.getD, List.getElem?_eq_getElem hj]; rfl
theorem xJ_zero (rs : List PRul) (i : Nat) : xJ rs i 0 = oneR (rs.getD i noR) := by
  unfold xJ elJ
  have : ¬ isIn (rs.getD i noR).nm ((rs.map PRul.nm).take 0) = true := by rw [isIn_iff]; simp
  rw [if_neg this]
theorem xJ_yes {rs : List PRul} {i j : Nat} (hj : j < rs.length) (h : sameS (rs.getD j noR).nm (rs.getD i noR).nm = true) : xJ rs i (j + 1) = 8 := by
  unfold xJ elJ
  rw [if_pos]
  rw [isIn_iff, map_take hj, List.mem_append]
  right
  rw [(same_iff _ _).1 h]; simp
theorem xJ_no {rs : List PRul} {i j : Nat} (hj : j < rs.length) (h : sameS (rs.getD j noR).nm (rs.getD i noR).nm = false) : xJ rs i (j + 1) = xJ rs i j := by
  unfold xJ elJ
  have : isIn (rs.getD i noR).nm ((rs.map PRul.nm).take (j + 1)) = isIn (rs.getD i noR).nm ((rs.map PRul.nm).take j) := by
    rw [Bool.eq_iff_iff, isIn_iff, isIn_iff, map_take hj, List.mem_append]
    constructor
    · rintro (h1 | h1)
      · exact h1
      · exfalso
        have h2 : (rs.getD i noR).nm = (rs.getD j noR).nm := by simpa using h1
        rw [(same_iff _ _).2 h2.symm] at h
        cases h
    · exact Or.inl
  rw [this]
theorem eAt_up {rs : List PRul} {k : Nat} (h : eAt rs k < xJ rs k k) : eAt rs (k + 1) = xJ rs k k := by
  show (if eAt rs k < xAt rs k then xAt rs k else eAt rs k) = _
  exact if_pos h
theorem eAt_on {rs : List PRul} {k : Nat} (h : ¬ eAt rs k < xJ rs k k) : eAt rs (k + 1) = eAt rs k := by
  show (if eAt rs k < xAt rs k then xAt rs k else eAt rs k) = _
  exact if_neg h
/-- What is told behind the first k schemes. -/
def eS (E : Int) (sc : List ByteArray) (k : Nat) : Int := if (sc.take k).all smlB = true then E else 4
theorem eS_yes {E : Int} {zs : List ByteArray} {k : Nat} (hk : k < zs.length) (h : smlB (zs.getD k ByteArray.empty) = true) : eS E zs (k + 1) = eS E zs k := by
  rw [List.getD, List.getElem?_eq_getElem hk] at h
  have h' : smlB zs[k] = true := h
  unfold eS
  rw [List.take_add_one, List.getElem?_eq_getElem hk, List.all_append]
  simp [h']
theorem eS_no {E : Int} {zs : List ByteArray} {k : Nat} (hk : k < zs.length) (h : smlB (zs.getD k ByteArray.empty) = false) : eS E zs (k + 1) = 4 := by
  rw [List.getD, List.getElem?_eq_getElem hk] at h
  have h' : smlB zs[k] = false := h
  unfold eS
  rw [List.take_add_one, List.getElem?_eq_getElem hk, List.all_append]
  simp [h']
theorem sml_empty {s : ByteArray} (h : s.toList.isEmpty = true) : smlB s = false := by unfold smlB; rw [h]; rfl
theorem sml_low {s : ByteArray} (h : s.toList.isEmpty = false) (h2 : bs (lowL s.data.toList) = s) : smlB s = true := by
  unfold smlB
  rw [h, decide_eq_true]; rfl
  have := congrArg (fun x : ByteArray => x.data.toList) h2
  simpa [bs_toList] using this
theorem sml_not {s : ByteArray} (h2 : ¬ bs (lowL s.data.toList) = s) : smlB s = false := by
  unfold smlB
  rw [decide_eq_false]; simp
  intro e; apply h2; rw [e, bs_self]
theorem cap_of {a1 : Option Addr} {n c : Nat} {x y z : Value} (h : CapV (.agg #[.slice a1 n c, x, y, z])) : n ≤ c := by
  obtain ⟨q, n', c', x', y', z', e, hle⟩ := h
  have := congrArg (fun a : Value => match a with | .agg xs => xs[0]? | _ => none) e
  simp at this
  omega

set_option maxHeartbeats 4000000 in
set_option maxRecDepth 20000 in
theorem rcheck_any (v : Value) (p : PPol) (w : World) (hv : PolV w v p) (hcv : CapV v) (ho : PolOk p) :
    Calls Tryz.prog 10 #[v] w fun e w' => e = .returned (.int .i64 (chkR p)) ∧ Below w.heap.size w w' := by
  have CL := hide (fun W hW => long16_any v p W (hv.below (w := w) hW) ho)
  obtain ⟨vr, vs, rfl, h1, h2⟩ := hv
  have HRV := hide h1
  have HSV := hide h2
  obtain ⟨a2, c2, rfl⟩ := h2.slice
  obtain ⟨hrl, a1, c1, rfl, _⟩ := h1
  unfold polC at *
  have hcap := cap_of hcv
  have hsl := h2.1
  have HO := hide ho
  clear h2 hcv ho
  obtain ⟨rs, sc, ot, st⟩ := p
  dsimp only at *
  have al := (Below.refl w.heap.size w).alloc (Nat.le_refl _) (Obj.cells #[.slice a1 rs.length c1, .slice a2 sc.length c2, .int .i64 ot, .int .i64 st] 32)
  have K := hide (Blk.new w #[.slice a1 rs.length c1, .slice a2 sc.length c2, .int .i64 ot, .int .i64 st] 32)
  have CL1 := hide (unhide CL _ al)
  clear CL al
  cases hlo : longB ⟨rs, sc, ot, st⟩ with
  | true =>
    have HH : Hid (chkR ⟨rs, sc, ot, st⟩ = 2) := hide (by unfold chkR; rw [hlo]; rfl)
    rw [hlo] at CL1
    clear hlo
    go_enter Tryz.func10, Tryz.ntmps10
    go_wp2_with fail
    refine (unhide CL1).mono ?_
    rintro e1 w1 ⟨rfl, hb1⟩
    go_wp2
    go_ret
    exact ⟨by rw [unhide HH]; rfl, bel_of hb1⟩
  | false =>
  have HSH := hide (sh_parts (p := ⟨rs, sc, ot, st⟩) (by unfold longB at hlo; simpa using hlo)).2.2
  have HCH : Hid (chkR ⟨rs, sc, ot, st⟩ = if eAt rs rs.length = 8 then 8 else if (remB ot && remB st) = false then 4 else if sc.all smlB = false then 4 else eAt rs rs.length) := hide (by unfold chkR; rw [hlo]; rfl)
  rw [hlo] at CL1
  clear hlo
  go_enter Tryz.func10, Tryz.ntmps10
  go_wp2_with fail
  refine (unhide CL1).mono ?_
  rintro e1 w1 ⟨rfl, hb1⟩
  have K1 := hide ((unhide K).later hb1)
  have HB1 := hide (bel_of hb1)
  have x0 : w1.cell? ⟨w.heap.size, 0, none⟩ = some (.slice a1 rs.length c1) := (unhide K1).cell 0
  have hlt1 : w.heap.size < w1.heap.size := (unhide K1).lt
  clear hb1 K CL1
  go_wp2
  go_loopw [3, 16] (fun e i wr => ∃ k : Nat, k ≤ rs.length ∧ i = .int .i64 k ∧ e = .int .i64 (eAt rs k) ∧ Below w1.heap.size w1 wr) (fun _ i _ => rs.length - (intOf i).toNat)
  case atStart => exact ⟨0, Nat.zero_le _, rfl, rfl, Below.refl _ _⟩
  case round =>
    obtain ⟨k, hk, rfl, rfl, hbw⟩ := hrel
    have hsz := hbw.size
    generalize wr = wo at *
    by_cases hp : k < rs.length
    · have hpi : (k : Int) < (rs.length : Int) := by omega
      have hkc : (k : Int) ≤ (c1 : Int) := by omega
      obtain ⟨_, a9, c9, e9, hcs⟩ := (unhide HRV).below ((unhide HB1).trans (hbw.mono (unhide HB1).size))
      cases e9
      obtain ⟨b, off, rfl, hcell⟩ := hcs (by omega)
      have y0 := cell_on hbw x0
      have HCELL := hide hcell
      obtain ⟨va, vl, d0, d1, d2, d3, hva, hvl⟩ := hcell k hp
      have hro := (unhide HO).1 _ (getD_in _ noR k hp)
      have hsh := unhide HSH _ (getD_in _ noR k hp)
      have alr := (Below.refl wo.heap.size wo).alloc (Nat.le_refl _) (Obj.cells (rulC (rs.getD k noR) va vl) 53)
      have C1 := hide (one_any (.agg (rulC (rs.getD k noR) va vl)) (rs.getD k noR) _ ⟨va, vl, rfl, viewN_below hva alr, viewN_below hvl alr⟩ hro (by omega) (by omega))
      have KR := hide (Blk.new wo (rulC (rs.getD k noR) va vl) 53)
      have HX0 := hide (xJ_zero rs k)
      have HXY := hide (fun j hj h => @xJ_yes rs k j hj h)
      have HXN := hide (fun j hj h => @xJ_no rs k j hj h)
      have HEU := hide (@eAt_up rs k)
      have HEO := hide (@eAt_on rs k)
      obtain ⟨q1, m1, hq1⟩ := hva.1.slice
      obtain ⟨q2, m2, hq2⟩ := hvl.1.slice
      subst hq1 hq2
      unfold rulC at C1 KR
      clear hcell hva hvl hcs alr hro hsh
      generalize oneR (rs.getD k noR) = one at *
      generalize eAt rs k = E at *
      generalize hR : rs.getD k noR = r at *
      obtain ⟨nm, ac, ats, lks⟩ := r
      dsimp only at *
      generalize ats.length = l1 at *
      generalize lks.length = l2 at *
      clear hR
      go_wp2_with fail
      refine (unhide C1).mono ?_
      rintro e1 w2 ⟨rfl, hb2⟩
      have hb02 := bel_of hb2
      have kr0 : w2.cell? ⟨wo.heap.size, 0, none⟩ = some (.string nm) := ((unhide KR).later hb2).cell 0
      have hlt2 : wo.heap.size < w2.heap.size := ((unhide KR).later hb2).lt
      have z0 := cell_on hb02 y0
      have HB02 := hide hb02
      have HBW := hide hbw
      clear hb2 KR C1 d0 d1 d2 d3 y0 hb02 hbw
      go_wp2
      go_loopw [6, 28] (fun x i wi => ∃ j : Nat, j ≤ k ∧ i = .int .i64 j ∧ x = .int .i64 (xJ rs k j) ∧ Below w2.heap.size w2 wi) (fun _ i _ => k - (intOf i).toNat)
      case atStart => exact ⟨0, Nat.zero_le _, rfl, by rw [unhide HX0], Below.refl _ _⟩
      case round =>
        obtain ⟨j, hj, rfl, rfl, hbi⟩ := hrel
        have hszi := hbi.size
        have kr := cell_on hbi kr0
        have hlt3 : wo.heap.size < wr.heap.size := by omega
        by_cases hq : j < k
        · have hqi : (j : Int) < (k : Int) := by omega
          obtain ⟨va', vl', f0', f1', f2', f3', g1, g2⟩ := unhide HCELL j (by omega)
          have f0 := cell_on hbi (cell_on (unhide HB02) f0')
          have f1 := cell_on hbi (cell_on (unhide HB02) f1')
          have f2 := cell_on hbi (cell_on (unhide HB02) f2')
          have f3 := cell_on hbi (cell_on (unhide HB02) f3')
          obtain ⟨q3, m3, hq3⟩ := g1.1.slice
          obtain ⟨q4, m4, hq4⟩ := g2.1.slice
          subst hq3 hq4
          have hy := unhide HXY j (by omega)
          have hn := unhide HXN j (by omega)
          clear f0' f1' f2' f3' g1 g2
          generalize rs.getD j noR = s at *
          obtain ⟨nm', ac', ats', lks'⟩ := s
          dsimp only at *
          generalize ats'.length = l3 at *
          generalize lks'.length = l4 at *
          cases hx : sameS nm' nm with
          | true =>
            have H := hide (hy hx)
            unfold sameS at hx
            clear hy hn
            generalize xJ rs k j = X at *
            go_wp2
            go_roundw
            case rel => exact ⟨j + 1, by omega, by go_num, by rw [unhide H], hbi.alloc hszi _⟩
            case measure => simp [intOf]; omega
          | false =>
            have H := hide (hn hx)
            unfold sameS at hx
            clear hy hn
            generalize xJ rs k j = X at *
            go_wp2
            go_roundw
            case rel => exact ⟨j + 1, by omega, by go_num, by rw [unhide H], hbi.alloc hszi _⟩
            case measure => simp [intOf]; omega
        · have hjk : j = k := by omega
          subst hjk
          have HBF := hide ((unhide HBW).trans (((unhide HB02).trans (hbi.mono (unhide HB02).size)).mono hsz))
          generalize xJ rs j j = X at *
          by_cases hgt : E < X
          · have H := hide (unhide HEU hgt)
            go_wp2
            go_roundw
            case rel => exact ⟨j + 1, by omega, by go_num, by rw [unhide H], unhide HBF⟩
            case measure => simp [intOf]; omega
          · have H := hide (unhide HEO (by omega))
            go_wp2
            go_roundw
            case rel => exact ⟨j + 1, by omega, by go_num, by rw [unhide H], unhide HBF⟩
            case measure => simp [intOf]; omega
    · have hkn : k = rs.length := by omega
      subst hkn
      generalize eAt rs rs.length = E at *
      by_cases h8 : E = 8
      · subst h8
        have HD := hide ((unhide HB1).trans (hbw.mono (unhide HB1).size))
        go_wp2
        go_ret
        exact ⟨by rw [unhide HCH]; rfl, unhide HD⟩
      · have i8 : (E == 8) = false := beqI _ _ h8
        have HCH2 := hide ((unhide HCH).trans (if_neg h8))
        have HDB := hide ((unhide HB1).trans (hbw.mono (unhide HB1).size))
        have y1 : wo.cell? ⟨w.heap.size, 1, none⟩ = some (.slice a2 sc.length c2) := cell_on hbw ((unhide K1).cell 1)
        have KO := hide ((unhide K1).below hbw hlt1)
        have hlto : w.heap.size < wo.heap.size := (unhide KO).lt
        clear h8 HCH hbw x0
        go_wp2
        go_loopw [3, 49] (fun e i wr => ∃ k : Nat, k ≤ sc.length ∧ i = .int .i64 k ∧ e = .int .i64 (eS E sc k) ∧ Below wo.heap.size wo wr) (fun _ i _ => sc.length - (intOf i).toNat)
        case atStart => exact ⟨0, Nat.zero_le _, rfl, rfl, Below.refl _ _⟩
        case round =>
          obtain ⟨k, hk, rfl, rfl, hbi⟩ := hrel
          by_cases hq : k < sc.length
          · have hqi : (k : Int) < (sc.length : Int) := by omega
            obtain ⟨_, a9, c9, e9, hc⟩ := view_below (unhide HSV) ((unhide HDB).trans (hbi.mono (unhide HDB).size))
            cases e9
            obtain ⟨b, off, rfl, hcell⟩ := hc (by omega)
            have hck := hcell k hq
            have C := hide (fun W => rlower_long (sc.getD k ByteArray.empty) W ((unhide HO).2 _ (getD_in _ _ _ hq)))
            have hy := @eS_yes E sc k hq
            have hn := @eS_no E sc k hq
            have HBI := hide hbi
            clear hcell hc hbi
            cases he : (sc.getD k ByteArray.empty).toList.isEmpty with
            | true =>
              have H := hide (hn (sml_empty he))
              clear hy hn C
              generalize eS E sc k = X at *
              generalize sc.getD k ByteArray.empty = y at *
              go_wp2
              go_roundw
              case rel => exact ⟨k + 1, by omega, by go_num, by rw [unhide H], unhide HBI⟩
              case measure => simp [intOf]; omega
            | false =>
              by_cases hlo : bs (lowL (sc.getD k ByteArray.empty).data.toList) = sc.getD k ByteArray.empty
              · have H := hide (hy (sml_low he hlo))
                rw [hlo] at C
                clear hy hn hlo
                generalize eS E sc k = X at *
                generalize sc.getD k ByteArray.empty = y at *
                have hyy := beq_yes (rfl : y = y)
                go_wp2_with fail
                refine (unhide C _).mono ?_
                rintro e1 w5 ⟨rfl, hb5⟩
                go_wp2
                go_roundw
                case rel => exact ⟨k + 1, by omega, by go_num, by rw [unhide H], tr2 (unhide HBI) hb5⟩
                case measure => simp [intOf]; omega
              · have H := hide (hn (sml_not hlo))
                have hyy := beq_no hlo
                clear hy hn
                generalize eS E sc k = X at *
                generalize bs (lowL (sc.getD k ByteArray.empty).data.toList) = z at *
                generalize sc.getD k ByteArray.empty = y at *
                clear hlo
                go_wp2_with fail
                refine (unhide C _).mono ?_
                rintro e1 w5 ⟨rfl, hb5⟩
                go_wp2
                go_roundw
                case rel => exact ⟨k + 1, by omega, by go_num, by rw [unhide H], tr2 (unhide HBI) hb5⟩
                case measure => simp [intOf]; omega
          · have hkn : k = sc.length := by omega
            subst hkn
            have HES : Hid (eS E sc sc.length = if sc.all smlB = true then E else 4) := hide (by unfold eS; rw [List.take_length])
            have z2 : wr.cell? ⟨w.heap.size, 2, none⟩ = some (.int .i64 ot) := cell_on hbi ((unhide KO).cell 2)
            have z3 : wr.cell? ⟨w.heap.size, 3, none⟩ = some (.int .i64 st) := cell_on hbi ((unhide KO).cell 3)
            have HFB := hide ((unhide HDB).trans (hbi.mono (unhide HDB).size))
            have HFI : Hid ((remB ot && remB st) = true → chkR ⟨rs, sc, ot, st⟩ = eS E sc sc.length) := hide (fun h => by
              rw [unhide HCH2, h, if_neg (by decide), unhide HES]
              cases sc.all smlB <;> rfl)
            have HFN : Hid ((remB ot && remB st) = false → chkR ⟨rs, sc, ot, st⟩ = 4) := hide (fun h => by
              rw [unhide HCH2, h, if_pos rfl])
            generalize eS E sc sc.length = X at *
            clear hbi HES HCH2
            by_cases o2 : ot = 2
            · subst o2
              by_cases s2 : st = 2
              · subst s2
                go_wp2
                go_ret
                exact ⟨by rw [unhide HFI (by decide)]; first | done | rfl, unhide HFB⟩
              have s2' : (st == 2) = false := beqI _ _ s2
              have s2'' : (st != 2) = true := bneI' _ _ s2
              by_cases s3 : st = 3
              · subst s3
                go_wp2
                go_ret
                exact ⟨by rw [unhide HFI (by decide)]; first | done | rfl, unhide HFB⟩
              have s3' : (st == 3) = false := beqI _ _ s3
              have s3'' : (st != 3) = true := bneI' _ _ s3
              have H := hide (unhide HFN (by rw [rem_no (a := st) (by omega)]; simp))
              clear s2 s3
              go_wp2
              go_ret
              exact ⟨by rw [unhide H]; first | done | rfl, unhide HFB⟩
            have o2' : (ot == 2) = false := beqI _ _ o2
            have o2'' : (ot != 2) = true := bneI' _ _ o2
            by_cases o3 : ot = 3
            · subst o3
              clear o2
              by_cases s2 : st = 2
              · subst s2
                go_wp2
                go_ret
                exact ⟨by rw [unhide HFI (by decide)]; first | done | rfl, unhide HFB⟩
              have s2' : (st == 2) = false := beqI _ _ s2
              have s2'' : (st != 2) = true := bneI' _ _ s2
              by_cases s3 : st = 3
              · subst s3
                go_wp2
                go_ret
                exact ⟨by rw [unhide HFI (by decide)]; first | done | rfl, unhide HFB⟩
              have s3' : (st == 3) = false := beqI _ _ s3
              have s3'' : (st != 3) = true := bneI' _ _ s3
              have H := hide (unhide HFN (by rw [rem_no (a := st) (by omega)]; simp))
              clear s2 s3
              go_wp2
              go_ret
              exact ⟨by rw [unhide H]; first | done | rfl, unhide HFB⟩
            have o3' : (ot == 3) = false := beqI _ _ o3
            have o3'' : (ot != 3) = true := bneI' _ _ o3
            have H := hide (unhide HFN (by rw [rem_no (a := ot) (by omega)]; simp))
            clear o2 o3
            go_wp2
            go_ret
            exact ⟨by rw [unhide H]; first | done | rfl, unhide HFB⟩
end Go.Proofs.YtfdhmhdemfbfeaaGreatDoor
