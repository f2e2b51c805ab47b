/-
  'rectolaw16.large' and 'ref' (made by mk_wlg.py).
-/
import Derived.Test.YtfdhmhdemfbfeaaGreatDoorWPn
namespace Go.Proofs.YtfdhmhdemfbfeaaGreatDoor
open Go.RowKit
set_option linter.unusedVariables false
set_option linter.unusedSimpArgs false

def bigR (r : PRul) : Bool := decide (30 < r.ats.length ∨ 30 < r.lks.length ∨ 200 < r.nm.size)
def lgP (p : PPol) : Bool := decide (80 < p.rs.length ∨ 60 < p.sc.length) || p.rs.any bigR
theorem any_no {P : PRul → Bool} {rs : List PRul} (h : ∀ j, j < rs.length → P (rs.getD j noR) = false) : rs.any P = false := by
  rw [List.any_eq_false]
  intro x hx
  obtain ⟨j, hj, e⟩ := List.getElem_of_mem hx
  have := h j hj
  rw [List.getD, List.getElem?_eq_getElem hj] at this
  rw [← e]; simpa using this
theorem any_yes {P : PRul → Bool} {rs : List PRul} {k : Nat} (hk : k < rs.length) (h : P (rs.getD k noR) = true) : rs.any P = true := by
  rw [List.any_eq_true]
  exact ⟨rs.getD k noR, getD_in _ _ _ hk, h⟩
theorem lg_parts {p : PPol} (h : lgP p = false) : p.rs.length ≤ 80 ∧ p.sc.length ≤ 60 ∧ ∀ r ∈ p.rs, r.ats.length ≤ 30 ∧ r.lks.length ≤ 30 ∧ r.nm.size ≤ 200 := by
  unfold lgP at h
  rw [Bool.or_eq_false_iff, decide_eq_false_iff_not, List.any_eq_false] at h
  refine ⟨by omega, by omega, fun r hr => ?_⟩
  have := h.2 r hr
  unfold bigR at this
  rw [decide_eq_true_eq] at this
  omega

set_option maxHeartbeats 2000000 in
theorem large16_any (v : Value) (p : PPol) (w : World) (hv : PolV w v p) (ho : PolOk p) :
    Calls Tryz.prog 4 #[v] w fun e w' => e = .returned (.bool (lgP p)) ∧ Below w.heap.size w w' := by
  obtain ⟨vr, vs, rfl, h1, h2⟩ := hv
  have HRV := hide h1
  obtain ⟨a2, c2, rfl⟩ := h2.slice
  obtain ⟨hrl, a1, c1, rfl, _⟩ := h1
  unfold polC lgP
  have hsl := h2.1
  have HO := hide ho.1
  clear h2 ho
  obtain ⟨rs, sc, ot, st⟩ := p
  dsimp only at *
  generalize sc.length = n2 at *
  have al := (Below.refl w.heap.size w).alloc (Nat.le_refl _) (Obj.cells #[.slice a1 rs.length c1, .slice a2 n2 c2, .int .i64 ot, .int .i64 st] 25)
  by_cases i1 : 80 < rs.length
  · have j1 : (80 : Int) < (rs.length : Int) := by omega
    rw [decide_eq_true (Or.inl i1)]
    go_enter Tryz.func4, Tryz.ntmps4
    go_wp2
    go_ret
    exact ⟨by simp, al⟩
  have j1 : ¬ (80 : Int) < (rs.length : Int) := by omega
  by_cases i2 : 60 < n2
  · have j2 : (60 : Int) < (n2 : Int) := by omega
    rw [decide_eq_true (Or.inr i2)]
    go_enter Tryz.func4, Tryz.ntmps4
    go_wp2
    go_ret
    exact ⟨by simp, al⟩
  have j2 : ¬ (60 : Int) < (n2 : Int) := by omega
  rw [decide_eq_false (show ¬ (80 < rs.length ∨ 60 < n2) by omega), Bool.false_or]
  have HN := hide (@any_no bigR rs)
  have HY := hide (fun k hk h => @any_yes bigR rs k hk h)
  clear i1 i2
  go_enter Tryz.func4, Tryz.ntmps4
  go_wp2
  go_loopw [18] (fun i wr => ∃ k : Nat, k ≤ rs.length ∧ i = .int .i64 k ∧ (∀ j, j < k → bigR (rs.getD j noR) = false) ∧ Below w.heap.size w wr) (fun i _ => rs.length - (intOf i).toNat)
  case atStart => exact ⟨0, Nat.zero_le _, rfl, fun j hj => absurd hj (Nat.not_lt_zero _), al⟩
  case round =>
    clear al
    obtain ⟨k, hk, rfl, hr, hbw⟩ := hrel
    have HR := hide hr
    clear hr
    have hsz := hbw.size
    by_cases hp : k < rs.length
    · have hpi : (k : Int) < (rs.length : Int) := by omega
      obtain ⟨_, a9, c9, e9, hcs⟩ := (unhide HRV).below hbw
      cases e9
      obtain ⟨b, off, rfl, hcell⟩ := hcs (by omega)
      obtain ⟨va, vl, d0, d1, d2, d3, hva, hvl⟩ := hcell k hp
      have hro := unhide HO _ (getD_in _ noR k hp)
      obtain ⟨q1, m1, rfl⟩ := hva.1.slice
      obtain ⟨q2, m2, rfl⟩ := hvl.1.slice
      have hyk := unhide HY k hp
      have HR2 : Hid (bigR (rs.getD k noR) = false → ∀ j, j < k + 1 → bigR (rs.getD j noR) = false) := hide (fun hx j hj => by
        by_cases ej : j = k
        · rw [ej]; exact hx
        · exact unhide HR j (by omega))
      clear hcell hva hvl hcs
      have hbg : bigR (rs.getD k noR) = decide (30 < (rs.getD k noR).ats.length ∨ 30 < (rs.getD k noR).lks.length ∨ 200 < (rs.getD k noR).nm.size) := rfl
      rw [hbg] at hyk HR2
      obtain ⟨z1, _, _, z2, z3⟩ := hro
      clear hbg
      generalize rs.getD k noR = r at *
      obtain ⟨nm, ac, ats, lks⟩ := r
      dsimp only at *
      generalize ats.length = l1 at *
      generalize lks.length = l2 at *
      by_cases i1 : 30 < l1
      · have g1 : (30 : Int) < (l1 : Int) := by omega
        have H := hide (hyk (decide_eq_true (Or.inl i1)))
        clear hyk HR2
        go_wp2
        go_ret
        exact ⟨by rw [unhide H]; rfl, hbw.alloc hsz _⟩
      have g1 : ¬ (30 : Int) < (l1 : Int) := by omega
      by_cases i2 : 30 < l2
      · have g2 : (30 : Int) < (l2 : Int) := by omega
        have H := hide (hyk (decide_eq_true (Or.inr (Or.inl i2))))
        clear hyk HR2
        go_wp2
        go_ret
        exact ⟨by rw [unhide H]; rfl, hbw.alloc hsz _⟩
      have g2 : ¬ (30 : Int) < (l2 : Int) := by omega
      by_cases i3 : 200 < nm.size
      · have g3 : (200 : Int) < (nm.size : Int) := by omega
        have H := hide (hyk (decide_eq_true (Or.inr (Or.inr i3))))
        clear hyk HR2
        go_wp2
        go_ret
        exact ⟨by rw [unhide H]; rfl, hbw.alloc hsz _⟩
      have g3 : ¬ (200 : Int) < (nm.size : Int) := by omega
      have H := hide (unhide HR2 (decide_eq_false (by omega)))
      clear hyk HR2 i1 i2 i3
      go_wp2
      go_roundw
      case rel => exact ⟨k + 1, by omega, by go_num, unhide H, hbw.alloc hsz _⟩
      case measure => simp [intOf]; omega
    · have hkn : k = rs.length := by omega
      have H := hide (unhide HN (by rw [← hkn]; exact unhide HR))
      go_wp2
      go_ret
      exact ⟨by rw [unhide H]; rfl, hbw⟩

theorem Tryz.infoRef : (Tryz.prog.info? 53).map (fun i => (i.zero, i.size, i.bytes)) = some (some (.agg #[.string ⟨#[]⟩, .int .i64 0, .slice none 0 0, .slice none 0 0]), 4, 72) := by kernel_rfl
/-- Cells that tell the first k rules. -/
def TellK (w : World) (rs : List PRul) (k : Nat) (xs : List Value) : Prop := xs.length = k * 4 ∧ ∀ i, i < k → ∃ va vl, xs[i * 4]? = some (.string (rs.getD i noR).nm) ∧ xs[i * 4 + 1]? = some (.int .i64 (rs.getD i noR).ac) ∧ xs[i * 4 + 2]? = some va ∧ xs[i * 4 + 3]? = some vl ∧ ViewN w va (rs.getD i noR).ats ∧ ViewN w vl (rs.getD i noR).lks
theorem tell_next {w : World} {rs : List PRul} {k : Nat} {xs : List Value} (h : TellK w rs k xs) {va vl : Value} (h1 : ViewN w va (rs.getD k noR).ats) (h2 : ViewN w vl (rs.getD k noR).lks) : TellK w rs (k + 1) (xs ++ [.string (rs.getD k noR).nm, .int .i64 (rs.getD k noR).ac, va, vl]) := by
  refine ⟨by rw [List.length_append, h.1]; simp; omega, fun i hi => ?_⟩
  by_cases e : i = k
  · subst e
    have hl := h.1
    refine ⟨va, vl, ?_, ?_, ?_, ?_, h1, h2⟩
    · rw [List.getElem?_append_right (by omega), show i * 4 - xs.length = 0 by omega]; rfl
    · rw [List.getElem?_append_right (by omega), show i * 4 + 1 - xs.length = 1 by omega]; rfl
    · rw [List.getElem?_append_right (by omega), show i * 4 + 2 - xs.length = 2 by omega]; rfl
    · rw [List.getElem?_append_right (by omega), show i * 4 + 3 - xs.length = 3 by omega]; rfl
  · obtain ⟨va', vl', e0, e1, e2, e3, e4, e5⟩ := h.2 i (by omega)
    have hl := h.1
    exact ⟨va', vl', by rw [List.getElem?_append_left (by omega)]; exact e0, by rw [List.getElem?_append_left (by omega)]; exact e1, by rw [List.getElem?_append_left (by omega)]; exact e2, by rw [List.getElem?_append_left (by omega)]; exact e3, e4, e5⟩

/-- The rules' slice may be cut. -/
def CapV (v : Value) : Prop := ∃ q n c x y z, v = .agg #[.slice q n c, x, y, z] ∧ n ≤ c
set_option maxHeartbeats 4000000 in
set_option maxRecDepth 20000 in
theorem refP_any (v : Value) (p : PPol) (w : World) (hv : PolV w v p) (h80 : p.rs.length ≤ 80) :
    Calls Tryz.prog 7 #[v] w fun e w' => (∃ v', e = .returned v' ∧ PolV w' v' p ∧ CapV v') ∧ Below w.heap.size w w' := by
  obtain ⟨vr, vs, rfl, h1, h2⟩ := hv
  have HRV := hide h1
  have HSV := hide h2
  obtain ⟨a2, c2, rfl⟩ := h2.slice
  obtain ⟨hrl, a1, c1, rfl, _⟩ := h1
  unfold polC
  clear h2
  obtain ⟨rs, sc, ot, st⟩ := p
  dsimp only at *
  generalize hn2 : sc.length = n2 at *
  have HN2 := hide hn2
  clear hn2
  obtain ⟨i0, hi, hz0, hz1, hz2⟩ := info_parts Tryz.infoRef
  have al : Hid (Below w.heap.size w (((w.alloc (Obj.cells #[.slice a1 rs.length c1, .slice a2 n2 c2, .int .i64 ot, .int .i64 st] 25)).alloc (Obj.cells #[.slice none 0 0, .slice none 0 0, .int .i64 0, .int .i64 0] 32)).alloc (Obj.cells #[.slice none 0 0, .slice a2 n2 c2, .int .i64 ot, .int .i64 st] 32))) := hide ((((Below.refl _ _).alloc (Nat.le_refl _) _).alloc (by simp) _).alloc (by simp; omega) _)
  have K1 : Hid (Blk (((w.alloc (Obj.cells #[.slice a1 rs.length c1, .slice a2 n2 c2, .int .i64 ot, .int .i64 st] 25)).alloc (Obj.cells #[.slice none 0 0, .slice none 0 0, .int .i64 0, .int .i64 0] 32)).alloc (Obj.cells #[.slice none 0 0, .slice a2 n2 c2, .int .i64 ot, .int .i64 st] 32)) (w.heap.size + 1) #[.slice none 0 0, .slice none 0 0, .int .i64 0, .int .i64 0] 32) := hide ((blk_next (by simp)).alloc _)
  have K2 : Hid (Blk (((w.alloc (Obj.cells #[.slice a1 rs.length c1, .slice a2 n2 c2, .int .i64 ot, .int .i64 st] 25)).alloc (Obj.cells #[.slice none 0 0, .slice none 0 0, .int .i64 0, .int .i64 0] 32)).alloc (Obj.cells #[.slice none 0 0, .slice a2 n2 c2, .int .i64 ot, .int .i64 st] 32)) (w.heap.size + 2) #[.slice none 0 0, .slice a2 n2 c2, .int .i64 ot, .int .i64 st] 32) := hide (blk_next (by simp))
  have hs3 : Hid (w.heap.size + 3 ≤ (((w.alloc (Obj.cells #[.slice a1 rs.length c1, .slice a2 n2 c2, .int .i64 ot, .int .i64 st] 25)).alloc (Obj.cells #[.slice none 0 0, .slice none 0 0, .int .i64 0, .int .i64 0] 32)).alloc (Obj.cells #[.slice none 0 0, .slice a2 n2 c2, .int .i64 ot, .int .i64 st] 32)).heap.size) := hide (by simp)
  go_enter Tryz.func7, Tryz.ntmps7
  go_wp2
  go_loopw [16] (fun i wr => ∃ (k : Nat) (vn : Value) (xs : List Value), k ≤ rs.length ∧ i = .int .i64 k ∧ wr.ownsRow (w.heap.size + 3) 53 4 vn k xs ∧ TellK w rs k xs ∧ Blk wr (w.heap.size + 1) #[.slice none 0 0, .slice none 0 0, .int .i64 0, .int .i64 0] 32 ∧ Blk wr (w.heap.size + 2) #[vn, .slice a2 n2 c2, .int .i64 ot, .int .i64 st] 32 ∧ w.heap.size + 3 ≤ wr.heap.size ∧ Below w.heap.size w wr) (fun i _ => rs.length - (intOf i).toNat)
  case atStart => exact ⟨0, .slice none 0 0, [], Nat.zero_le _, rfl, World.ownsRow_nil _ _ _ _, ⟨rfl, fun i hi => absurd hi (Nat.not_lt_zero _)⟩, unhide K1, unhide K2, unhide hs3, unhide al⟩
  case round =>
    clear K1 K2 al hs3
    obtain ⟨k, vn, xs, hk, rfl, hown, htell, k1, k2, hs3, hbw⟩ := hrel
    have hsz := hbw.size
    have HK1 := hide k1
    have HK2 := hide k2
    have HT := hide htell
    obtain ⟨qn, mn, cn, hvn⟩ := slice_of hown
    subst hvn
    by_cases hp : k < rs.length
    · have hpi : (k : Int) < (rs.length : Int) := by omega
      obtain ⟨_, a9, c9, e9, hcs⟩ := unhide HRV
      cases e9
      obtain ⟨b, off, rfl, hcell⟩ := hcs (by omega)
      obtain ⟨va, vl, d0', d1', d2', d3', hva, hvl⟩ := hcell k hp
      have d0 := cell_on hbw d0'
      have d1 := cell_on hbw d1'
      have d2 := cell_on hbw d2'
      have d3 := cell_on hbw d3'
      clear d0' d1' d2' d3'
      have HT2 := hide (tell_next (unhide HT) hva hvl)
      obtain ⟨q1, m1, rfl⟩ := hva.1.slice
      obtain ⟨q2, m2, rfl⟩ := hvl.1.slice
      have x0 : wr.cell? ⟨w.heap.size + 2, 0, none⟩ = some (.slice qn mn cn) := k2.cell 0
      have hq2 : w.heap.size + 2 < wr.heap.size := by omega
      clear hcell hva hvl hcs htell k1 k2
      generalize rs.getD k noR = r at *
      obtain ⟨nm, ac, ats, lks⟩ := r
      dsimp only at *
      generalize ats.length = l1 at *
      generalize lks.length = l2 at *
      go_wp2_with (at_builtin; refine wpList_append_own _ rfl _ _ 30 rfl (w.heap.size + 3) 53 i0 (.agg #[.string ⟨#[]⟩, .int .i64 0, .slice none 0 0, .slice none 0 0]) 4 72 Tryz.underlying30 hi hz0 hz1 hz2 rfl (by decide) _ _ _ rfl ((hown.alloc _).alloc _) ⟨wr.heap.size + 1, 0, none⟩ 1 1 [.string nm, .int .i64 ac, .slice q1 l1 m1, .slice q2 l2 m2] rfl rfl ?c1 ?c2 ?c3 ?c4 ?c5 ?_)
      case c1 =>
        intro j u hj
        have e2 : (⟨wr.heap.size + 1, 0, none⟩ : Addr).add j = ⟨wr.heap.size + 1, j, none⟩ := by unfold Addr.add; split <;> simp_all
        rw [e2, (blk_next (w := wr.alloc (Obj.cells #[.string nm, .int .i64 ac, .slice q1 l1 m1, .slice q2 l2 m2] 41)) (vs := #[.string nm, .int .i64 ac, .slice q1 l1 m1, .slice q2 l2 m2]) (t := 53) (n := wr.heap.size + 1) (by simp)).cell j]
        simpa using hj
      case c2 => intro u hu; simp at hu; rcases hu with rfl | rfl | rfl | rfl <;> rfl
      case c3 => unfold maxLen; omega
      case c4 => omega
      case c5 => simp; omega
      intro v' w2 hown' hgrow _
      have hbig : Below w.heap.size w w2 := ((hbw.alloc hsz _).alloc (by simp; omega) _).grown hgrow (by simp; omega) (fun j hj => by have := (hown.lt j hj).1; omega)
      have hne : ∀ b, b < w.heap.size + 3 → some b ≠ (Value.slice qn mn cn).ownBlock := fun b hb e => by
        have := (hown.lt b e.symm).1
        omega
      have k1 := blk_own (((unhide HK1).alloc _).alloc _) hgrow (hne _ (by omega))
      have k2 := blk_own (((unhide HK2).alloc _).alloc _) hgrow (hne _ (by omega))
      have K1' := hide k1
      have K2' := hide k2
      have x0' : w2.cell? ⟨w.heap.size + 2, 0, none⟩ = some (.slice qn mn cn) := k2.cell 0
      have y0' : w2.frozen? ⟨w.heap.size + 2, 0, none⟩ = false := k2.frozen 0
      have hq2' : w.heap.size + 3 ≤ w2.heap.size := k2.lt
      have HO' := hide (ownsRow_setCell_below hown' (a := ⟨w.heap.size + 2, 0, none⟩) (show w.heap.size + 2 < w.heap.size + 3 by omega) v')
      obtain ⟨qv, mv, cv, hvv⟩ := slice_of hown'
      subst hvv
      clear hgrow hne x0 k1 k2 hown'
      go_wp2
      go_roundw
      case rel => exact ⟨k + 1, _, _, by omega, by go_num, unhide HO', unhide HT2, (unhide K1').away (by omega) _, (unhide K2').set 0 (by simp) _, by simp; omega, hbig.setCell (by simp; omega) _⟩
      case measure => simp [intOf]; omega
    · have hkn : k = rs.length := by omega
      have x0 : wr.cell? ⟨w.heap.size + 2, 0, none⟩ = some (.slice qn mn cn) := k2.cell 0
      have x1 : wr.cell? ⟨w.heap.size + 2, 1, none⟩ = some (.slice a2 n2 c2) := k2.cell 1
      have x2 : wr.cell? ⟨w.heap.size + 2, 2, none⟩ = some (.int .i64 ot) := k2.cell 2
      have x3 : wr.cell? ⟨w.heap.size + 2, 3, none⟩ = some (.int .i64 st) := k2.cell 3
      have y0 : wr.cell? ⟨w.heap.size + 1, 0, none⟩ = some (.slice none 0 0) := k1.cell 0
      have y1 : wr.cell? ⟨w.heap.size + 1, 1, none⟩ = some (.slice none 0 0) := k1.cell 1
      have y2 : wr.cell? ⟨w.heap.size + 1, 2, none⟩ = some (.int .i64 0) := k1.cell 2
      have y3 : wr.cell? ⟨w.heap.size + 1, 3, none⟩ = some (.int .i64 0) := k1.cell 3
      have u0 := k1.frozen 0
      have u1 := k1.frozen 1
      have u2 := k1.frozen 2
      have u3 := k1.frozen 3
      have HOW := hide hown
      clear k1 k2 hown htell
      go_wp2
      have kk := ((((unhide HK1).set 0 (by simp) (.slice qn mn cn)).set 1 (by simp) (.slice a2 n2 c2)).set 2 (by simp) (.int .i64 ot)).set 3 (by simp) (.int .i64 st)
      have dd0 := kk.cell 0
      have dd1 := kk.cell 1
      have dd2 := kk.cell 2
      have dd3 := kk.cell 3
      refine bodyPost_ret (v := .agg #[.slice qn mn cn, .slice a2 n2 c2, .int .i64 ot, .int .i64 st]) (by simp [results, Tryz.results7, go_sem, dd0, dd1, dd2, dd3]) rfl ?_
      have hbf : Below w.heap.size w ((((wr.setCell ⟨w.heap.size + 1, 0, none⟩ (.slice qn mn cn)).setCell ⟨w.heap.size + 1, 1, none⟩ (.slice a2 n2 c2)).setCell ⟨w.heap.size + 1, 2, none⟩ (.int .i64 ot)).setCell ⟨w.heap.size + 1, 3, none⟩ (.int .i64 st)) := (((hbw.setCell (by simp) _).setCell (by simp) _).setCell (by simp) _).setCell (by simp) _
      have hof := ownsRow_setCell_below (ownsRow_setCell_below (ownsRow_setCell_below (ownsRow_setCell_below (unhide HOW) (a := ⟨w.heap.size + 1, 0, none⟩) (show w.heap.size + 1 < w.heap.size + 3 by omega) (.slice qn mn cn)) (a := ⟨w.heap.size + 1, 1, none⟩) (show w.heap.size + 1 < w.heap.size + 3 by omega) (.slice a2 n2 c2)) (a := ⟨w.heap.size + 1, 2, none⟩) (show w.heap.size + 1 < w.heap.size + 3 by omega) (.int .i64 ot)) (a := ⟨w.heap.size + 1, 3, none⟩) (show w.heap.size + 1 < w.heap.size + 3 by omega) (.int .i64 st)
      have hcap : mn ≤ cn := by
        rcases hof.2 with ⟨h9, _⟩ | ⟨g, cap, cur, h9, _, _, h4, _⟩
        · cases h9; omega
        · cases h9; exact h4
      refine ⟨⟨_, rfl, ⟨_, _, rfl, ?_, ?_⟩, ⟨_, _, _, _, _, _, rfl, hcap⟩⟩, hbf⟩
      · dsimp only
        by_cases h0 : 0 < k
        · obtain ⟨g, cap, hv9, _, _, hc⟩ := row_cell hof h0
          cases hv9
          refine ⟨hrl, _, _, by rw [← hkn], fun _ => ⟨g, 0, rfl, fun i hi => ?_⟩⟩
          obtain ⟨va', vl', e0, e1, e2, e3, e4, e5⟩ := (unhide HT).2 i (by omega)
          rw [Nat.zero_add]
          exact ⟨va', vl', hc _ _ e0, hc _ _ e1, hc _ _ e2, hc _ _ e3, viewN_below e4 hbf, viewN_below e5 hbf⟩
        · have hk0 : k = 0 := by omega
          have hmn : mn = 0 := by
            rcases hof.2 with ⟨h9, _⟩ | ⟨g, cap, cur, h9, _⟩
            · cases h9; rfl
            · cases h9; exact hk0
          refine ⟨hrl, qn, cn, by rw [hmn, ← hkn, hk0], fun h => by omega⟩
      · exact view_below (unhide HSV) hbf
end Go.Proofs.YtfdhmhdemfbfeaaGreatDoor
