/-
  The reference's Of, Act and Stays of layer 16 (made by mk_wof.py).
-/
import Derived.Test.YtfdhmhdemfbfeaaWSs
import Derived.Test.YtfdhmhdemfbfeaaLVf
namespace Go.Proofs.Ytfdhmhdemfbfeaa
open Go.RowKit
set_option linter.unusedVariables false
set_option linter.unusedSimpArgs false

set_option maxHeartbeats 2000000 in
theorem rof_any (v : Value) (p : PPol) (nm : ByteArray) (w : World) (hv : PolV w v p) :
    Calls Try.prog 30 #[v, .string nm] w fun e w' => (∃ v', e = .returned v' ∧ RulV w' v' (findR p.ot nm p.rs)) ∧ Below w.heap.size w w' := by
  obtain ⟨vr, vs, rfl, h1, h2⟩ := hv
  have HRV := hide h1
  obtain ⟨a2, c2, rfl⟩ := h2.slice
  obtain ⟨hrl, a1, c1, rfl, _⟩ := h1
  unfold polC
  clear h2
  obtain ⟨rs, sc, ot, st⟩ := p
  dsimp only at *
  generalize sc.length = n2 at *
  have al : Below w.heap.size w ((w.alloc (Obj.cells #[.slice a1 rs.length c1, .slice a2 n2 c2, .int .i64 ot, .int .i64 st] 30)).alloc (Obj.cells #[.string ⟨#[]⟩, .int .i64 0, .slice none 0 0, .slice none 0 0] 36)) := ((Below.refl _ _).alloc (Nat.le_refl _) _).alloc (by simp) _
  have KJ : Blk ((w.alloc (Obj.cells #[.slice a1 rs.length c1, .slice a2 n2 c2, .int .i64 ot, .int .i64 st] 30)).alloc (Obj.cells #[.string ⟨#[]⟩, .int .i64 0, .slice none 0 0, .slice none 0 0] 36)) w.heap.size #[.slice a1 rs.length c1, .slice a2 n2 c2, .int .i64 ot, .int .i64 st] 30 := (Blk.new w _ _).alloc _
  have KR : Blk ((w.alloc (Obj.cells #[.slice a1 rs.length c1, .slice a2 n2 c2, .int .i64 ot, .int .i64 st] 30)).alloc (Obj.cells #[.string ⟨#[]⟩, .int .i64 0, .slice none 0 0, .slice none 0 0] 36)) (w.heap.size + 1) #[.string ⟨#[]⟩, .int .i64 0, .slice none 0 0, .slice none 0 0] 36 := blk_next (by simp)
  have KJh := hide KJ
  have KRh := hide KR
  have HAL := hide al
  clear KJ KR al
  have HF := hide (find_at ot nm rs)
  have HN := hide (find_none ot nm rs)
  go_enter Try.func30, Try.ntmps30
  go_wp2
  go_loopw [10] (fun i wr => ∃ k : Nat, k ≤ rs.length ∧ i = .int .i64 k ∧ (∀ j, j < k → sameS (rs.getD j noR).nm nm = false) ∧ Blk wr w.heap.size #[.slice a1 rs.length c1, .slice a2 n2 c2, .int .i64 ot, .int .i64 st] 30 ∧ Blk wr (w.heap.size + 1) #[.string ⟨#[]⟩, .int .i64 0, .slice none 0 0, .slice none 0 0] 36 ∧ Below w.heap.size w wr) (fun i _ => rs.length - (intOf i).toNat)
  case atStart => exact ⟨0, Nat.zero_le _, rfl, fun j hj => absurd hj (Nat.not_lt_zero _), unhide KJh, unhide KRh, unhide HAL⟩
  case round =>
    clear KJh KRh HAL
    obtain ⟨k, hk, rfl, hr, kj, kr, hbw⟩ := hrel
    have HR := hide hr
    have HKJ := hide kj
    have HKR := hide kr
    have hlt := kr.lt
    have hsz := hbw.size
    clear hr
    by_cases hp : k < rs.length
    · have hpi : (k : Int) < (rs.length : Int) := by omega
      obtain ⟨_, a9, c9, e9, hcs⟩ := unhide HRV
      cases e9
      obtain ⟨b, off, rfl, hcell⟩ := hcs (by omega)
      obtain ⟨va, vl, d0', d1', d2', d3', hva, hvl⟩ := hcell k hp
      have d0 := cell_on hbw d0'
      have d1 := cell_on hbw d1'
      have d2 := cell_on hbw d2'
      have d3 := cell_on hbw d3'
      clear d0' d1' d2' d3'
      have HVA := hide hva
      have HVL := hide hvl
      obtain ⟨q1, m1, rfl⟩ := hva.1.slice
      obtain ⟨q2, m2, rfl⟩ := hvl.1.slice
      have HF2 := hide (unhide HF k hp (unhide HR))
      have HR2 : Hid (sameS (rs.getD k noR).nm nm = false → ∀ j, j < k + 1 → sameS (rs.getD j noR).nm nm = false) := hide (fun hx j hj => by
        by_cases ej : j = k
        · rw [ej]; exact hx
        · exact unhide HR j (by omega))
      clear hcell hva hvl hcs kj
      cases hx : sameS (rs.getD k noR).nm nm with
      | true =>
        have H := hide (unhide HF2 hx)
        clear HF2 HR2
        unfold sameS at hx
        generalize rs.getD k noR = r at *
        obtain ⟨rn, ac, ats, lks⟩ := r
        dsimp only at *
        generalize el1 : ats.length = l1 at *
        generalize el2 : lks.length = l2 at *
        have x0 : wr.cell? ⟨w.heap.size + 1, 0, none⟩ = some (.string ⟨#[]⟩) := kr.cell 0
        have x1 : wr.cell? ⟨w.heap.size + 1, 1, none⟩ = some (.int .i64 0) := kr.cell 1
        have x2 : wr.cell? ⟨w.heap.size + 1, 2, none⟩ = some (.slice none 0 0) := kr.cell 2
        have x3 : wr.cell? ⟨w.heap.size + 1, 3, none⟩ = some (.slice none 0 0) := kr.cell 3
        have y0 := kr.frozen 0
        have y1 := kr.frozen 1
        have y2 := kr.frozen 2
        have y3 := kr.frozen 3
        clear kr
        go_wp2
        have kk := (((((unhide HKR).set 0 (by simp) (.string rn)).set 1 (by simp) (.int .i64 ac)).set 2 (by simp) (.slice q1 l1 m1)).set 3 (by simp) (.slice q2 l2 m2)).alloc (Obj.cells #[.string rn, .int .i64 ac, .slice q1 l1 m1, .slice q2 l2 m2] 36)
        have dd0 := kk.cell 0
        have dd1 := kk.cell 1
        have dd2 := kk.cell 2
        have dd3 := kk.cell 3
        refine bodyPost_ret (v := .agg #[.string rn, .int .i64 ac, .slice q1 l1 m1, .slice q2 l2 m2]) (by simp [results, Try.results30, go_sem, dd0, dd1, dd2, dd3]) rfl ?_
        refine ⟨⟨_, rfl, ?_⟩, ?_⟩
        · rw [unhide H]
          exact ⟨_, _, rfl, viewN_below (unhide HVA) (((((hbw.setCell (by simp) _).setCell (by simp) _).setCell (by simp) _).setCell (by simp) _).alloc (by simp; omega) _), viewN_below (unhide HVL) (((((hbw.setCell (by simp) _).setCell (by simp) _).setCell (by simp) _).setCell (by simp) _).alloc (by simp; omega) _)⟩
        · exact ((((hbw.setCell (by simp) _).setCell (by simp) _).setCell (by simp) _).setCell (by simp) _).alloc (by simp; omega) _
      | false =>
        have H := hide (unhide HR2 hx)
        clear HF2 HR2
        unfold sameS at hx
        generalize rs.getD k noR = r at *
        obtain ⟨rn, ac, ats, lks⟩ := r
        dsimp only at *
        generalize ats.length = l1 at *
        generalize lks.length = l2 at *
        clear kr
        go_wp2
        go_roundw
        case rel => exact ⟨k + 1, by omega, by go_num, unhide H, (unhide HKJ).alloc _, (unhide HKR).alloc _, hbw.alloc hsz _⟩
        case measure => simp [intOf]; omega
    · have hkn : k = rs.length := by omega
      have H := hide (unhide HN (by rw [← hkn]; exact unhide HR))
      have x0 : wr.cell? ⟨w.heap.size + 1, 0, none⟩ = some (.string ⟨#[]⟩) := kr.cell 0
      have x1 : wr.cell? ⟨w.heap.size + 1, 1, none⟩ = some (.int .i64 0) := kr.cell 1
      have x2 : wr.cell? ⟨w.heap.size + 1, 2, none⟩ = some (.slice none 0 0) := kr.cell 2
      have x3 : wr.cell? ⟨w.heap.size + 1, 3, none⟩ = some (.slice none 0 0) := kr.cell 3
      have y0 := kr.frozen 0
      have y1 := kr.frozen 1
      have y2 := kr.frozen 2
      have y3 := kr.frozen 3
      have z2 : wr.cell? ⟨w.heap.size, 2, none⟩ = some (.int .i64 ot) := kj.cell 2
      have z3 : wr.cell? ⟨w.heap.size, 3, none⟩ = some (.int .i64 st) := kj.cell 3
      clear kr kj
      go_wp2
      have kk := ((((unhide HKR).set 0 (by simp) (.string ⟨#[]⟩)).set 1 (by simp) (.int .i64 ot)).set 2 (by simp) (.slice none 0 0)).set 3 (by simp) (.slice none 0 0)
      have dd0 := kk.cell 0
      have dd1 := kk.cell 1
      have dd2 := kk.cell 2
      have dd3 := kk.cell 3
      refine bodyPost_ret (v := .agg #[.string ⟨#[]⟩, .int .i64 ot, .slice none 0 0, .slice none 0 0]) (by simp [results, Try.results30, go_sem, dd0, dd1, dd2, dd3]) rfl ?_
      refine ⟨⟨_, rfl, ?_⟩, ?_⟩
      · rw [unhide H]
        exact ⟨_, _, rfl, viewN_nil _, viewN_nil _⟩
      · exact (((hbw.setCell (by simp) _).setCell (by simp) _).setCell (by simp) _).setCell (by simp) _

theorem rfld1 (s : ByteArray) (a : Int) (x y : Value) (w : World) : (Instr.field 36 (.agg #[.string s, .int .i64 a, x, y]) 1).run Try.prog w = .ok (.int .i64 a) w := by kernel_rfl
set_option maxHeartbeats 2000000 in
theorem ract_any (v : Value) (p : PPol) (sp : Int) (nm : ByteArray) (w : World) (hv : PolV w v p) :
    Calls Try.prog 17 #[v, .int .i64 sp, .string nm] w fun e w' => e = .returned (.int .i64 (rulOf p sp nm).ac) ∧ Below w.heap.size w w' := by
  have C2 := hide (fun W hW => rof_any v p nm W (hv.below (w := w) hW))
  obtain ⟨vrs, vs, rfl, h1, h2⟩ := hv
  obtain ⟨a2, c2, rfl⟩ := h2.slice
  obtain ⟨hrl, a1, c1, rfl, _⟩ := h1
  unfold rulOf
  unfold polC at *
  clear h2
  generalize findR p.ot nm p.rs = rr at *
  obtain ⟨rs, sc, ot, st⟩ := p
  dsimp only at *
  generalize rs.length = n1 at *
  generalize sc.length = n2 at *
  have al : Below w.heap.size w (w.alloc (Obj.cells #[.slice a1 n1 c1, .slice a2 n2 c2, .int .i64 ot, .int .i64 st] 30)) := (Below.refl _ _).alloc (Nat.le_refl _) _
  have C2' := hide (unhide C2 _ al)
  clear C2
  by_cases h0 : sp = 0
  · subst h0
    go_enter Try.func17, Try.ntmps17
    go_wp2_with fail
    refine (unhide C2').mono ?_
    rintro e1 w2 ⟨⟨v', rfl, va, vl, rfl, _, _⟩, hb2⟩
    have hf := rfld1 rr.nm rr.ac va vl
    unfold rulC
    go_wp2
    go_ret
    exact ⟨rfl, tr2 al hb2⟩
  · have i0 : (sp == 0) = false := beqI _ _ h0
    have i1 : (sp != 0) = true := bneI' _ _ h0
    rw [if_neg h0]
    clear h0
    go_enter Try.func17, Try.ntmps17
    go_wp2
    go_ret
    exact ⟨rfl, al⟩

set_option maxHeartbeats 2000000 in
theorem rstays_any (v : Value) (p : PPol) (nm an av : ByteArray) (w : World) (hv : PolV w v p) (hz : av.size ≤ 100000) :
    Calls Try.prog 18 #[v, .string nm, .agg #[.string an, .string av]] w fun e w' => e = .returned (.bool (stB p (findR p.ot nm p.rs) an av)) ∧ Below w.heap.size w w' := by
  have C0 := hide (fun W hW => rof_any v p nm W (hv.below (w := w) hW))
  obtain ⟨vrs, vs, rfl, h1, h2⟩ := hv
  have C3 := hide (fun W hW => rsafe_any av vs p.sc W hz (view_below (w := w) h2 hW))
  obtain ⟨a2, c2, rfl⟩ := h2.slice
  obtain ⟨hrl, a1, c1, rfl, _⟩ := h1
  unfold stB
  unfold polC at *
  clear h2
  generalize findR p.ot nm p.rs = rr at *
  obtain ⟨rs, sc, ot, st⟩ := p
  obtain ⟨rn, ac, ats, lks⟩ := rr
  dsimp only at *
  have C1 := hide (fun v W hv => vin_any v ats an W hv)
  have C2 := hide (fun v W hv => vin_any v lks an W hv)
  generalize isIn an ats = D1 at *
  generalize isIn an lks = D2 at *
  generalize safeB (plL av.data.toList) sc = D3 at *
  generalize rs.length = n1 at *
  generalize sc.length = n2 at *
  have al : Below w.heap.size w ((w.alloc (Obj.cells #[.slice a1 n1 c1, .slice a2 n2 c2, .int .i64 ot, .int .i64 st] 30)).alloc (Obj.cells #[.string an, .string av] 45)) := ((Below.refl _ _).alloc (Nat.le_refl _) _).alloc (by simp) _
  have K : Hid (Blk ((w.alloc (Obj.cells #[.slice a1 n1 c1, .slice a2 n2 c2, .int .i64 ot, .int .i64 st] 30)).alloc (Obj.cells #[.string an, .string av] 45)) w.heap.size #[.slice a1 n1 c1, .slice a2 n2 c2, .int .i64 ot, .int .i64 st] 30) := hide ((Blk.new w _ _).alloc _)
  have KA : Hid (Blk ((w.alloc (Obj.cells #[.slice a1 n1 c1, .slice a2 n2 c2, .int .i64 ot, .int .i64 st] 30)).alloc (Obj.cells #[.string an, .string av] 45)) (w.heap.size + 1) #[.string an, .string av] 45) := hide (blk_next (by simp))
  have C0' := hide (unhide C0 _ al)
  clear C0
  go_enter Try.func18, Try.ntmps18
  go_wp2_with fail
  refine (unhide C0').mono ?_
  rintro e1 w1 ⟨⟨v', rfl, va, vl, rfl, hva, hvl⟩, hb1⟩
  have hb01 := al.trans (hb1.mono (by simp; omega))
  have K1 := hide ((unhide K).later hb1)
  have KA1 := hide ((unhide KA).later hb1)
  dsimp only at hva hvl
  have al2 := (Below.refl w1.heap.size w1).alloc (Nat.le_refl _) (Obj.cells (rulC ⟨rn, ac, ats, lks⟩ va vl) 36)
  have D1' := hide (unhide C1 _ _ (view_below hva.1 al2))
  have D2' := hide (unhide C2 _ _ (view_below hvl.1 al2))
  have HB2 := hide (hb01.trans (al2.mono hb01.size))
  have D3' := hide (unhide C3 _ (unhide HB2))
  obtain ⟨q1, m1, hq1⟩ := hva.1.slice
  obtain ⟨q2, m2, hq2⟩ := hvl.1.slice
  subst hq1 hq2
  have z1 : w1.cell? ⟨w.heap.size, 1, none⟩ = some (.slice a2 n2 c2) := (unhide K1).cell 1
  have y0 : w1.cell? ⟨w.heap.size + 1, 0, none⟩ = some (.string an) := (unhide KA1).cell 0
  have y1 : w1.cell? ⟨w.heap.size + 1, 1, none⟩ = some (.string av) := (unhide KA1).cell 1
  have hlt : w.heap.size + 1 < w1.heap.size := (unhide KA1).lt
  have hlt0 : w.heap.size < w1.heap.size := by omega
  unfold rulC at D1' D2' D3' HB2
  unfold rulC
  dsimp only at *
  generalize ats.length = l1 at *
  generalize lks.length = l2 at *
  clear hb1 al C1 C2 C3 hva hvl al2 K KA hb01
  by_cases i1 : ac = 1
  · subst i1
    cases D1 with
    | true =>
      go_wp2_with fail
      refine (unhide D1').mono ?_
      rintro e1 w2 ⟨rfl, hw2⟩
      subst hw2
      go_wp2
      go_ret
      exact ⟨rfl, unhide HB2⟩
    | false =>
      cases D2 with
      | false =>
        go_wp2_with fail
        refine (unhide D1').mono ?_
        rintro e1 w2 ⟨rfl, hw2⟩
        subst hw2
        go_wp2_with fail
        refine (unhide D2').mono ?_
        rintro e1 w2 ⟨rfl, hw2⟩
        subst hw2
        go_wp2
        go_ret
        exact ⟨rfl, unhide HB2⟩
      | true =>
        go_wp2_with fail
        refine (unhide D1').mono ?_
        rintro e1 w2 ⟨rfl, hw2⟩
        subst hw2
        go_wp2_with fail
        refine (unhide D2').mono ?_
        rintro e1 w2 ⟨rfl, hw2⟩
        subst hw2
        go_wp2_with fail
        refine (unhide D3').mono ?_
        rintro e1 w3 ⟨rfl, hb3⟩
        go_wp2
        go_ret
        exact ⟨by simp, tr2 (unhide HB2) hb3⟩
  · have j1 : (ac == 1) = false := beqI _ _ i1
    have j2 : (ac != 1) = true := bneI' _ _ i1
    have hdec : decide (ac = 1) = false := decide_eq_false i1
    have HD := hide hdec
    clear i1 hdec
    go_wp2
    go_ret
    exact ⟨by rw [unhide HD]; rfl, unhide HB2⟩
end Go.Proofs.Ytfdhmhdemfbfeaa
