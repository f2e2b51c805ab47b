/-
  Several texts in one: what the functions of the program and of the document's answer do.
-/
import Derived.Test.YtfdhmhdemfbfeaaGreatDoorMgAK
import Derived.Test.YtfdhmhdemfbfeaaGreatDoorVRt
import Derived.Test.YtfdhmhdemfbfeaaGreatDoorMgAU
import Derived.Test.YtfdhmhdemfbfeaaGreatDoorMgAC
import Derived.Test.YtfdhmhdemfbfeaaGreatDoorMgAL
import Derived.Test.YtfdhmhdemfbfeaaGreatDoorMgAA
import Derived.Shelf.Small.Wraps
import Derived.Shelf.Strings.Prefix

/-
  The law UrlsSafe walked.
-/
namespace Go.Proofs.YtfdhmhdemfbfeaaGreatDoor
open Go.RowKit
set_option linter.unusedVariables false

set_option maxHeartbeats 1000000 in
theorem rsafe_any (s : ByteArray) (v : Value) (zs : List ByteArray) (w : World) (hs : s.size ≤ 100000) (hv : View w v zs) :
    Calls Tryz.prog 41 #[.string s, v] w fun e w' => e = .returned (.bool (vsafeB (plL s.data.toList) zs)) ∧ Below w.heap.size w w' := by
  have C := hide (fun w => rsplit_any s w hs)
  unfold spC ptC at C
  unfold vsafeB
  have HV := hide (fun w1 hb => @view_below w w1 v zs hv hb)
  generalize plL s.data.toList = x at *
  have CC := hide (fun w h => vin_any v zs (bs (sSc x)) w h)
  generalize decide (sQ x < (s2 x).length) = D2 at *
  generalize decide (sM x < (s1 x).length) = D3 at *
  generalize hstB (s3 x) = D4 at *
  generalize bs (sMa x) = Y2 at *
  generalize bs (sQu x) = Y3 at *
  generalize bs (hoL (s3 x)) = Y4 at *
  generalize bs (paL (s3 x)) = Y5 at *
  generalize bs (sSc x) = Y at *
  generalize isIn Y zs = D at *
  obtain ⟨hl, a, cap, rfl, hc⟩ := hv
  clear hc
  cases hD : decide (0 < schN x) with
  | false =>
    rw [hD] at C
    clear hD
    go_enter Tryz.func41, Tryz.ntmps41
    go_wp2_with fail
    refine (unhide C _).mono ?_
    rintro e1 w1 ⟨rfl, hb⟩
    go_wp2
    go_ret
    exact ⟨by simp, hb.alloc hb.size _⟩
  | true =>
    rw [hD] at C
    clear hD
    go_enter Tryz.func41, Tryz.ntmps41
    go_wp2_with fail
    refine (unhide C _).mono ?_
    rintro e1 w1 ⟨rfl, hb⟩
    go_wp2_with fail
    refine (unhide CC _ (unhide HV _ (hb.alloc hb.size _))).mono ?_
    rintro e1 w2 ⟨rfl, hw2⟩
    subst hw2
    go_wp2
    go_ret
    exact ⟨by simp, hb.alloc hb.size _⟩

end Go.Proofs.YtfdhmhdemfbfeaaGreatDoor

/-
  The reference's Of, Act and Stays of layer 16 (made by mk_wof.py).
-/
namespace Go.Proofs.YtfdhmhdemfbfeaaGreatDoor
open Go.RowKit
set_option linter.unusedVariables false
set_option linter.unusedSimpArgs false

set_option maxHeartbeats 2000000 in
theorem rof_any (v : Value) (p : PPol) (nm : ByteArray) (w : World) (hv : PolV w v p) :
    Calls Tryz.prog 38 #[v, .string nm] w fun e w' => (∃ v', e = .returned v' ∧ RulV w' v' (findR p.ot nm p.rs)) ∧ Below w.heap.size w w' := by
  obtain ⟨vr, vs, rfl, h1, h2⟩ := hv
  have HRV := hide h1
  obtain ⟨a2, c2, rfl⟩ := h2.slice
  obtain ⟨hrl, a1, c1, rfl, _⟩ := h1
  unfold polC
  clear h2
  obtain ⟨rs, sc, ot, st⟩ := p
  dsimp only at *
  generalize sc.length = n2 at *
  have al : Below w.heap.size w ((w.alloc (Obj.cells #[.slice a1 rs.length c1, .slice a2 n2 c2, .int .i64 ot, .int .i64 st] 32)).alloc (Obj.cells #[.string ⟨#[]⟩, .int .i64 0, .slice none 0 0, .slice none 0 0] 53)) := ((Below.refl _ _).alloc (Nat.le_refl _) _).alloc (by simp) _
  have KJ : Blk ((w.alloc (Obj.cells #[.slice a1 rs.length c1, .slice a2 n2 c2, .int .i64 ot, .int .i64 st] 32)).alloc (Obj.cells #[.string ⟨#[]⟩, .int .i64 0, .slice none 0 0, .slice none 0 0] 53)) w.heap.size #[.slice a1 rs.length c1, .slice a2 n2 c2, .int .i64 ot, .int .i64 st] 32 := (Blk.new w _ _).alloc _
  have KR : Blk ((w.alloc (Obj.cells #[.slice a1 rs.length c1, .slice a2 n2 c2, .int .i64 ot, .int .i64 st] 32)).alloc (Obj.cells #[.string ⟨#[]⟩, .int .i64 0, .slice none 0 0, .slice none 0 0] 53)) (w.heap.size + 1) #[.string ⟨#[]⟩, .int .i64 0, .slice none 0 0, .slice none 0 0] 53 := blk_next (by simp)
  have KJh := hide KJ
  have KRh := hide KR
  have HAL := hide al
  clear KJ KR al
  have HF := hide (find_at ot nm rs)
  have HN := hide (find_none ot nm rs)
  go_enter Tryz.func38, Tryz.ntmps38
  go_wp2
  go_loopw [10] (fun i wr => ∃ k : Nat, k ≤ rs.length ∧ i = .int .i64 k ∧ (∀ j, j < k → sameS (rs.getD j noR).nm nm = false) ∧ Blk wr w.heap.size #[.slice a1 rs.length c1, .slice a2 n2 c2, .int .i64 ot, .int .i64 st] 32 ∧ Blk wr (w.heap.size + 1) #[.string ⟨#[]⟩, .int .i64 0, .slice none 0 0, .slice none 0 0] 53 ∧ Below w.heap.size w wr) (fun i _ => rs.length - (intOf i).toNat)
  case atStart => exact ⟨0, Nat.zero_le _, rfl, fun j hj => absurd hj (Nat.not_lt_zero _), unhide KJh, unhide KRh, unhide HAL⟩
  case round =>
    clear KJh KRh HAL
    obtain ⟨k, hk, rfl, hr, kj, kr, hbw⟩ := hrel
    have HR := hide hr
    have HKJ := hide kj
    have HKR := hide kr
    have hlt := kr.lt
    have hsz := hbw.size
    clear hr
    by_cases hp : k < rs.length
    · have hpi : (k : Int) < (rs.length : Int) := by omega
      obtain ⟨_, a9, c9, e9, hcs⟩ := unhide HRV
      cases e9
      obtain ⟨b, off, rfl, hcell⟩ := hcs (by omega)
      obtain ⟨va, vl, d0', d1', d2', d3', hva, hvl⟩ := hcell k hp
      have d0 := cell_on hbw d0'
      have d1 := cell_on hbw d1'
      have d2 := cell_on hbw d2'
      have d3 := cell_on hbw d3'
      clear d0' d1' d2' d3'
      have HVA := hide hva
      have HVL := hide hvl
      obtain ⟨q1, m1, rfl⟩ := hva.1.slice
      obtain ⟨q2, m2, rfl⟩ := hvl.1.slice
      have HF2 := hide (unhide HF k hp (unhide HR))
      have HR2 : Hid (sameS (rs.getD k noR).nm nm = false → ∀ j, j < k + 1 → sameS (rs.getD j noR).nm nm = false) := hide (fun hx j hj => by
        by_cases ej : j = k
        · rw [ej]; exact hx
        · exact unhide HR j (by omega))
      clear hcell hva hvl hcs kj
      cases hx : sameS (rs.getD k noR).nm nm with
      | true =>
        have H := hide (unhide HF2 hx)
        clear HF2 HR2
        unfold sameS at hx
        generalize rs.getD k noR = r at *
        obtain ⟨rn, ac, ats, lks⟩ := r
        dsimp only at *
        generalize el1 : ats.length = l1 at *
        generalize el2 : lks.length = l2 at *
        have x0 : wr.cell? ⟨w.heap.size + 1, 0, none⟩ = some (.string ⟨#[]⟩) := kr.cell 0
        have x1 : wr.cell? ⟨w.heap.size + 1, 1, none⟩ = some (.int .i64 0) := kr.cell 1
        have x2 : wr.cell? ⟨w.heap.size + 1, 2, none⟩ = some (.slice none 0 0) := kr.cell 2
        have x3 : wr.cell? ⟨w.heap.size + 1, 3, none⟩ = some (.slice none 0 0) := kr.cell 3
        have y0 := kr.frozen 0
        have y1 := kr.frozen 1
        have y2 := kr.frozen 2
        have y3 := kr.frozen 3
        clear kr
        go_wp2
        have kk := (((((unhide HKR).set 0 (by simp) (.string rn)).set 1 (by simp) (.int .i64 ac)).set 2 (by simp) (.slice q1 l1 m1)).set 3 (by simp) (.slice q2 l2 m2)).alloc (Obj.cells #[.string rn, .int .i64 ac, .slice q1 l1 m1, .slice q2 l2 m2] 53)
        have dd0 := kk.cell 0
        have dd1 := kk.cell 1
        have dd2 := kk.cell 2
        have dd3 := kk.cell 3
        refine bodyPost_ret (v := .agg #[.string rn, .int .i64 ac, .slice q1 l1 m1, .slice q2 l2 m2]) (by simp [results, Tryz.results38, go_sem, dd0, dd1, dd2, dd3]) rfl ?_
        refine ⟨⟨_, rfl, ?_⟩, ?_⟩
        · rw [unhide H]
          exact ⟨_, _, rfl, viewN_below (unhide HVA) (((((hbw.setCell (by simp) _).setCell (by simp) _).setCell (by simp) _).setCell (by simp) _).alloc (by simp; omega) _), viewN_below (unhide HVL) (((((hbw.setCell (by simp) _).setCell (by simp) _).setCell (by simp) _).setCell (by simp) _).alloc (by simp; omega) _)⟩
        · exact ((((hbw.setCell (by simp) _).setCell (by simp) _).setCell (by simp) _).setCell (by simp) _).alloc (by simp; omega) _
      | false =>
        have H := hide (unhide HR2 hx)
        clear HF2 HR2
        unfold sameS at hx
        generalize rs.getD k noR = r at *
        obtain ⟨rn, ac, ats, lks⟩ := r
        dsimp only at *
        generalize ats.length = l1 at *
        generalize lks.length = l2 at *
        clear kr
        go_wp2
        go_roundw
        case rel => exact ⟨k + 1, by omega, by go_num, unhide H, (unhide HKJ).alloc _, (unhide HKR).alloc _, hbw.alloc hsz _⟩
        case measure => simp [intOf]; omega
    · have hkn : k = rs.length := by omega
      have H := hide (unhide HN (by rw [← hkn]; exact unhide HR))
      have x0 : wr.cell? ⟨w.heap.size + 1, 0, none⟩ = some (.string ⟨#[]⟩) := kr.cell 0
      have x1 : wr.cell? ⟨w.heap.size + 1, 1, none⟩ = some (.int .i64 0) := kr.cell 1
      have x2 : wr.cell? ⟨w.heap.size + 1, 2, none⟩ = some (.slice none 0 0) := kr.cell 2
      have x3 : wr.cell? ⟨w.heap.size + 1, 3, none⟩ = some (.slice none 0 0) := kr.cell 3
      have y0 := kr.frozen 0
      have y1 := kr.frozen 1
      have y2 := kr.frozen 2
      have y3 := kr.frozen 3
      have z2 : wr.cell? ⟨w.heap.size, 2, none⟩ = some (.int .i64 ot) := kj.cell 2
      have z3 : wr.cell? ⟨w.heap.size, 3, none⟩ = some (.int .i64 st) := kj.cell 3
      clear kr kj
      go_wp2
      have kk := ((((unhide HKR).set 0 (by simp) (.string ⟨#[]⟩)).set 1 (by simp) (.int .i64 ot)).set 2 (by simp) (.slice none 0 0)).set 3 (by simp) (.slice none 0 0)
      have dd0 := kk.cell 0
      have dd1 := kk.cell 1
      have dd2 := kk.cell 2
      have dd3 := kk.cell 3
      refine bodyPost_ret (v := .agg #[.string ⟨#[]⟩, .int .i64 ot, .slice none 0 0, .slice none 0 0]) (by simp [results, Tryz.results38, go_sem, dd0, dd1, dd2, dd3]) rfl ?_
      refine ⟨⟨_, rfl, ?_⟩, ?_⟩
      · rw [unhide H]
        exact ⟨_, _, rfl, viewN_nil _, viewN_nil _⟩
      · exact (((hbw.setCell (by simp) _).setCell (by simp) _).setCell (by simp) _).setCell (by simp) _

theorem rfld1 (s : ByteArray) (a : Int) (x y : Value) (w : World) : (Instr.field 53 (.agg #[.string s, .int .i64 a, x, y]) 1).run Tryz.prog w = .ok (.int .i64 a) w := by kernel_rfl
set_option maxHeartbeats 2000000 in
theorem ract_any (v : Value) (p : PPol) (sp : Int) (nm : ByteArray) (w : World) (hv : PolV w v p) :
    Calls Tryz.prog 23 #[v, .int .i64 sp, .string nm] w fun e w' => e = .returned (.int .i64 (rulOf p sp nm).ac) ∧ Below w.heap.size w w' := by
  have C2 := hide (fun W hW => rof_any v p nm W (hv.below (w := w) hW))
  obtain ⟨vrs, vs, rfl, h1, h2⟩ := hv
  obtain ⟨a2, c2, rfl⟩ := h2.slice
  obtain ⟨hrl, a1, c1, rfl, _⟩ := h1
  unfold rulOf
  unfold polC at *
  clear h2
  generalize findR p.ot nm p.rs = rr at *
  obtain ⟨rs, sc, ot, st⟩ := p
  dsimp only at *
  generalize rs.length = n1 at *
  generalize sc.length = n2 at *
  have al : Below w.heap.size w (w.alloc (Obj.cells #[.slice a1 n1 c1, .slice a2 n2 c2, .int .i64 ot, .int .i64 st] 32)) := (Below.refl _ _).alloc (Nat.le_refl _) _
  have C2' := hide (unhide C2 _ al)
  clear C2
  by_cases h0 : sp = 0
  · subst h0
    go_enter Tryz.func23, Tryz.ntmps23
    go_wp2_with fail
    refine (unhide C2').mono ?_
    rintro e1 w2 ⟨⟨v', rfl, va, vl, rfl, _, _⟩, hb2⟩
    have hf := rfld1 rr.nm rr.ac va vl
    unfold rulC
    go_wp2
    go_ret
    exact ⟨rfl, tr2 al hb2⟩
  · have i0 : (sp == 0) = false := beqI _ _ h0
    have i1 : (sp != 0) = true := bneI' _ _ h0
    rw [if_neg h0]
    clear h0
    go_enter Tryz.func23, Tryz.ntmps23
    go_wp2
    go_ret
    exact ⟨rfl, al⟩

set_option maxHeartbeats 2000000 in
theorem rstays_any (v : Value) (p : PPol) (nm an av : ByteArray) (w : World) (hv : PolV w v p) (hz : av.size ≤ 100000) :
    Calls Tryz.prog 25 #[v, .string nm, .agg #[.string an, .string av]] w fun e w' => e = .returned (.bool (stB p (findR p.ot nm p.rs) an av)) ∧ Below w.heap.size w w' := by
  have C0 := hide (fun W hW => rof_any v p nm W (hv.below (w := w) hW))
  obtain ⟨vrs, vs, rfl, h1, h2⟩ := hv
  have C3 := hide (fun W hW => rsafe_any av vs p.sc W hz (view_below (w := w) h2 hW))
  obtain ⟨a2, c2, rfl⟩ := h2.slice
  obtain ⟨hrl, a1, c1, rfl, _⟩ := h1
  unfold stB
  unfold polC at *
  clear h2
  generalize findR p.ot nm p.rs = rr at *
  obtain ⟨rs, sc, ot, st⟩ := p
  obtain ⟨rn, ac, ats, lks⟩ := rr
  dsimp only at *
  have C1 := hide (fun v W hv => vin_any v ats an W hv)
  have C2 := hide (fun v W hv => vin_any v lks an W hv)
  generalize isIn an ats = D1 at *
  generalize isIn an lks = D2 at *
  generalize vsafeB (plL av.data.toList) sc = D3 at *
  generalize rs.length = n1 at *
  generalize sc.length = n2 at *
  have al : Below w.heap.size w ((w.alloc (Obj.cells #[.slice a1 n1 c1, .slice a2 n2 c2, .int .i64 ot, .int .i64 st] 32)).alloc (Obj.cells #[.string an, .string av] 48)) := ((Below.refl _ _).alloc (Nat.le_refl _) _).alloc (by simp) _
  have K : Hid (Blk ((w.alloc (Obj.cells #[.slice a1 n1 c1, .slice a2 n2 c2, .int .i64 ot, .int .i64 st] 32)).alloc (Obj.cells #[.string an, .string av] 48)) w.heap.size #[.slice a1 n1 c1, .slice a2 n2 c2, .int .i64 ot, .int .i64 st] 32) := hide ((Blk.new w _ _).alloc _)
  have KA : Hid (Blk ((w.alloc (Obj.cells #[.slice a1 n1 c1, .slice a2 n2 c2, .int .i64 ot, .int .i64 st] 32)).alloc (Obj.cells #[.string an, .string av] 48)) (w.heap.size + 1) #[.string an, .string av] 48) := hide (blk_next (by simp))
  have C0' := hide (unhide C0 _ al)
  clear C0
  go_enter Tryz.func25, Tryz.ntmps25
  go_wp2_with fail
  refine (unhide C0').mono ?_
  rintro e1 w1 ⟨⟨v', rfl, va, vl, rfl, hva, hvl⟩, hb1⟩
  have hb01 := al.trans (hb1.mono (by simp; omega))
  have K1 := hide ((unhide K).later hb1)
  have KA1 := hide ((unhide KA).later hb1)
  dsimp only at hva hvl
  have al2 := (Below.refl w1.heap.size w1).alloc (Nat.le_refl _) (Obj.cells (rulC ⟨rn, ac, ats, lks⟩ va vl) 53)
  have D1' := hide (unhide C1 _ _ (view_below hva.1 al2))
  have D2' := hide (unhide C2 _ _ (view_below hvl.1 al2))
  have HB2 := hide (hb01.trans (al2.mono hb01.size))
  have D3' := hide (unhide C3 _ (unhide HB2))
  obtain ⟨q1, m1, hq1⟩ := hva.1.slice
  obtain ⟨q2, m2, hq2⟩ := hvl.1.slice
  subst hq1 hq2
  have z1 : w1.cell? ⟨w.heap.size, 1, none⟩ = some (.slice a2 n2 c2) := (unhide K1).cell 1
  have y0 : w1.cell? ⟨w.heap.size + 1, 0, none⟩ = some (.string an) := (unhide KA1).cell 0
  have y1 : w1.cell? ⟨w.heap.size + 1, 1, none⟩ = some (.string av) := (unhide KA1).cell 1
  have hlt : w.heap.size + 1 < w1.heap.size := (unhide KA1).lt
  have hlt0 : w.heap.size < w1.heap.size := by omega
  unfold rulC at D1' D2' D3' HB2
  unfold rulC
  dsimp only at *
  generalize ats.length = l1 at *
  generalize lks.length = l2 at *
  clear hb1 al C1 C2 C3 hva hvl al2 K KA hb01
  by_cases i1 : ac = 1
  · subst i1
    cases D1 with
    | true =>
      go_wp2_with fail
      refine (unhide D1').mono ?_
      rintro e1 w2 ⟨rfl, hw2⟩
      subst hw2
      go_wp2
      go_ret
      exact ⟨rfl, unhide HB2⟩
    | false =>
      cases D2 with
      | false =>
        go_wp2_with fail
        refine (unhide D1').mono ?_
        rintro e1 w2 ⟨rfl, hw2⟩
        subst hw2
        go_wp2_with fail
        refine (unhide D2').mono ?_
        rintro e1 w2 ⟨rfl, hw2⟩
        subst hw2
        go_wp2
        go_ret
        exact ⟨rfl, unhide HB2⟩
      | true =>
        go_wp2_with fail
        refine (unhide D1').mono ?_
        rintro e1 w2 ⟨rfl, hw2⟩
        subst hw2
        go_wp2_with fail
        refine (unhide D2').mono ?_
        rintro e1 w2 ⟨rfl, hw2⟩
        subst hw2
        go_wp2_with fail
        refine (unhide D3').mono ?_
        rintro e1 w3 ⟨rfl, hb3⟩
        go_wp2
        go_ret
        exact ⟨by simp, tr2 (unhide HB2) hb3⟩
  · have j1 : (ac == 1) = false := beqI _ _ i1
    have j2 : (ac != 1) = true := bneI' _ _ i1
    have hdec : decide (ac = 1) = false := decide_eq_false i1
    have HD := hide hdec
    clear i1 hdec
    go_wp2
    go_ret
    exact ⟨by rw [unhide HD]; rfl, unhide HB2⟩
end Go.Proofs.YtfdhmhdemfbfeaaGreatDoor

/-
  The tables of package refs, and what refs and its reference make of texts, as plain functions of lists of bytes.
-/
namespace Go.Proofs.YtfdhmhdemfbfeaaGreatDoor
open Go.RowKit
set_option linter.unusedVariables false
set_option linter.unusedSimpArgs false

def nmT : List (List UInt8 × Int × Bool) := [([97, 109, 112], 38, true), ([108, 116], 60, true), ([103, 116], 62, true), ([113, 117, 111, 116], 34, true), ([110, 98, 115, 112], 160, true), ([99, 111, 112, 121], 169, true), ([114, 101, 103], 174, true), ([110, 111, 116], 172, true), ([110, 111, 116, 105, 110], 8713, false), ([116, 105, 109, 101, 115], 215, true), ([112, 97, 114, 97], 182, true), ([115, 101, 99, 116], 167, true), ([101, 97, 99, 117, 116, 101], 233, true), ([69, 97, 99, 117, 116, 101], 201, true), ([97, 117, 109, 108], 228, true), ([65, 117, 109, 108], 196, true), ([115, 122, 108, 105, 103], 223, true), ([101, 117, 114, 111], 8364, false), ([104, 101, 108, 108, 105, 112], 8230, false), ([109, 100, 97, 115, 104], 8212, false), ([110, 100, 97, 115, 104], 8211, false), ([97, 108, 112, 104, 97], 945, false), ([98, 101, 116, 97], 946, false), ([114, 97, 114, 114], 8594, false), ([108, 97, 114, 114], 8592, false), ([97, 112, 111, 115], 39, false), ([121, 101, 110], 165, true), ([109, 105, 99, 114, 111], 181, true)]
def nmName (k : Nat) : List UInt8 := (nmT.getD k ([], 0, false)).1
def nmChar (k : Nat) : Int := (nmT.getD k ([], 0, false)).2.1
def nmBare (k : Nat) : Bool := (nmT.getD k ([], 0, false)).2.2
def oldT : List Int := [8364, 0, 8218, 402, 8222, 8230, 8224, 8225, 710, 8240, 352, 8249, 338, 0, 381, 0, 0, 8216, 8217, 8220, 8221, 8226, 8211, 8212, 732, 8482, 353, 8250, 339, 0, 382, 376]
def oldAt (k : Nat) : Int := oldT.getD k 0

theorem nm_facts : ∀ k, k < 28 → 2 ≤ (nmName k).length ∧ (nmName k).length ≤ 6 ∧ 0 < nmChar k ∧ nmChar k ≤ 8713 ∧ isC (nmChar k) = true := by decide
theorem nm_inj : ∀ k, k < 28 → ∀ j, j < 28 → nmName k = nmName j → k = j := by decide
theorem nm_plain : ∀ k, k < 28 → ∀ c ∈ nmName k, ltN c.toNat = true := by decide

/-! ### the character of a name, of a number -/
def findF : Nat → List UInt8 → Option Nat
  | 0, _ => none
  | f + 1, l => if nmName (27 - f) = l then some (27 - f) else findF f l
def nameI (l : List UInt8) : Option Nat := findF 28 l
theorem findF_some : ∀ (f : Nat) (l : List UInt8) (k : Nat), f ≤ 28 → findF f l = some k → k < 28 ∧ nmName k = l
  | 0, l, k, _, h => by cases h
  | f + 1, l, k, hf, h => by
    rw [findF] at h
    split at h
    · rename_i e; cases h; exact ⟨by omega, e⟩
    · exact findF_some f l k (by omega) h
theorem findF_none : ∀ (f : Nat) (l : List UInt8), f ≤ 28 → findF f l = none → ∀ k, 28 - f ≤ k → k < 28 → ¬ nmName k = l
  | 0, l, _, _, k, h1, h2 => by omega
  | f + 1, l, hf, h, k, h1, h2 => by
    rw [findF] at h
    split at h
    · cases h
    · rename_i e
      by_cases hk : k = 27 - f
      · subst hk; exact e
      · exact findF_none f l (by omega) h k (by omega) h2
theorem nameI_some {l : List UInt8} {k : Nat} (h : nameI l = some k) : k < 28 ∧ nmName k = l := findF_some 28 l k (Nat.le_refl _) h
theorem nameI_none {l : List UInt8} (h : nameI l = none) : ∀ k, k < 28 → ¬ nmName k = l := fun k hk => findF_none 28 l (Nat.le_refl _) h k (by omega) hk
theorem nameI_is {k : Nat} (h : k < 28) : nameI (nmName k) = some k := by
  cases e : nameI (nmName k) with
  | none => exact absurd rfl (nameI_none e k h)
  | some j => have := nameI_some e; rw [nm_inj j this.1 k h this.2]
def nameC (l : List UInt8) : Int := match nameI l with | none => 0 | some k => nmChar k
theorem nameC_none {l : List UInt8} (h : nameI l = none) : nameC l = 0 := by simp only [nameC, h]
theorem nameC_some {l : List UInt8} {k : Nat} (h : nameI l = some k) : nameC l = nmChar k := by simp only [nameC, h]

def numC (n : Int) : Int := if n ≤ 0 ∨ isC n = false then 65533 else if 128 ≤ n ∧ n < 160 ∧ oldAt (n - 128).toNat ≠ 0 then oldAt (n - 128).toNat else n
theorem old_isC : ∀ k, k < 32 → oldAt k ≠ 0 → isC (oldAt k) = true := by decide
theorem numC_isC (n : Int) : isC (numC n) = true := by
  unfold numC
  split
  · decide
  · rename_i h1
    split
    · rename_i h2; exact old_isC _ (by omega) h2.2.2
    · cases h : isC n with
      | true => rfl
      | false => exact absurd (.inr h) h1
theorem numC_big {n m : Int} (h : 1114112 ≤ n) (h2 : 1114112 ≤ m) : numC n = numC m := by
  rw [numC, numC, if_pos (.inr (isC_no (by omega))), if_pos (.inr (isC_no (by omega)))]
end Go.Proofs.YtfdhmhdemfbfeaaGreatDoor

/-
  What 'refs.Name' and 'refs.Number' do: of every name its character, of every number its character.
-/
namespace Go.Proofs.YtfdhmhdemfbfeaaGreatDoor
open Go.RowKit
set_option linter.unusedVariables false

theorem numC_no {n : Int} (h : n ≤ 0 ∨ isC n = false) : numC n = 65533 := by rw [numC, if_pos h]
theorem numC_old {n : Int} (h0 : 128 ≤ n) (h1 : n < 160) (h2 : ¬ oldAt (n - 128).toNat = 0) : numC n = oldAt (n - 128).toNat := by
  rw [numC, if_neg (by rw [isC_mk (by omega)]; simp; omega), if_pos ⟨h0, h1, h2⟩]
theorem numC_self {n : Int} (h0 : 0 < n) (hc : isC n = true) (h2 : ¬ (128 ≤ n ∧ n < 160 ∧ oldAt (n - 128).toNat ≠ 0)) : numC n = n := by
  rw [numC, if_neg (by rw [hc]; simp; omega), if_neg h2]

end Go.Proofs.YtfdhmhdemfbfeaaGreatDoor

/-
  What strings.HasPrefix and strings.CutPrefix do: the library's contracts, laid at this program.
-/
namespace Go.Proofs.YtfdhmhdemfbfeaaGreatDoor
open Go.RowKit
set_option linter.unusedVariables false

end Go.Proofs.YtfdhmhdemfbfeaaGreatDoor

/-
  What the small functions of refs do: 'semicolonAt', 'goesOn', 'digitOf', 'bytesOf'.
-/
namespace Go.Proofs.YtfdhmhdemfbfeaaGreatDoor
open Go.RowKit
set_option linter.unusedVariables false

def semiN (l : List UInt8) : Nat := if [59].isPrefixOf l = true then 1 else 0
def onB (l : List UInt8) : Bool := decide (0 < l.length) && (ltN (dgt l 0) || dgN (dgt l 0) || decide (dgt l 0 = 61))
def candN (k : Nat) (m : List UInt8) (v : Bool) : Nat :=
  if (nmName k).isPrefixOf m = true then
    (if semiN (m.drop (nmName k).length) = 1 then (nmName k).length + 2
     else if nmBare k = false ∨ (v = true ∧ onB (m.drop (nmName k).length) = true) then 0 else (nmName k).length + 1)
  else 0
theorem semi_le (l : List UInt8) : semiN l ≤ 1 := by unfold semiN; split <;> omega

def digV (b : Nat) : Int := if 48 ≤ b ∧ b ≤ 57 then (b : Int) - 48 else if 97 ≤ b ∧ b ≤ 102 then (b : Int) - 87 else if 65 ≤ b ∧ b ≤ 70 then (b : Int) - 55 else -1
theorem digV_le (b : Nat) : -1 ≤ digV b ∧ digV b ≤ 15 := by
  unfold digV
  repeat' split
  all_goals omega
end Go.Proofs.YtfdhmhdemfbfeaaGreatDoor
