/-
  Several texts in one: what the functions of the program and of the document's answer do.
-/
import Derived.Test.YtbabmkilbbbmoaaDoorMgBI
import Derived.Deep.RegionWith
import Derived.Test.YtbabmkilbbbmoaaDoorMgBH
import Derived.Test.YtbabmkilbbbmoaaDoorSh
import Derived.Lib.RowBridge

/-
  What keys.At does (made by mk_iat.py).
-/
namespace Go.Proofs.YtbabmkilbbbmoaaDoor
open Go.RowKit
set_option linter.unusedVariables false
set_option linter.unusedSimpArgs false

def AtSaid (w : World) (f : Forest) (zs : List Int) (e : Ending) (w' : World) : Prop := ∃ v, e = .returned (.tuple #[v, .int .i64 (atE f zs)]) ∧ NodS f zs v w' ∧ Below w.heap.size w w'
set_option maxHeartbeats 8000000 in
set_option maxRecDepth 100000 in
theorem at_any (f : Forest) (q : Option Addr) (cap : Nat) (zs : List Int) (qw : Option Addr) (n cw : Nat) (w : World) (hf : Fo q f w) (hcap : f.len ≤ cap) (hs : SmF f) (hc : f.count ≤ 900000) (hw : IntsV qw n zs w) (hcw : n ≤ cw) (hn : n ≤ 1000000) :
    Calls Tryd.prog 18 #[.slice q f.len cap, .slice qw n cw] w fun e w' => AtSaid w f zs e w' := by
  obtain ⟨FL, hFL⟩ : ∃ FL, f.len = FL := ⟨_, rfl⟩
  obtain ⟨W1, hW1⟩ : ∃ W1, (w.alloc (Obj.cells #[.slice q FL cap] 22)).alloc (Obj.cells #[.int .i64 0, .int .i64 0, .string ⟨#[]⟩, .slice none 0 0, .string ⟨#[]⟩, .slice none 0 0] 44) = W1 := ⟨_, rfl⟩
  have hb1 : Below w.heap.size w W1 := by rw [← hW1]; exact ((Below.refl w.heap.size w).alloc (Nat.le_refl _) _).alloc (by simp) _
  have hs1 : W1.heap.size = w.heap.size + 2 := by rw [← hW1]; simp
  have k0 : Blk W1 w.heap.size #[.slice q FL cap] 22 := by rw [← hW1]; exact (Blk.new w _ _).alloc _
  have k1 : Blk W1 (w.heap.size + 1) #[.int .i64 0, .int .i64 0, .string ⟨#[]⟩, .slice none 0 0, .string ⟨#[]⟩, .slice none 0 0] 44 := by
    rw [← hW1]
    have := Blk.new (w.alloc (Obj.cells #[.slice q FL cap] 22)) #[.int .i64 0, .int .i64 0, .string ⟨#[]⟩, .slice none 0 0, .string ⟨#[]⟩, .slice none 0 0] 44
    simpa using this
  have hF : FoC W1 w.heap.size 0 f := ⟨q, cap, by rw [hFL]; exact k0.cell 0, hcap, hf.below hb1⟩
  have hW : IntsV qw n zs W1 := hw.below hb1
  have HB1 := hide hb1
  have K1 := hide k1
  rw [hFL]
  by_cases h0 : zs = []
  · subst h0
    obtain rfl : n = 0 := by have := hw.1; simpa using this
    have CL := hide (lead_none w.heap.size 0 qw cw 0 W1)
    have HA : Hid (atE f [] = 1) := hide (by unfold atE; rfl)
    clear hF hW hw hcw hn hs hc k0 k1 hb1
    go_enter Tryd.func18, Tryd.ntmps18
    go_wp2_with fail
    refine (unhide CL).mono ?_
    rintro e w2 ⟨rfl, rfl⟩
    have k1 := unhide K1
    have y0 : w2.cell? ⟨w.heap.size + 1, 0, none⟩ = some (.int .i64 0) := (k1).cell 0
    have y1 : w2.cell? ⟨w.heap.size + 1, 1, none⟩ = some (.int .i64 0) := (k1).cell 1
    have y2 : w2.cell? ⟨w.heap.size + 1, 2, none⟩ = some (.string ⟨#[]⟩) := (k1).cell 2
    have y3 : w2.cell? ⟨w.heap.size + 1, 3, none⟩ = some (.slice none 0 0) := (k1).cell 3
    have y4 : w2.cell? ⟨w.heap.size + 1, 4, none⟩ = some (.string ⟨#[]⟩) := (k1).cell 4
    have y5 : w2.cell? ⟨w.heap.size + 1, 5, none⟩ = some (.slice none 0 0) := (k1).cell 5
    have yf0 : w2.frozen? ⟨w.heap.size + 1, 0, none⟩ = false := (k1).frozen 0
    have yf1 : w2.frozen? ⟨w.heap.size + 1, 1, none⟩ = false := (k1).frozen 1
    have yf2 : w2.frozen? ⟨w.heap.size + 1, 2, none⟩ = false := (k1).frozen 2
    have yf3 : w2.frozen? ⟨w.heap.size + 1, 3, none⟩ = false := (k1).frozen 3
    have yf4 : w2.frozen? ⟨w.heap.size + 1, 4, none⟩ = false := (k1).frozen 4
    have yf5 : w2.frozen? ⟨w.heap.size + 1, 5, none⟩ = false := (k1).frozen 5
    clear CL k1 hW1
    go_wp2
    have kk := (((((((unhide K1).set 0 (by simp) (.int .i64 0)).set 1 (by simp) (.int .i64 0)).set 2 (by simp) (.string ⟨#[]⟩)).set 3 (by simp) (.slice none 0 0)).set 4 (by simp) (.string ⟨#[]⟩)).set 5 (by simp) (.slice none 0 0))
    have d0 := kk.cell 0
    have d1 := kk.cell 1
    have d2 := kk.cell 2
    have d3 := kk.cell 3
    have d4 := kk.cell 4
    have d5 := kk.cell 5
    exact bodyPost_ret (v := .tuple #[.agg #[.int .i64 0, .int .i64 0, .string ⟨#[]⟩, .slice none 0 0, .string ⟨#[]⟩, .slice none 0 0], .int .i64 1]) (by simp [results, Tryd.results18, go_sem, d0, d1, d2, d3, d4, d5]) rfl ⟨_, by rw [unhide HA]; rfl, Or.inl ⟨by rw [unhide HA]; decide, rfl⟩, (((((((unhide HB1).setCell (p := ⟨w.heap.size + 1, 0, none⟩) (by simp) _).setCell (p := ⟨w.heap.size + 1, 1, none⟩) (by simp) _).setCell (p := ⟨w.heap.size + 1, 2, none⟩) (by simp) _).setCell (p := ⟨w.heap.size + 1, 3, none⟩) (by simp) _).setCell (p := ⟨w.heap.size + 1, 4, none⟩) (by simp) _).setCell (p := ⟨w.heap.size + 1, 5, none⟩) (by simp) _)⟩
  · obtain ⟨ys, z, rfl⟩ := split_last h0
    have CL := hide (lead_any f w.heap.size 0 qw n cw ys z 0 W1 hF (by omega) hW hcw hn (by omega))
    have HLED := hide (at_led ys f z)
    have HSM := hide (fun g (h : ledF f ys = some g) => led_small ys f g h hs)
    have HW := hide hW
    obtain ⟨E, hE⟩ : ∃ E, atE f (ys ++ [z]) = E := ⟨_, rfl⟩
    have HE := hide hE
    have hnl : n = ys.length + 1 := by have := hw.1; simpa using this
    have hn0 : (1 : Int) ≤ (n : Int) := by omega
    have hni : (n : Int) ≤ 1000000 := by omega
    have hcwi : (n : Int) ≤ (cw : Int) := by omega
    have HNL := hide hnl
    have HC := hide hc
    clear hF hW hw hs hc k0 k1 hb1 hE h0 hnl hn
    go_enter Tryd.func18, Tryd.ntmps18
    go_wp2_with fail
    refine (unhide CL).mono ?_
    rintro e w2 ⟨hb2, hr⟩
    have HB2 := hide (tr2 (unhide HB1) hb2)
    have k1 := (unhide K1).later hb2
    have HK1 := hide k1
    rcases hr with ⟨hno, rfl⟩ | ⟨g, b', o', hled, hz0, hz1, hL, hFC, rfl⟩
    · have HA : Hid (E = 6) := hide (by
        rw [← unhide HE]
        rcases hno with h | ⟨g, h, h'⟩
        · exact (unhide HLED).2 h
        · rw [((unhide HLED).1 g h).2, if_pos (by simpa using h')])
      have y0 : w2.cell? ⟨w.heap.size + 1, 0, none⟩ = some (.int .i64 0) := (k1).cell 0
      have y1 : w2.cell? ⟨w.heap.size + 1, 1, none⟩ = some (.int .i64 0) := (k1).cell 1
      have y2 : w2.cell? ⟨w.heap.size + 1, 2, none⟩ = some (.string ⟨#[]⟩) := (k1).cell 2
      have y3 : w2.cell? ⟨w.heap.size + 1, 3, none⟩ = some (.slice none 0 0) := (k1).cell 3
      have y4 : w2.cell? ⟨w.heap.size + 1, 4, none⟩ = some (.string ⟨#[]⟩) := (k1).cell 4
      have y5 : w2.cell? ⟨w.heap.size + 1, 5, none⟩ = some (.slice none 0 0) := (k1).cell 5
      have yf0 : w2.frozen? ⟨w.heap.size + 1, 0, none⟩ = false := (k1).frozen 0
      have yf1 : w2.frozen? ⟨w.heap.size + 1, 1, none⟩ = false := (k1).frozen 1
      have yf2 : w2.frozen? ⟨w.heap.size + 1, 2, none⟩ = false := (k1).frozen 2
      have yf3 : w2.frozen? ⟨w.heap.size + 1, 3, none⟩ = false := (k1).frozen 3
      have yf4 : w2.frozen? ⟨w.heap.size + 1, 4, none⟩ = false := (k1).frozen 4
      have yf5 : w2.frozen? ⟨w.heap.size + 1, 5, none⟩ = false := (k1).frozen 5
      clear CL k1 hW1 hno hb2
      go_wp2
      have kk := (((((((unhide HK1).set 0 (by simp) (.int .i64 0)).set 1 (by simp) (.int .i64 0)).set 2 (by simp) (.string ⟨#[]⟩)).set 3 (by simp) (.slice none 0 0)).set 4 (by simp) (.string ⟨#[]⟩)).set 5 (by simp) (.slice none 0 0))
      have d0 := kk.cell 0
      have d1 := kk.cell 1
      have d2 := kk.cell 2
      have d3 := kk.cell 3
      have d4 := kk.cell 4
      have d5 := kk.cell 5
      exact bodyPost_ret (v := .tuple #[.agg #[.int .i64 0, .int .i64 0, .string ⟨#[]⟩, .slice none 0 0, .string ⟨#[]⟩, .slice none 0 0], .int .i64 6]) (by simp [results, Tryd.results18, go_sem, d0, d1, d2, d3, d4, d5]) rfl ⟨_, by rw [unhide HE, unhide HA]; rfl, Or.inl ⟨by rw [unhide HE, unhide HA]; decide, rfl⟩, (((((((unhide HB2).setCell (p := ⟨w.heap.size + 1, 0, none⟩) (by simp) _).setCell (p := ⟨w.heap.size + 1, 1, none⟩) (by simp) _).setCell (p := ⟨w.heap.size + 1, 2, none⟩) (by simp) _).setCell (p := ⟨w.heap.size + 1, 3, none⟩) (by simp) _).setCell (p := ⟨w.heap.size + 1, 4, none⟩) (by simp) _).setCell (p := ⟨w.heap.size + 1, 5, none⟩) (by simp) _)⟩
    · have hz2 : z < (g.len : Int) := by simpa using hz1
      obtain ⟨zn, rfl⟩ : ∃ zn : Nat, z = (zn : Int) := ⟨z.toNat, by omega⟩
      have HA : Hid (E = 0 ∧ atN f (ys ++ [(zn : Int)]) = g.drop zn) := hide (by
        have h := (unhide HLED).1 g hled
        rw [if_neg (by omega)] at h
        exact ⟨by rw [← unhide HE]; exact h.2, h.1⟩)
      obtain ⟨qg, cg, cG, hcg, hfg⟩ := hFC
      have hzl : zn < g.len := by omega
      obtain ⟨gb, og, rfl, hlg⟩ : ∃ gb og, qg = some ⟨gb, og, none⟩ ∧ Lies g gb og W1 := by
        rcases hfg with h | h
        · rw [h] at hzl; simp [Forest.len] at hzl
        · exact h
      obtain ⟨sk, sc⟩ := unhide HSM g hled
      obtain ⟨k, sp, nm, ats, tx, kids, hdr⟩ := g.drop_cons zn hzl
      have hld := hlg.drop zn
      have skd := SmF.drop zn g sk
      have hcd := Forest.count_drop zn g
      rw [hdr] at hld skd hcd
      obtain ⟨⟨e0, e1, e2, ⟨qa, ca, e3, hsl⟩, e4, ⟨qk, ck, e5, hck, hfo⟩⟩, -⟩ := hld
      have hcd' : 1 + kids.count + (g.drop (zn + 1)).count ≤ g.count := hcd
      have hv : NdV k sp nm ats tx kids (ndV k sp nm qa ats.length ca tx qk kids.len ck) w2 := ⟨qa, ca, qk, ck, rfl, hsl.below hb2, (show Fo qk kids W1 from hfo).below hb2, hck⟩
      have HV : Hid (NdV k sp nm ats tx kids (ndV k sp nm qa ats.length ca tx qk kids.len ck) w2.drew) := hide (hv.below (Below.drew (Below.refl _ _)))
      have hc9 := unhide HC
      have CC := hide (fun (W : World) (h : NdV k sp nm ats tx kids (ndV k sp nm qa ats.length ca tx qk kids.len ck) W) => copied_any k sp nm ats tx kids _ W h (by omega) ⟨skd.1, skd.2.1, trivial⟩)
      unfold ndV at CC HV
      obtain ⟨gw, ow, rfl, hcz⟩ := (unhide HW).2 (by omega)
      have cz : W1.cell? ⟨gw, ow + ys.length, none⟩ = some (.int .i64 (zn : Int)) := by
        have := hcz ys.length (by have := unhide HNL; omega)
        rw [this]; simp [List.getD]
      have cz2 := cell_later hb2 cz
      have cG2 := cell_later hb2 cG
      have x0 := cell_later hb2 e0
      have x1 := cell_later hb2 e1
      have x2 := cell_later hb2 e2
      have x3 := cell_later hb2 e3
      have x4 := cell_later hb2 e4
      have x5 := cell_later hb2 e5
      have HDR := hide hdr
      have hnn : ((n : Int) - 1) = (ys.length : Int) := by have := unhide HNL; omega
      obtain rfl : n = ys.length + 1 := unhide HNL
      obtain ⟨yl, hyl⟩ : ∃ yl, ys.length = yl := ⟨_, rfl⟩
      rw [hyl] at cz2 hcwi hn0 hni
      rw [hyl]
      have hzi : (zn : Int) < (g.len : Int) := hz2
      generalize g.len = gl at *
      obtain ⟨al, hal⟩ : ∃ al, ats.length = al := ⟨_, rfl⟩
      obtain ⟨kl, hkl⟩ : ∃ kl, kids.len = kl := ⟨_, rfl⟩
      have HAL := hide hal
      have HKL := hide hkl
      rw [hal] at x3
      rw [hkl] at x5
      have HV2 := HV
      rw [hal, hkl] at HV2
      have CC2 := CC
      rw [hal, hkl] at CC2
      clear HV CC hal hkl
      have z0 : (0 : Int) ≤ (zn : Int) := hz0
      have yl0 : (0 : Int) ≤ (yl : Int) := by omega
      have yl1 : (yl : Int) ≤ 1000000 := by omega
      have hwy : IntKind.i64.wrap (yl : Int) = (yl : Int) := by rw [IntKind.wrap_i64]; omega
      clear CL k1 hW1 hled hz1 hz2 hL hcg hlg hdr hcd hcd' skd sk sc hsl hfo hck hv hcz cz cG e0 e1 e2 e3 e4 e5 hb2 hnn hyl hzl hfg HNL hn0 hcw hz0 hcwi hni hc9 hs1 hcap
      go_wp2
      go_region_with (go_at_call 47; refine Calls.mono (unhide CC2 _ (unhide HV2)) ?_; rintro e w4 ⟨v4, rfl, ⟨qa', ca', qk', ck', rfl, hsl4, hfo4, hck4⟩, hb4⟩; unfold ndV; have k4 : Blk w4 (w.heap.size + 1) #[.int .i64 0, .int .i64 0, .string ⟨#[]⟩, .slice none 0 0, .string ⟨#[]⟩, .slice none 0 0] 44 := (hb4.block _ (unhide HK1).lt).trans (unhide HK1); have y0 : w4.cell? ⟨w.heap.size + 1, 0, none⟩ = some (.int .i64 0) := (k4).cell 0; have y1 : w4.cell? ⟨w.heap.size + 1, 1, none⟩ = some (.int .i64 0) := (k4).cell 1; have y2 : w4.cell? ⟨w.heap.size + 1, 2, none⟩ = some (.string ⟨#[]⟩) := (k4).cell 2; have y3 : w4.cell? ⟨w.heap.size + 1, 3, none⟩ = some (.slice none 0 0) := (k4).cell 3; have y4 : w4.cell? ⟨w.heap.size + 1, 4, none⟩ = some (.string ⟨#[]⟩) := (k4).cell 4; have y5 : w4.cell? ⟨w.heap.size + 1, 5, none⟩ = some (.slice none 0 0) := (k4).cell 5; have yf0 : w4.frozen? ⟨w.heap.size + 1, 0, none⟩ = false := (k4).frozen 0; have yf1 : w4.frozen? ⟨w.heap.size + 1, 1, none⟩ = false := (k4).frozen 1; have yf2 : w4.frozen? ⟨w.heap.size + 1, 2, none⟩ = false := (k4).frozen 2; have yf3 : w4.frozen? ⟨w.heap.size + 1, 3, none⟩ = false := (k4).frozen 3; have yf4 : w4.frozen? ⟨w.heap.size + 1, 4, none⟩ = false := (k4).frozen 4; have yf5 : w4.frozen? ⟨w.heap.size + 1, 5, none⟩ = false := (k4).frozen 5; have HSL4 := hide hsl4; have HFO4 := hide hfo4; have HB4 := hide hb4; have HK4 := hide k4; clear hsl4 hfo4 hb4 k4)
      all_goals (
        go_wp2
        have kk := (((((((unhide HK4).set 0 (by simp) (.int .i64 k)).set 1 (by simp) (.int .i64 sp)).set 2 (by simp) (.string nm)).set 3 (by simp) (.slice qa' ats.length ca')).set 4 (by simp) (.string tx)).set 5 (by simp) (.slice qk' kids.len ck'))
        have d0 := kk.cell 0
        have d1 := kk.cell 1
        have d2 := kk.cell 2
        have d3 := kk.cell 3
        have d4 := kk.cell 4
        have d5 := kk.cell 5
        have hp : hiP w2.heap.size (w.heap.size + 1) = true := hiP_at (unhide HK1).lt
        have hle : CellLe (mask (hiP w2.heap.size) w4) _ := (((((((mask_set (o := 0) (v := .int .i64 k) hp).trans (mask_set (o := 1) (v := .int .i64 sp) hp)).trans (mask_set (o := 2) (v := .string nm) hp)).trans (mask_set (o := 3) (v := .slice qa' ats.length ca') hp)).trans (mask_set (o := 4) (v := .string tx) hp)).trans (mask_set (o := 5) (v := .slice qk' kids.len ck') hp)).trans (mask_out _ _))
        exact bodyPost_ret (v := .tuple #[.agg #[.int .i64 k, .int .i64 sp, .string nm, .slice qa' ats.length ca', .string tx, .slice qk' kids.len ck'], .int .i64 0]) (by simp [results, Tryd.results18, go_sem, d0, d1, d2, d3, d4, d5]) rfl ⟨_, by rw [unhide HE, (unhide HA).1]; rfl, Or.inr ⟨by rw [unhide HE]; exact (unhide HA).1, k, sp, nm, ats, tx, kids, _, (unhide HA).2.trans (unhide HDR), qa', ca', qk', ck', rfl, Sl.le hle (unhide HSL4), Fo.le hle (unhide HFO4), hck4⟩, ((((((((unhide HB2).drew.trans ((unhide HB4).mono (unhide HB2).size)).setCell (p := ⟨w.heap.size + 1, 0, none⟩) (by simp) _).setCell (p := ⟨w.heap.size + 1, 1, none⟩) (by simp) _).setCell (p := ⟨w.heap.size + 1, 2, none⟩) (by simp) _).setCell (p := ⟨w.heap.size + 1, 3, none⟩) (by simp) _).setCell (p := ⟨w.heap.size + 1, 4, none⟩) (by simp) _).setCell (p := ⟨w.heap.size + 1, 5, none⟩) (by simp) _)⟩)
end Go.Proofs.YtbabmkilbbbmoaaDoor

/-
  What keys.Way does.
-/
namespace Go.Proofs.YtbabmkilbbbmoaaDoor
open Go.RowKit Go.Maps
set_option linter.unusedVariables false
set_option linter.unusedSimpArgs false

theorem below_cellsI {B b : Nat} {a : World} (hb : B ≤ b) : ∀ (vs : List Value) (o : Nat) (w : World), Below B a w → Below B a (w.setCells b o vs)
  | [], o, w, h => h
  | v :: r, o, w, h => below_cellsI hb r (o + 1) _ (h.setCell (p := ⟨b, o, none⟩) hb v)
/-- Numbers turned about in their own row. -/
theorem rev_any (B : Nat) (v : Value) (n : Nat) (zs : List Int) (w : World) (h : w.ownsRow B 3 1 v n (zs.map (Value.int .i64))) (hn : n ≤ 1000000) :
    ∃ q c, v = .slice q n c ∧ n ≤ c ∧ n = zs.length ∧ Calls Tryd.prog 45 #[.slice q n c] w fun e w' => e = .returned (.tuple #[]) ∧ IntsV q n zs.reverse w' ∧ Below B w w' := by
  obtain ⟨hl, h⟩ := h
  have hnz : n = zs.length := by simpa using hl.symm
  rcases h with ⟨rfl, h⟩ | ⟨g, cap, cur, rfl, h1, h2, h3, h4, h5, h6⟩
  · refine ⟨none, 0, by rw [h], by omega, hnz, ?_⟩
    have hz : zs = [] := List.eq_nil_of_length_eq_zero (by omega)
    subst hz
    subst h
    refine (Tryd.slices_Reverse_int_empty none 0 w).mono ?_
    rintro e w' ⟨rfl, rfl⟩
    exact ⟨rfl, IntsV.nil _ _, Below.refl _ _⟩
  · refine ⟨_, cap, rfl, h3, hnz, ?_⟩
    have hc : ∀ j, j < zs.length → w.cell? ⟨g, 0 + j, none⟩ = some (.int .i64 (zs.getD j 0)) := fun j hj => by
      rw [Nat.zero_add, Joins.cell_of_block h2]
      have := congrArg (fun l => l[j]?) h6
      simp only [Nat.mul_one] at this
      rw [List.getElem?_take, if_pos (by omega), List.getElem?_map, List.getElem?_eq_getElem hj] at this
      simpa [List.getD, hj] using this
    have hf : ∀ j, j < n → w.frozen? ⟨g, 0 + j, none⟩ = false := fun j _ => by simp [World.frozen?, h2]
    have hH := Lib.holds_of_ints (n := n) (by omega) hc hf
    have ht : zs.take n = zs := List.take_of_length_le (by omega)
    rw [ht] at hH
    have hcall := Tryd.slices_Reverse_int g 0 cap zs w hH (by omega)
    rw [← hnz] at hcall
    refine hcall.mono ?_
    rintro e w' ⟨rfl, qd, rfl⟩
    have hr : (zs.reverse).length = n := by rw [List.length_reverse]; exact hnz.symm
    rw [Lib.putRow_eq_setCells _ w g 0 _ _ qd hH (by simp)]
    refine ⟨rfl, ⟨hr.symm, fun _ => ⟨g, 0, rfl, fun j hj => ?_⟩⟩, below_cellsI h1 _ _ _ (_root_.Go.below_drewN (Below.refl _ _) _)⟩
    have := Lib.cells_after_ints (W := w) (b := g) (off := 0) (n := n) (q := qd) (zs := zs) (ys := zs.reverse) (by omega) hr hc j (by simp; omega)
    rw [this]
    simp [List.getD, hnz]

set_option maxHeartbeats 4000000 in
set_option maxRecDepth 100000 in
theorem way_any (f : Forest) (q : Option Addr) (cap : Nat) (num : Int) (w : World) (hf : Fo q f w) (hcap : f.len ≤ cap) (hc : f.count ≤ 500000) :
    Calls Tryd.prog 17 #[.slice q f.len cap, .int .i64 num] w fun e w' => ∃ q' n' c', n' ≤ c' ∧ e = .returned (.tuple #[.slice q' n' c', .int .i64 (if num < 0 ∨ (f.count : Int) ≤ num then 6 else 0)]) ∧ IntsV q' n' (wayF f 0 num) w' ∧ Below w.heap.size w w' := by
  obtain ⟨i0, hi0, hi1, hi2, hi3⟩ := infoInt
  have CI := hide (items_any f q cap w hf hcap hc)
  obtain ⟨E, hE⟩ : ∃ E : Int, (if num < 0 ∨ (f.count : Int) ≤ num then 6 else 0 : Int) = E := ⟨_, rfl⟩
  obtain ⟨WF, hWF⟩ : ∃ WF, wayF f 0 num = WF := ⟨_, rfl⟩
  rw [hE, hWF]
  obtain ⟨N, hN⟩ : ∃ N, f.count = N := ⟨_, rfl⟩
  rw [hN] at CI hE hc
  have HE := hide hE
  have HWF := hide hWF
  have HN := hide hN
  clear hf hE hWF hN
  go_enter Tryd.func17, Tryd.ntmps17
  go_wp2_with fail
  refine (unhide CI).mono ?_
  rintro e w1 ⟨qi, ci, rfl, ⟨hin, hic, his⟩, hb1⟩
  have HIS := hide his
  have HB := hide hb1
  clear CI his hb1 hin
  by_cases h1 : num < 0
  · have HD : Hid (E = 6 ∧ WF = []) := hide ⟨by rw [← unhide HE, if_pos (Or.inl h1)], by rw [← unhide HWF]; exact wayF_out f 0 num (Or.inl h1)⟩
    have h1' : (decide (num < 0)) = true := decide_eq_true h1
    go_wp2
    go_ret2
    exact ⟨none, 0, 0, Nat.le_refl _, by rw [(unhide HD).1]; rfl, by rw [(unhide HD).2]; exact IntsV.nil _ _, unhide HB⟩
  by_cases h2 : (N : Int) ≤ num
  · have HD : Hid (E = 6 ∧ WF = []) := hide ⟨by rw [← unhide HE, if_pos (Or.inr h2)], by rw [← unhide HWF]; exact wayF_out f 0 num (Or.inr (by rw [unhide HN]; exact h2))⟩
    have h3 : ¬ num < (N : Int) := by omega
    go_wp2
    go_ret2
    exact ⟨none, 0, 0, Nat.le_refl _, by rw [(unhide HD).1]; rfl, by rw [(unhide HD).2]; exact IntsV.nil _ _, unhide HB⟩
  obtain ⟨nn, rfl⟩ : ∃ nn : Nat, num = (nn : Int) := ⟨num.toNat, by omega⟩
  have HD : Hid (E = 0) := hide (by rw [← unhide HE, if_neg (by omega)])
  have hnN : nn < N := by omega
  have hup := up_top f nn (by rw [unhide HN]; exact hnN)
  rw [unhide HWF] at hup
  have hwl : WF.length ≤ N := by rw [← unhide HWF, ← unhide HN]; exact wayF_len f 0 _
  obtain ⟨g, rfl, hz⟩ : ∃ g, qi = some ⟨g, 0, none⟩ ∧ ItZ (itm f 0 (-1) 0 0) (szA f) g w1 := by
    rcases unhide HIS with h | h
    · have := unhide HN; rw [h] at this; simp [Forest.count] at this; omega
    · exact h
  have HZ := hide hz
  have HUP := hide hup
  have h0' : (0 : Int) ≤ (nn : Int) := by omega
  have h2' : (nn : Int) < (N : Int) := by omega
  have hd1 : decide (N ≤ nn) = false := decide_eq_false (by omega)
  have hd2 : decide ((nn : Int) < 0) = false := decide_eq_false (by omega)
  clear hz hup HIS h1 h2
  go_wp2
  go_loopg [7, 8] WF.length (fun gk u a wr => ∃ (at' : Int) (acc l : List Int), a = .int .i64 at' ∧ l.length = gk ∧ Up (itm f 0 (-1) 0 0) at' l ∧ acc ++ l = WF.reverse ∧ wr.ownsRow w1.heap.size 3 1 u acc.length (acc.map (Value.int .i64)) ∧ Below w1.heap.size w1 wr)
  case atStart => exact ⟨(nn : Int), [], WF.reverse, rfl, by simp, unhide HUP, rfl, World.ownsRow_nil _ _ _ _, Below.refl _ _⟩
  case round =>
    clear HUP
    obtain ⟨at', acc, l, rfl, hgk, hup, hal, hrow, hbw⟩ := hrel
    have hlen : acc.length + l.length = WF.length := by have := congrArg List.length hal; simpa using this
    cases hup with
    | top p hp =>
      rw [List.append_nil] at hal
      obtain ⟨q2, c2, hv, hnc, hnl, hcall⟩ := rev_any w1.heap.size _ acc.length acc wr hrow (by simp at hlen; omega)
      subst hv
      have CR := hide hcall
      have HBW := hide hbw
      have HAL := hide hal
      clear hcall hbw hal hrow hlen hgk
      go_wp2_with fail
      refine (unhide CR).mono ?_
      rintro e w2 ⟨rfl, hi, hb2⟩
      have HI := hide hi
      have HB2 := hide hb2
      clear hi hb2 CR
      go_wp2
      go_ret2
      refine ⟨q2, acc.length, c2, hnc, by rw [unhide HD]; rfl, ?_, tr2 (unhide HB) ((unhide HBW).trans (unhide HB2))⟩
      have e : acc.reverse = WF := by rw [unhide HAL, List.reverse_reverse]
      rw [← e]; exact unhide HI
    | nd i x l' hx hu =>
      have hiN : i < N := by have := (List.getElem?_eq_some_iff.1 hx).1; rw [itm_len, unhide HN] at this; exact this
      obtain ⟨-, b1, b2, -, -⟩ := (unhide HZ).2 i x hx
      have b1' := cell_later hbw b1
      have b2' := cell_later hbw b2
      obtain ⟨ra, rn, rc, hv⟩ := slice_of hrow
      subst hv
      have hiI : (0 : Int) ≤ (i : Int) := by omega
      have hiNi : (i : Int) < (N : Int) := by omega
      have HR := hide hrow
      have HBW := hide hbw
      have hsz := hbw.size
      have HX := hide (And.intro hal hu)
      have HB1 := hide b1
      obtain ⟨x0, x1, x2, x3⟩ := x
      have hal2 : acc.length ≤ 500000 := by omega
      simp at hgk
      clear hrow hbw hal hu hx b1 b2 hlen
      dsimp only at b1' b2' HX HB1
      go_wp2_with (at_builtin; refine wpList_append_own_at _ rfl _ _ 38 rfl w1.heap.size 3 i0 (.int .i64 0) 1 8 Tryd.underlying38 hi0 hi1 hi2 hi3 rfl (by decide) (.slice ra rn rc) _ _ rfl ((unhide HR).alloc _) ⟨wr.heap.size, 0, none⟩ 1 1 [.int .i64 x2] rfl rfl ?c1 ?c2 ?c3 ?c4 ?c5 ?_)
      case c1 => exact fun j u hj => lit1i hj
      case c2 => simp [Value.oneCell']
      case c3 => simp only [maxLen]; omega
      case c4 => omega
      case c5 => simp; omega
      intro u' w3 hown hgr _ _
      have HO := hide hown
      have hza : w1.heap.size ≤ (wr.alloc (Obj.cells #[.int .i64 x2] 3)).heap.size := by simp; omega
      have HG := hide (((unhide HBW).alloc (by omega) (Obj.cells #[.int .i64 x2] 3)).grown hgr hza (fun j hj => ((unhide HR).lt j hj).1))
      have k1 := cell_later (unhide HG) (unhide HB1)
      obtain ⟨yq, yn, yc, hyv⟩ := slice_of hown
      subst hyv
      clear hown hgr
      go_wp2
      go_roundg l'.length
      case measure => omega
      case rel => exact ⟨x1, acc ++ [x2], l', rfl, rfl, (unhide HX).2, by rw [List.append_assoc]; exact (unhide HX).1, by rw [List.length_append, List.map_append]; exact unhide HO, unhide HG⟩
end Go.Proofs.YtbabmkilbbbmoaaDoor

/-
  The small case of the laws on keys: three nodes.
-/
namespace Go.Proofs.YtbabmkilbbbmoaaDoor
open Go.RowKit Go.Maps
set_option linter.unusedVariables false
set_option linter.unusedSimpArgs false

theorem itoa_small (w0 : World) (i : Nat) (hi : i < 100) : ItoaAt w0 (i : Int) := by
  have he : itoB (i : Int) = Lib.decDigits i := Lib.itoa_nonneg i
  have hl : (Lib.decDigits i).length ≤ 2 := by
    unfold Lib.decDigits
    by_cases h : i < 10
    · rw [dif_pos h]; simp
    · rw [dif_neg h]
      unfold Lib.decDigits
      rw [dif_pos (by omega)]; simp
  refine ⟨by rw [he]; omega, fun W _ => ?_⟩
  refine (Tryd.strconv_Itoa_small i hi W).mono ?_
  rintro e w' ⟨rfl, rfl⟩
  exact ⟨by rw [he]; rfl, Below.refl _ _⟩
def nI : Forest := .cons 1 0 ⟨#[105]⟩ [] ⟨#[]⟩ .nil .nil
def nB : Forest := .cons 1 0 ⟨#[98]⟩ [] ⟨#[]⟩ .nil .nil
def T3 : Forest := .cons 1 0 ⟨#[112]⟩ [] ⟨#[]⟩ nB nI
theorem small_nd (k sp : Int) (n : ByteArray) (kids rest : Forest) (hn : n.size ≤ 10) (hk : SmF kids) (hr : SmF rest) (hc : kids.count ≤ 1000) : SmF (.cons k sp n [] ⟨#[]⟩ kids rest) :=
  ⟨⟨Nat.zero_le _, by omega, fits_nil, by omega⟩, hk, hr⟩
theorem smT3 : SmF T3 := small_nd _ _ _ _ _ (by decide) (small_nd _ _ _ _ _ (by decide) trivial trivial (by decide)) (small_nd _ _ _ _ _ (by decide) trivial trivial (by decide)) (by decide)
theorem itI (w0 : World) : ItF w0 nI := ⟨⟨itoa_small w0 1 (by decide), itoa_small w0 0 (by decide), itoa_small w0 1 (by decide), itoa_small w0 0 (by decide), itoa_small w0 0 (by decide), itoa_small w0 0 (by decide), fun j hj => absurd hj (Nat.not_lt_zero j)⟩, trivial, trivial⟩
theorem keyI_len (w0 : World) : (keyF nI).length ≤ 100000000000 := by
  have n0 := numB_len w0 0 (itoa_small w0 0 (by decide))
  have n1 := numB_len w0 1 (itoa_small w0 1 (by decide))
  have t1 := textB_len w0 ⟨#[105]⟩ (itoa_small w0 1 (by decide))
  have t0 := textB_len w0 ⟨#[]⟩ (itoa_small w0 0 (by decide))
  have z1 : (⟨#[105]⟩ : ByteArray).size = 1 := rfl
  have z0 : (⟨#[]⟩ : ByteArray).size = 0 := rfl
  have e1 : (([] : List (ByteArray × ByteArray)).length : Int) = 0 := rfl
  have e2 : ((Forest.nil.len : Nat) : Int) = 0 := rfl
  simp only [nI, keyF, nodeB, labelB, atsB, List.length_append, List.length_nil, e1, e2]
  have e3 : (((0 : Nat)) : Int) = 0 := rfl
  rw [e3]
  omega
end Go.Proofs.YtbabmkilbbbmoaaDoor
