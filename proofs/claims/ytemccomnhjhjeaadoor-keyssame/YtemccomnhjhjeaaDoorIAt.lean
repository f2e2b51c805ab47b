/-
  What keys.At does (made by mk_iat.py).
-/
import Derived.Test.YtemccomnhjhjeaaDoorMgBI
import Derived.Deep.RegionWith
namespace Go.Proofs.YtemccomnhjhjeaaDoor
open Go.RowKit
set_option linter.unusedVariables false
set_option linter.unusedSimpArgs false

def AtSaid (w : World) (f : Forest) (zs : List Int) (e : Ending) (w' : World) : Prop := ∃ v, e = .returned (.tuple #[v, .int .i64 (atE f zs)]) ∧ NodS f zs v w' ∧ Below w.heap.size w w'
set_option maxHeartbeats 8000000 in
set_option maxRecDepth 100000 in
theorem at_any (f : Forest) (q : Option Addr) (cap : Nat) (zs : List Int) (qw : Option Addr) (n cw : Nat) (w : World) (hf : Fo q f w) (hcap : f.len ≤ cap) (hs : SmF f) (hc : f.count ≤ 900000) (hw : IntsV qw n zs w) (hcw : n ≤ cw) (hn : n ≤ 1000000) :
    Calls Tryd.prog 16 #[.slice q f.len cap, .slice qw n cw] w fun e w' => AtSaid w f zs e w' := by
  obtain ⟨FL, hFL⟩ : ∃ FL, f.len = FL := ⟨_, rfl⟩
  obtain ⟨W1, hW1⟩ : ∃ W1, (w.alloc (Obj.cells #[.slice q FL cap] 22)).alloc (Obj.cells #[.int .i64 0, .int .i64 0, .string ⟨#[]⟩, .slice none 0 0, .string ⟨#[]⟩, .slice none 0 0] 34) = W1 := ⟨_, rfl⟩
  have hb1 : Below w.heap.size w W1 := by rw [← hW1]; exact ((Below.refl w.heap.size w).alloc (Nat.le_refl _) _).alloc (by simp) _
  have hs1 : W1.heap.size = w.heap.size + 2 := by rw [← hW1]; simp
  have k0 : Blk W1 w.heap.size #[.slice q FL cap] 22 := by rw [← hW1]; exact (Blk.new w _ _).alloc _
  have k1 : Blk W1 (w.heap.size + 1) #[.int .i64 0, .int .i64 0, .string ⟨#[]⟩, .slice none 0 0, .string ⟨#[]⟩, .slice none 0 0] 34 := by
    rw [← hW1]
    have := Blk.new (w.alloc (Obj.cells #[.slice q FL cap] 22)) #[.int .i64 0, .int .i64 0, .string ⟨#[]⟩, .slice none 0 0, .string ⟨#[]⟩, .slice none 0 0] 34
    simpa using this
  have hF : FoC W1 w.heap.size 0 f := ⟨q, cap, by rw [hFL]; exact k0.cell 0, hcap, hf.below hb1⟩
  have hW : IntsV qw n zs W1 := hw.below hb1
  have HB1 := hide hb1
  have K1 := hide k1
  rw [hFL]
  by_cases h0 : zs = []
  · subst h0
    obtain rfl : n = 0 := by have := hw.1; simpa using this
    have CL := hide (lead_none w.heap.size 0 qw cw 0 W1)
    have HA : Hid (atE f [] = 1) := hide (by unfold atE; rfl)
    clear hF hW hw hcw hn hs hc k0 k1 hb1
    go_enter Tryd.func16, Tryd.ntmps16
    go_wp2_with fail
    refine (unhide CL).mono ?_
    rintro e w2 ⟨rfl, rfl⟩
    have k1 := unhide K1
    have y0 : w2.cell? ⟨w.heap.size + 1, 0, none⟩ = some (.int .i64 0) := (k1).cell 0
    have y1 : w2.cell? ⟨w.heap.size + 1, 1, none⟩ = some (.int .i64 0) := (k1).cell 1
    have y2 : w2.cell? ⟨w.heap.size + 1, 2, none⟩ = some (.string ⟨#[]⟩) := (k1).cell 2
    have y3 : w2.cell? ⟨w.heap.size + 1, 3, none⟩ = some (.slice none 0 0) := (k1).cell 3
    have y4 : w2.cell? ⟨w.heap.size + 1, 4, none⟩ = some (.string ⟨#[]⟩) := (k1).cell 4
    have y5 : w2.cell? ⟨w.heap.size + 1, 5, none⟩ = some (.slice none 0 0) := (k1).cell 5
    have yf0 : w2.frozen? ⟨w.heap.size + 1, 0, none⟩ = false := (k1).frozen 0
    have yf1 : w2.frozen? ⟨w.heap.size + 1, 1, none⟩ = false := (k1).frozen 1
    have yf2 : w2.frozen? ⟨w.heap.size + 1, 2, none⟩ = false := (k1).frozen 2
    have yf3 : w2.frozen? ⟨w.heap.size + 1, 3, none⟩ = false := (k1).frozen 3
    have yf4 : w2.frozen? ⟨w.heap.size + 1, 4, none⟩ = false := (k1).frozen 4
    have yf5 : w2.frozen? ⟨w.heap.size + 1, 5, none⟩ = false := (k1).frozen 5
    clear CL k1 hW1
    go_wp2
    have kk := (((((((unhide K1).set 0 (by simp) (.int .i64 0)).set 1 (by simp) (.int .i64 0)).set 2 (by simp) (.string ⟨#[]⟩)).set 3 (by simp) (.slice none 0 0)).set 4 (by simp) (.string ⟨#[]⟩)).set 5 (by simp) (.slice none 0 0))
    have d0 := kk.cell 0
    have d1 := kk.cell 1
    have d2 := kk.cell 2
    have d3 := kk.cell 3
    have d4 := kk.cell 4
    have d5 := kk.cell 5
    exact bodyPost_ret (v := .tuple #[.agg #[.int .i64 0, .int .i64 0, .string ⟨#[]⟩, .slice none 0 0, .string ⟨#[]⟩, .slice none 0 0], .int .i64 1]) (by simp [results, Tryd.results16, go_sem, d0, d1, d2, d3, d4, d5]) rfl ⟨_, by rw [unhide HA]; rfl, Or.inl ⟨by rw [unhide HA]; decide, rfl⟩, (((((((unhide HB1).setCell (p := ⟨w.heap.size + 1, 0, none⟩) (by simp) _).setCell (p := ⟨w.heap.size + 1, 1, none⟩) (by simp) _).setCell (p := ⟨w.heap.size + 1, 2, none⟩) (by simp) _).setCell (p := ⟨w.heap.size + 1, 3, none⟩) (by simp) _).setCell (p := ⟨w.heap.size + 1, 4, none⟩) (by simp) _).setCell (p := ⟨w.heap.size + 1, 5, none⟩) (by simp) _)⟩
  · obtain ⟨ys, z, rfl⟩ := split_last h0
    have CL := hide (lead_any f w.heap.size 0 qw n cw ys z 0 W1 hF (by omega) hW hcw hn (by omega))
    have HLED := hide (at_led ys f z)
    have HSM := hide (fun g (h : ledF f ys = some g) => led_small ys f g h hs)
    have HW := hide hW
    obtain ⟨E, hE⟩ : ∃ E, atE f (ys ++ [z]) = E := ⟨_, rfl⟩
    have HE := hide hE
    have hnl : n = ys.length + 1 := by have := hw.1; simpa using this
    have hn0 : (1 : Int) ≤ (n : Int) := by omega
    have hni : (n : Int) ≤ 1000000 := by omega
    have hcwi : (n : Int) ≤ (cw : Int) := by omega
    have HNL := hide hnl
    have HC := hide hc
    clear hF hW hw hs hc k0 k1 hb1 hE h0 hnl hn
    go_enter Tryd.func16, Tryd.ntmps16
    go_wp2_with fail
    refine (unhide CL).mono ?_
    rintro e w2 ⟨hb2, hr⟩
    have HB2 := hide (tr2 (unhide HB1) hb2)
    have k1 := (unhide K1).later hb2
    have HK1 := hide k1
    rcases hr with ⟨hno, rfl⟩ | ⟨g, b', o', hled, hz0, hz1, hL, hFC, rfl⟩
    · have HA : Hid (E = 6) := hide (by
        rw [← unhide HE]
        rcases hno with h | ⟨g, h, h'⟩
        · exact (unhide HLED).2 h
        · rw [((unhide HLED).1 g h).2, if_pos (by simpa using h')])
      have y0 : w2.cell? ⟨w.heap.size + 1, 0, none⟩ = some (.int .i64 0) := (k1).cell 0
      have y1 : w2.cell? ⟨w.heap.size + 1, 1, none⟩ = some (.int .i64 0) := (k1).cell 1
      have y2 : w2.cell? ⟨w.heap.size + 1, 2, none⟩ = some (.string ⟨#[]⟩) := (k1).cell 2
      have y3 : w2.cell? ⟨w.heap.size + 1, 3, none⟩ = some (.slice none 0 0) := (k1).cell 3
      have y4 : w2.cell? ⟨w.heap.size + 1, 4, none⟩ = some (.string ⟨#[]⟩) := (k1).cell 4
      have y5 : w2.cell? ⟨w.heap.size + 1, 5, none⟩ = some (.slice none 0 0) := (k1).cell 5
      have yf0 : w2.frozen? ⟨w.heap.size + 1, 0, none⟩ = false := (k1).frozen 0
      have yf1 : w2.frozen? ⟨w.heap.size + 1, 1, none⟩ = false := (k1).frozen 1
      have yf2 : w2.frozen? ⟨w.heap.size + 1, 2, none⟩ = false := (k1).frozen 2
      have yf3 : w2.frozen? ⟨w.heap.size + 1, 3, none⟩ = false := (k1).frozen 3
      have yf4 : w2.frozen? ⟨w.heap.size + 1, 4, none⟩ = false := (k1).frozen 4
      have yf5 : w2.frozen? ⟨w.heap.size + 1, 5, none⟩ = false := (k1).frozen 5
      clear CL k1 hW1 hno hb2
      go_wp2
      have kk := (((((((unhide HK1).set 0 (by simp) (.int .i64 0)).set 1 (by simp) (.int .i64 0)).set 2 (by simp) (.string ⟨#[]⟩)).set 3 (by simp) (.slice none 0 0)).set 4 (by simp) (.string ⟨#[]⟩)).set 5 (by simp) (.slice none 0 0))
      have d0 := kk.cell 0
      have d1 := kk.cell 1
      have d2 := kk.cell 2
      have d3 := kk.cell 3
      have d4 := kk.cell 4
      have d5 := kk.cell 5
      exact bodyPost_ret (v := .tuple #[.agg #[.int .i64 0, .int .i64 0, .string ⟨#[]⟩, .slice none 0 0, .string ⟨#[]⟩, .slice none 0 0], .int .i64 6]) (by simp [results, Tryd.results16, go_sem, d0, d1, d2, d3, d4, d5]) rfl ⟨_, by rw [unhide HE, unhide HA]; rfl, Or.inl ⟨by rw [unhide HE, unhide HA]; decide, rfl⟩, (((((((unhide HB2).setCell (p := ⟨w.heap.size + 1, 0, none⟩) (by simp) _).setCell (p := ⟨w.heap.size + 1, 1, none⟩) (by simp) _).setCell (p := ⟨w.heap.size + 1, 2, none⟩) (by simp) _).setCell (p := ⟨w.heap.size + 1, 3, none⟩) (by simp) _).setCell (p := ⟨w.heap.size + 1, 4, none⟩) (by simp) _).setCell (p := ⟨w.heap.size + 1, 5, none⟩) (by simp) _)⟩
    · have hz2 : z < (g.len : Int) := by simpa using hz1
      obtain ⟨zn, rfl⟩ : ∃ zn : Nat, z = (zn : Int) := ⟨z.toNat, by omega⟩
      have HA : Hid (E = 0 ∧ atN f (ys ++ [(zn : Int)]) = g.drop zn) := hide (by
        have h := (unhide HLED).1 g hled
        rw [if_neg (by omega)] at h
        exact ⟨by rw [← unhide HE]; exact h.2, h.1⟩)
      obtain ⟨qg, cg, cG, hcg, hfg⟩ := hFC
      have hzl : zn < g.len := by omega
      obtain ⟨gb, og, rfl, hlg⟩ : ∃ gb og, qg = some ⟨gb, og, none⟩ ∧ Lies g gb og W1 := by
        rcases hfg with h | h
        · rw [h] at hzl; simp [Forest.len] at hzl
        · exact h
      obtain ⟨sk, sc⟩ := unhide HSM g hled
      obtain ⟨k, sp, nm, ats, tx, kids, hdr⟩ := g.drop_cons zn hzl
      have hld := hlg.drop zn
      have skd := SmF.drop zn g sk
      have hcd := Forest.count_drop zn g
      rw [hdr] at hld skd hcd
      obtain ⟨⟨e0, e1, e2, ⟨qa, ca, e3, hsl⟩, e4, ⟨qk, ck, e5, hck, hfo⟩⟩, -⟩ := hld
      have hcd' : 1 + kids.count + (g.drop (zn + 1)).count ≤ g.count := hcd
      have hv : NdV k sp nm ats tx kids (ndV k sp nm qa ats.length ca tx qk kids.len ck) w2 := ⟨qa, ca, qk, ck, rfl, hsl.below hb2, (show Fo qk kids W1 from hfo).below hb2, hck⟩
      have HV : Hid (NdV k sp nm ats tx kids (ndV k sp nm qa ats.length ca tx qk kids.len ck) w2.drew) := hide (hv.below (Below.drew (Below.refl _ _)))
      have hc9 := unhide HC
      have CC := hide (fun (W : World) (h : NdV k sp nm ats tx kids (ndV k sp nm qa ats.length ca tx qk kids.len ck) W) => copied_any k sp nm ats tx kids _ W h (by omega) ⟨skd.1, skd.2.1, trivial⟩)
      unfold ndV at CC HV
      obtain ⟨gw, ow, rfl, hcz⟩ := (unhide HW).2 (by omega)
      have cz : W1.cell? ⟨gw, ow + ys.length, none⟩ = some (.int .i64 (zn : Int)) := by
        have := hcz ys.length (by have := unhide HNL; omega)
        rw [this]; simp [List.getD]
      have cz2 := cell_later hb2 cz
      have cG2 := cell_later hb2 cG
      have x0 := cell_later hb2 e0
      have x1 := cell_later hb2 e1
      have x2 := cell_later hb2 e2
      have x3 := cell_later hb2 e3
      have x4 := cell_later hb2 e4
      have x5 := cell_later hb2 e5
      have HDR := hide hdr
      have hnn : ((n : Int) - 1) = (ys.length : Int) := by have := unhide HNL; omega
      obtain rfl : n = ys.length + 1 := unhide HNL
      obtain ⟨yl, hyl⟩ : ∃ yl, ys.length = yl := ⟨_, rfl⟩
      rw [hyl] at cz2 hcwi hn0 hni
      rw [hyl]
      have hzi : (zn : Int) < (g.len : Int) := hz2
      generalize g.len = gl at *
      obtain ⟨al, hal⟩ : ∃ al, ats.length = al := ⟨_, rfl⟩
      obtain ⟨kl, hkl⟩ : ∃ kl, kids.len = kl := ⟨_, rfl⟩
      have HAL := hide hal
      have HKL := hide hkl
      rw [hal] at x3
      rw [hkl] at x5
      have HV2 := HV
      rw [hal, hkl] at HV2
      have CC2 := CC
      rw [hal, hkl] at CC2
      clear HV CC hal hkl
      have z0 : (0 : Int) ≤ (zn : Int) := hz0
      have yl0 : (0 : Int) ≤ (yl : Int) := by omega
      have yl1 : (yl : Int) ≤ 1000000 := by omega
      have hwy : IntKind.i64.wrap (yl : Int) = (yl : Int) := by rw [IntKind.wrap_i64]; omega
      clear CL k1 hW1 hled hz1 hz2 hL hcg hlg hdr hcd hcd' skd sk sc hsl hfo hck hv hcz cz cG e0 e1 e2 e3 e4 e5 hb2 hnn hyl hzl hfg HNL hn0 hcw hz0 hcwi hni hc9 hs1 hcap
      go_wp2
      go_region_with (go_at_call 31; refine Calls.mono (unhide CC2 _ (unhide HV2)) ?_; rintro e w4 ⟨v4, rfl, ⟨qa', ca', qk', ck', rfl, hsl4, hfo4, hck4⟩, hb4⟩; unfold ndV; have k4 : Blk w4 (w.heap.size + 1) #[.int .i64 0, .int .i64 0, .string ⟨#[]⟩, .slice none 0 0, .string ⟨#[]⟩, .slice none 0 0] 34 := (hb4.block _ (unhide HK1).lt).trans (unhide HK1); have y0 : w4.cell? ⟨w.heap.size + 1, 0, none⟩ = some (.int .i64 0) := (k4).cell 0; have y1 : w4.cell? ⟨w.heap.size + 1, 1, none⟩ = some (.int .i64 0) := (k4).cell 1; have y2 : w4.cell? ⟨w.heap.size + 1, 2, none⟩ = some (.string ⟨#[]⟩) := (k4).cell 2; have y3 : w4.cell? ⟨w.heap.size + 1, 3, none⟩ = some (.slice none 0 0) := (k4).cell 3; have y4 : w4.cell? ⟨w.heap.size + 1, 4, none⟩ = some (.string ⟨#[]⟩) := (k4).cell 4; have y5 : w4.cell? ⟨w.heap.size + 1, 5, none⟩ = some (.slice none 0 0) := (k4).cell 5; have yf0 : w4.frozen? ⟨w.heap.size + 1, 0, none⟩ = false := (k4).frozen 0; have yf1 : w4.frozen? ⟨w.heap.size + 1, 1, none⟩ = false := (k4).frozen 1; have yf2 : w4.frozen? ⟨w.heap.size + 1, 2, none⟩ = false := (k4).frozen 2; have yf3 : w4.frozen? ⟨w.heap.size + 1, 3, none⟩ = false := (k4).frozen 3; have yf4 : w4.frozen? ⟨w.heap.size + 1, 4, none⟩ = false := (k4).frozen 4; have yf5 : w4.frozen? ⟨w.heap.size + 1, 5, none⟩ = false := (k4).frozen 5; have HSL4 := hide hsl4; have HFO4 := hide hfo4; have HB4 := hide hb4; have HK4 := hide k4; clear hsl4 hfo4 hb4 k4)
      all_goals (
        go_wp2
        have kk := (((((((unhide HK4).set 0 (by simp) (.int .i64 k)).set 1 (by simp) (.int .i64 sp)).set 2 (by simp) (.string nm)).set 3 (by simp) (.slice qa' ats.length ca')).set 4 (by simp) (.string tx)).set 5 (by simp) (.slice qk' kids.len ck'))
        have d0 := kk.cell 0
        have d1 := kk.cell 1
        have d2 := kk.cell 2
        have d3 := kk.cell 3
        have d4 := kk.cell 4
        have d5 := kk.cell 5
        have hp : hiP w2.heap.size (w.heap.size + 1) = true := hiP_at (unhide HK1).lt
        have hle : CellLe (mask (hiP w2.heap.size) w4) _ := (((((((mask_set (o := 0) (v := .int .i64 k) hp).trans (mask_set (o := 1) (v := .int .i64 sp) hp)).trans (mask_set (o := 2) (v := .string nm) hp)).trans (mask_set (o := 3) (v := .slice qa' ats.length ca') hp)).trans (mask_set (o := 4) (v := .string tx) hp)).trans (mask_set (o := 5) (v := .slice qk' kids.len ck') hp)).trans (mask_out _ _))
        exact bodyPost_ret (v := .tuple #[.agg #[.int .i64 k, .int .i64 sp, .string nm, .slice qa' ats.length ca', .string tx, .slice qk' kids.len ck'], .int .i64 0]) (by simp [results, Tryd.results16, go_sem, d0, d1, d2, d3, d4, d5]) rfl ⟨_, by rw [unhide HE, (unhide HA).1]; rfl, Or.inr ⟨by rw [unhide HE]; exact (unhide HA).1, k, sp, nm, ats, tx, kids, _, (unhide HA).2.trans (unhide HDR), qa', ca', qk', ck', rfl, Sl.le hle (unhide HSL4), Fo.le hle (unhide HFO4), hck4⟩, ((((((((unhide HB2).drew.trans ((unhide HB4).mono (unhide HB2).size)).setCell (p := ⟨w.heap.size + 1, 0, none⟩) (by simp) _).setCell (p := ⟨w.heap.size + 1, 1, none⟩) (by simp) _).setCell (p := ⟨w.heap.size + 1, 2, none⟩) (by simp) _).setCell (p := ⟨w.heap.size + 1, 3, none⟩) (by simp) _).setCell (p := ⟨w.heap.size + 1, 4, none⟩) (by simp) _).setCell (p := ⟨w.heap.size + 1, 5, none⟩) (by simp) _)⟩)
end Go.Proofs.YtemccomnhjhjeaaDoor
