/-
  Several texts in one: what the functions of the program and of the document's answer do.
-/
import Derived.Test.YtemccomnhjhjeaaDoorMgBI
import Derived.Deep.RegionWith
import Derived.Test.YtemccomnhjhjeaaDoorYNo
import Derived.Test.YtemccomnhjhjeaaDoorYUn

/-
  What the reference's At does (made by mk_rae.py).
-/
namespace Go.Proofs.YtemccomnhjhjeaaDoor
open Go.RowKit
set_option linter.unusedVariables false
set_option linter.unusedSimpArgs false
set_option linter.unnecessarySimpa false

def GotSaid (w0 w : World) (f : Forest) (zs : List Int) (e : Ending) (w' : World) : Prop := ∃ (k sp : Int) (n tx : ByteArray) (qa qk : Option Addr) (la ca lk ck : Nat), e = .returned (.agg #[.slice none 0 0, .int .i64 k, .int .i64 sp, .string n, .slice qa la ca, .string tx, .slice qk lk ck, .int .i64 (atE f zs)]) ∧ NodS f zs (ndV k sp n qa la ca tx qk lk ck) w0 ∧ Below w.heap.size w w'
set_option maxHeartbeats 4000000 in
set_option maxRecDepth 100000 in
theorem rnod_none (q : Option Addr) (fl cap : Nat) (f : Forest) (qw : Option Addr) (cw : Nat) (w0 w : World) : Calls Tryd.prog 13 #[.slice q fl cap, .slice qw 0 cw] w fun e w' => GotSaid w0 w f [] e w' := by
  have HA : Hid (atE f [] = 1) := hide (by unfold atE; rfl)
  go_enter Tryd.func13, Tryd.ntmps13
  go_wp2
  have kk := Blk.new w #[.slice none 0 0, .int .i64 0, .int .i64 0, .string ⟨#[]⟩, .slice none 0 0, .string ⟨#[]⟩, .slice none 0 0, .int .i64 1] 36
  have d0 := kk.cell 0
  have d1 := kk.cell 1
  have d2 := kk.cell 2
  have d3 := kk.cell 3
  have d4 := kk.cell 4
  have d5 := kk.cell 5
  have d6 := kk.cell 6
  have d7 := kk.cell 7
  exact bodyPost_ret (v := .agg #[.slice none 0 0, .int .i64 0, .int .i64 0, .string ⟨#[]⟩, .slice none 0 0, .string ⟨#[]⟩, .slice none 0 0, .int .i64 1]) (by simp [results, Tryd.results13, go_sem, d0, d1, d2, d3, d4, d5, d6, d7]) rfl ⟨0, 0, ⟨#[]⟩, ⟨#[]⟩, none, none, 0, 0, 0, 0, by rw [unhide HA], Or.inl ⟨by rw [unhide HA]; decide, rfl⟩, (Below.refl _ _).alloc (Nat.le_refl _) _⟩
theorem ints_tail {g o n : Nat} {z : Int} {r : List Int} {w : World} (h : IntsV (some ⟨g, o, none⟩) (n + 1) (z :: r) w) : IntsV (some ⟨g, o + 1, none⟩) n r w := by
  obtain ⟨h1, h2⟩ := h
  refine ⟨by simpa using h1, fun h0 => ⟨g, o + 1, rfl, fun j hj => ?_⟩⟩
  obtain ⟨g', o', e, hc⟩ := h2 (by omega)
  injection e with e
  injection e with e1 e2
  subst e1 e2
  have := hc (j + 1) (by omega)
  rw [show o + 1 + j = o + (j + 1) by omega, this]
  simp [List.getD]
set_option maxHeartbeats 8000000 in
set_option maxRecDepth 100000 in
theorem rnod_any : ∀ (zs : List Int) (f : Forest) (q : Option Addr) (cap : Nat) (qw : Option Addr) (n cw : Nat) (w0 w : World), Fo q f w0 → Below w0.heap.size w0 w → f.len ≤ 1000000 → f.count ≤ 1000000 → IntsV qw n zs w → n ≤ cw → n ≤ 1000000 → Calls Tryd.prog 13 #[.slice q f.len cap, .slice qw n cw] w fun e w' => GotSaid w0 w f zs e w'
  | [], f, q, cap, qw, n, cw, w0, w, hf, hb0, hfl, hfc, hw, hcw, hn => by
    obtain rfl : n = 0 := by simpa using hw.1
    exact rnod_none q f.len cap f qw cw w0 w
  | z :: r, f, q, cap, qw, n, cw, w0, w, hf, hb0, hfl, hfc, hw, hcw, hn => by
    obtain ⟨m, rfl⟩ : ∃ m, n = m + 1 := ⟨r.length, by simpa using hw.1⟩
    obtain ⟨gw, ow, rfl, hcz⟩ := hw.2 (by omega)
    have cz : w.cell? ⟨gw, ow, none⟩ = some (.int .i64 z) := by have := hcz 0 (by omega); simpa [List.getD] using this
    have HW := hide hw
    have hmr : m = r.length := by have := hw.1; simpa using this
    have HMR := hide hmr
    have hm1 : ((m : Int) + 1 == 0) = false := beq_eq_false_iff_ne.2 (by omega)
    have hm2 : ¬ ((m : Int) + 1 = 0) := by omega
    have cz' := ((Below.refl w.heap.size w).alloc (Nat.le_refl _) (Obj.cells #[.slice none 0 0, .int .i64 0, .int .i64 0, .string ⟨#[]⟩, .slice none 0 0, .string ⟨#[]⟩, .slice none 0 0, .int .i64 0] 36))
    have cz1 := cell_later cz' cz
    have hmi : (m : Int) + 1 ≤ 1000000 := by omega
    have hcwi : (m : Int) + 1 ≤ (cw : Int) := by omega
    clear hw hcz hmr
    by_cases hbad : z < 0 ∨ (f.len : Int) ≤ z
    · have HA : Hid (atE f (z :: r) = 6) := hide (by unfold atE; rw [if_pos hbad])
      clear hf hfl hfc hcw hn cz' hcwi
      by_cases hz : z < 0
      · have hz' : decide (z < 0) = true := decide_eq_true hz
        clear hbad
        go_enter Tryd.func13, Tryd.ntmps13
        go_wp2
        have kk := Blk.new w #[.slice none 0 0, .int .i64 0, .int .i64 0, .string ⟨#[]⟩, .slice none 0 0, .string ⟨#[]⟩, .slice none 0 0, .int .i64 6] 36
        have d0 := kk.cell 0
        have d1 := kk.cell 1
        have d2 := kk.cell 2
        have d3 := kk.cell 3
        have d4 := kk.cell 4
        have d5 := kk.cell 5
        have d6 := kk.cell 6
        have d7 := kk.cell 7
        exact bodyPost_ret (v := .agg #[.slice none 0 0, .int .i64 0, .int .i64 0, .string ⟨#[]⟩, .slice none 0 0, .string ⟨#[]⟩, .slice none 0 0, .int .i64 6]) (by simp [results, Tryd.results13, go_sem, d0, d1, d2, d3, d4, d5, d6, d7]) rfl ⟨0, 0, ⟨#[]⟩, ⟨#[]⟩, none, none, 0, 0, 0, 0, by rw [unhide HA], Or.inl ⟨by rw [unhide HA]; decide, rfl⟩, (Below.refl _ _).alloc (Nat.le_refl _) _⟩
      · have hz' : decide (z < 0) = false := decide_eq_false hz
        have hz2 : (f.len : Int) ≤ z := by omega
        have hz3 : decide ((f.len : Int) ≤ z) = true := decide_eq_true hz2
        clear hbad
        go_enter Tryd.func13, Tryd.ntmps13
        go_wp2
        have kk := Blk.new w #[.slice none 0 0, .int .i64 0, .int .i64 0, .string ⟨#[]⟩, .slice none 0 0, .string ⟨#[]⟩, .slice none 0 0, .int .i64 6] 36
        have d0 := kk.cell 0
        have d1 := kk.cell 1
        have d2 := kk.cell 2
        have d3 := kk.cell 3
        have d4 := kk.cell 4
        have d5 := kk.cell 5
        have d6 := kk.cell 6
        have d7 := kk.cell 7
        exact bodyPost_ret (v := .agg #[.slice none 0 0, .int .i64 0, .int .i64 0, .string ⟨#[]⟩, .slice none 0 0, .string ⟨#[]⟩, .slice none 0 0, .int .i64 6]) (by simp [results, Tryd.results13, go_sem, d0, d1, d2, d3, d4, d5, d6, d7]) rfl ⟨0, 0, ⟨#[]⟩, ⟨#[]⟩, none, none, 0, 0, 0, 0, by rw [unhide HA], Or.inl ⟨by rw [unhide HA]; decide, rfl⟩, (Below.refl _ _).alloc (Nat.le_refl _) _⟩
    · obtain ⟨zn, rfl⟩ : ∃ zn : Nat, z = (zn : Int) := ⟨z.toNat, by omega⟩
      have hzl : zn < f.len := by omega
      obtain ⟨gb, og, rfl, hl⟩ : ∃ gb og, q = some ⟨gb, og, none⟩ ∧ Lies f gb og w0 := by
        rcases hf with h | h
        · rw [h] at hzl; simp [Forest.len] at hzl
        · exact h
      obtain ⟨k, sp, nm, ats, tx, kids, hdr⟩ := f.drop_cons zn hzl
      have hkd := kidsAt_eq hdr
      have hld := hl.drop zn
      have hcd := Forest.count_drop zn f
      rw [hdr] at hld hcd
      obtain ⟨⟨e0, e1, e2, ⟨qa, ca, e3, hsl⟩, e4, ⟨qk, ck, e5, hck, hfo⟩⟩, -⟩ := hld
      have hcd' : 1 + kids.count + (f.drop (zn + 1)).count ≤ f.count := hcd
      have hz' : decide ((zn : Int) < 0) = false := decide_eq_false (by omega)
      have hz3 : decide (f.len ≤ zn) = false := decide_eq_false (by omega)
      have hz4 : (zn : Int) < (f.len : Int) := by omega
      have hz5 : (0 : Int) ≤ (zn : Int) := by omega
      have c0' := tr2 hb0 cz'
      have x0 := cell_later c0' e0
      have x1 := cell_later c0' e1
      have x2 := cell_later c0' e2
      have x3 := cell_later c0' e3
      have x4 := cell_later c0' e4
      have x5 := cell_later c0' e5
      have HDR := hide hdr
      have HSL0 := hide hsl
      have HFO0 := hide (show Fo qk kids w0 from hfo)
      have HCK := hide hck
      by_cases hr : r = []
      · subst hr
        obtain rfl : m = 0 := by have := unhide HMR; simpa using this
        have HA : Hid (atE f [(zn : Int)] = 0 ∧ atN f [(zn : Int)] = f.drop zn) := hide (by
          refine ⟨?_, ?_⟩
          · unfold atE; rw [if_neg (by omega), if_pos rfl]
          · unfold atN; rw [if_pos rfl]; rfl)
        generalize f.len = fl at *
        clear hl hsl hfo hck hcd hcd' hdr hbad hzl e0 e1 e2 e3 e4 e5 cz hcw hn hfl hfc cz' c0' hm1 hm2 hmi hcwi
        go_enter Tryd.func13, Tryd.ntmps13
        go_wp2
        have kk := Blk.new w #[.slice none 0 0, .int .i64 k, .int .i64 sp, .string nm, .slice qa ats.length ca, .string tx, .slice qk kids.len ck, .int .i64 0] 36
        have d0 := kk.cell 0
        have d1 := kk.cell 1
        have d2 := kk.cell 2
        have d3 := kk.cell 3
        have d4 := kk.cell 4
        have d5 := kk.cell 5
        have d6 := kk.cell 6
        have d7 := kk.cell 7
        exact bodyPost_ret (v := .agg #[.slice none 0 0, .int .i64 k, .int .i64 sp, .string nm, .slice qa ats.length ca, .string tx, .slice qk kids.len ck, .int .i64 0]) (by simp [results, Tryd.results13, go_sem, d0, d1, d2, d3, d4, d5, d6, d7]) rfl ⟨k, sp, nm, tx, qa, qk, ats.length, ca, kids.len, ck, by rw [(unhide HA).1], Or.inr ⟨(unhide HA).1, k, sp, nm, ats, tx, kids, _, (unhide HA).2.trans (unhide HDR), qa, ca, qk, ck, rfl, unhide HSL0, unhide HFO0, unhide HCK⟩, (Below.refl _ _).alloc (Nat.le_refl _) _⟩
      · skip
        have HA : Hid (atE f ((zn : Int) :: r) = atE kids r ∧ atN f ((zn : Int) :: r) = atN kids r) := hide (by
          refine ⟨?_, ?_⟩
          · conv => lhs; unfold atE
            rw [if_neg (by omega), if_neg hr, ← hkd]; rfl
          · conv => lhs; unfold atN
            rw [if_neg hr, ← hkd]; rfl)
        have hkl := kids.len_count
        have hm0 : m ≠ 0 := by have := unhide HMR; have := List.length_pos_iff.2 hr; omega
        have hcw1 : ¬ cw = 1 := by omega
        have hm3 : ((m : Int) + 1 == 1) = false := beq_eq_false_iff_ne.2 (by omega)
        have hm4 : ¬ ((m : Int) + 1 = 1) := by omega
        have hm5 : (m == 0) = false := beq_eq_false_iff_ne.2 hm0
        have hWt := (ints_tail (unhide HW)).below cz'
        have CC := hide (fun (W : World) (h1 : Below w0.heap.size w0 W) (h2 : IntsV (some ⟨gw, ow + 1, none⟩) m r W) => rnod_any r kids qk ck (some ⟨gw, ow + 1, none⟩) m (cw - 1) w0 W (unhide HFO0) h1 (by omega) (by omega) h2 (by omega) (by omega))
        have HFd := hide (c0'.drew)
        have HWd := hide (hWt.below (Below.drew (Below.refl _ _)))
        have HK0 := hide (Blk.new w #[.slice none 0 0, .int .i64 0, .int .i64 0, .string ⟨#[]⟩, .slice none 0 0, .string ⟨#[]⟩, .slice none 0 0, .int .i64 0] 36)
        obtain ⟨E, hE⟩ : ∃ E, atE f ((zn : Int) :: r) = E := ⟨_, rfl⟩
        have HE := hide hE
        obtain ⟨fl, hfl2⟩ : ∃ fl, f.len = fl := ⟨_, rfl⟩
        obtain ⟨kl, hkl2⟩ : ∃ kl, kids.len = kl := ⟨_, rfl⟩
        rw [hfl2] at hz4 hz3
        rw [hkl2] at x5 CC
        rw [hfl2]
        clear hl hsl hfo hck hcd hcd' hdr hbad hzl e0 e1 e2 e3 e4 e5 cz hcw hn hfl hfc cz' c0' hWt hkl hr hE hfl2 hkl2 hm3 hm4 hcwi hmi
        go_enter Tryd.func13, Tryd.ntmps13
        go_wp2
        go_region_with (go_at_call 13; refine Calls.mono (unhide CC _ (unhide HFd) (unhide HWd)) ?_; rintro e w4 ⟨k2, sp2, n2, tx2, qa2, qk2, la2, ca2, lk2, ck2, rfl, hnod, hb4⟩; have k4 : Blk w4 w.heap.size #[.slice none 0 0, .int .i64 0, .int .i64 0, .string ⟨#[]⟩, .slice none 0 0, .string ⟨#[]⟩, .slice none 0 0, .int .i64 0] 36 := (hb4.block _ (unhide HK0).lt).trans (unhide HK0); have y0 : w4.cell? ⟨w.heap.size, 0, none⟩ = some (.slice none 0 0) := (k4).cell 0; have y1 : w4.cell? ⟨w.heap.size, 1, none⟩ = some (.int .i64 0) := (k4).cell 1; have y2 : w4.cell? ⟨w.heap.size, 2, none⟩ = some (.int .i64 0) := (k4).cell 2; have y3 : w4.cell? ⟨w.heap.size, 3, none⟩ = some (.string ⟨#[]⟩) := (k4).cell 3; have y4 : w4.cell? ⟨w.heap.size, 4, none⟩ = some (.slice none 0 0) := (k4).cell 4; have y5 : w4.cell? ⟨w.heap.size, 5, none⟩ = some (.string ⟨#[]⟩) := (k4).cell 5; have y6 : w4.cell? ⟨w.heap.size, 6, none⟩ = some (.slice none 0 0) := (k4).cell 6; have y7 : w4.cell? ⟨w.heap.size, 7, none⟩ = some (.int .i64 0) := (k4).cell 7; have yf0 : w4.frozen? ⟨w.heap.size, 0, none⟩ = false := (k4).frozen 0; have yf1 : w4.frozen? ⟨w.heap.size, 1, none⟩ = false := (k4).frozen 1; have yf2 : w4.frozen? ⟨w.heap.size, 2, none⟩ = false := (k4).frozen 2; have yf3 : w4.frozen? ⟨w.heap.size, 3, none⟩ = false := (k4).frozen 3; have yf4 : w4.frozen? ⟨w.heap.size, 4, none⟩ = false := (k4).frozen 4; have yf5 : w4.frozen? ⟨w.heap.size, 5, none⟩ = false := (k4).frozen 5; have yf6 : w4.frozen? ⟨w.heap.size, 6, none⟩ = false := (k4).frozen 6; have yf7 : w4.frozen? ⟨w.heap.size, 7, none⟩ = false := (k4).frozen 7; have HNOD := hide hnod; have HB4 := hide hb4; have HK4 := hide k4; clear hnod hb4 k4)
        all_goals (
          go_wp2
          have kk := (((((((((unhide HK4).set 0 (by simp) (.slice none 0 0)).set 1 (by simp) (.int .i64 k2)).set 2 (by simp) (.int .i64 sp2)).set 3 (by simp) (.string n2)).set 4 (by simp) (.slice qa2 la2 ca2)).set 5 (by simp) (.string tx2)).set 6 (by simp) (.slice qk2 lk2 ck2)).set 7 (by simp) (.int .i64 (atE kids r)))
          have d0 := kk.cell 0
          have d1 := kk.cell 1
          have d2 := kk.cell 2
          have d3 := kk.cell 3
          have d4 := kk.cell 4
          have d5 := kk.cell 5
          have d6 := kk.cell 6
          have d7 := kk.cell 7
          have HB9 : Hid (Below w.heap.size w w4) := hide (((Below.refl w.heap.size w).alloc (Nat.le_refl _) (Obj.cells #[.slice none 0 0, .int .i64 0, .int .i64 0, .string ⟨#[]⟩, .slice none 0 0, .string ⟨#[]⟩, .slice none 0 0, .int .i64 0] 36)).drew.trans ((unhide HB4).mono (by simp)))
          have hres : atE kids r = E := by rw [← unhide HE]; exact (unhide HA).1.symm
          refine bodyPost_ret (v := .agg #[.slice none 0 0, .int .i64 k2, .int .i64 sp2, .string n2, .slice qa2 la2 ca2, .string tx2, .slice qk2 lk2 ck2, .int .i64 (atE kids r)]) (by simp [results, Tryd.results13, go_sem, d0, d1, d2, d3, d4, d5, d6, d7]) rfl ⟨k2, sp2, n2, tx2, qa2, qk2, la2, ca2, lk2, ck2, by rw [hres, unhide HE], ?_, ((((((((((unhide HB9)).setCell (p := ⟨w.heap.size, 0, none⟩) (by simp) _).setCell (p := ⟨w.heap.size, 1, none⟩) (by simp) _).setCell (p := ⟨w.heap.size, 2, none⟩) (by simp) _).setCell (p := ⟨w.heap.size, 3, none⟩) (by simp) _).setCell (p := ⟨w.heap.size, 4, none⟩) (by simp) _).setCell (p := ⟨w.heap.size, 5, none⟩) (by simp) _).setCell (p := ⟨w.heap.size, 6, none⟩) (by simp) _).setCell (p := ⟨w.heap.size, 7, none⟩) (by simp) _)⟩
          exact (unhide HNOD).imp (fun ⟨h1, h2⟩ => ⟨by rw [(unhide HA).1]; exact h1, h2⟩) (fun ⟨h1, k, sp, n, ats, tx, kids, rest, h2, h3⟩ => ⟨by rw [(unhide HA).1]; exact h1, k, sp, n, ats, tx, kids, rest, by rw [(unhide HA).2]; exact h2, h3⟩))
end Go.Proofs.YtemccomnhjhjeaaDoor

/-
  rectolaw19.large; the plain comparison of one node told twice.
-/
namespace Go.Proofs.YtemccomnhjhjeaaDoor
open Go.RowKit
set_option linter.unusedVariables false
set_option linter.unusedSimpArgs false

set_option maxHeartbeats 2000000 in
theorem large19_any (f : Forest) (q : Option Addr) (cap : Nat) (w : World) (hf : Fo q f w) :
    Calls Tryd.prog 8 #[.slice q f.len cap] w fun e w' => e = .returned (.bool (lgT 1 f 400).1) ∧ Below w.heap.size w w' := by
  have CL := hide (large_any f.count f (Nat.le_refl _) 1 q cap w.heap.size 400 w (w.alloc (Obj.cells #[.int .i64 400] 59)) (by omega) (Nat.le_refl _) (by omega) hf ((Below.refl _ _).alloc (Nat.le_refl _) _) (Blk.new w _ _))
  rw [show ((1 : Nat) : Int) = 1 from rfl] at CL
  generalize lgT 1 f 400 = r at *
  generalize f.len = fl at *
  clear hf
  go_enter Tryd.func8, Tryd.ntmps8
  go_wp2_with fail
  refine (unhide CL).mono ?_
  rintro e w1 ⟨rfl, _, hb⟩
  go_wp2
  go_ret
  exact ⟨rfl, hb⟩
theorem zeroNd_is (w : World) : NdV 0 0 ⟨#[]⟩ [] ⟨#[]⟩ .nil zeroNd w := ⟨none, 0, none, 0, rfl, Or.inl rfl, Or.inl rfl, Nat.le_refl _⟩
theorem ndv_same (k sp : Int) (n : ByteArray) (ats : List (ByteArray × ByteArray)) (tx : ByteArray) (kids : Forest) (v1 v2 : Value) (w : World) (h1 : NdV k sp n ats tx kids v1 w) (h2 : NdV k sp n ats tx kids v2 w) (hs : SmF kids) (hl : ats.length ≤ 1000000000) (hc : kids.count ≤ 1000000) :
    Calls Tryd.prog 17 #[v1, v2] w fun e w' => e = .returned (.bool true) ∧ Below w.heap.size w w' := by
  obtain ⟨qa, ca, qk, ck, rfl, a1, a2, a3⟩ := h1
  obtain ⟨qa', ca', qk', ck', rfl, b1, b2, b3⟩ := h2
  have hkl := kids.len_count
  have hsk : sameF kids kids = true := (sameF_eq kids kids).2 rfl
  have := pnode_any k sp n ats tx k sp n ats tx qa qa' qk qk' ca ca' ck ck' kids.len kids.len true w a1 b1 hl hl (fun W hW => by
    have := nodes_any kids.count kids (Nat.le_refl _) hc hs kids qk qk' ck ck' W (a2.below hW) (b2.below hW) hs (by omega)
    rw [hsk] at this
    exact this)
  have hal : alikeN k sp n ats tx k sp n ats tx = true := by
    unfold alikeN
    simp only [decide_true, Bool.true_and]
    exact decide_eq_true rfl
  rw [hal, Bool.true_and] at this
  exact this
/-- One node, told twice. -/
theorem nods_same (f : Forest) (zs : List Int) (v1 v2 : Value) (w : World) (h1 : NodS f zs v1 w) (h2 : NodS f zs v2 w) (hs : SmF (atN f zs)) (hc : (atN f zs).count ≤ 1000000) :
    Calls Tryd.prog 17 #[v1, v2] w fun e w' => e = .returned (.bool true) ∧ Below w.heap.size w w' := by
  rcases h1 with ⟨h1, rfl⟩ | ⟨h1, k, sp, n, ats, tx, kids, rest, e1, n1⟩
  · rcases h2 with ⟨_, rfl⟩ | ⟨h2, _⟩
    · exact ndv_same 0 0 ⟨#[]⟩ [] ⟨#[]⟩ .nil zeroNd zeroNd w (zeroNd_is w) (zeroNd_is w) trivial (by simp) (by simp [Forest.count])
    · exact absurd h2 h1
  · rcases h2 with ⟨h2, _⟩ | ⟨_, k', sp', n', ats', tx', kids', rest', e2, n2⟩
    · exact absurd h1 h2
    · rw [e1] at e2 hs hc
      injection e2 with a1 a2 a3 a4 a5 a6 a7
      subst a1 a2 a3 a4 a5 a6
      have hf : Fits ats := hs.1.2.2.1
      simp only [Forest.count] at hc
      exact ndv_same k sp n ats tx kids v1 v2 w n1 n2 hs.2.1 (by have := hf.1; omega) (by omega)
theorem atN_small : ∀ (zs : List Int) (f : Forest), SmF f → SmF (atN f zs) ∧ (atN f zs).count ≤ f.count
  | [], f, h => ⟨trivial, Nat.zero_le _⟩
  | p :: r, f, h => by
    unfold atN
    by_cases hr : r = []
    · rw [if_pos hr]; exact ⟨SmF.drop _ f h, Forest.count_drop _ f⟩
    · rw [if_neg hr]
      have := atN_small r (kidsAt f p.toNat) (h.kidsAt p.toNat)
      exact ⟨this.1, Nat.le_trans this.2 (kidsAt_count f _)⟩
theorem atE_cases (f : Forest) (zs : List Int) : 0 ≤ atE f zs ∧ atE f zs ≤ 6 := by
  induction zs generalizing f with
  | nil => unfold atE; omega
  | cons p r ih =>
    unfold atE
    split
    · omega
    · split
      · omega
      · exact ih _
end Go.Proofs.YtemccomnhjhjeaaDoor
