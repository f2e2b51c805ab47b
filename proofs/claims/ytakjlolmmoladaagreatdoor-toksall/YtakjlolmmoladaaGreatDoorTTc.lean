/-
  What 'toks.tag' does, of any tag that ends an element.
-/
import Derived.Test.YtakjlolmmoladaaGreatDoorTTb
import Derived.Maps.OwnOps
namespace Go.Proofs.YtakjlolmmoladaaGreatDoor
open Go.RowKit Go.Maps Go.WideMaps
set_option linter.unusedVariables false

theorem tagPost_shut {s N : ByteArray} {R : Nat × List (ByteArray × ByteArray) × Bool} {w w' : World} (h : R.1 < s.size) (hb : Below w.heap.size w w') :
    TagPost s N 2 R w (.returned (.tuple #[.agg #[.int .i64 2, .string N, .slice none 0 0, .bool false, .string ⟨#[]⟩], .int .i64 ((R.1 : Int) + 1)])) w' :=
  ⟨_, by rw [if_pos h], hb, by rw [if_pos h, if_pos rfl]; exact ⟨none, 0, rfl, Or.inl rfl⟩⟩
set_option maxHeartbeats 8000000 in
set_option maxRecDepth 100000 in
theorem tag_close (s : ByteArray) (i e : Nat) (w : World) (ht : Tab4 w) (hm : Mx w) (hs : s.size ≤ 100000) (hi : i + 1 < s.size) (h47 : dgt s.data.toList (i + 1) = 47) (he : seekN (enP s) s.size (i + 2) = e) :
    Calls Tryz.prog 24 #[.string s, .int .i64 (i : Int)] w (TagPost s (bs (lowL ((s.data.toList.drop (i + 2)).take (e - (i + 2))))) 2 (partsF s (s.size - e + 1) e [] false) w) := by
  have hmm := @run_makeMap Tryz.prog
  have i1 : (i : Int) + 1 < (s.size : Int) := by omega
  have e1 := dgt_at s (i + 1) hi
  rw [h47] at e1
  have hle := seekN_le (enP s) (n := s.size) (k := i + 2) (by omega)
  rw [he] at hle
  have CS : Hid (∀ (w : World) (g : Nat), w.cell? ⟨g, 0, none⟩ = some (.string s) → Calls Tryz.prog 21 #[.string s, .int .i64 ((i : Int) + 2), .func (.func 45) #[] #[.pointer (some ⟨g, 0, none⟩)]] w fun r w' => r = .returned (.int .i64 (e : Int)) ∧ w' = w) := fun w g hg => by
    have := seek_tag s (i + 2) g w hg (by omega) (by omega)
    rw [he, Int.natCast_add] at this; exact this
  have hcx := extract_take s (i + 2) (e - (i + 2))
  rw [show i + 2 + (e - (i + 2)) = e by omega] at hcx
  have hyz : (s.extract (i + 2) e).size ≤ 100000 := by simp; omega
  have CL := hide (fun w => lower_any (s.extract (i + 2) e) w (by omega))
  have hyd : (s.extract (i + 2) e).data.toList = (s.data.toList.drop (i + 2)).take (e - (i + 2)) := by rw [hcx, bs_toList]
  rw [hyd] at CL
  generalize bs (lowL ((s.data.toList.drop (i + 2)).take (e - (i + 2)))) = N at *
  have hel2 : (e : Int) ≤ (s.size : Int) := by omega
  have hie : (i : Int) + 2 ≤ (e : Int) := by omega
  have HP := hide hle
  obtain ⟨R, hR⟩ : ∃ R, R = partsF s (s.size - e + 1) e [] false := ⟨_, rfl⟩
  rw [← hR]
  have HR := hide hR
  clear hcx hyd he h47 hR
  go_enter Tryz.func24, Tryz.ntmps24
  go_wp2_with fail
  go_step3
  go_wp2_with fail
  refine (unhide CS _ w.heap.size (by simp [go_sem])).mono ?_
  rintro r w1 ⟨rfl, rfl⟩
  go_wp2_with fail
  refine (unhide CL _).mono ?_
  rintro r w2 ⟨rfl, hb2⟩
  have hz2 : w.heap.size + 1 + 1 < w2.heap.size := by have := hb2.size; simp at this; omega
  have hz1 : w.heap.size + 1 < w2.heap.size := by omega
  have hz0 : w.heap.size < w2.heap.size := by omega
  have k0 : Blk w2 w.heap.size #[.string s] 9 := (((Blk.new w _ _).alloc _).alloc _).later hb2
  have k1 : Blk w2 (w.heap.size + 1) #[.int .i64 0, .string ⟨#[]⟩, .slice none 0 0, .bool false, .string ⟨#[]⟩] 27 := by
    have := ((Blk.new (w.alloc (Obj.cells #[.string s] 9)) #[.int .i64 0, .string ⟨#[]⟩, .slice none 0 0, .bool false, .string ⟨#[]⟩] 27).alloc _).later hb2
    simpa using this
  have k2 : Blk w2 (w.heap.size + 1 + 1) #[.int .i64 2, .string ⟨#[]⟩, .slice none 0 0, .bool false, .string ⟨#[]⟩] 27 := by
    have := (Blk.new ((w.alloc (Obj.cells #[.string s] 9)).alloc (Obj.cells #[.int .i64 0, .string ⟨#[]⟩, .slice none 0 0, .bool false, .string ⟨#[]⟩] 27)) #[.int .i64 2, .string ⟨#[]⟩, .slice none 0 0, .bool false, .string ⟨#[]⟩] 27).later hb2
    simpa using this
  have hb02 : Below w.heap.size w w2 := ((((Below.refl w.heap.size w).alloc (Nat.le_refl _) _).alloc (by simp) _).alloc (by simp; omega) _).trans (hb2.mono (by simp; omega))
  clear hb2
  have c0 : w2.cell? ⟨w.heap.size, 0, none⟩ = some (.string s) := k0.cell 0
  have c1 : w2.cell? ⟨w.heap.size + 1 + 1, 1, none⟩ = some (.string ⟨#[]⟩) := k2.cell 1
  have f1 : w2.frozen? ⟨w.heap.size + 1 + 1, 1, none⟩ = false := k2.frozen 1
  go_wp2
  go_step3
  go_wp2
  go_loopw [1] (fun a wr => ∃ i', a = .int .i64 ((i' : Nat) : Int) ∧ PartsAt s N 2 w.heap.size w2.heap.size R w i' wr) (fun a _ => s.size - (intOf a).toNat)
  case atStart =>
    refine ⟨e, rfl, s.size - e + 1, [], false, .slice none 0 0, by have := unhide HP; omega, by have := unhide HP; omega, Nat.zero_le _, (unhide HR).symm, (k0.away (by omega) _).alloc _, (k1.away (by omega) _).alloc _, ?_, ?_, ⟨rfl, Or.inl ⟨rfl, rfl⟩⟩, hz2, ?_⟩
    · exact (k2.set 1 (by decide) _).alloc _
    · have := World.ownsMap_made (H := Unit) (w2.setCell ⟨w.heap.size + 1 + 1, 1, none⟩ (.string N)) Tryz.prog 9 (plainElem Tryz.prog 3)
      exact (by simpa using this : @World.ownsMap Unit _ _ _ _ w2.heap.size 0 (DataW.map []))
    · exact (hb02.setCell (by simp; omega) _).alloc (by simpa using hb02.size) _
  case round =>
    obtain ⟨i', rfl, k, ats, f, SL, hfu, hle', hal, hpr, k0, k1, k2, hown, hrow, hBM, hbw⟩ := hrel
    clear hz0 hz1 hz2 c0 c1 f1 hb02 CL CS
    generalize w2.heap.size = M at *
    have c0 : wr.cell? ⟨w.heap.size, 0, none⟩ = some (.string s) := k0.cell 0
    have K0 := hide k0
    have K1 := hide k1
    have K2 := hide k2
    have HO := hide hown
    have HW := hide hrow
    have HB := hide hbw
    have HPR := hide hpr
    have HM2 := hide hBM
    clear k0 k1 k2 hown hrow hbw hpr hBM
    by_cases hp : i' < s.size
    · have hpi : (i' : Int) < (s.size : Int) := by omega
      have hpi2 : (i' : Int) ≤ (s.size : Int) := by omega
      have hpi3 : ¬ (s.size : Int) ≤ (i' : Int) := by omega
      have e0 := dgt_at s i' hp
      obtain ⟨k, rfl⟩ : ∃ k', k = k' + 1 := ⟨k - 1, by omega⟩
      by_cases h1 : dgt s.data.toList i' = 47
      · rw [h1] at e0
        have HQ := hide ((parts_slash (k := k) (ats := ats) (f := f) hp h1).symm.trans (unhide HPR))
        have CH : Hid (∀ w, Calls Tryz.prog 46 #[.string (s.extract i' s.size), .string ⟨#[47, 62]⟩] w fun e w' => e = .returned (.bool ([47, 62].isPrefixOf (s.data.toList.drop i'))) ∧ w' = w) := fun w => by
          have := prefix_any (s.extract i' s.size) [47, 62] w
          rw [rest_of, bs_toList] at this
          rw [rest_of]; exact this
        generalize [47, 62].isPrefixOf (s.data.toList.drop i') = g at *
        have c23 : wr.cell? ⟨w.heap.size + 1 + 1, 3, none⟩ = some (.bool f) := (unhide K2).cell 3
        have f23 : wr.frozen? ⟨w.heap.size + 1 + 1, 3, none⟩ = false := (unhide K2).frozen 3
        clear h1
        go_wp2_with fail
        refine (unhide CH _).mono ?_
        rintro r w3 ⟨rfl, hw3⟩
        obtain rfl : wr = w3 := hw3.symm
        go_wp2
        go_roundw
        case rel =>
          have hbM := unhide HM2
          exact ⟨i' + 1, by go_num, k, ats, g, SL, by omega, by omega, by omega, unhide HQ, (unhide K0).away (by omega) _, (unhide K1).away (by omega) _, (unhide K2).set 3 (by simp) _, (unhide HO).setCell (by simp; omega) _, ownsRow_setCell_below (unhide HW) (by simp; omega) _, hbM, (unhide HB).setCell (by simp; omega) _⟩
        case measure => simp [intOf]; omega
      have n1 : ((dgt s.data.toList i' : Int) == 47) = false := bneI (by omega)
      have CP := hide (fun w => space_any (dgt s.data.toList i') w)
      cases h2 : spN (dgt s.data.toList i') with
      | true =>
        have HQ := hide ((parts_space (k := k) (ats := ats) (f := f) hp h1 h2).symm.trans (unhide HPR))
        rw [h2] at CP
        generalize dgt s.data.toList i' = b at *
        clear h1 h2
        go_wp2_with fail
        refine (unhide CP _).mono ?_
        rintro r w3 ⟨rfl, hw3⟩
        obtain rfl : wr = w3 := hw3.symm
        go_wp2
        go_roundw
        case rel => exact ⟨i' + 1, by go_num, k, ats, f, SL, by omega, by omega, by omega, unhide HQ, unhide K0, unhide K1, unhide K2, unhide HO, unhide HW, unhide HM2, unhide HB⟩
        case measure => simp [intOf]; omega
      | false =>
        rw [h2] at CP
        by_cases h3 : dgt s.data.toList i' = 62
        · have HQ := hide ((parts_gt (k := k) (ats := ats) (f := f) hp h3).symm.trans (unhide HPR))
          rw [h3] at e0 CP n1
          have c10 : wr.cell? ⟨w.heap.size + 1, 0, none⟩ = some (.int .i64 0) := (unhide K1).cell 0
          have c11 : wr.cell? ⟨w.heap.size + 1, 1, none⟩ = some (.string ⟨#[]⟩) := (unhide K1).cell 1
          have c12 : wr.cell? ⟨w.heap.size + 1, 2, none⟩ = some (.slice none 0 0) := (unhide K1).cell 2
          have c13 : wr.cell? ⟨w.heap.size + 1, 3, none⟩ = some (.bool false) := (unhide K1).cell 3
          have c14 : wr.cell? ⟨w.heap.size + 1, 4, none⟩ = some (.string ⟨#[]⟩) := (unhide K1).cell 4
          have f10 : wr.frozen? ⟨w.heap.size + 1, 0, none⟩ = false := (unhide K1).frozen 0
          have f11 : wr.frozen? ⟨w.heap.size + 1, 1, none⟩ = false := (unhide K1).frozen 1
          have f12 : wr.frozen? ⟨w.heap.size + 1, 2, none⟩ = false := (unhide K1).frozen 2
          have f13 : wr.frozen? ⟨w.heap.size + 1, 3, none⟩ = false := (unhide K1).frozen 3
          have f14 : wr.frozen? ⟨w.heap.size + 1, 4, none⟩ = false := (unhide K1).frozen 4
          have c20 : wr.cell? ⟨w.heap.size + 1 + 1, 0, none⟩ = some (.int .i64 2) := (unhide K2).cell 0
          have c21 : wr.cell? ⟨w.heap.size + 1 + 1, 1, none⟩ = some (.string N) := (unhide K2).cell 1
          obtain ⟨q, cap, rfl, hcl⟩ := cells_of_owns (unhide HW)
          have HCL := hide hcl
          have c22 : wr.cell? ⟨w.heap.size + 1 + 1, 2, none⟩ = some (.slice q ats.length cap) := (unhide K2).cell 2
          have c23 : wr.cell? ⟨w.heap.size + 1 + 1, 3, none⟩ = some (.bool f) := (unhide K2).cell 3
          have c24 : wr.cell? ⟨w.heap.size + 1 + 1, 4, none⟩ = some (.string ⟨#[]⟩) := (unhide K2).cell 4
          have f22 : wr.frozen? ⟨w.heap.size + 1 + 1, 2, none⟩ = false := (unhide K2).frozen 2
          have f23 : wr.frozen? ⟨w.heap.size + 1 + 1, 3, none⟩ = false := (unhide K2).frozen 3
          clear h1 h2 h3 hcl
          go_wp2_with fail
          refine (unhide CP _).mono ?_
          rintro r w3 ⟨rfl, hw3⟩
          obtain rfl : wr = w3 := hw3.symm
          go_wp2
          rw [Exit.noGoto_ret]
          have k1 := ((((((((unhide K1).away (b' := w.heap.size + 1 + 1) (o := 2) (by omega) (.slice none 0 0)).away (b' := w.heap.size + 1 + 1) (o := 3) (by omega) (.bool false)).set 0 (by simp) (.int .i64 2)).set 1 (by simp) (.string N)).set 2 (by simp) (.slice none 0 0)).set 3 (by simp) (.bool false)).set 4 (by simp) (.string ⟨#[]⟩))
          have d0 := k1.cell 0
          have d1 := k1.cell 1
          have d2 := k1.cell 2
          have d3 := k1.cell 3
          have d4 := k1.cell 4
          have hR := unhide HQ
          subst hR
          refine bodyPost_ret (v := .tuple #[.agg #[.int .i64 2, .string N, .slice none 0 0, .bool false, .string ⟨#[]⟩], .int .i64 ((i' : Int) + 1)]) (by simp [results, Tryz.results24, go_sem, d0, d1, d2, d3, d4]) rfl ?_
          exact tagPost_shut (R := (i', ats, f)) hp ((((((((unhide HB).setCell (by simp; omega) _).setCell (by simp; omega) _).setCell (by simp) _).setCell (by simp) _).setCell (by simp) _).setCell (by simp) _).setCell (by simp) _)
        have n3 : ((dgt s.data.toList i' : Int) == 62) = false := bneI (by omega)
        have hA := aqB_le s i' hp
        have CA : Hid (∀ w, Tab4 w → Mx w → Calls Tryz.prog 48 #[.string s, .int .i64 (i' : Int)] w fun e w' => e = .returned (.tuple #[.agg #[.string (naN s i'), .string (aqV s i')], .int .i64 (aqB s i' : Int)]) ∧ Below w.heap.size w w') := fun w ht hm => attribute_any s i' w ht hm hp hs
        have hkey := nkey_ok (n := naN s i') (by have := naN_size s i' hp; omega)
        have hhas := putN_has (H := Unit) ats (naN s i')
        have Q1 := fun h => (parts_twice (k := k) (ats := ats) (f := f) hp h1 h2 h3 h).symm.trans (unhide HPR)
        have Q2 := fun h => (parts_new (k := k) (ats := ats) (f := f) hp h1 h2 h3 h).symm.trans (unhide HPR)
        generalize dgt s.data.toList i' = b at *
        generalize naN s i' = n at *
        generalize aqV s i' = v at *
        generalize aqB s i' = E at *
        clear h1 h2 h3
        have hbW := unhide HB
        have T3 := hide (ht.below hbW)
        have M3 := hide (hm.below hbW)
        have hGM : M < wr.heap.size := (unhide HO).lt
        have hz0 : w.heap.size < wr.heap.size := (unhide K0).lt
        have hz1 : w.heap.size + 1 < wr.heap.size := (unhide K1).lt
        have hz2 : w.heap.size + 1 + 1 < wr.heap.size := (unhide K2).lt
        cases hh : hasN ats n with
        | true =>
          have HQ := hide (Q1 hh)
          rw [hh] at hhas
          clear Q1 Q2 hh
          go_wp2_with fail
          refine (unhide CP _).mono ?_
          rintro r w3 ⟨rfl, hw3⟩
          obtain rfl : wr = w3 := hw3.symm
          go_wp2_with fail
          have hbA : Below wr.heap.size wr (wr.alloc (Obj.cells #[.string ⟨#[]⟩, .string ⟨#[]⟩] 51)) := (Below.refl _ _).alloc (Nat.le_refl _) _
          refine (unhide CA _ ((unhide T3).below hbA) ((unhide M3).below hbA)).mono ?_
          rintro r w3 ⟨rfl, hb3⟩
          have hbS := ((tr2 hbA hb3).setCell (p := ⟨wr.heap.size, 0, none⟩) (Nat.le_refl _) (.string n)).setCell (p := ⟨wr.heap.size, 1, none⟩) (Nat.le_refl _) (.string v)
          have jG : Blk w3 wr.heap.size #[.string ⟨#[]⟩, .string ⟨#[]⟩] 51 := (Blk.new wr _ _).later hb3
          have j0 := hide ((unhide K0).later hbS)
          have j1 := hide ((unhide K1).later hbS)
          have j2 := hide ((unhide K2).later hbS)
          have hown3 := hide (owns_later (unhide HO) hbS)
          have hrow3 := hide (ownsRow_below (unhide HW) hbS)
          have hbZ := hide (tr2 hbW hbS)
          clear hbA hb3 hbS hbW T3 M3 K0 K1 K2 HO HW HB c0
          have hM2 := unhide HM2
          generalize wr.heap.size = G at *
          have a0 : w3.cell? ⟨G, 0, none⟩ = some (.string ⟨#[]⟩) := jG.cell 0
          have a1 : w3.cell? ⟨G, 1, none⟩ = some (.string ⟨#[]⟩) := jG.cell 1
          have b0 : w3.frozen? ⟨G, 0, none⟩ = false := jG.frozen 0
          have b1 : w3.frozen? ⟨G, 1, none⟩ = false := jG.frozen 1
          replace jG := hide ((jG.set 0 (by decide) (.string n)).set 1 (by simp) (.string v))
          go_wp2_with (at_lookup; refine wpList_lookup_own_ok_int _ rfl _ _ 72 rfl 9 3 .i64 law9 Tryz.underlying72 Tryz.underlying3 (zeroInt _) M ats.length (putN (H := Unit) ats) rfl (unhide hown3) _ _ rfl hkey ?_; intro c hat hwc; rw [hhas])
          exact ⟨⟨E, rfl, k, ats, f, SL, by omega, hA.1, by omega, unhide HQ, unhide j0, unhide j1, unhide j2, unhide hown3, unhide hrow3, hM2, unhide hbZ⟩, by simp [intOf]; omega⟩
        | false =>
          have HQ := hide (Q2 hh)
          rw [hh] at hhas
          clear Q1 Q2 hh
          go_wp2_with fail
          refine (unhide CP _).mono ?_
          rintro r w3 ⟨rfl, hw3⟩
          obtain rfl : wr = w3 := hw3.symm
          go_wp2_with fail
          have hbA : Below wr.heap.size wr (wr.alloc (Obj.cells #[.string ⟨#[]⟩, .string ⟨#[]⟩] 51)) := (Below.refl _ _).alloc (Nat.le_refl _) _
          refine (unhide CA _ ((unhide T3).below hbA) ((unhide M3).below hbA)).mono ?_
          rintro r w3 ⟨rfl, hb3⟩
          have hbS := ((tr2 hbA hb3).setCell (p := ⟨wr.heap.size, 0, none⟩) (Nat.le_refl _) (.string n)).setCell (p := ⟨wr.heap.size, 1, none⟩) (Nat.le_refl _) (.string v)
          have jG : Blk w3 wr.heap.size #[.string ⟨#[]⟩, .string ⟨#[]⟩] 51 := (Blk.new wr _ _).later hb3
          have j0 := hide ((unhide K0).later hbS)
          have j1 := hide ((unhide K1).later hbS)
          have j2 := hide ((unhide K2).later hbS)
          have hown3 := hide (owns_later (unhide HO) hbS)
          have hrow3 := hide (ownsRow_below (unhide HW) hbS)
          have hbZ := hide (tr2 hbW hbS)
          clear hbA hb3 hbS hbW T3 M3 K0 K1 K2 HO HW HB c0
          have hM2 := unhide HM2
          generalize wr.heap.size = G at *
          have a0 : w3.cell? ⟨G, 0, none⟩ = some (.string ⟨#[]⟩) := jG.cell 0
          have a1 : w3.cell? ⟨G, 1, none⟩ = some (.string ⟨#[]⟩) := jG.cell 1
          have b0 : w3.frozen? ⟨G, 0, none⟩ = false := jG.frozen 0
          have b1 : w3.frozen? ⟨G, 1, none⟩ = false := jG.frozen 1
          replace jG := hide ((jG.set 0 (by decide) (.string n)).set 1 (by simp) (.string v))
          have hwL : (Lit.int .i64 (ats.length : Int)).wf = true := WalkArith.wf_i64 (by omega)
          obtain ⟨q, cap, rfl, hcl⟩ := cells_of_owns (unhide hrow3)
          clear hcl
          have c22 : ((w3.setCell ⟨G, 0, none⟩ (.string n)).setCell ⟨G, 1, none⟩ (.string v)).cell? ⟨w.heap.size + 1 + 1, 2, none⟩ = some (.slice q ats.length cap) := (unhide j2).cell 2
          obtain ⟨i0, hi0, hi1, hi2, hi3⟩ := infoAttr
          go_wp2_with (first
            | (at_lookup; refine wpList_lookup_own_ok_int _ rfl _ _ 72 rfl 9 3 .i64 law9 Tryz.underlying72 Tryz.underlying3 (zeroInt _) M ats.length (putN (H := Unit) ats) rfl (unhide hown3) _ _ rfl hkey ?_; intro c hat hwc; rw [hhas])
            | (at_mapUpdate; refine wpList_mapUpdate_own _ rfl _ _ _ 72 rfl 9 3 law9 Tryz.underlying72 (plainElem (H := Unit) Tryz.prog 3) M ats.length _ rfl (unhide hown3) (by unfold maxLen; omega) _ _ _ rfl rfl hkey _ [] (plainElem_int Tryz.underlying3 hwL) ?_; intro w4 hown4 hgrow4; have i2 := (unhide j2).grown hgrow4 (by simp; omega); have iG := (unhide jG).grown hgrow4 (by simp; omega); have l22 : w4.cell? ⟨w.heap.size + 1 + 1, 2, none⟩ = some (.slice q ats.length cap) := i2.cell 2; have lG0 : w4.cell? ⟨G, 0, none⟩ = some (.string n) := iG.cell 0; have lG1 : w4.cell? ⟨G, 1, none⟩ = some (.string v) := iG.cell 1; have f22 : w4.frozen? ⟨w.heap.size + 1 + 1, 2, none⟩ = false := i2.frozen 2; have hrow4 := owns_grown (unhide hrow3) hgrow4 (by omega))
            | (at_builtin; refine wpList_append_own _ rfl _ _ 25 rfl (M + 1) 51 i0 (.agg #[.string ⟨#[]⟩, .string ⟨#[]⟩]) 2 32 Tryz.underlying25 hi0 hi1 hi2 hi3 rfl (by decide) _ _ _ rfl (hrow4.alloc _) ⟨w4.heap.size, 0, none⟩ 1 1 [.string n, .string v] rfl rfl ?c1 ?c2 ?c3 ?c4 ?c5 ?_))
          case c1 => intro j u hj; rw [addr_plain, Nat.zero_add]; exact ((Blk.new w4 #[.string n, .string v] 51).cell j).trans (by simpa using hj)
          case c2 => intro u hu; simp at hu; rcases hu with rfl | rfl <;> rfl
          case c3 => unfold maxLen; omega
          case c4 => omega
          case c5 => have := hown4.lt; simp; omega
          intro v' w5 hrow5 hgrow5 _
          have hM4 := hown4.lt
          have hrl : ∀ j, some j = (Value.slice q ats.length cap).ownBlock → M + 1 ≤ j := fun j hj => (hrow4.lt j hj.symm).1
          have o0 := (((unhide j0).grown hgrow4 (by simp; omega)).alloc (Obj.cells #[.string n, .string v] 51)).grown hgrow5 (fun e => by have := hrl _ e; omega)
          have o1 := (((unhide j1).grown hgrow4 (by simp; omega)).alloc (Obj.cells #[.string n, .string v] 51)).grown hgrow5 (fun e => by have := hrl _ e; omega)
          have o2 := (i2.alloc (Obj.cells #[.string n, .string v] 51)).grown hgrow5 (fun e => by have := hrl _ e; omega)
          have hown5 := (hown4.alloc (Obj.cells #[.string n, .string v] 51)).kept hgrow5 (fun e => by have := hrl _ e; omega)
          have hsz := (unhide hbZ).size
          have hb4 := (unhide hbZ).grown hgrow4 hsz (fun j hj => by cases hj; omega)
          have hb4' := hb4.alloc hb4.size (Obj.cells #[.string n, .string v] 51)
          have hb5 := hb4'.grown hgrow5 hb4'.size (fun j hj => by have := hrl _ hj.symm; omega)
          have p22 : w5.cell? ⟨w.heap.size + 1 + 1, 2, none⟩ = some (.slice q ats.length cap) := o2.cell 2
          have g22 : w5.frozen? ⟨w.heap.size + 1 + 1, 2, none⟩ = false := o2.frozen 2
          have O := hide (And.intro o0 (And.intro o1 (And.intro o2 (And.intro hown5 (And.intro hb5 hrow5)))))
          clear o0 o1 o2 hown5 hb5 hb4 hb4' hrow5 hgrow5 hgrow4 hrow4 i2 iG l22 lG0 lG1 f22 hown4 hrow3 hown3 c22 a0 a1 b0 b1 jG j0 j1 j2 hbZ
          obtain ⟨a5, n5, c5, hv5⟩ := slice_of (unhide O).2.2.2.2.2
          subst hv5
          go_wp2
          obtain ⟨o0, o1, o2, hown5, hb5, hrow5⟩ := unhide O
          refine ⟨⟨E, rfl, k, ats ++ [(n, v)], f, _, by omega, hA.1, by simp; omega, unhide HQ, o0.away (by omega) _, o1.away (by omega) _, o2.set 2 (by simp) _, ?_, ?_, hM2, hb5.setCell (by simp; omega) _⟩, by simp [intOf]; omega⟩
          · rw [putN_snoc, List.length_append]
            exact hown5.setCell (by simp; omega) _
          · rw [flatA_snoc, List.length_append]
            exact ownsRow_setCell_below hrow5 (by simp; omega) _
    · have hR := (parts_end (s := s) (k := k) (i := i') (ats := ats) (f := f) (by omega)).symm.trans (unhide HPR)
      have hsi : i' = s.size := by omega
      subst hR
      have HN : Hid (¬ i' < s.size) := hide hp
      have g1 : (s.size : Int) ≤ (i' : Int) := by omega
      have c10 : wr.cell? ⟨w.heap.size + 1, 0, none⟩ = some (.int .i64 0) := (unhide K1).cell 0
      have c11 : wr.cell? ⟨w.heap.size + 1, 1, none⟩ = some (.string ⟨#[]⟩) := (unhide K1).cell 1
      have c12 : wr.cell? ⟨w.heap.size + 1, 2, none⟩ = some (.slice none 0 0) := (unhide K1).cell 2
      have c13 : wr.cell? ⟨w.heap.size + 1, 3, none⟩ = some (.bool false) := (unhide K1).cell 3
      have c14 : wr.cell? ⟨w.heap.size + 1, 4, none⟩ = some (.string ⟨#[]⟩) := (unhide K1).cell 4
      have f10 : wr.frozen? ⟨w.heap.size + 1, 0, none⟩ = false := (unhide K1).frozen 0
      have f11 : wr.frozen? ⟨w.heap.size + 1, 1, none⟩ = false := (unhide K1).frozen 1
      have f12 : wr.frozen? ⟨w.heap.size + 1, 2, none⟩ = false := (unhide K1).frozen 2
      have f13 : wr.frozen? ⟨w.heap.size + 1, 3, none⟩ = false := (unhide K1).frozen 3
      have f14 : wr.frozen? ⟨w.heap.size + 1, 4, none⟩ = false := (unhide K1).frozen 4
      go_wp2
      go_region
      all_goals
        go_wp2
        rw [Exit.noGoto_ret]
        have k1 := (((((unhide K1).set 0 (by simp) (.int .i64 0)).set 1 (by simp) (.string ⟨#[]⟩)).set 2 (by simp) (.slice none 0 0)).set 3 (by simp) (.bool false)).set 4 (by simp) (.string ⟨#[]⟩)
        have d0 := k1.cell 0
        have d1 := k1.cell 1
        have d2 := k1.cell 2
        have d3 := k1.cell 3
        have d4 := k1.cell 4
        refine bodyPost_ret (v := .tuple #[.agg #[.int .i64 0, .string ⟨#[]⟩, .slice none 0 0, .bool false, .string ⟨#[]⟩], .int .i64 (s.size : Int)]) (by simp [results, Tryz.results24, go_sem, d0, d1, d2, d3, d4]) rfl ?_
        exact tagPost_none (unhide HN) (((((((unhide HB).setCell (by simp) _).setCell (by simp) _).setCell (by simp) _).setCell (by simp) _).setCell (by simp) _).drew)
end Go.Proofs.YtakjlolmmoladaaGreatDoor
