/-
  What 'toks.data' does, on the whole.
-/
import Derived.Test.YtakjlolmmoladaaGreatDoorTMl
namespace Go.Proofs.YtakjlolmmoladaaGreatDoor
open Go.RowKit
set_option linter.unusedVariables false

/-! ### how far what is read goes -/
theorem cutE_gt (s : ByteArray) (i : Nat) (p : List UInt8) (hi : i < s.size) (hp : p ≠ []) : i < cutE s i p := by
  unfold cutE
  have : 0 < p.length := List.length_pos_iff.2 hp
  split <;> omega
theorem noteE_le (s : ByteArray) (i : Nat) (hi : i ≤ s.size) : noteE s i ≤ s.size ∧ i ≤ noteE s i := by
  unfold noteE
  split
  · rename_i h; have := pre1 h; omega
  · split
    · rename_i h
      have := (List.isPrefixOf_iff_prefix.1 h).length_le
      rw [List.length_drop, data_len] at this
      simp at this; omega
    · have h := seekN_le (nePos s) (n := s.size) (k := i) hi
      have e : seekN (nePos s) s.size i = noteZ s i := rfl
      rw [e] at h
      have : neN (s.data.toList.drop (noteZ s i)) ≤ (s.data.toList.drop (noteZ s i)).length := by
        unfold neN
        split
        · rename_i h; exact (List.isPrefixOf_iff_prefix.1 h).length_le
        · split
          · rename_i h; exact (List.isPrefixOf_iff_prefix.1 h).length_le
          · exact Nat.zero_le _
      rw [List.length_drop, data_len] at this
      omega
theorem declE_le (s : ByteArray) (i : Nat) (cd : Bool) (hi : i + 2 ≤ s.size) : declE s i cd ≤ s.size ∧ i < declE s i cd := by
  unfold declE
  split
  · rename_i h
    have := (List.isPrefixOf_iff_prefix.1 h).length_le
    rw [List.length_drop, data_len] at this
    simp at this
    have := noteE_le s (i + 4) (by omega)
    omega
  · split
    · exact ⟨(cutE_le s i [62] (by omega)).1, cutE_gt s i [62] (by omega) (by simp)⟩
    · split
      · rename_i h
        unfold cdB at h
        rw [Bool.and_eq_true] at h
        have := (List.isPrefixOf_iff_prefix.1 h.2).length_le
        rw [List.length_drop, data_len] at this
        simp [cdO] at this
        have := cutE_le s (i + 9) [93, 93, 62] (by omega)
        omega
      · have := cutE_le s (i + 2) [62] hi
        omega
theorem partsF_le (s : ByteArray) : ∀ (k i : Nat) (ats : List (ByteArray × ByteArray)) (f : Bool), i ≤ s.size → (partsF s k i ats f).1 ≤ s.size ∧ i ≤ (partsF s k i ats f).1
  | 0, i, ats, f, h => ⟨h, Nat.le_refl _⟩
  | k + 1, i, ats, f, h => by
    rw [partsF]
    split
    · rename_i hl
      have ha := aqB_le s i hl
      split
      · have := partsF_le s k (i + 1) ats ([47, 62].isPrefixOf (s.data.toList.drop i)) (by omega); omega
      · split
        · have := partsF_le s k (i + 1) ats f (by omega); omega
        · split
          · exact ⟨h, Nat.le_refl _⟩
          · split
            · have := partsF_le s k (aqB s i) ats f ha.1; omega
            · have := partsF_le s k (aqB s i) (ats ++ [(naN s i, aqV s i)]) f ha.1; omega
    · exact ⟨h, Nat.le_refl _⟩
theorem tagZ_le (s : ByteArray) (i : Nat) (hi : i + 1 < s.size) : tagZ s i ≤ s.size ∧ i + 1 ≤ tagZ s i := by
  have hg : tagG s i ≤ s.size ∧ i + 1 ≤ tagG s i := by unfold tagG; split <;> omega
  have := seekN_le (enP s) (n := s.size) (k := tagG s i) hg.1
  unfold tagZ; omega
theorem tagE_le (s : ByteArray) (i : Nat) (hi : i + 1 < s.size) : tagE s i ≤ s.size ∧ i + 1 < tagE s i := by
  have h1 := tagZ_le s i hi
  have h2 := partsF_le s (s.size - tagZ s i + 1) (tagZ s i) [] false h1.1
  have e : partsF s (s.size - tagZ s i + 1) (tagZ s i) [] false = tagR s i := rfl
  rw [e] at h2
  unfold tagE
  split <;> omega
theorem markE_le (s : ByteArray) (i : Nat) (cd : Bool) (hi : i + 1 < s.size) (h2 : dgt s.data.toList (i + 1) = 47 → i + 2 < s.size) : markE s i cd ≤ s.size ∧ i < markE s i cd := by
  unfold markE
  split
  · exact declE_le s i cd (by omega)
  · split
    · have := cutE_le s (i + 1) [62] (by omega); omega
    · split
      · rename_i h; have := h2 h.1; omega
      · split
        · rename_i h; have := h2 h.1; have := cutE_le s (i + 2) [62] (by omega); omega
        · have := tagE_le s i hi; omega
theorem beg_bounds {s : ByteArray} {i : Nat} (h : begP s i = true) : i + 1 < s.size ∧ (dgt s.data.toList (i + 1) = 47 → i + 2 < s.size) := by
  unfold begP beginsB at h
  rw [Bool.and_eq_true] at h
  obtain ⟨h1, h2⟩ := h
  have h1 := of_decide_eq_true h1
  rw [List.length_drop, data_len] at h1 h2
  refine ⟨by omega, fun e => ?_⟩
  rw [dgt_drop, e] at h2
  by_cases c : 2 < s.size - i
  · omega
  · have n : decide ((47 : Nat) = 47 ∧ 2 < s.size - i) = false := decide_eq_false (fun x => c x.2)
    rw [n] at h2
    exact absurd h2 (by decide)

/-- The next token in Data, told plainly. -/
def chT (s : ByteArray) (i : Nat) : PTok := (3, ⟨#[]⟩, [], false, bs (allL false ((s.data.toList.drop i).take (seekN (begP s) s.size i - i))))
def dataF (s : ByteArray) (cd : Bool) : Nat → Nat → PTok × Nat
  | 0, _ => (noT, s.size)
  | k + 1, i =>
    if i < s.size then
      if begP s i = false then (chT s i, seekN (begP s) s.size i)
      else if (markT s i cd).1 = 0 then dataF s cd k (markE s i cd)
      else (markT s i cd, markE s i cd)
    else (noT, s.size)
theorem SlN.later {cap b : Nat} {q : Option Addr} {ats : List (ByteArray × ByteArray)} {w w' : World} (h : SlN (cap := cap) b q ats w) (hb : Below w.heap.size w w') : SlN (cap := cap) b q ats w' :=
  h.imp id fun ⟨g, h1, h2, h3⟩ => ⟨g, h1, h2, h3.below hb⟩
theorem dataF_end {s : ByteArray} {cd : Bool} {k i : Nat} (h : s.size ≤ i) : dataF s cd k i = (noT, s.size) := by
  cases k with
  | zero => rfl
  | succ k => rw [dataF, if_neg (by omega)]
theorem dataF_chars {s : ByteArray} {cd : Bool} {k i : Nat} (h : i < s.size) (hb : begP s i = false) : dataF s cd (k + 1) i = (chT s i, seekN (begP s) s.size i) := by
  rw [dataF, if_pos h, if_pos hb]
theorem dataF_on {s : ByteArray} {cd : Bool} {k i : Nat} (h : i < s.size) (hb : begP s i = true) (hm : (markT s i cd).1 = 0) : dataF s cd (k + 1) i = dataF s cd k (markE s i cd) := by
  rw [dataF, if_pos h, if_neg (by rw [hb]; decide), if_pos hm]
theorem dataF_mark {s : ByteArray} {cd : Bool} {k i : Nat} (h : i < s.size) (hb : begP s i = true) (hm : ¬ (markT s i cd).1 = 0) : dataF s cd (k + 1) i = (markT s i cd, markE s i cd) := by
  rw [dataF, if_pos h, if_neg (by rw [hb]; decide), if_neg hm]

def DataAt (s : ByteArray) (cd : Bool) (R : PTok × Nat) (w : World) (i : Nat) (wr : World) : Prop :=
  ∃ k, s.size < i + k ∧ i ≤ s.size ∧ dataF s cd k i = R ∧ Blk wr w.heap.size #[.string s] 9 ∧
    Blk wr (w.heap.size + 1) #[.int .i64 0, .string ⟨#[]⟩, .slice none 0 0, .bool false, .string ⟨#[]⟩] 27 ∧ Below w.heap.size w wr

set_option maxHeartbeats 8000000 in
set_option maxRecDepth 100000 in
theorem data_any (s : ByteArray) (i : Nat) (cd : Bool) (w : World) (ht : Tab4 w) (hm : Mx w) (hs : s.size ≤ 100000) (hi : i ≤ s.size) :
    Calls Tryz.prog 13 #[.string s, .int .i64 (i : Int), .bool cd] w (Told w (dataF s cd (s.size - i + 1) i).1 (dataF s cd (s.size - i + 1) i).2) := by
  have HT := hide ht
  have HM := hide hm
  clear ht hm
  obtain ⟨R, hR⟩ : ∃ R, R = dataF s cd (s.size - i + 1) i := ⟨_, rfl⟩
  rw [← hR]
  have HR := hide hR
  clear hR
  go_enter Tryz.func13, Tryz.ntmps13
  go_wp2
  go_loopw [1] (fun a wr => ∃ i', a = .int .i64 ((i' : Nat) : Int) ∧ DataAt s cd R w i' wr) (fun a _ => s.size - (intOf a).toNat)
  case atStart =>
    refine ⟨i, rfl, s.size - i + 1, by omega, hi, (unhide HR).symm, (Blk.new w _ _).alloc _, ?_, ((Below.refl _ _).alloc (Nat.le_refl _) _).alloc (by simp) _⟩
    have := Blk.new (w.alloc (Obj.cells #[.string s] 9)) #[.int .i64 0, .string ⟨#[]⟩, .slice none 0 0, .bool false, .string ⟨#[]⟩] 27
    simpa using this
  case round =>
    obtain ⟨i', rfl, k, hfu, hle, hpr, k0, k1, hb⟩ := hrel
    have HPR := hide hpr
    have c0 : wr.cell? ⟨w.heap.size, 0, none⟩ = some (.string s) := k0.cell 0
    have K0 := hide k0
    have K1 := hide k1
    have HB := hide hb
    clear hpr k0 k1 hb
    by_cases hp : i' < s.size
    · obtain ⟨k, rfl⟩ : ∃ k', k = k' + 1 := ⟨k - 1, by omega⟩
      have hpi : (i' : Int) < (s.size : Int) := by omega
      have hpi2 : (i' : Int) ≤ (s.size : Int) := by omega
      have hxd : (s.extract i' s.size).data.toList = s.data.toList.drop i' := by rw [rest_of, bs_toList]
      have CB := hide (fun w => begins_any (s.extract i' s.size) w (by simp; omega))
      rw [hxd] at CB
      have hbd : beginsB (s.data.toList.drop i') = begP s i' := rfl
      rw [hbd] at CB
      cases hbg : begP s i' with
      | false =>
        have hR := (dataF_chars (cd := cd) (k := k) hp hbg).symm.trans (unhide HPR)
        rw [hbg] at CB
        have CS := hide (fun w g hg => seek_data s i' g w hg (by omega) (by omega))
        have hle' := seekN_le (begP s) (n := s.size) (k := i') (by omega)
        have hcx := extract_take s i' (seekN (begP s) s.size i' - i')
        rw [show i' + (seekN (begP s) s.size i' - i') = seekN (begP s) s.size i' by omega] at hcx
        unfold chT at hR
        generalize seekN (begP s) s.size i' = e at *
        have hel : (e : Int) ≤ (s.size : Int) := by omega
        have hie : (i' : Int) ≤ (e : Int) := by omega
        have hyz : (s.extract i' e).size ≤ 100000 := by simp; omega
        have CA := hide (fun w h => all_any (s.extract i' e) false w h hyz)
        have hyd : (s.extract i' e).data.toList = (s.data.toList.drop i').take (e - i') := by rw [hcx, bs_toList]
        rw [hyd] at CA
        generalize bs (allL false ((s.data.toList.drop i').take (e - i'))) = y at *
        subst hR
        clear hxd hcx hyd hbg hbd
        go_wp2_with fail
        refine (unhide CB _).mono ?_
        rintro r w1 ⟨rfl, hw1⟩
        obtain rfl : wr = w1 := hw1.symm
        go_wp2_with fail
        refine (unhide CS _ w.heap.size c0).mono ?_
        rintro r w1 ⟨rfl, hw1⟩
        obtain rfl : wr = w1 := hw1.symm
        go_wp2_with fail
        refine (unhide CA _ ((unhide HT).below (unhide HB))).mono ?_
        rintro r w2 ⟨rfl, hb2⟩
        have k1 := (unhide K1).later hb2
        have hb := tr2 (unhide HB) hb2
        have c10 : w2.cell? ⟨w.heap.size + 1, 0, none⟩ = some (.int .i64 0) := k1.cell 0
        have c11 : w2.cell? ⟨w.heap.size + 1, 1, none⟩ = some (.string ⟨#[]⟩) := k1.cell 1
        have c12 : w2.cell? ⟨w.heap.size + 1, 2, none⟩ = some (.slice none 0 0) := k1.cell 2
        have c13 : w2.cell? ⟨w.heap.size + 1, 3, none⟩ = some (.bool false) := k1.cell 3
        have c14 : w2.cell? ⟨w.heap.size + 1, 4, none⟩ = some (.string ⟨#[]⟩) := k1.cell 4
        have f10 : w2.frozen? ⟨w.heap.size + 1, 0, none⟩ = false := k1.frozen 0
        have f11 : w2.frozen? ⟨w.heap.size + 1, 1, none⟩ = false := k1.frozen 1
        have f12 : w2.frozen? ⟨w.heap.size + 1, 2, none⟩ = false := k1.frozen 2
        have f13 : w2.frozen? ⟨w.heap.size + 1, 3, none⟩ = false := k1.frozen 3
        have f14 : w2.frozen? ⟨w.heap.size + 1, 4, none⟩ = false := k1.frozen 4
        have K2 := hide k1
        clear k1 hb2
        go_wp2
        have k1 := (((((unhide K2).set 0 (by simp) (.int .i64 3)).set 1 (by simp) (.string ⟨#[]⟩)).set 2 (by simp) (.slice none 0 0)).set 3 (by simp) (.bool false)).set 4 (by simp) (.string y)
        have d0 := k1.cell 0
        have d1 := k1.cell 1
        have d2 := k1.cell 2
        have d3 := k1.cell 3
        have d4 := k1.cell 4
        exact bodyPost_ret (v := .tuple #[.agg #[.int .i64 3, .string ⟨#[]⟩, .slice none 0 0, .bool false, .string y], .int .i64 (e : Int)]) (by simp [results, Tryz.results13, go_sem, d0, d1, d2, d3, d4]) rfl ⟨none, 0, rfl, slN_nil _ _ _, ((((hb.setCell (by simp) _).setCell (by simp) _).setCell (by simp) _).setCell (by simp) _).setCell (by simp) _⟩
      | true =>
        obtain ⟨hb1, hb2⟩ := beg_bounds hbg
        rw [hbg] at CB
        have CM := hide (fun w ht hm => markup_any s i' cd w ht hm hs hb1 hb2)
        have hme := markE_le s i' cd hb1 hb2
        have Q1 := fun h => (dataF_on (cd := cd) (k := k) hp hbg h).symm.trans (unhide HPR)
        have Q2 := fun h => (dataF_mark (cd := cd) (k := k) hp hbg h).symm.trans (unhide HPR)
        generalize markT s i' cd = t at *
        generalize markE s i' cd = E at *
        obtain ⟨tk, tn, ta, tf, tx⟩ := t
        clear hxd hbg hbd
        by_cases hk : tk = 0
        · have HQ := hide (Q1 hk)
          subst hk
          clear Q1 Q2
          go_wp2_with fail
          refine (unhide CB _).mono ?_
          rintro r w1 ⟨rfl, hw1⟩
          obtain rfl : wr = w1 := hw1.symm
          go_wp2_with fail
          refine (unhide CM _ ((unhide HT).below (unhide HB)) ((unhide HM).below (unhide HB))).mono ?_
          rintro r w2 ⟨q, cap, rfl, hsl, hb2⟩
          have j0 := hide ((unhide K0).later hb2)
          have j1 := hide ((unhide K1).later hb2)
          have hb := hide (tr2 (unhide HB) hb2)
          clear hb2 hsl
          go_wp2
          go_roundw
          case rel => exact ⟨E, rfl, k, by omega, hme.1, unhide HQ, (unhide j0).alloc _, (unhide j1).alloc _, (unhide hb).alloc (unhide hb).size _⟩
          case measure => simp [intOf]; omega
        · have hR := Q2 hk
          have nk : (tk == 0) = false := beq_eq_false_iff_ne.2 hk
          subst hR
          clear Q1 Q2
          go_wp2_with fail
          refine (unhide CB _).mono ?_
          rintro r w1 ⟨rfl, hw1⟩
          obtain rfl : wr = w1 := hw1.symm
          go_wp2_with fail
          refine (unhide CM _ ((unhide HT).below (unhide HB)) ((unhide HM).below (unhide HB))).mono ?_
          rintro r w2 ⟨q, cap, rfl, hsl, hb2⟩
          have k1 := (unhide K1).later hb2
          have hb := tr2 (unhide HB) hb2
          have hsl2 := hide (hsl.mono (b' := w.heap.size + 1 + 1) (by have := (unhide K1).lt; omega))
          have hz1 := k1.lt
          have hGne : ¬ w2.heap.size = w.heap.size + 1 := by omega
          have c10 : w2.cell? ⟨w.heap.size + 1, 0, none⟩ = some (.int .i64 0) := k1.cell 0
          have c11 : w2.cell? ⟨w.heap.size + 1, 1, none⟩ = some (.string ⟨#[]⟩) := k1.cell 1
          have c12 : w2.cell? ⟨w.heap.size + 1, 2, none⟩ = some (.slice none 0 0) := k1.cell 2
          have c13 : w2.cell? ⟨w.heap.size + 1, 3, none⟩ = some (.bool false) := k1.cell 3
          have c14 : w2.cell? ⟨w.heap.size + 1, 4, none⟩ = some (.string ⟨#[]⟩) := k1.cell 4
          have f10 : w2.frozen? ⟨w.heap.size + 1, 0, none⟩ = false := k1.frozen 0
          have f11 : w2.frozen? ⟨w.heap.size + 1, 1, none⟩ = false := k1.frozen 1
          have f12 : w2.frozen? ⟨w.heap.size + 1, 2, none⟩ = false := k1.frozen 2
          have f13 : w2.frozen? ⟨w.heap.size + 1, 3, none⟩ = false := k1.frozen 3
          have f14 : w2.frozen? ⟨w.heap.size + 1, 4, none⟩ = false := k1.frozen 4
          have K2 := hide k1
          have HB2 := hide hb
          clear k1 hb2 hsl hb
          go_wp2
          have k1 := ((((((unhide K2).set 0 (by simp) (.int .i64 tk)).set 1 (by simp) (.string tn)).set 2 (by simp) (.slice q ta.length cap)).set 3 (by simp) (.bool tf)).set 4 (by simp) (.string tx)).alloc (Obj.cells #[.int .i64 tk, .string tn, .slice q ta.length cap, .bool tf, .string tx] 27)
          have d0 := k1.cell 0
          have d1 := k1.cell 1
          have d2 := k1.cell 2
          have d3 := k1.cell 3
          have d4 := k1.cell 4
          have hb5 := (((((unhide HB2).setCell (p := ⟨w.heap.size + 1, 0, none⟩) (by simp) (.int .i64 tk)).setCell (p := ⟨w.heap.size + 1, 1, none⟩) (by simp) (.string tn)).setCell (p := ⟨w.heap.size + 1, 2, none⟩) (by simp) (.slice q ta.length cap)).setCell (p := ⟨w.heap.size + 1, 3, none⟩) (by simp) (.bool tf)).setCell (p := ⟨w.heap.size + 1, 4, none⟩) (by simp) (.string tx)
          exact bodyPost_ret (v := .tuple #[.agg #[.int .i64 tk, .string tn, .slice q ta.length cap, .bool tf, .string tx], .int .i64 (E : Int)]) (by simp [results, Tryz.results13, go_sem, d0, d1, d2, d3, d4]) rfl ⟨q, cap, rfl, ((((((((unhide hsl2).away (Nat.lt_succ_self _) _).away (Nat.lt_succ_self _) _).away (Nat.lt_succ_self _) _).away (Nat.lt_succ_self _) _).away (Nat.lt_succ_self _) _).mono (by omega)).later ((Below.refl _ _).alloc (Nat.le_refl _) _)), hb5.alloc hb5.size _⟩
    · have hR := (dataF_end (s := s) (cd := cd) (k := k) (i := i') (by omega)).symm.trans (unhide HPR)
      have hpi : ¬ (i' : Int) < (s.size : Int) := by omega
      subst hR
      have c10 : wr.cell? ⟨w.heap.size + 1, 0, none⟩ = some (.int .i64 0) := (unhide K1).cell 0
      have c11 : wr.cell? ⟨w.heap.size + 1, 1, none⟩ = some (.string ⟨#[]⟩) := (unhide K1).cell 1
      have c12 : wr.cell? ⟨w.heap.size + 1, 2, none⟩ = some (.slice none 0 0) := (unhide K1).cell 2
      have c13 : wr.cell? ⟨w.heap.size + 1, 3, none⟩ = some (.bool false) := (unhide K1).cell 3
      have c14 : wr.cell? ⟨w.heap.size + 1, 4, none⟩ = some (.string ⟨#[]⟩) := (unhide K1).cell 4
      have f10 : wr.frozen? ⟨w.heap.size + 1, 0, none⟩ = false := (unhide K1).frozen 0
      have f11 : wr.frozen? ⟨w.heap.size + 1, 1, none⟩ = false := (unhide K1).frozen 1
      have f12 : wr.frozen? ⟨w.heap.size + 1, 2, none⟩ = false := (unhide K1).frozen 2
      have f13 : wr.frozen? ⟨w.heap.size + 1, 3, none⟩ = false := (unhide K1).frozen 3
      have f14 : wr.frozen? ⟨w.heap.size + 1, 4, none⟩ = false := (unhide K1).frozen 4
      clear hp
      go_wp2
      go_region
      all_goals
        go_wp2
        have k1 := (((((unhide K1).set 0 (by simp) (.int .i64 0)).set 1 (by simp) (.string ⟨#[]⟩)).set 2 (by simp) (.slice none 0 0)).set 3 (by simp) (.bool false)).set 4 (by simp) (.string ⟨#[]⟩)
        have d0 := k1.cell 0
        have d1 := k1.cell 1
        have d2 := k1.cell 2
        have d3 := k1.cell 3
        have d4 := k1.cell 4
        exact bodyPost_ret (v := .tuple #[.agg #[.int .i64 0, .string ⟨#[]⟩, .slice none 0 0, .bool false, .string ⟨#[]⟩], .int .i64 (s.size : Int)]) (by simp [results, Tryz.results13, go_sem, d0, d1, d2, d3, d4]) rfl ⟨none, 0, rfl, slN_nil _ _ _, (((((((unhide HB).setCell (by simp) _).setCell (by simp) _).setCell (by simp) _).setCell (by simp) _).setCell (by simp) _).drew)⟩
end Go.Proofs.YtakjlolmmoladaaGreatDoor
