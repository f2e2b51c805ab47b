/-
  Several texts in one: what the functions of the program and of the document's answer do.
-/
import Derived.Test.YtakjlolmmoladaaGreatDoorMgB
import Derived.Test.YtakjlolmmoladaaGreatDoorMgA
import Derived.Test.YtakjlolmmoladaaGreatDoorTNc
import Derived.Test.YtakjlolmmoladaaGreatDoorTNx

/-
  What the reference's has and attr of layer 5 do.
-/
namespace Go.Proofs.YtakjlolmmoladaaGreatDoor
open Go.RowKit
set_option linter.unusedVariables false

theorem hasN_yes {ats : List (ByteArray × ByteArray)} {n : ByteArray} {k : Nat} (hk : k < ats.length) (h : an ats k = n) : hasN ats n = true := by
  unfold hasN
  rw [List.any_eq_true]
  refine ⟨ats[k], List.getElem_mem hk, decide_eq_true ?_⟩
  rw [← h]; unfold an; rw [List.getD, List.getElem?_eq_getElem hk]; rfl
theorem hasN_not {ats : List (ByteArray × ByteArray)} {n : ByteArray} (h : ∀ j, j < ats.length → ¬ an ats j = n) : hasN ats n = false := by
  unfold hasN
  rw [List.any_eq_false]
  intro a ha
  obtain ⟨j, hj, rfl⟩ := List.mem_iff_getElem.1 ha
  have := h j hj
  unfold an at this
  rw [List.getD, List.getElem?_eq_getElem hj] at this
  simpa using this
set_option maxHeartbeats 2000000 in
theorem has5_none (q : Option Addr) (cap : Nat) (n : ByteArray) (w : World) : Calls Tryz.prog 35 #[.slice q 0 cap, .string n] w fun e w' => e = .returned (.bool false) ∧ Below w.heap.size w w' := by
  go_enter Tryz.func35, Tryz.ntmps35
  go_wp2
  refine wp_loop_rounds 1 ?_
  rw [rounds_succ]; go_wp2
  go_ret
  exact ⟨rfl, Below.refl _ _⟩
set_option maxHeartbeats 2000000 in
theorem has5_some (ats : List (ByteArray × ByteArray)) (g cap : Nat) (n : ByteArray) (w : World) (hc : Cells2 g 0 ats w) (hl : ats.length ≤ 200000) : Calls Tryz.prog 35 #[.slice (some ⟨g, 0, none⟩) ats.length cap, .string n] w fun e w' => e = .returned (.bool (hasN ats n)) ∧ Below w.heap.size w w' := by
  have HC := hide hc
  clear hc
  go_enter Tryz.func35, Tryz.ntmps35
  go_wp2
  go_loopw [9] (fun a wr => ∃ k : Nat, k ≤ ats.length ∧ a = .int .i64 k ∧ (∀ j, j < k → ¬ an ats j = n) ∧ Below w.heap.size w wr) (fun a _ => ats.length - (intOf a).toNat)
  case atStart => exact ⟨0, Nat.zero_le _, rfl, fun j h => by omega, Below.refl _ _⟩
  case round =>
    obtain ⟨k, hk, rfl, hno, hbw⟩ := hrel
    have HNO := hide hno
    clear hno
    by_cases hp : k < ats.length
    · have hpi : (k : Int) < (ats.length : Int) := by omega
      obtain ⟨c1, c2⟩ := (unhide HC).below hbw k hp
      simp only [Nat.zero_add] at c1 c2
      have HA := hide (fun (h : an ats k = n) => hasN_yes hp h)
      have HST := hide (fun (h1 : ¬ an ats k = n) => fun j (hj : j < k + 1) => show ¬ an ats j = n by
        by_cases e : j = k
        · subst e; exact h1
        · exact unhide HNO j (by omega))
      have hbA := tr2 hbw ((Below.refl _ _).alloc (Nat.le_refl _) (Obj.cells #[.string (an ats k), .string (av ats k)] 51))
      generalize an ats k = a1 at *
      generalize av ats k = a2 at *
      have HB := hide hbA
      clear hbA hbw
      by_cases h1 : a1 = n
      · have e1 := beq_yes h1
        have HH := hide (unhide HA h1)
        clear HA HST h1
        go_wp2
        go_ret
        exact ⟨by rw [unhide HH]; rfl, unhide HB⟩
      · have e1 := beq_no h1
        have HS2 := hide (unhide HST h1)
        clear HA HST h1
        go_wp2
        go_roundw
        case rel => exact ⟨k + 1, by omega, by go_num, unhide HS2, unhide HB⟩
        case measure => simp [intOf]; omega
    · have HH := hide (hasN_not (ats := ats) (n := n) (fun j hj => unhide HNO j (by omega)))
      have hpi : ¬ (k : Int) < (ats.length : Int) := by omega
      clear hp
      go_wp2
      go_ret
      exact ⟨by rw [unhide HH]; rfl, hbw⟩
theorem has5_any {cap base : Nat} (q : Option Addr) (ats : List (ByteArray × ByteArray)) (n : ByteArray) (w : World) (h : SlN (cap := cap) base q ats w) (hl : ats.length ≤ 200000) : Calls Tryz.prog 35 #[.slice q ats.length cap, .string n] w fun e w' => e = .returned (.bool (hasN ats n)) ∧ Below w.heap.size w w' := by
  rcases h with rfl | ⟨g, rfl, _, hc⟩
  · exact has5_none q cap n w
  · exact has5_some ats g cap n w hc hl

/-! ### an attribute -/
def AttrSaid (s : ByteArray) (i : Nat) (N0 V0 : ByteArray) (AB : Nat) (w : World) (e : Ending) (w' : World) : Prop :=
  ∃ N V, ∃ E : Int, e = .returned (.agg #[.string N, .string V, .int .i64 E]) ∧ Below w.heap.size w w' ∧ ((E = -1 ∧ AB = s.size) ∨ ∃ E' : Nat, E = (E' : Int) ∧ E' ≤ s.size ∧ i < E' ∧ N = N0 ∧ V = V0 ∧ skipN s E' = skipN s AB)
theorem skip_skip (s : ByteArray) (i : Nat) : skipN s (skipN s i) = skipN s i := by
  by_cases h : skipN s i < s.size
  · exact seek_hit _ (seek_is (nsP s) s.size _ i rfl h)
  · exact seek_end _ (show s.size ≤ skipN s i by omega)
theorem skip_one (s : ByteArray) (i : Nat) (w : World) (hs : s.size ≤ 100000) (hi : i + 1 ≤ s.size) :
    Calls Tryz.prog 33 #[.string s, .int .i64 ((i : Int) + 1)] w fun e w' => e = .returned (.int .i64 (skipN s (i + 1) : Nat)) ∧ w' = w := skip_any s (i + 1) w hs hi
theorem find_one (s x : ByteArray) (l : List UInt8) (i : Nat) (w : World) (hs : s.size ≤ 100000) (hl : x = bs l) (hx : l.length = 1) (hi : i + 1 ≤ s.size) :
    Calls Tryz.prog 40 #[.string s, .int .i64 ((i : Int) + 1), .string x] w fun e w' => e = .returned (.int .i64 (fdN s l (i + 1) : Nat)) ∧ w' = w := by
  have := find_any s x (i + 1) w hs (by rw [hl, bs_size]; omega) (by rw [hl, bs_size]; omega) hi
  rw [hl, bs_toList] at this
  rw [hl]; exact this
theorem one_ext (s : ByteArray) (v : Nat) (c : UInt8) (h : [c].isPrefixOf (s.data.toList.drop v) = true) : s.extract v (v + 1) = bs [c] := by
  rw [extract_take]
  rw [List.isPrefixOf_iff_prefix] at h
  obtain ⟨t, ht⟩ := h
  rw [← ht]; rfl
theorem ext_data (s : ByteArray) {i F : Nat} (h : i ≤ F) : (s.extract i F).data.toList = (s.data.toList.drop i).take (F - i) := by
  rw [← cut_ext s h, bs_toList]

set_option maxHeartbeats 4000000 in
set_option maxRecDepth 100000 in
theorem attr5_no (s : ByteArray) (i : Nat) (w : World) (hs : s.size ≤ 100000) (hi : i < s.size) (hq : aqE s i = false) :
    Calls Tryz.prog 34 #[.string s, .int .i64 (i : Int)] w (AttrSaid s i (naN s i) (aqV s i) (aqB s i) w) := by
  have hE := seekN_le (eaP s) (n := s.size) (k := i + 1) (by omega)
  have hE' : naE s i ≤ s.size ∧ i + 1 ≤ naE s i := hE
  have CE : Hid (∀ w, Calls Tryz.prog 32 #[.string s, .int .i64 ((i : Int) + 1), .string ⟨#[47, 62, 61]⟩] w fun e w' => e = .returned (.int .i64 (naE s i : Nat)) ∧ Below w.heap.size w w') := hide (fun w => by
    have := ends_any s ⟨#[47, 62, 61]⟩ (i + 1) w hs (by decide) (by omega)
    rw [stP_ea] at this; exact this)
  have CO : Hid (∀ w, Calls Tryz.prog 30 #[.string (s.extract i (naE s i))] w fun e w' => e = .returned (.string (naN s i)) ∧ Below w.heap.size w w') := hide (fun w => by
    have := rlower_any (s.extract i (naE s i)) w (by simp; omega)
    rw [ext_data s (by omega)] at this; exact this)
  have CK : Hid (∀ w, Calls Tryz.prog 33 #[.string s, .int .i64 (naE s i : Nat)] w fun e w' => e = .returned (.int .i64 (naB s i : Nat)) ∧ w' = w) := hide (fun w => skip_any s (naE s i) w hs hE'.1)
  have hB : naB s i ≤ s.size ∧ naE s i ≤ naB s i := skip_le s hE'.1
  have CI : Hid (∀ w, Calls Tryz.prog 29 #[.string s, .int .i64 (naB s i : Nat), .string ⟨#[61]⟩] w fun e w' => e = .returned (.bool (aqE s i)) ∧ w' = w) := hide (fun w => is_any s ⟨#[61]⟩ (naB s i) w hs (by decide) (by decide) (by omega))
  have zz : (s.extract i (naE s i)).size ≤ 100000 := by simp; omega
  have eB : aqB s i = naB s i := by unfold aqB; rw [if_neg (by rw [hq]; decide)]
  have eV : aqV s i = ⟨#[]⟩ := by unfold aqV; rw [if_neg (by rw [hq]; decide)]
  have eK : skipN s (naE s i) = skipN s (aqB s i) := by rw [eB]; exact (skip_skip s (naE s i)).symm
  rw [hq] at CI
  have FIN := hide (show ∃ E' : Nat, ((naE s i : Nat) : Int) = (E' : Int) ∧ E' ≤ s.size ∧ i < E' ∧ naN s i = naN s i ∧ (⟨#[]⟩ : ByteArray) = aqV s i ∧ skipN s E' = skipN s (aqB s i) from ⟨naE s i, rfl, hE'.1, by omega, rfl, eV.symm, eK⟩)
  generalize aqB s i = AB at *
  generalize aqV s i = AV at *
  clear eB eV eK hq hE
  generalize hNe : naN s i = N at *
  generalize hEe : naE s i = e at *
  generalize hBe : naB s i = k at *
  have i1 : (i : Int) ≤ (e : Int) := by omega
  have i2 : (e : Int) ≤ (s.size : Int) := by omega
  clear hNe hEe hBe hE' hB
  go_enter Tryz.func34, Tryz.ntmps34
  go_wp2_with fail
  refine (unhide CE _).mono ?_
  rintro e0 W0 ⟨rfl, hb0⟩
  have k0 := (Blk.new w #[.string ⟨#[]⟩, .string ⟨#[]⟩, .int .i64 0] 62).later hb0
  have hbw := bel_of hb0
  clear hb0
  go_wp2_with fail
  refine (unhide CO _).mono ?_
  rintro e1 W1 ⟨rfl, hb1⟩
  replace k0 := k0.later hb1
  replace hbw := tr2 hbw hb1
  clear hb1
  have hG : w.heap.size < W1.heap.size := k0.lt
  have hbA := hbw.alloc hbw.size (Obj.cells #[.string N, .string ⟨#[]⟩, .int .i64 (e : Int)] 62)
  have k1 := k0.alloc (Obj.cells #[.string N, .string ⟨#[]⟩, .int .i64 (e : Int)] 62)
  have k2 := Blk.new W1 #[.string N, .string ⟨#[]⟩, .int .i64 (e : Int)] 62
  clear k0 hbw
  go_wp2_with fail
  refine calls_from (fun W => Blk W w.heap.size #[.string ⟨#[]⟩, .string ⟨#[]⟩, .int .i64 0] 62 ∧ Blk W W1.heap.size #[.string N, .string ⟨#[]⟩, .int .i64 (e : Int)] 62 ∧ Below w.heap.size w W) ⟨k1, k2, hbA⟩ ?_
  clear k1 k2 hbA
  rintro W ⟨k1, k2, hbA⟩
  have c0 : W.cell? ⟨w.heap.size, 0, none⟩ = some (.string ⟨#[]⟩) := (k1).cell 0
  have c1 : W.cell? ⟨w.heap.size, 1, none⟩ = some (.string ⟨#[]⟩) := (k1).cell 1
  have c2 : W.cell? ⟨w.heap.size, 2, none⟩ = some (.int .i64 0) := (k1).cell 2
  have cf0 : W.frozen? ⟨w.heap.size, 0, none⟩ = false := (k1).frozen 0
  have cf1 : W.frozen? ⟨w.heap.size, 1, none⟩ = false := (k1).frozen 1
  have cf2 : W.frozen? ⟨w.heap.size, 2, none⟩ = false := (k1).frozen 2
  have g0 : W.cell? ⟨W1.heap.size, 0, none⟩ = some (.string N) := (k2).cell 0
  have g1 : W.cell? ⟨W1.heap.size, 1, none⟩ = some (.string ⟨#[]⟩) := (k2).cell 1
  have g2 : W.cell? ⟨W1.heap.size, 2, none⟩ = some (.int .i64 (e : Int)) := (k2).cell 2
  have hne : w.heap.size ≠ W1.heap.size := by omega
  have hwG : w.heap.size ≤ W1.heap.size := by omega
  have hne' : ¬ W1.heap.size = w.heap.size := by omega
  have KK := hide (And.intro k1 (And.intro k2 hbA))
  clear k1 k2 hbA
  generalize W1.heap.size = G at *
  refine (unhide CK _).mono ?_
  rintro e2 w2 ⟨rfl, rfl⟩
  go_wp2_with fail
  refine (unhide CI _).mono ?_
  rintro e3 w3 ⟨rfl, rfl⟩
  go_wp2
  obtain ⟨k1, k2, hbA⟩ := unhide KK
  have kk := ((k1.set 0 (by simp) (.string N)).set 1 (by simp) (.string ⟨#[]⟩)).set 2 (by simp) (.int .i64 (e : Int))
  have d0 := kk.cell 0
  have d1 := kk.cell 1
  have d2 := kk.cell 2
  refine bodyPost_ret (v := .agg #[.string N, .string ⟨#[]⟩, .int .i64 (e : Int)]) (by simp [results, Tryz.results34, go_sem, d0, d1, d2]) rfl ?_
  exact ⟨_, _, _, rfl, ((hbA.setCell (by simp) _).setCell (by simp) _).setCell (by simp) _, (by obtain ⟨E1, a, b, c, _, d, f⟩ := unhide FIN; exact Or.inr ⟨E1, a, b, c, rfl, d, f⟩)⟩

set_option maxHeartbeats 4000000 in
set_option maxRecDepth 100000 in
theorem attr5_dq (s : ByteArray) (i : Nat) (w : World) (hs : s.size ≤ 100000) (hi : i < s.size) (hq : aqE s i = true) (h1 : [34].isPrefixOf (s.data.toList.drop (naV s i)) = true) (h2 : fdN s [34] (naV s i + 1) < s.size) :
    Calls Tryz.prog 34 #[.string s, .int .i64 (i : Int)] w (AttrSaid s i (naN s i) (aqV s i) (aqB s i) w) := by
  have hE := seekN_le (eaP s) (n := s.size) (k := i + 1) (by omega)
  have hE' : naE s i ≤ s.size ∧ i + 1 ≤ naE s i := hE
  have CE : Hid (∀ w, Calls Tryz.prog 32 #[.string s, .int .i64 ((i : Int) + 1), .string ⟨#[47, 62, 61]⟩] w fun e w' => e = .returned (.int .i64 (naE s i : Nat)) ∧ Below w.heap.size w w') := hide (fun w => by
    have := ends_any s ⟨#[47, 62, 61]⟩ (i + 1) w hs (by decide) (by omega)
    rw [stP_ea] at this; exact this)
  have CO : Hid (∀ w, Calls Tryz.prog 30 #[.string (s.extract i (naE s i))] w fun e w' => e = .returned (.string (naN s i)) ∧ Below w.heap.size w w') := hide (fun w => by
    have := rlower_any (s.extract i (naE s i)) w (by simp; omega)
    rw [ext_data s (by omega)] at this; exact this)
  have CK : Hid (∀ w, Calls Tryz.prog 33 #[.string s, .int .i64 (naE s i : Nat)] w fun e w' => e = .returned (.int .i64 (naB s i : Nat)) ∧ w' = w) := hide (fun w => skip_any s (naE s i) w hs hE'.1)
  have hB : naB s i ≤ s.size ∧ naE s i ≤ naB s i := skip_le s hE'.1
  have CI : Hid (∀ w, Calls Tryz.prog 29 #[.string s, .int .i64 (naB s i : Nat), .string ⟨#[61]⟩] w fun e w' => e = .returned (.bool (aqE s i)) ∧ w' = w) := hide (fun w => is_any s ⟨#[61]⟩ (naB s i) w hs (by decide) (by decide) (by omega))
  have zz : (s.extract i (naE s i)).size ≤ 100000 := by simp; omega
  have hk : naB s i < s.size := pre1 hq
  have hV : naV s i ≤ s.size ∧ naB s i + 1 ≤ naV s i := skip_le s (by omega)
  have hv : naV s i < s.size := pre1 h1
  have CS : Hid (∀ w, Calls Tryz.prog 33 #[.string s, .int .i64 ((naB s i : Int) + 1)] w fun e w' => e = .returned (.int .i64 (naV s i : Nat)) ∧ w' = w) := hide (fun w => skip_one s (naB s i) w hs (by omega))
  have CQ : Hid (∀ w, Calls Tryz.prog 29 #[.string s, .int .i64 (naV s i : Nat), .string ⟨#[34]⟩] w fun e w' => e = .returned (.bool ([34].isPrefixOf (s.data.toList.drop (naV s i)))) ∧ w' = w) := hide (fun w => is_any s ⟨#[34]⟩ (naV s i) w hs (by decide) (by decide) (by omega))
  have CR : Hid (∀ w, Calls Tryz.prog 29 #[.string s, .int .i64 (naV s i : Nat), .string ⟨#[39]⟩] w fun e w' => e = .returned (.bool ([39].isPrefixOf (s.data.toList.drop (naV s i)))) ∧ w' = w) := hide (fun w => is_any s ⟨#[39]⟩ (naV s i) w hs (by decide) (by decide) (by omega))
  rw [h1] at CQ
  rw [hq] at CI
  have CF : Hid (∀ w, Calls Tryz.prog 40 #[.string s, .int .i64 ((naV s i : Int) + 1), .string (s.extract (naV s i) (naV s i + 1))] w fun e w' => e = .returned (.int .i64 (fdN s [34] (naV s i + 1) : Nat)) ∧ w' = w) := hide (fun w => find_one s _ [34] (naV s i) w hs (one_ext s (naV s i) 34 h1) rfl (by omega))
  have hz := fd_le s [34] (i := naV s i + 1) (by omega)
  have eE1 : valE s (naV s i) = cutE s (naV s i + 1) [34] := by unfold valE; rw [if_pos h1]
  have eS1 : valS s (naV s i) = bs (cutL s (naV s i + 1) [34]) := by unfold valS; rw [if_pos h1]
  have eB : aqB s i = cutE s (naV s i + 1) [34] := by unfold aqB; rw [if_pos hq, eE1]
  have eV : aqV s i = bs (allL true (cutL s (naV s i + 1) [34])) := by unfold aqV; rw [if_pos hq, eS1, bs_toList]
  rw [cutE_fd s [34] (naV s i + 1) (by omega) (by simp)] at eB
  rw [cutL_fd s [34] (naV s i + 1) (by omega) (by simp)] at eV
  rw [if_pos h2] at eB
  have CA : Hid (∀ w, Calls Tryz.prog 16 #[.string (s.extract (naV s i + 1) (fdN s [34] (naV s i + 1))), .bool true] w fun e w' => e = .returned (.string (aqV s i)) ∧ Below w.heap.size w w') := hide (fun w => by
    have := rall_any (s.extract (naV s i + 1) (fdN s [34] (naV s i + 1))) true w (by simp; omega)
    rw [ext_data s hz.2, ← eV] at this; exact this)
  have FIN := hide (show ∃ E' : Nat, ((fdN s [34] (naV s i + 1) : Nat) : Int) + 1 = (E' : Int) ∧ E' ≤ s.size ∧ i < E' ∧ naN s i = naN s i ∧ aqV s i = aqV s i ∧ skipN s E' = skipN s (aqB s i) from ⟨fdN s [34] (naV s i + 1) + 1, by omega, by omega, by omega, rfl, rfl, by rw [eB]; rfl⟩)
  generalize aqB s i = AB at *
  generalize aqV s i = AV at *
  generalize hNe : naN s i = N at *
  generalize hEe : naE s i = e at *
  generalize hBe : naB s i = k at *
  have i1 : (i : Int) ≤ (e : Int) := by omega
  have i2 : (e : Int) ≤ (s.size : Int) := by omega
  generalize hVe : naV s i = v at *
  generalize hFe : fdN s [34] (v + 1) = z at *
  have i7 : (k : Int) < (s.size : Int) := by omega
  have i3 : (v : Int) + 1 ≤ (z : Int) := by omega
  have i4 : (z : Int) ≤ (s.size : Int) := by omega
  have i5 : ¬ (s.size : Int) ≤ (z : Int) := by omega
  have i6 : (v : Int) + 1 ≤ (s.size : Int) := by omega
  have zz2 : (s.extract (v + 1) z).size ≤ 100000 := by simp; omega
  clear hNe hEe hBe hVe hFe hE' hB eB eV eE1 eS1 hq h1 h2 hz hk hV hv hE
  go_enter Tryz.func34, Tryz.ntmps34
  go_wp2_with fail
  refine (unhide CE _).mono ?_
  rintro e0 W0 ⟨rfl, hb0⟩
  have k0 := (Blk.new w #[.string ⟨#[]⟩, .string ⟨#[]⟩, .int .i64 0] 62).later hb0
  have hbw := bel_of hb0
  clear hb0
  go_wp2_with fail
  refine (unhide CO _).mono ?_
  rintro e1 W1 ⟨rfl, hb1⟩
  replace k0 := k0.later hb1
  replace hbw := tr2 hbw hb1
  clear hb1
  have hG : w.heap.size < W1.heap.size := k0.lt
  have hbA := hbw.alloc hbw.size (Obj.cells #[.string N, .string ⟨#[]⟩, .int .i64 (e : Int)] 62)
  have k1 := k0.alloc (Obj.cells #[.string N, .string ⟨#[]⟩, .int .i64 (e : Int)] 62)
  have k2 := Blk.new W1 #[.string N, .string ⟨#[]⟩, .int .i64 (e : Int)] 62
  clear k0 hbw
  go_wp2_with fail
  refine calls_from (fun W => Blk W w.heap.size #[.string ⟨#[]⟩, .string ⟨#[]⟩, .int .i64 0] 62 ∧ Blk W W1.heap.size #[.string N, .string ⟨#[]⟩, .int .i64 (e : Int)] 62 ∧ Below w.heap.size w W) ⟨k1, k2, hbA⟩ ?_
  clear k1 k2 hbA
  rintro W ⟨k1, k2, hbA⟩
  have c0 : W.cell? ⟨w.heap.size, 0, none⟩ = some (.string ⟨#[]⟩) := (k1).cell 0
  have c1 : W.cell? ⟨w.heap.size, 1, none⟩ = some (.string ⟨#[]⟩) := (k1).cell 1
  have c2 : W.cell? ⟨w.heap.size, 2, none⟩ = some (.int .i64 0) := (k1).cell 2
  have cf0 : W.frozen? ⟨w.heap.size, 0, none⟩ = false := (k1).frozen 0
  have cf1 : W.frozen? ⟨w.heap.size, 1, none⟩ = false := (k1).frozen 1
  have cf2 : W.frozen? ⟨w.heap.size, 2, none⟩ = false := (k1).frozen 2
  have g0 : W.cell? ⟨W1.heap.size, 0, none⟩ = some (.string N) := (k2).cell 0
  have g1 : W.cell? ⟨W1.heap.size, 1, none⟩ = some (.string ⟨#[]⟩) := (k2).cell 1
  have g2 : W.cell? ⟨W1.heap.size, 2, none⟩ = some (.int .i64 (e : Int)) := (k2).cell 2
  have hne : w.heap.size ≠ W1.heap.size := by omega
  have hwG : w.heap.size ≤ W1.heap.size := by omega
  have hne' : ¬ W1.heap.size = w.heap.size := by omega
  have KK := hide (And.intro k1 (And.intro k2 hbA))
  clear k1 k2 hbA
  generalize W1.heap.size = G at *
  refine (unhide CK _).mono ?_
  rintro e2 w2 ⟨rfl, rfl⟩
  go_wp2_with fail
  refine (unhide CI _).mono ?_
  rintro e3 w3 ⟨rfl, rfl⟩
  go_wp2_with fail
  refine (unhide CS _).mono ?_
  rintro e4 w4 ⟨rfl, rfl⟩
  go_wp2_with fail
  refine (unhide CQ _).mono ?_
  rintro e5 w5 ⟨rfl, rfl⟩
  go_wp2_with fail
  refine (unhide CF _).mono ?_
  rintro e7 w7 ⟨rfl, rfl⟩
  go_wp2_with fail
  refine (unhide CA _).mono ?_
  rintro e8 W8 ⟨rfl, hb8⟩
  obtain ⟨k1, k2, hbA⟩ := unhide KK
  clear c0 c1 c2 cf0 cf1 cf2 g0 g1 g2 KK
  replace k1 := k1.later hb8
  replace k2 := k2.later hb8
  replace hbA := tr2 hbA hb8
  have c0 : W8.cell? ⟨w.heap.size, 0, none⟩ = some (.string ⟨#[]⟩) := (k1).cell 0
  have c1 : W8.cell? ⟨w.heap.size, 1, none⟩ = some (.string ⟨#[]⟩) := (k1).cell 1
  have c2 : W8.cell? ⟨w.heap.size, 2, none⟩ = some (.int .i64 0) := (k1).cell 2
  have cf0 : W8.frozen? ⟨w.heap.size, 0, none⟩ = false := (k1).frozen 0
  have cf1 : W8.frozen? ⟨w.heap.size, 1, none⟩ = false := (k1).frozen 1
  have cf2 : W8.frozen? ⟨w.heap.size, 2, none⟩ = false := (k1).frozen 2
  have g0 : W8.cell? ⟨G, 0, none⟩ = some (.string N) := (k2).cell 0
  have g1 : W8.cell? ⟨G, 1, none⟩ = some (.string ⟨#[]⟩) := (k2).cell 1
  have g2 : W8.cell? ⟨G, 2, none⟩ = some (.int .i64 (e : Int)) := (k2).cell 2
  have gf1 : W8.frozen? ⟨G, 1, none⟩ = false := (k2).frozen 1
  have gf2 : W8.frozen? ⟨G, 2, none⟩ = false := (k2).frozen 2
  have KK := hide (And.intro k1 (And.intro k2 hbA))
  clear k1 k2 hbA hb8
  go_wp2
  obtain ⟨k1, k2, hbA⟩ := unhide KK
  have kk := ((((k1.away (b' := G) (o := 1) hne (.string AV)).away (b' := G) (o := 2) hne (.int .i64 ((z : Int) + 1))).set 0 (by simp) (.string N)).set 1 (by simp) (.string AV)).set 2 (by simp) (.int .i64 ((z : Int) + 1))
  have d0 := kk.cell 0
  have d1 := kk.cell 1
  have d2 := kk.cell 2
  refine bodyPost_ret (v := .agg #[.string N, .string AV, .int .i64 ((z : Int) + 1)]) (by simp [results, Tryz.results34, go_sem, d0, d1, d2]) rfl ?_
  exact ⟨_, _, _, rfl, ((((hbA.setCell (by omega) _).setCell (by omega) _).setCell (by simp) _).setCell (by simp) _).setCell (by simp) _, (by obtain ⟨E1, a, b, c, _, _, f⟩ := unhide FIN; exact Or.inr ⟨E1, a, b, c, rfl, rfl, f⟩)⟩


set_option maxHeartbeats 4000000 in
set_option maxRecDepth 100000 in
theorem attr5_dqx (s : ByteArray) (i : Nat) (w : World) (hs : s.size ≤ 100000) (hi : i < s.size) (hq : aqE s i = true) (h1 : [34].isPrefixOf (s.data.toList.drop (naV s i)) = true) (h2 : ¬ fdN s [34] (naV s i + 1) < s.size) :
    Calls Tryz.prog 34 #[.string s, .int .i64 (i : Int)] w (AttrSaid s i (naN s i) (aqV s i) (aqB s i) w) := by
  have hE := seekN_le (eaP s) (n := s.size) (k := i + 1) (by omega)
  have hE' : naE s i ≤ s.size ∧ i + 1 ≤ naE s i := hE
  have CE : Hid (∀ w, Calls Tryz.prog 32 #[.string s, .int .i64 ((i : Int) + 1), .string ⟨#[47, 62, 61]⟩] w fun e w' => e = .returned (.int .i64 (naE s i : Nat)) ∧ Below w.heap.size w w') := hide (fun w => by
    have := ends_any s ⟨#[47, 62, 61]⟩ (i + 1) w hs (by decide) (by omega)
    rw [stP_ea] at this; exact this)
  have CO : Hid (∀ w, Calls Tryz.prog 30 #[.string (s.extract i (naE s i))] w fun e w' => e = .returned (.string (naN s i)) ∧ Below w.heap.size w w') := hide (fun w => by
    have := rlower_any (s.extract i (naE s i)) w (by simp; omega)
    rw [ext_data s (by omega)] at this; exact this)
  have CK : Hid (∀ w, Calls Tryz.prog 33 #[.string s, .int .i64 (naE s i : Nat)] w fun e w' => e = .returned (.int .i64 (naB s i : Nat)) ∧ w' = w) := hide (fun w => skip_any s (naE s i) w hs hE'.1)
  have hB : naB s i ≤ s.size ∧ naE s i ≤ naB s i := skip_le s hE'.1
  have CI : Hid (∀ w, Calls Tryz.prog 29 #[.string s, .int .i64 (naB s i : Nat), .string ⟨#[61]⟩] w fun e w' => e = .returned (.bool (aqE s i)) ∧ w' = w) := hide (fun w => is_any s ⟨#[61]⟩ (naB s i) w hs (by decide) (by decide) (by omega))
  have zz : (s.extract i (naE s i)).size ≤ 100000 := by simp; omega
  have hk : naB s i < s.size := pre1 hq
  have hV : naV s i ≤ s.size ∧ naB s i + 1 ≤ naV s i := skip_le s (by omega)
  have hv : naV s i < s.size := pre1 h1
  have CS : Hid (∀ w, Calls Tryz.prog 33 #[.string s, .int .i64 ((naB s i : Int) + 1)] w fun e w' => e = .returned (.int .i64 (naV s i : Nat)) ∧ w' = w) := hide (fun w => skip_one s (naB s i) w hs (by omega))
  have CQ : Hid (∀ w, Calls Tryz.prog 29 #[.string s, .int .i64 (naV s i : Nat), .string ⟨#[34]⟩] w fun e w' => e = .returned (.bool ([34].isPrefixOf (s.data.toList.drop (naV s i)))) ∧ w' = w) := hide (fun w => is_any s ⟨#[34]⟩ (naV s i) w hs (by decide) (by decide) (by omega))
  have CR : Hid (∀ w, Calls Tryz.prog 29 #[.string s, .int .i64 (naV s i : Nat), .string ⟨#[39]⟩] w fun e w' => e = .returned (.bool ([39].isPrefixOf (s.data.toList.drop (naV s i)))) ∧ w' = w) := hide (fun w => is_any s ⟨#[39]⟩ (naV s i) w hs (by decide) (by decide) (by omega))
  rw [h1] at CQ
  rw [hq] at CI
  have CF : Hid (∀ w, Calls Tryz.prog 40 #[.string s, .int .i64 ((naV s i : Int) + 1), .string (s.extract (naV s i) (naV s i + 1))] w fun e w' => e = .returned (.int .i64 (fdN s [34] (naV s i + 1) : Nat)) ∧ w' = w) := hide (fun w => find_one s _ [34] (naV s i) w hs (one_ext s (naV s i) 34 h1) rfl (by omega))
  have hz := fd_le s [34] (i := naV s i + 1) (by omega)
  have eE1 : valE s (naV s i) = cutE s (naV s i + 1) [34] := by unfold valE; rw [if_pos h1]
  have eS1 : valS s (naV s i) = bs (cutL s (naV s i + 1) [34]) := by unfold valS; rw [if_pos h1]
  have eB : aqB s i = cutE s (naV s i + 1) [34] := by unfold aqB; rw [if_pos hq, eE1]
  have eV : aqV s i = bs (allL true (cutL s (naV s i + 1) [34])) := by unfold aqV; rw [if_pos hq, eS1, bs_toList]
  rw [cutE_fd s [34] (naV s i + 1) (by omega) (by simp)] at eB
  rw [cutL_fd s [34] (naV s i + 1) (by omega) (by simp)] at eV
  rw [if_neg h2] at eB
  have FIN := hide eB
  generalize aqB s i = AB at *
  generalize aqV s i = AV at *
  generalize hNe : naN s i = N at *
  generalize hEe : naE s i = e at *
  generalize hBe : naB s i = k at *
  have i1 : (i : Int) ≤ (e : Int) := by omega
  have i2 : (e : Int) ≤ (s.size : Int) := by omega
  generalize hVe : naV s i = v at *
  generalize hFe : fdN s [34] (v + 1) = z at *
  have i7 : (k : Int) < (s.size : Int) := by omega
  have i4 : (z : Int) ≤ (s.size : Int) := by omega
  have i5 : (s.size : Int) ≤ (z : Int) := by omega
  have i6 : (v : Int) + 1 ≤ (s.size : Int) := by omega
  clear hNe hEe hBe hVe hFe hE' hB eB eV eE1 eS1 hq h1 h2 hz hk hV hv hE
  go_enter Tryz.func34, Tryz.ntmps34
  go_wp2_with fail
  refine (unhide CE _).mono ?_
  rintro e0 W0 ⟨rfl, hb0⟩
  have k0 := (Blk.new w #[.string ⟨#[]⟩, .string ⟨#[]⟩, .int .i64 0] 62).later hb0
  have hbw := bel_of hb0
  clear hb0
  go_wp2_with fail
  refine (unhide CO _).mono ?_
  rintro e1 W1 ⟨rfl, hb1⟩
  replace k0 := k0.later hb1
  replace hbw := tr2 hbw hb1
  clear hb1
  have hG : w.heap.size < W1.heap.size := k0.lt
  have hbA := hbw.alloc hbw.size (Obj.cells #[.string N, .string ⟨#[]⟩, .int .i64 (e : Int)] 62)
  have k1 := k0.alloc (Obj.cells #[.string N, .string ⟨#[]⟩, .int .i64 (e : Int)] 62)
  have k2 := Blk.new W1 #[.string N, .string ⟨#[]⟩, .int .i64 (e : Int)] 62
  clear k0 hbw
  go_wp2_with fail
  refine calls_from (fun W => Blk W w.heap.size #[.string ⟨#[]⟩, .string ⟨#[]⟩, .int .i64 0] 62 ∧ Blk W W1.heap.size #[.string N, .string ⟨#[]⟩, .int .i64 (e : Int)] 62 ∧ Below w.heap.size w W) ⟨k1, k2, hbA⟩ ?_
  clear k1 k2 hbA
  rintro W ⟨k1, k2, hbA⟩
  have c0 : W.cell? ⟨w.heap.size, 0, none⟩ = some (.string ⟨#[]⟩) := (k1).cell 0
  have c1 : W.cell? ⟨w.heap.size, 1, none⟩ = some (.string ⟨#[]⟩) := (k1).cell 1
  have c2 : W.cell? ⟨w.heap.size, 2, none⟩ = some (.int .i64 0) := (k1).cell 2
  have cf0 : W.frozen? ⟨w.heap.size, 0, none⟩ = false := (k1).frozen 0
  have cf1 : W.frozen? ⟨w.heap.size, 1, none⟩ = false := (k1).frozen 1
  have cf2 : W.frozen? ⟨w.heap.size, 2, none⟩ = false := (k1).frozen 2
  have g0 : W.cell? ⟨W1.heap.size, 0, none⟩ = some (.string N) := (k2).cell 0
  have g1 : W.cell? ⟨W1.heap.size, 1, none⟩ = some (.string ⟨#[]⟩) := (k2).cell 1
  have g2 : W.cell? ⟨W1.heap.size, 2, none⟩ = some (.int .i64 (e : Int)) := (k2).cell 2
  have hne : w.heap.size ≠ W1.heap.size := by omega
  have hwG : w.heap.size ≤ W1.heap.size := by omega
  have hne' : ¬ W1.heap.size = w.heap.size := by omega
  have KK := hide (And.intro k1 (And.intro k2 hbA))
  clear k1 k2 hbA
  generalize W1.heap.size = G at *
  refine (unhide CK _).mono ?_
  rintro e2 w2 ⟨rfl, rfl⟩
  go_wp2_with fail
  refine (unhide CI _).mono ?_
  rintro e3 w3 ⟨rfl, rfl⟩
  go_wp2_with fail
  refine (unhide CS _).mono ?_
  rintro e4 w4 ⟨rfl, rfl⟩
  go_wp2_with fail
  refine (unhide CQ _).mono ?_
  rintro e5 w5 ⟨rfl, rfl⟩
  go_wp2_with fail
  refine (unhide CF _).mono ?_
  rintro e7 w7 ⟨rfl, rfl⟩
  go_wp2
  obtain ⟨k1, k2, hbA⟩ := unhide KK
  have kk := ((k1.set 0 (by simp) (.string ⟨#[]⟩)).set 1 (by simp) (.string ⟨#[]⟩)).set 2 (by simp) (.int .i64 (-1))
  have d0 := kk.cell 0
  have d1 := kk.cell 1
  have d2 := kk.cell 2
  refine bodyPost_ret (v := .agg #[.string ⟨#[]⟩, .string ⟨#[]⟩, .int .i64 (-1)]) (by simp [results, Tryz.results34, go_sem, d0, d1, d2]) rfl ?_
  exact ⟨_, _, _, rfl, ((hbA.setCell (by simp) _).setCell (by simp) _).setCell (by simp) _, Or.inl ⟨rfl, unhide FIN⟩⟩

set_option maxHeartbeats 4000000 in
set_option maxRecDepth 100000 in
theorem attr5_sq (s : ByteArray) (i : Nat) (w : World) (hs : s.size ≤ 100000) (hi : i < s.size) (hq : aqE s i = true) (h0 : [34].isPrefixOf (s.data.toList.drop (naV s i)) = false) (h1 : [39].isPrefixOf (s.data.toList.drop (naV s i)) = true) (h2 : fdN s [39] (naV s i + 1) < s.size) :
    Calls Tryz.prog 34 #[.string s, .int .i64 (i : Int)] w (AttrSaid s i (naN s i) (aqV s i) (aqB s i) w) := by
  have hE := seekN_le (eaP s) (n := s.size) (k := i + 1) (by omega)
  have hE' : naE s i ≤ s.size ∧ i + 1 ≤ naE s i := hE
  have CE : Hid (∀ w, Calls Tryz.prog 32 #[.string s, .int .i64 ((i : Int) + 1), .string ⟨#[47, 62, 61]⟩] w fun e w' => e = .returned (.int .i64 (naE s i : Nat)) ∧ Below w.heap.size w w') := hide (fun w => by
    have := ends_any s ⟨#[47, 62, 61]⟩ (i + 1) w hs (by decide) (by omega)
    rw [stP_ea] at this; exact this)
  have CO : Hid (∀ w, Calls Tryz.prog 30 #[.string (s.extract i (naE s i))] w fun e w' => e = .returned (.string (naN s i)) ∧ Below w.heap.size w w') := hide (fun w => by
    have := rlower_any (s.extract i (naE s i)) w (by simp; omega)
    rw [ext_data s (by omega)] at this; exact this)
  have CK : Hid (∀ w, Calls Tryz.prog 33 #[.string s, .int .i64 (naE s i : Nat)] w fun e w' => e = .returned (.int .i64 (naB s i : Nat)) ∧ w' = w) := hide (fun w => skip_any s (naE s i) w hs hE'.1)
  have hB : naB s i ≤ s.size ∧ naE s i ≤ naB s i := skip_le s hE'.1
  have CI : Hid (∀ w, Calls Tryz.prog 29 #[.string s, .int .i64 (naB s i : Nat), .string ⟨#[61]⟩] w fun e w' => e = .returned (.bool (aqE s i)) ∧ w' = w) := hide (fun w => is_any s ⟨#[61]⟩ (naB s i) w hs (by decide) (by decide) (by omega))
  have zz : (s.extract i (naE s i)).size ≤ 100000 := by simp; omega
  have hk : naB s i < s.size := pre1 hq
  have hV : naV s i ≤ s.size ∧ naB s i + 1 ≤ naV s i := skip_le s (by omega)
  have hv : naV s i < s.size := pre1 h1
  have CS : Hid (∀ w, Calls Tryz.prog 33 #[.string s, .int .i64 ((naB s i : Int) + 1)] w fun e w' => e = .returned (.int .i64 (naV s i : Nat)) ∧ w' = w) := hide (fun w => skip_one s (naB s i) w hs (by omega))
  have CQ : Hid (∀ w, Calls Tryz.prog 29 #[.string s, .int .i64 (naV s i : Nat), .string ⟨#[34]⟩] w fun e w' => e = .returned (.bool ([34].isPrefixOf (s.data.toList.drop (naV s i)))) ∧ w' = w) := hide (fun w => is_any s ⟨#[34]⟩ (naV s i) w hs (by decide) (by decide) (by omega))
  have CR : Hid (∀ w, Calls Tryz.prog 29 #[.string s, .int .i64 (naV s i : Nat), .string ⟨#[39]⟩] w fun e w' => e = .returned (.bool ([39].isPrefixOf (s.data.toList.drop (naV s i)))) ∧ w' = w) := hide (fun w => is_any s ⟨#[39]⟩ (naV s i) w hs (by decide) (by decide) (by omega))
  rw [h0] at CQ
  rw [h1] at CR
  rw [hq] at CI
  have CF : Hid (∀ w, Calls Tryz.prog 40 #[.string s, .int .i64 ((naV s i : Int) + 1), .string (s.extract (naV s i) (naV s i + 1))] w fun e w' => e = .returned (.int .i64 (fdN s [39] (naV s i + 1) : Nat)) ∧ w' = w) := hide (fun w => find_one s _ [39] (naV s i) w hs (one_ext s (naV s i) 39 h1) rfl (by omega))
  have hz := fd_le s [39] (i := naV s i + 1) (by omega)
  have eE1 : valE s (naV s i) = cutE s (naV s i + 1) [39] := by unfold valE; rw [if_neg (by rw [h0]; decide), if_pos h1]
  have eS1 : valS s (naV s i) = bs (cutL s (naV s i + 1) [39]) := by unfold valS; rw [if_neg (by rw [h0]; decide), if_pos h1]
  have eB : aqB s i = cutE s (naV s i + 1) [39] := by unfold aqB; rw [if_pos hq, eE1]
  have eV : aqV s i = bs (allL true (cutL s (naV s i + 1) [39])) := by unfold aqV; rw [if_pos hq, eS1, bs_toList]
  rw [cutE_fd s [39] (naV s i + 1) (by omega) (by simp)] at eB
  rw [cutL_fd s [39] (naV s i + 1) (by omega) (by simp)] at eV
  rw [if_pos h2] at eB
  have CA : Hid (∀ w, Calls Tryz.prog 16 #[.string (s.extract (naV s i + 1) (fdN s [39] (naV s i + 1))), .bool true] w fun e w' => e = .returned (.string (aqV s i)) ∧ Below w.heap.size w w') := hide (fun w => by
    have := rall_any (s.extract (naV s i + 1) (fdN s [39] (naV s i + 1))) true w (by simp; omega)
    rw [ext_data s hz.2, ← eV] at this; exact this)
  have FIN := hide (show ∃ E' : Nat, ((fdN s [39] (naV s i + 1) : Nat) : Int) + 1 = (E' : Int) ∧ E' ≤ s.size ∧ i < E' ∧ naN s i = naN s i ∧ aqV s i = aqV s i ∧ skipN s E' = skipN s (aqB s i) from ⟨fdN s [39] (naV s i + 1) + 1, by omega, by omega, by omega, rfl, rfl, by rw [eB]; rfl⟩)
  generalize aqB s i = AB at *
  generalize aqV s i = AV at *
  generalize hNe : naN s i = N at *
  generalize hEe : naE s i = e at *
  generalize hBe : naB s i = k at *
  have i1 : (i : Int) ≤ (e : Int) := by omega
  have i2 : (e : Int) ≤ (s.size : Int) := by omega
  generalize hVe : naV s i = v at *
  generalize hFe : fdN s [39] (v + 1) = z at *
  have i7 : (k : Int) < (s.size : Int) := by omega
  have i3 : (v : Int) + 1 ≤ (z : Int) := by omega
  have i4 : (z : Int) ≤ (s.size : Int) := by omega
  have i5 : ¬ (s.size : Int) ≤ (z : Int) := by omega
  have i6 : (v : Int) + 1 ≤ (s.size : Int) := by omega
  have zz2 : (s.extract (v + 1) z).size ≤ 100000 := by simp; omega
  clear hNe hEe hBe hVe hFe hE' hB eB eV eE1 eS1 hq h0 h1 h2 hz hk hV hv hE
  go_enter Tryz.func34, Tryz.ntmps34
  go_wp2_with fail
  refine (unhide CE _).mono ?_
  rintro e0 W0 ⟨rfl, hb0⟩
  have k0 := (Blk.new w #[.string ⟨#[]⟩, .string ⟨#[]⟩, .int .i64 0] 62).later hb0
  have hbw := bel_of hb0
  clear hb0
  go_wp2_with fail
  refine (unhide CO _).mono ?_
  rintro e1 W1 ⟨rfl, hb1⟩
  replace k0 := k0.later hb1
  replace hbw := tr2 hbw hb1
  clear hb1
  have hG : w.heap.size < W1.heap.size := k0.lt
  have hbA := hbw.alloc hbw.size (Obj.cells #[.string N, .string ⟨#[]⟩, .int .i64 (e : Int)] 62)
  have k1 := k0.alloc (Obj.cells #[.string N, .string ⟨#[]⟩, .int .i64 (e : Int)] 62)
  have k2 := Blk.new W1 #[.string N, .string ⟨#[]⟩, .int .i64 (e : Int)] 62
  clear k0 hbw
  go_wp2_with fail
  refine calls_from (fun W => Blk W w.heap.size #[.string ⟨#[]⟩, .string ⟨#[]⟩, .int .i64 0] 62 ∧ Blk W W1.heap.size #[.string N, .string ⟨#[]⟩, .int .i64 (e : Int)] 62 ∧ Below w.heap.size w W) ⟨k1, k2, hbA⟩ ?_
  clear k1 k2 hbA
  rintro W ⟨k1, k2, hbA⟩
  have c0 : W.cell? ⟨w.heap.size, 0, none⟩ = some (.string ⟨#[]⟩) := (k1).cell 0
  have c1 : W.cell? ⟨w.heap.size, 1, none⟩ = some (.string ⟨#[]⟩) := (k1).cell 1
  have c2 : W.cell? ⟨w.heap.size, 2, none⟩ = some (.int .i64 0) := (k1).cell 2
  have cf0 : W.frozen? ⟨w.heap.size, 0, none⟩ = false := (k1).frozen 0
  have cf1 : W.frozen? ⟨w.heap.size, 1, none⟩ = false := (k1).frozen 1
  have cf2 : W.frozen? ⟨w.heap.size, 2, none⟩ = false := (k1).frozen 2
  have g0 : W.cell? ⟨W1.heap.size, 0, none⟩ = some (.string N) := (k2).cell 0
  have g1 : W.cell? ⟨W1.heap.size, 1, none⟩ = some (.string ⟨#[]⟩) := (k2).cell 1
  have g2 : W.cell? ⟨W1.heap.size, 2, none⟩ = some (.int .i64 (e : Int)) := (k2).cell 2
  have hne : w.heap.size ≠ W1.heap.size := by omega
  have hwG : w.heap.size ≤ W1.heap.size := by omega
  have hne' : ¬ W1.heap.size = w.heap.size := by omega
  have KK := hide (And.intro k1 (And.intro k2 hbA))
  clear k1 k2 hbA
  generalize W1.heap.size = G at *
  refine (unhide CK _).mono ?_
  rintro e2 w2 ⟨rfl, rfl⟩
  go_wp2_with fail
  refine (unhide CI _).mono ?_
  rintro e3 w3 ⟨rfl, rfl⟩
  go_wp2_with fail
  refine (unhide CS _).mono ?_
  rintro e4 w4 ⟨rfl, rfl⟩
  go_wp2_with fail
  refine (unhide CQ _).mono ?_
  rintro e5 w5 ⟨rfl, rfl⟩
  go_wp2_with fail
  refine (unhide CR _).mono ?_
  rintro e6 w6 ⟨rfl, rfl⟩
  go_wp2_with fail
  refine (unhide CF _).mono ?_
  rintro e7 w7 ⟨rfl, rfl⟩
  go_wp2_with fail
  refine (unhide CA _).mono ?_
  rintro e8 W8 ⟨rfl, hb8⟩
  obtain ⟨k1, k2, hbA⟩ := unhide KK
  clear c0 c1 c2 cf0 cf1 cf2 g0 g1 g2 KK
  replace k1 := k1.later hb8
  replace k2 := k2.later hb8
  replace hbA := tr2 hbA hb8
  have c0 : W8.cell? ⟨w.heap.size, 0, none⟩ = some (.string ⟨#[]⟩) := (k1).cell 0
  have c1 : W8.cell? ⟨w.heap.size, 1, none⟩ = some (.string ⟨#[]⟩) := (k1).cell 1
  have c2 : W8.cell? ⟨w.heap.size, 2, none⟩ = some (.int .i64 0) := (k1).cell 2
  have cf0 : W8.frozen? ⟨w.heap.size, 0, none⟩ = false := (k1).frozen 0
  have cf1 : W8.frozen? ⟨w.heap.size, 1, none⟩ = false := (k1).frozen 1
  have cf2 : W8.frozen? ⟨w.heap.size, 2, none⟩ = false := (k1).frozen 2
  have g0 : W8.cell? ⟨G, 0, none⟩ = some (.string N) := (k2).cell 0
  have g1 : W8.cell? ⟨G, 1, none⟩ = some (.string ⟨#[]⟩) := (k2).cell 1
  have g2 : W8.cell? ⟨G, 2, none⟩ = some (.int .i64 (e : Int)) := (k2).cell 2
  have gf1 : W8.frozen? ⟨G, 1, none⟩ = false := (k2).frozen 1
  have gf2 : W8.frozen? ⟨G, 2, none⟩ = false := (k2).frozen 2
  have KK := hide (And.intro k1 (And.intro k2 hbA))
  clear k1 k2 hbA hb8
  go_wp2
  obtain ⟨k1, k2, hbA⟩ := unhide KK
  have kk := ((((k1.away (b' := G) (o := 1) hne (.string AV)).away (b' := G) (o := 2) hne (.int .i64 ((z : Int) + 1))).set 0 (by simp) (.string N)).set 1 (by simp) (.string AV)).set 2 (by simp) (.int .i64 ((z : Int) + 1))
  have d0 := kk.cell 0
  have d1 := kk.cell 1
  have d2 := kk.cell 2
  refine bodyPost_ret (v := .agg #[.string N, .string AV, .int .i64 ((z : Int) + 1)]) (by simp [results, Tryz.results34, go_sem, d0, d1, d2]) rfl ?_
  exact ⟨_, _, _, rfl, ((((hbA.setCell (by omega) _).setCell (by omega) _).setCell (by simp) _).setCell (by simp) _).setCell (by simp) _, (by obtain ⟨E1, a, b, c, _, _, f⟩ := unhide FIN; exact Or.inr ⟨E1, a, b, c, rfl, rfl, f⟩)⟩


set_option maxHeartbeats 4000000 in
set_option maxRecDepth 100000 in
theorem attr5_sqx (s : ByteArray) (i : Nat) (w : World) (hs : s.size ≤ 100000) (hi : i < s.size) (hq : aqE s i = true) (h0 : [34].isPrefixOf (s.data.toList.drop (naV s i)) = false) (h1 : [39].isPrefixOf (s.data.toList.drop (naV s i)) = true) (h2 : ¬ fdN s [39] (naV s i + 1) < s.size) :
    Calls Tryz.prog 34 #[.string s, .int .i64 (i : Int)] w (AttrSaid s i (naN s i) (aqV s i) (aqB s i) w) := by
  have hE := seekN_le (eaP s) (n := s.size) (k := i + 1) (by omega)
  have hE' : naE s i ≤ s.size ∧ i + 1 ≤ naE s i := hE
  have CE : Hid (∀ w, Calls Tryz.prog 32 #[.string s, .int .i64 ((i : Int) + 1), .string ⟨#[47, 62, 61]⟩] w fun e w' => e = .returned (.int .i64 (naE s i : Nat)) ∧ Below w.heap.size w w') := hide (fun w => by
    have := ends_any s ⟨#[47, 62, 61]⟩ (i + 1) w hs (by decide) (by omega)
    rw [stP_ea] at this; exact this)
  have CO : Hid (∀ w, Calls Tryz.prog 30 #[.string (s.extract i (naE s i))] w fun e w' => e = .returned (.string (naN s i)) ∧ Below w.heap.size w w') := hide (fun w => by
    have := rlower_any (s.extract i (naE s i)) w (by simp; omega)
    rw [ext_data s (by omega)] at this; exact this)
  have CK : Hid (∀ w, Calls Tryz.prog 33 #[.string s, .int .i64 (naE s i : Nat)] w fun e w' => e = .returned (.int .i64 (naB s i : Nat)) ∧ w' = w) := hide (fun w => skip_any s (naE s i) w hs hE'.1)
  have hB : naB s i ≤ s.size ∧ naE s i ≤ naB s i := skip_le s hE'.1
  have CI : Hid (∀ w, Calls Tryz.prog 29 #[.string s, .int .i64 (naB s i : Nat), .string ⟨#[61]⟩] w fun e w' => e = .returned (.bool (aqE s i)) ∧ w' = w) := hide (fun w => is_any s ⟨#[61]⟩ (naB s i) w hs (by decide) (by decide) (by omega))
  have zz : (s.extract i (naE s i)).size ≤ 100000 := by simp; omega
  have hk : naB s i < s.size := pre1 hq
  have hV : naV s i ≤ s.size ∧ naB s i + 1 ≤ naV s i := skip_le s (by omega)
  have hv : naV s i < s.size := pre1 h1
  have CS : Hid (∀ w, Calls Tryz.prog 33 #[.string s, .int .i64 ((naB s i : Int) + 1)] w fun e w' => e = .returned (.int .i64 (naV s i : Nat)) ∧ w' = w) := hide (fun w => skip_one s (naB s i) w hs (by omega))
  have CQ : Hid (∀ w, Calls Tryz.prog 29 #[.string s, .int .i64 (naV s i : Nat), .string ⟨#[34]⟩] w fun e w' => e = .returned (.bool ([34].isPrefixOf (s.data.toList.drop (naV s i)))) ∧ w' = w) := hide (fun w => is_any s ⟨#[34]⟩ (naV s i) w hs (by decide) (by decide) (by omega))
  have CR : Hid (∀ w, Calls Tryz.prog 29 #[.string s, .int .i64 (naV s i : Nat), .string ⟨#[39]⟩] w fun e w' => e = .returned (.bool ([39].isPrefixOf (s.data.toList.drop (naV s i)))) ∧ w' = w) := hide (fun w => is_any s ⟨#[39]⟩ (naV s i) w hs (by decide) (by decide) (by omega))
  rw [h0] at CQ
  rw [h1] at CR
  rw [hq] at CI
  have CF : Hid (∀ w, Calls Tryz.prog 40 #[.string s, .int .i64 ((naV s i : Int) + 1), .string (s.extract (naV s i) (naV s i + 1))] w fun e w' => e = .returned (.int .i64 (fdN s [39] (naV s i + 1) : Nat)) ∧ w' = w) := hide (fun w => find_one s _ [39] (naV s i) w hs (one_ext s (naV s i) 39 h1) rfl (by omega))
  have hz := fd_le s [39] (i := naV s i + 1) (by omega)
  have eE1 : valE s (naV s i) = cutE s (naV s i + 1) [39] := by unfold valE; rw [if_neg (by rw [h0]; decide), if_pos h1]
  have eS1 : valS s (naV s i) = bs (cutL s (naV s i + 1) [39]) := by unfold valS; rw [if_neg (by rw [h0]; decide), if_pos h1]
  have eB : aqB s i = cutE s (naV s i + 1) [39] := by unfold aqB; rw [if_pos hq, eE1]
  have eV : aqV s i = bs (allL true (cutL s (naV s i + 1) [39])) := by unfold aqV; rw [if_pos hq, eS1, bs_toList]
  rw [cutE_fd s [39] (naV s i + 1) (by omega) (by simp)] at eB
  rw [cutL_fd s [39] (naV s i + 1) (by omega) (by simp)] at eV
  rw [if_neg h2] at eB
  have FIN := hide eB
  generalize aqB s i = AB at *
  generalize aqV s i = AV at *
  generalize hNe : naN s i = N at *
  generalize hEe : naE s i = e at *
  generalize hBe : naB s i = k at *
  have i1 : (i : Int) ≤ (e : Int) := by omega
  have i2 : (e : Int) ≤ (s.size : Int) := by omega
  generalize hVe : naV s i = v at *
  generalize hFe : fdN s [39] (v + 1) = z at *
  have i7 : (k : Int) < (s.size : Int) := by omega
  have i4 : (z : Int) ≤ (s.size : Int) := by omega
  have i5 : (s.size : Int) ≤ (z : Int) := by omega
  have i6 : (v : Int) + 1 ≤ (s.size : Int) := by omega
  clear hNe hEe hBe hVe hFe hE' hB eB eV eE1 eS1 hq h0 h1 h2 hz hk hV hv hE
  go_enter Tryz.func34, Tryz.ntmps34
  go_wp2_with fail
  refine (unhide CE _).mono ?_
  rintro e0 W0 ⟨rfl, hb0⟩
  have k0 := (Blk.new w #[.string ⟨#[]⟩, .string ⟨#[]⟩, .int .i64 0] 62).later hb0
  have hbw := bel_of hb0
  clear hb0
  go_wp2_with fail
  refine (unhide CO _).mono ?_
  rintro e1 W1 ⟨rfl, hb1⟩
  replace k0 := k0.later hb1
  replace hbw := tr2 hbw hb1
  clear hb1
  have hG : w.heap.size < W1.heap.size := k0.lt
  have hbA := hbw.alloc hbw.size (Obj.cells #[.string N, .string ⟨#[]⟩, .int .i64 (e : Int)] 62)
  have k1 := k0.alloc (Obj.cells #[.string N, .string ⟨#[]⟩, .int .i64 (e : Int)] 62)
  have k2 := Blk.new W1 #[.string N, .string ⟨#[]⟩, .int .i64 (e : Int)] 62
  clear k0 hbw
  go_wp2_with fail
  refine calls_from (fun W => Blk W w.heap.size #[.string ⟨#[]⟩, .string ⟨#[]⟩, .int .i64 0] 62 ∧ Blk W W1.heap.size #[.string N, .string ⟨#[]⟩, .int .i64 (e : Int)] 62 ∧ Below w.heap.size w W) ⟨k1, k2, hbA⟩ ?_
  clear k1 k2 hbA
  rintro W ⟨k1, k2, hbA⟩
  have c0 : W.cell? ⟨w.heap.size, 0, none⟩ = some (.string ⟨#[]⟩) := (k1).cell 0
  have c1 : W.cell? ⟨w.heap.size, 1, none⟩ = some (.string ⟨#[]⟩) := (k1).cell 1
  have c2 : W.cell? ⟨w.heap.size, 2, none⟩ = some (.int .i64 0) := (k1).cell 2
  have cf0 : W.frozen? ⟨w.heap.size, 0, none⟩ = false := (k1).frozen 0
  have cf1 : W.frozen? ⟨w.heap.size, 1, none⟩ = false := (k1).frozen 1
  have cf2 : W.frozen? ⟨w.heap.size, 2, none⟩ = false := (k1).frozen 2
  have g0 : W.cell? ⟨W1.heap.size, 0, none⟩ = some (.string N) := (k2).cell 0
  have g1 : W.cell? ⟨W1.heap.size, 1, none⟩ = some (.string ⟨#[]⟩) := (k2).cell 1
  have g2 : W.cell? ⟨W1.heap.size, 2, none⟩ = some (.int .i64 (e : Int)) := (k2).cell 2
  have hne : w.heap.size ≠ W1.heap.size := by omega
  have hwG : w.heap.size ≤ W1.heap.size := by omega
  have hne' : ¬ W1.heap.size = w.heap.size := by omega
  have KK := hide (And.intro k1 (And.intro k2 hbA))
  clear k1 k2 hbA
  generalize W1.heap.size = G at *
  refine (unhide CK _).mono ?_
  rintro e2 w2 ⟨rfl, rfl⟩
  go_wp2_with fail
  refine (unhide CI _).mono ?_
  rintro e3 w3 ⟨rfl, rfl⟩
  go_wp2_with fail
  refine (unhide CS _).mono ?_
  rintro e4 w4 ⟨rfl, rfl⟩
  go_wp2_with fail
  refine (unhide CQ _).mono ?_
  rintro e5 w5 ⟨rfl, rfl⟩
  go_wp2_with fail
  refine (unhide CR _).mono ?_
  rintro e6 w6 ⟨rfl, rfl⟩
  go_wp2_with fail
  refine (unhide CF _).mono ?_
  rintro e7 w7 ⟨rfl, rfl⟩
  go_wp2
  obtain ⟨k1, k2, hbA⟩ := unhide KK
  have kk := ((k1.set 0 (by simp) (.string ⟨#[]⟩)).set 1 (by simp) (.string ⟨#[]⟩)).set 2 (by simp) (.int .i64 (-1))
  have d0 := kk.cell 0
  have d1 := kk.cell 1
  have d2 := kk.cell 2
  refine bodyPost_ret (v := .agg #[.string ⟨#[]⟩, .string ⟨#[]⟩, .int .i64 (-1)]) (by simp [results, Tryz.results34, go_sem, d0, d1, d2]) rfl ?_
  exact ⟨_, _, _, rfl, ((hbA.setCell (by simp) _).setCell (by simp) _).setCell (by simp) _, Or.inl ⟨rfl, unhide FIN⟩⟩

set_option maxHeartbeats 4000000 in
set_option maxRecDepth 100000 in
theorem attr5_un (s : ByteArray) (i : Nat) (w : World) (hs : s.size ≤ 100000) (hi : i < s.size) (hq : aqE s i = true) (h0 : [34].isPrefixOf (s.data.toList.drop (naV s i)) = false) (h1 : [39].isPrefixOf (s.data.toList.drop (naV s i)) = false) :
    Calls Tryz.prog 34 #[.string s, .int .i64 (i : Int)] w (AttrSaid s i (naN s i) (aqV s i) (aqB s i) w) := by
  have hE := seekN_le (eaP s) (n := s.size) (k := i + 1) (by omega)
  have hE' : naE s i ≤ s.size ∧ i + 1 ≤ naE s i := hE
  have CE : Hid (∀ w, Calls Tryz.prog 32 #[.string s, .int .i64 ((i : Int) + 1), .string ⟨#[47, 62, 61]⟩] w fun e w' => e = .returned (.int .i64 (naE s i : Nat)) ∧ Below w.heap.size w w') := hide (fun w => by
    have := ends_any s ⟨#[47, 62, 61]⟩ (i + 1) w hs (by decide) (by omega)
    rw [stP_ea] at this; exact this)
  have CO : Hid (∀ w, Calls Tryz.prog 30 #[.string (s.extract i (naE s i))] w fun e w' => e = .returned (.string (naN s i)) ∧ Below w.heap.size w w') := hide (fun w => by
    have := rlower_any (s.extract i (naE s i)) w (by simp; omega)
    rw [ext_data s (by omega)] at this; exact this)
  have CK : Hid (∀ w, Calls Tryz.prog 33 #[.string s, .int .i64 (naE s i : Nat)] w fun e w' => e = .returned (.int .i64 (naB s i : Nat)) ∧ w' = w) := hide (fun w => skip_any s (naE s i) w hs hE'.1)
  have hB : naB s i ≤ s.size ∧ naE s i ≤ naB s i := skip_le s hE'.1
  have CI : Hid (∀ w, Calls Tryz.prog 29 #[.string s, .int .i64 (naB s i : Nat), .string ⟨#[61]⟩] w fun e w' => e = .returned (.bool (aqE s i)) ∧ w' = w) := hide (fun w => is_any s ⟨#[61]⟩ (naB s i) w hs (by decide) (by decide) (by omega))
  have zz : (s.extract i (naE s i)).size ≤ 100000 := by simp; omega
  have hk : naB s i < s.size := pre1 hq
  have hV : naV s i ≤ s.size ∧ naB s i + 1 ≤ naV s i := skip_le s (by omega)
  have CS : Hid (∀ w, Calls Tryz.prog 33 #[.string s, .int .i64 ((naB s i : Int) + 1)] w fun e w' => e = .returned (.int .i64 (naV s i : Nat)) ∧ w' = w) := hide (fun w => skip_one s (naB s i) w hs (by omega))
  have CQ : Hid (∀ w, Calls Tryz.prog 29 #[.string s, .int .i64 (naV s i : Nat), .string ⟨#[34]⟩] w fun e w' => e = .returned (.bool ([34].isPrefixOf (s.data.toList.drop (naV s i)))) ∧ w' = w) := hide (fun w => is_any s ⟨#[34]⟩ (naV s i) w hs (by decide) (by decide) (by omega))
  have CR : Hid (∀ w, Calls Tryz.prog 29 #[.string s, .int .i64 (naV s i : Nat), .string ⟨#[39]⟩] w fun e w' => e = .returned (.bool ([39].isPrefixOf (s.data.toList.drop (naV s i)))) ∧ w' = w) := hide (fun w => is_any s ⟨#[39]⟩ (naV s i) w hs (by decide) (by decide) (by omega))
  rw [h0] at CQ
  rw [h1] at CR
  rw [hq] at CI
  have hz : seekN (uvP s) s.size (naV s i) ≤ s.size ∧ naV s i ≤ seekN (uvP s) s.size (naV s i) := seekN_le (uvP s) hV.1
  have CF : Hid (∀ w, Calls Tryz.prog 32 #[.string s, .int .i64 (naV s i : Nat), .string ⟨#[62]⟩] w fun e w' => e = .returned (.int .i64 (seekN (uvP s) s.size (naV s i) : Nat)) ∧ Below w.heap.size w w') := hide (fun w => by
    have := ends_any s ⟨#[62]⟩ (naV s i) w hs (by decide) hV.1
    rw [stP_uv] at this; exact this)
  have n0 : ¬ [34].isPrefixOf (s.data.toList.drop (naV s i)) = true := by rw [h0]; decide
  have n1 : ¬ [39].isPrefixOf (s.data.toList.drop (naV s i)) = true := by rw [h1]; decide
  have eB : aqB s i = seekN (uvP s) s.size (naV s i) := by unfold aqB valE; rw [if_pos hq, if_neg n0, if_neg n1]
  have eV : aqV s i = bs (allL true (s.extract (naV s i) (seekN (uvP s) s.size (naV s i))).data.toList) := by unfold aqV valS; rw [if_pos hq, if_neg n0, if_neg n1]
  have CA : Hid (∀ w, Calls Tryz.prog 16 #[.string (s.extract (naV s i) (seekN (uvP s) s.size (naV s i))), .bool true] w fun e w' => e = .returned (.string (aqV s i)) ∧ Below w.heap.size w w') := hide (fun w => by
    have := rall_any (s.extract (naV s i) (seekN (uvP s) s.size (naV s i))) true w (by simp; omega)
    rw [← eV] at this; exact this)
  have FIN := hide (show ∃ E' : Nat, ((seekN (uvP s) s.size (naV s i) : Nat) : Int) = (E' : Int) ∧ E' ≤ s.size ∧ i < E' ∧ naN s i = naN s i ∧ aqV s i = aqV s i ∧ skipN s E' = skipN s (aqB s i) from ⟨seekN (uvP s) s.size (naV s i), rfl, hz.1, by omega, rfl, rfl, by rw [eB]⟩)
  generalize aqB s i = AB at *
  generalize aqV s i = AV at *
  generalize hNe : naN s i = N at *
  generalize hEe : naE s i = e at *
  generalize hBe : naB s i = k at *
  have i1 : (i : Int) ≤ (e : Int) := by omega
  have i2 : (e : Int) ≤ (s.size : Int) := by omega
  generalize hVe : naV s i = v at *
  generalize hFe : seekN (uvP s) s.size v = z at *
  have i7 : (k : Int) < (s.size : Int) := by omega
  have i3 : (v : Int) ≤ (z : Int) := by omega
  have i4 : (z : Int) ≤ (s.size : Int) := by omega
  have i6 : (v : Int) ≤ (s.size : Int) := by omega
  have zz2 : (s.extract v z).size ≤ 100000 := by simp; omega
  clear hNe hEe hBe hVe hFe hE' hB eB eV hq h0 h1 n0 n1 hz hk hV hE
  go_enter Tryz.func34, Tryz.ntmps34
  go_wp2_with fail
  refine (unhide CE _).mono ?_
  rintro e0 W0 ⟨rfl, hb0⟩
  have k0 := (Blk.new w #[.string ⟨#[]⟩, .string ⟨#[]⟩, .int .i64 0] 62).later hb0
  have hbw := bel_of hb0
  clear hb0
  go_wp2_with fail
  refine (unhide CO _).mono ?_
  rintro e1 W1 ⟨rfl, hb1⟩
  replace k0 := k0.later hb1
  replace hbw := tr2 hbw hb1
  clear hb1
  have hG : w.heap.size < W1.heap.size := k0.lt
  have hbA := hbw.alloc hbw.size (Obj.cells #[.string N, .string ⟨#[]⟩, .int .i64 (e : Int)] 62)
  have k1 := k0.alloc (Obj.cells #[.string N, .string ⟨#[]⟩, .int .i64 (e : Int)] 62)
  have k2 := Blk.new W1 #[.string N, .string ⟨#[]⟩, .int .i64 (e : Int)] 62
  clear k0 hbw
  go_wp2_with fail
  refine calls_from (fun W => Blk W w.heap.size #[.string ⟨#[]⟩, .string ⟨#[]⟩, .int .i64 0] 62 ∧ Blk W W1.heap.size #[.string N, .string ⟨#[]⟩, .int .i64 (e : Int)] 62 ∧ Below w.heap.size w W) ⟨k1, k2, hbA⟩ ?_
  clear k1 k2 hbA
  rintro W ⟨k1, k2, hbA⟩
  have c0 : W.cell? ⟨w.heap.size, 0, none⟩ = some (.string ⟨#[]⟩) := (k1).cell 0
  have c1 : W.cell? ⟨w.heap.size, 1, none⟩ = some (.string ⟨#[]⟩) := (k1).cell 1
  have c2 : W.cell? ⟨w.heap.size, 2, none⟩ = some (.int .i64 0) := (k1).cell 2
  have cf0 : W.frozen? ⟨w.heap.size, 0, none⟩ = false := (k1).frozen 0
  have cf1 : W.frozen? ⟨w.heap.size, 1, none⟩ = false := (k1).frozen 1
  have cf2 : W.frozen? ⟨w.heap.size, 2, none⟩ = false := (k1).frozen 2
  have g0 : W.cell? ⟨W1.heap.size, 0, none⟩ = some (.string N) := (k2).cell 0
  have g1 : W.cell? ⟨W1.heap.size, 1, none⟩ = some (.string ⟨#[]⟩) := (k2).cell 1
  have g2 : W.cell? ⟨W1.heap.size, 2, none⟩ = some (.int .i64 (e : Int)) := (k2).cell 2
  have hne : w.heap.size ≠ W1.heap.size := by omega
  have hwG : w.heap.size ≤ W1.heap.size := by omega
  have hne' : ¬ W1.heap.size = w.heap.size := by omega
  have KK := hide (And.intro k1 (And.intro k2 hbA))
  clear k1 k2 hbA
  generalize W1.heap.size = G at *
  refine (unhide CK _).mono ?_
  rintro e2 w2 ⟨rfl, rfl⟩
  go_wp2_with fail
  refine (unhide CI _).mono ?_
  rintro e3 w3 ⟨rfl, rfl⟩
  go_wp2_with fail
  refine (unhide CS _).mono ?_
  rintro e4 w4 ⟨rfl, rfl⟩
  go_wp2_with fail
  refine (unhide CQ _).mono ?_
  rintro e5 w5 ⟨rfl, rfl⟩
  go_wp2_with fail
  refine (unhide CR _).mono ?_
  rintro e6 w6 ⟨rfl, rfl⟩
  go_wp2_with fail
  refine (unhide CF _).mono ?_
  rintro e7 W7 ⟨rfl, hb7⟩
  go_wp2_with fail
  refine (unhide CA _).mono ?_
  rintro e8 W8 ⟨rfl, hb8⟩
  replace hb8 := tr2 hb7 hb8
  clear hb7
  obtain ⟨k1, k2, hbA⟩ := unhide KK
  clear c0 c1 c2 cf0 cf1 cf2 g0 g1 g2 KK
  replace k1 := k1.later hb8
  replace k2 := k2.later hb8
  replace hbA := tr2 hbA hb8
  have c0 : W8.cell? ⟨w.heap.size, 0, none⟩ = some (.string ⟨#[]⟩) := (k1).cell 0
  have c1 : W8.cell? ⟨w.heap.size, 1, none⟩ = some (.string ⟨#[]⟩) := (k1).cell 1
  have c2 : W8.cell? ⟨w.heap.size, 2, none⟩ = some (.int .i64 0) := (k1).cell 2
  have cf0 : W8.frozen? ⟨w.heap.size, 0, none⟩ = false := (k1).frozen 0
  have cf1 : W8.frozen? ⟨w.heap.size, 1, none⟩ = false := (k1).frozen 1
  have cf2 : W8.frozen? ⟨w.heap.size, 2, none⟩ = false := (k1).frozen 2
  have g0 : W8.cell? ⟨G, 0, none⟩ = some (.string N) := (k2).cell 0
  have g1 : W8.cell? ⟨G, 1, none⟩ = some (.string ⟨#[]⟩) := (k2).cell 1
  have g2 : W8.cell? ⟨G, 2, none⟩ = some (.int .i64 (e : Int)) := (k2).cell 2
  have gf1 : W8.frozen? ⟨G, 1, none⟩ = false := (k2).frozen 1
  have gf2 : W8.frozen? ⟨G, 2, none⟩ = false := (k2).frozen 2
  have KK := hide (And.intro k1 (And.intro k2 hbA))
  clear k1 k2 hbA hb8
  go_wp2
  obtain ⟨k1, k2, hbA⟩ := unhide KK
  have kk := ((((k1.away (b' := G) (o := 1) hne (.string AV)).away (b' := G) (o := 2) hne (.int .i64 ((z : Int)))).set 0 (by simp) (.string N)).set 1 (by simp) (.string AV)).set 2 (by simp) (.int .i64 ((z : Int)))
  have d0 := kk.cell 0
  have d1 := kk.cell 1
  have d2 := kk.cell 2
  refine bodyPost_ret (v := .agg #[.string N, .string AV, .int .i64 ((z : Int))]) (by simp [results, Tryz.results34, go_sem, d0, d1, d2]) rfl ?_
  exact ⟨_, _, _, rfl, ((((hbA.setCell (by omega) _).setCell (by omega) _).setCell (by simp) _).setCell (by simp) _).setCell (by simp) _, (by obtain ⟨E1, a, b, c, _, _, f⟩ := unhide FIN; exact Or.inr ⟨E1, a, b, c, rfl, rfl, f⟩)⟩

theorem attr5_any (s : ByteArray) (i : Nat) (w : World) (hs : s.size ≤ 100000) (hi : i < s.size) :
    Calls Tryz.prog 34 #[.string s, .int .i64 (i : Int)] w (AttrSaid s i (naN s i) (aqV s i) (aqB s i) w) := by
  cases hq : aqE s i with
  | false => exact attr5_no s i w hs hi hq
  | true =>
    cases h0 : [34].isPrefixOf (s.data.toList.drop (naV s i)) with
    | true =>
      by_cases h2 : fdN s [34] (naV s i + 1) < s.size
      · exact attr5_dq s i w hs hi hq h0 h2
      · exact attr5_dqx s i w hs hi hq h0 h2
    | false =>
      cases h1 : [39].isPrefixOf (s.data.toList.drop (naV s i)) with
      | true =>
        by_cases h2 : fdN s [39] (naV s i + 1) < s.size
        · exact attr5_sq s i w hs hi hq h0 h1 h2
        · exact attr5_sqx s i w hs hi hq h0 h1 h2
      | false => exact attr5_un s i w hs hi hq h0 h1
end Go.Proofs.YtakjlolmmoladaaGreatDoor

/-
  What the reference's tag of layer 5 does.
-/
namespace Go.Proofs.YtakjlolmmoladaaGreatDoor
open Go.RowKit
set_option linter.unusedVariables false

def rtZ (s : ByteArray) (i : Nat) : Nat := seekN (enP s) s.size i
def rtN (s : ByteArray) (i : Nat) : ByteArray := bs (lowL ((s.data.toList.drop i).take (rtZ s i - i)))
def rtR (s : ByteArray) (i : Nat) : Nat × List (ByteArray × ByteArray) × Bool := partsG s (rtZ s i) [] false
def rtT (s : ByteArray) (i : Nat) (kd : Int) : PTok := if (rtR s i).1 < s.size then (if kd = 2 then (2, rtN s i, [], false, ⟨#[]⟩) else (kd, rtN s i, (rtR s i).2.1, (rtR s i).2.2, ⟨#[]⟩)) else noT
def rtE (s : ByteArray) (i : Nat) : Nat := if (rtR s i).1 < s.size then (rtR s i).1 + 1 else s.size
def tgT (s N : ByteArray) (kd : Int) (R : Nat × List (ByteArray × ByteArray) × Bool) : PTok := if R.1 < s.size then (if kd = 2 then (2, N, [], false, ⟨#[]⟩) else (kd, N, R.2.1, R.2.2, ⟨#[]⟩)) else noT
def tgE (s : ByteArray) (R : Nat × List (ByteArray × ByteArray) × Bool) : Nat := if R.1 < s.size then R.1 + 1 else s.size
def TgAt (s N : ByteArray) (kd : Int) (G : Nat) (R : Nat × List (ByteArray × ByteArray) × Bool) (w : World) (k : Nat) (wr : World) : Prop :=
  ∃ ats v, k ≤ s.size ∧ (k < s.size → spN (dgt s.data.toList k) = false) ∧ ats.length ≤ k ∧ partsG s k ats false = R ∧ Blk wr w.heap.size #[.int .i64 0, .string ⟨#[]⟩, .slice none 0 0, .bool false, .string ⟨#[]⟩, .int .i64 0] 32 ∧ Blk wr G #[.int .i64 kd, .string N, v, .bool false, .string ⟨#[]⟩] 30 ∧ wr.ownsRow (G + 1) 51 2 v ats.length (flatA ats) ∧ Below w.heap.size w wr
theorem gotIs_none {s N : ByteArray} {kd : Int} {R : Nat × List (ByteArray × ByteArray) × Bool} {w w' : World} (h : ¬ R.1 < s.size) (hb : Below w.heap.size w w') : GotIs w (tgT s N kd R) (tgE s R) (.returned (.agg #[.int .i64 0, .string ⟨#[]⟩, .slice none 0 0, .bool false, .string ⟨#[]⟩, .int .i64 (s.size : Int)])) w' := by
  unfold tgT tgE; rw [if_neg h, if_neg h]; exact ⟨none, 0, rfl, slN_nil _ _ _, hb⟩
theorem gotIs_two {s N : ByteArray} {kd : Int} {R : Nat × List (ByteArray × ByteArray) × Bool} {w w' : World} {E : Int} (h : R.1 < s.size) (hk : kd = 2) (hE : E = (R.1 : Int) + 1) (hb : Below w.heap.size w w') : GotIs w (tgT s N kd R) (tgE s R) (.returned (.agg #[.int .i64 2, .string N, .slice none 0 0, .bool false, .string ⟨#[]⟩, .int .i64 E])) w' := by
  unfold tgT tgE; rw [if_pos h, if_pos h, if_pos hk, hE]; exact ⟨none, 0, rfl, slN_nil _ _ _, hb⟩
theorem gotIs_one {s N : ByteArray} {kd : Int} {R : Nat × List (ByteArray × ByteArray) × Bool} {w w' : World} {E : Int} {q : Option Addr} {cap : Nat} {ats : List (ByteArray × ByteArray)} {f : Bool} (h : R.1 < s.size) (hk : ¬ kd = 2) (hE : E = (R.1 : Int) + 1) (ha : R.2.1 = ats) (hf : R.2.2 = f) (hsl : SlN (cap := cap) w.heap.size q ats w') (hb : Below w.heap.size w w') : GotIs w (tgT s N kd R) (tgE s R) (.returned (.agg #[.int .i64 kd, .string N, .slice q ats.length cap, .bool f, .string ⟨#[]⟩, .int .i64 E])) w' := by
  subst ha hf
  unfold tgT tgE; rw [if_pos h, if_pos h, if_neg hk, hE]; exact ⟨q, cap, rfl, hsl, hb⟩
theorem slN6 {cap G : Nat} {q : Option Addr} {ats : List (ByteArray × ByteArray)} {w wr : World} {u3 u0 u1 u2 u33 u4 u5 : Value} (h : ats = [] ∨ ∃ g, q = some ⟨g, 0, none⟩ ∧ (G + 1 ≤ g ∧ ats.length ≤ cap) ∧ Cells2 g 0 ats wr) (hG : w.heap.size < G) :
    SlN (cap := cap) w.heap.size q ats (((((((wr.setCell ⟨G, 3, none⟩ u3).setCell ⟨w.heap.size, 0, none⟩ u0).setCell ⟨w.heap.size, 1, none⟩ u1).setCell ⟨w.heap.size, 2, none⟩ u2).setCell ⟨w.heap.size, 3, none⟩ u33).setCell ⟨w.heap.size, 4, none⟩ u4).setCell ⟨w.heap.size, 5, none⟩ u5) := by
  rcases h with h | ⟨g, hq, hg, hc⟩
  · exact Or.inl h
  · exact Or.inr ⟨g, hq, ⟨by omega, hg.2⟩, ((((((hc.away (by omega) _).away (by omega) _).away (by omega) _).away (by omega) _).away (by omega) _).away (by omega) _).away (by omega) _⟩
theorem pre_sl (s : ByteArray) (k : Nat) : [47, 62].isPrefixOf (s.data.toList.drop k) = (decide (k < s.size ∧ dgt s.data.toList k = 47) && decide (k + 1 < s.size ∧ dgt s.data.toList (k + 1) = 62)) := by
  have h1 := pre_one s k 47
  have h2 := pre_one s (k + 1) 62
  rw [show (47 : UInt8).toNat = 47 from rfl] at h1
  rw [show (62 : UInt8).toNat = 62 from rfl] at h2
  rw [← h1, ← h2]
  by_cases h : k < s.size
  · obtain ⟨d, hd, hn⟩ := drop_at s.data.toList k (by rw [data_len]; exact h)
    rw [hd]; simp [List.isPrefixOf]
  · rw [List.drop_eq_nil_of_le (by rw [data_len]; omega)]; simp [List.isPrefixOf]

set_option maxHeartbeats 16000000 in
set_option maxRecDepth 100000 in
theorem tag5_any (s : ByteArray) (i : Nat) (kd : Int) (w : World) (hs : s.size ≤ 100000) (hi : i ≤ s.size) :
    Calls Tryz.prog 15 #[.string s, .int .i64 (i : Int), .int .i64 kd] w (GotIs w (tgT s (rtN s i) kd (rtR s i)) (tgE s (rtR s i))) := by
  have hE : rtZ s i ≤ s.size ∧ i ≤ rtZ s i := seekN_le (enP s) hi
  have CE : Hid (∀ w, Calls Tryz.prog 32 #[.string s, .int .i64 (i : Int), .string ⟨#[47, 62]⟩] w fun e w' => e = .returned (.int .i64 (rtZ s i : Nat)) ∧ Below w.heap.size w w') := hide (fun w => by
    have := ends_any s ⟨#[47, 62]⟩ i w hs (by decide) hi
    rw [stP_en] at this; exact this)
  have CO : Hid (∀ w, Calls Tryz.prog 30 #[.string (s.extract i (rtZ s i))] w fun e w' => e = .returned (.string (rtN s i)) ∧ Below w.heap.size w w') := hide (fun w => by
    have := rlower_any (s.extract i (rtZ s i)) w (by simp; omega)
    rw [ext_data s hE.2] at this; exact this)
  have CK : Hid (∀ w, Calls Tryz.prog 33 #[.string s, .int .i64 (rtZ s i : Nat)] w fun e w' => e = .returned (.int .i64 (skipN s (rtZ s i) : Nat)) ∧ w' = w) := hide (fun w => skip_any s (rtZ s i) w hs hE.1)
  have HST := hide (show skipN s (rtZ s i) ≤ s.size ∧ (skipN s (rtZ s i) < s.size → spN (dgt s.data.toList (skipN s (rtZ s i))) = false) ∧ partsG s (skipN s (rtZ s i)) [] false = rtR s i from ⟨(skip_le s hE.1).1, skip_no s _, (pg_skip s [] false _ _ rfl).symm⟩)
  obtain ⟨ai0, hi0, hi1, hi2, hi3⟩ := infoAttr
  generalize rtR s i = R at *
  generalize rtN s i = N at *
  generalize rtZ s i = e at *
  generalize skipN s e = k0 at *
  have i1 : (i : Int) ≤ (e : Int) := by omega
  have i2 : (e : Int) ≤ (s.size : Int) := by omega
  have zz : (s.extract i e).size ≤ 100000 := by simp; omega
  go_enter Tryz.func15, Tryz.ntmps15
  go_wp2_with fail
  refine (unhide CE _).mono ?_
  rintro e0 W0 ⟨rfl, hb0⟩
  have k0' := (Blk.new w #[.int .i64 0, .string ⟨#[]⟩, .slice none 0 0, .bool false, .string ⟨#[]⟩, .int .i64 0] 32).later hb0
  have hbw := bel_of hb0
  clear hb0
  go_wp2_with fail
  refine (unhide CO _).mono ?_
  rintro e1 W1 ⟨rfl, hb1⟩
  replace k0' := k0'.later hb1
  replace hbw := tr2 hbw hb1
  clear hb1
  have hG : w.heap.size < W1.heap.size := k0'.lt
  have hbA := hbw.alloc hbw.size (Obj.cells #[.int .i64 kd, .string N, .slice none 0 0, .bool false, .string ⟨#[]⟩] 30)
  have k1 := k0'.alloc (Obj.cells #[.int .i64 kd, .string N, .slice none 0 0, .bool false, .string ⟨#[]⟩] 30)
  have k2 := Blk.new W1 #[.int .i64 kd, .string N, .slice none 0 0, .bool false, .string ⟨#[]⟩] 30
  have HAT : Hid (TgAt s N kd W1.heap.size R w k0 (W1.alloc (Obj.cells #[.int .i64 kd, .string N, .slice none 0 0, .bool false, .string ⟨#[]⟩] 30))) := hide ⟨[], .slice none 0 0, (unhide HST).1, (unhide HST).2.1, Nat.zero_le _, (unhide HST).2.2, k1, k2, ⟨rfl, Or.inl ⟨rfl, rfl⟩⟩, hbA⟩
  clear k1 k2 hbA k0' hbw HST
  go_wp2_with fail
  refine calls_from (fun W => TgAt s N kd W1.heap.size R w k0 W) (unhide HAT) ?_
  clear HAT
  rintro W hAT
  have HAT := hide hAT
  clear hAT
  have hGG : w.heap.size < W1.heap.size := hG
  clear hG
  generalize W1.heap.size = G at *
  refine (unhide CK _).mono ?_
  rintro e2 w2 ⟨rfl, rfl⟩
  go_wp2
  go_loopw [9] (fun a wr => ∃ k : Nat, a = .int .i64 k ∧ TgAt s N kd G R w k wr) (fun a _ => s.size - (intOf a).toNat)
  case atStart => exact ⟨k0, rfl, unhide HAT⟩
  case round =>
    clear HAT CE CO CK
    obtain ⟨k, rfl, ats, v, hk, hsp, hal, hpr, hk0, hk8, hrow, hbw⟩ := hrel
    have K0 := hide hk0
    have K8 := hide hk8
    have HW := hide hrow
    have HB := hide hbw
    have HGs : w.heap.size < wr.heap.size := hk0.lt
    have HG8 : G < wr.heap.size := hk8.lt
    clear hk0 hk8 hrow hbw
    by_cases hp : k < s.size
    · have hpi : (k : Int) < (s.size : Int) := by omega
      have e0 := dgt_at s k hp
      have hsp' := hsp hp
      clear hsp
      have CI : Hid (∀ w, Calls Tryz.prog 29 #[.string s, .int .i64 (k : Int), .string ⟨#[62]⟩] w fun e w' => e = .returned (.bool (decide (k < s.size ∧ dgt s.data.toList k = 62))) ∧ w' = w) := hide (fun w => by
        have := is_any s ⟨#[62]⟩ k w hs (by decide) (by decide) (by omega)
        rw [show (ByteArray.mk #[62]).data.toList = [62] from rfl, pre_one] at this; exact this)
      have CJ : Hid (∀ w, Calls Tryz.prog 29 #[.string s, .int .i64 (k : Int), .string ⟨#[47, 62]⟩] w fun e w' => e = .returned (.bool ([47, 62].isPrefixOf (s.data.toList.drop k))) ∧ w' = w) := hide (fun w => is_any s ⟨#[47, 62]⟩ k w hs (by decide) (by decide) (by omega))
      by_cases h62 : dgt s.data.toList k = 62
      · have HR : Hid (R = (k, ats, false)) := hide (hpr.symm.trans (pg_gt hp h62))
        have HRL : Hid (R.1 < s.size) := hide (by rw [unhide HR]; exact hp)
        have HRE : Hid ((k : Int) + 1 = (R.1 : Int) + 1) := hide (by rw [unhide HR])
        have HRA : Hid (R.2.1 = ats) := hide (by rw [unhide HR])
        have HRF : Hid (R.2.2 = false) := hide (by rw [unhide HR])
        rw [decide_eq_true (show k < s.size ∧ dgt s.data.toList k = 62 from ⟨hp, h62⟩)] at CI
        rw [h62] at e0
        clear h62 hpr hsp' CJ HR
        obtain ⟨q, cap, rfl, hcl⟩ := cells_of_owns (unhide HW)
        have HCL := hide hcl
        have y3 : wr.cell? ⟨G, 3, none⟩ = some (.bool false) := (unhide K8).cell 3
        have yf3 : wr.frozen? ⟨G, 3, none⟩ = false := (unhide K8).frozen 3
        have J8 := hide ((unhide K8).set 3 (by simp) (.bool false))
        have J0 := hide ((unhide K0).away (b' := G) (o := 3) (by omega) (.bool false))
        have x0 : (wr.setCell ⟨G, 3, none⟩ (.bool false)).cell? ⟨w.heap.size, 0, none⟩ = some (.int .i64 0) := (unhide J0).cell 0
        have x1 : (wr.setCell ⟨G, 3, none⟩ (.bool false)).cell? ⟨w.heap.size, 1, none⟩ = some (.string ⟨#[]⟩) := (unhide J0).cell 1
        have x2 : (wr.setCell ⟨G, 3, none⟩ (.bool false)).cell? ⟨w.heap.size, 2, none⟩ = some (.slice none 0 0) := (unhide J0).cell 2
        have x3 : (wr.setCell ⟨G, 3, none⟩ (.bool false)).cell? ⟨w.heap.size, 3, none⟩ = some (.bool false) := (unhide J0).cell 3
        have x4 : (wr.setCell ⟨G, 3, none⟩ (.bool false)).cell? ⟨w.heap.size, 4, none⟩ = some (.string ⟨#[]⟩) := (unhide J0).cell 4
        have x5 : (wr.setCell ⟨G, 3, none⟩ (.bool false)).cell? ⟨w.heap.size, 5, none⟩ = some (.int .i64 0) := (unhide J0).cell 5
        have xf0 : (wr.setCell ⟨G, 3, none⟩ (.bool false)).frozen? ⟨w.heap.size, 0, none⟩ = false := (unhide J0).frozen 0
        have xf1 : (wr.setCell ⟨G, 3, none⟩ (.bool false)).frozen? ⟨w.heap.size, 1, none⟩ = false := (unhide J0).frozen 1
        have xf2 : (wr.setCell ⟨G, 3, none⟩ (.bool false)).frozen? ⟨w.heap.size, 2, none⟩ = false := (unhide J0).frozen 2
        have xf3 : (wr.setCell ⟨G, 3, none⟩ (.bool false)).frozen? ⟨w.heap.size, 3, none⟩ = false := (unhide J0).frozen 3
        have xf4 : (wr.setCell ⟨G, 3, none⟩ (.bool false)).frozen? ⟨w.heap.size, 4, none⟩ = false := (unhide J0).frozen 4
        have xf5 : (wr.setCell ⟨G, 3, none⟩ (.bool false)).frozen? ⟨w.heap.size, 5, none⟩ = false := (unhide J0).frozen 5
        have z0 : (wr.setCell ⟨G, 3, none⟩ (.bool false)).cell? ⟨G, 0, none⟩ = some (.int .i64 kd) := (unhide J8).cell 0
        have z1 : (wr.setCell ⟨G, 3, none⟩ (.bool false)).cell? ⟨G, 1, none⟩ = some (.string N) := (unhide J8).cell 1
        have z2 : (wr.setCell ⟨G, 3, none⟩ (.bool false)).cell? ⟨G, 2, none⟩ = some (.slice q ats.length cap) := (unhide J8).cell 2
        have z3 : (wr.setCell ⟨G, 3, none⟩ (.bool false)).cell? ⟨G, 3, none⟩ = some (.bool false) := (unhide J8).cell 3
        have z4 : (wr.setCell ⟨G, 3, none⟩ (.bool false)).cell? ⟨G, 4, none⟩ = some (.string ⟨#[]⟩) := (unhide J8).cell 4
        clear hcl HW
        cases hkb : (kd == 2) with
        | true =>
          have hk2 : kd = 2 := by simpa using hkb
          have HK2 := hide hk2
          clear hk2
          go_wp2_with fail
          refine (unhide CI _).mono ?_
          rintro e3 w3 ⟨rfl, rfl⟩
          go_wp2
          have kk := (((((((unhide J0).set 0 (by simp) (.int .i64 2)).set 1 (by simp) (.string N)).set 2 (by simp) (.slice none 0 0)).set 3 (by simp) (.bool false)).set 4 (by simp) (.string ⟨#[]⟩)).set 5 (by simp) (.int .i64 ((k : Int) + 1)))
          have d0 := kk.cell 0
          have d1 := kk.cell 1
          have d2 := kk.cell 2
          have d3 := kk.cell 3
          have d4 := kk.cell 4
          have d5 := kk.cell 5
          refine bodyPost_ret (v := .agg #[.int .i64 2, .string N, .slice none 0 0, .bool false, .string ⟨#[]⟩, .int .i64 ((k : Int) + 1)]) (by simp [results, Tryz.results15, go_sem, d0, d1, d2, d3, d4, d5]) rfl ?_
          exact gotIs_two (unhide HRL) (unhide HK2) (unhide HRE) (((((((((unhide HB).setCell (by show w.heap.size ≤ G; omega) _).setCell (by simp) _).setCell (by simp) _).setCell (by simp) _).setCell (by simp) _).setCell (by simp) _).setCell (by simp) _))
        | false =>
          have HK2 : Hid (¬ kd = 2) := hide (by simpa using hkb)
          go_wp2_with fail
          refine (unhide CI _).mono ?_
          rintro e3 w3 ⟨rfl, rfl⟩
          go_wp2
          have kk := (((((((unhide J0).set 0 (by simp) (.int .i64 kd)).set 1 (by simp) (.string N)).set 2 (by simp) (.slice q ats.length cap)).set 3 (by simp) (.bool false)).set 4 (by simp) (.string ⟨#[]⟩)).set 5 (by simp) (.int .i64 ((k : Int) + 1)))
          have d0 := kk.cell 0
          have d1 := kk.cell 1
          have d2 := kk.cell 2
          have d3 := kk.cell 3
          have d4 := kk.cell 4
          have d5 := kk.cell 5
          refine bodyPost_ret (v := .agg #[.int .i64 kd, .string N, .slice q ats.length cap, .bool false, .string ⟨#[]⟩, .int .i64 ((k : Int) + 1)]) (by simp [results, Tryz.results15, go_sem, d0, d1, d2, d3, d4, d5]) rfl ?_
          exact gotIs_one (unhide HRL) (unhide HK2) (unhide HRE) (unhide HRA) (unhide HRF) (slN6 (unhide HCL) hGG) (((((((((unhide HB).setCell (by show w.heap.size ≤ G; omega) _).setCell (by simp) _).setCell (by simp) _).setCell (by simp) _).setCell (by simp) _).setCell (by simp) _).setCell (by simp) _))
      rw [decide_eq_false (show ¬ (k < s.size ∧ dgt s.data.toList k = 62) from fun x => h62 x.2)] at CI
      cases h2 : [47, 62].isPrefixOf (s.data.toList.drop k) with
      | true =>
        rw [h2] at CJ
        have h2' := h2
        rw [pre_sl, Bool.and_eq_true] at h2'
        have q1 := of_decide_eq_true h2'.1
        have q2 := of_decide_eq_true h2'.2
        have HR : Hid (R = (k + 1, ats, true)) := hide (hpr.symm.trans ((pg_slash hp q1.2).trans (by rw [h2]; exact pg_gt q2.1 q2.2)))
        have HRL : Hid (R.1 < s.size) := hide (by rw [unhide HR]; exact q2.1)
        have HRE : Hid ((k : Int) + 2 = (R.1 : Int) + 1) := hide (by rw [unhide HR]; simp; omega)
        have HRA : Hid (R.2.1 = ats) := hide (by rw [unhide HR])
        have HRF : Hid (R.2.2 = true) := hide (by rw [unhide HR])
        rw [q1.2] at e0
        clear h2 h2' h62 hpr hsp' q1 q2 HR
        obtain ⟨q, cap, rfl, hcl⟩ := cells_of_owns (unhide HW)
        have HCL := hide hcl
        have y3 : wr.cell? ⟨G, 3, none⟩ = some (.bool false) := (unhide K8).cell 3
        have yf3 : wr.frozen? ⟨G, 3, none⟩ = false := (unhide K8).frozen 3
        have J8 := hide ((unhide K8).set 3 (by simp) (.bool true))
        have J0 := hide ((unhide K0).away (b' := G) (o := 3) (by omega) (.bool true))
        have x0 : (wr.setCell ⟨G, 3, none⟩ (.bool true)).cell? ⟨w.heap.size, 0, none⟩ = some (.int .i64 0) := (unhide J0).cell 0
        have x1 : (wr.setCell ⟨G, 3, none⟩ (.bool true)).cell? ⟨w.heap.size, 1, none⟩ = some (.string ⟨#[]⟩) := (unhide J0).cell 1
        have x2 : (wr.setCell ⟨G, 3, none⟩ (.bool true)).cell? ⟨w.heap.size, 2, none⟩ = some (.slice none 0 0) := (unhide J0).cell 2
        have x3 : (wr.setCell ⟨G, 3, none⟩ (.bool true)).cell? ⟨w.heap.size, 3, none⟩ = some (.bool false) := (unhide J0).cell 3
        have x4 : (wr.setCell ⟨G, 3, none⟩ (.bool true)).cell? ⟨w.heap.size, 4, none⟩ = some (.string ⟨#[]⟩) := (unhide J0).cell 4
        have x5 : (wr.setCell ⟨G, 3, none⟩ (.bool true)).cell? ⟨w.heap.size, 5, none⟩ = some (.int .i64 0) := (unhide J0).cell 5
        have xf0 : (wr.setCell ⟨G, 3, none⟩ (.bool true)).frozen? ⟨w.heap.size, 0, none⟩ = false := (unhide J0).frozen 0
        have xf1 : (wr.setCell ⟨G, 3, none⟩ (.bool true)).frozen? ⟨w.heap.size, 1, none⟩ = false := (unhide J0).frozen 1
        have xf2 : (wr.setCell ⟨G, 3, none⟩ (.bool true)).frozen? ⟨w.heap.size, 2, none⟩ = false := (unhide J0).frozen 2
        have xf3 : (wr.setCell ⟨G, 3, none⟩ (.bool true)).frozen? ⟨w.heap.size, 3, none⟩ = false := (unhide J0).frozen 3
        have xf4 : (wr.setCell ⟨G, 3, none⟩ (.bool true)).frozen? ⟨w.heap.size, 4, none⟩ = false := (unhide J0).frozen 4
        have xf5 : (wr.setCell ⟨G, 3, none⟩ (.bool true)).frozen? ⟨w.heap.size, 5, none⟩ = false := (unhide J0).frozen 5
        have z0 : (wr.setCell ⟨G, 3, none⟩ (.bool true)).cell? ⟨G, 0, none⟩ = some (.int .i64 kd) := (unhide J8).cell 0
        have z1 : (wr.setCell ⟨G, 3, none⟩ (.bool true)).cell? ⟨G, 1, none⟩ = some (.string N) := (unhide J8).cell 1
        have z2 : (wr.setCell ⟨G, 3, none⟩ (.bool true)).cell? ⟨G, 2, none⟩ = some (.slice q ats.length cap) := (unhide J8).cell 2
        have z3 : (wr.setCell ⟨G, 3, none⟩ (.bool true)).cell? ⟨G, 3, none⟩ = some (.bool true) := (unhide J8).cell 3
        have z4 : (wr.setCell ⟨G, 3, none⟩ (.bool true)).cell? ⟨G, 4, none⟩ = some (.string ⟨#[]⟩) := (unhide J8).cell 4
        clear hcl HW
        cases hkb : (kd == 2) with
        | true =>
          have hk2 : kd = 2 := by simpa using hkb
          have HK2 := hide hk2
          clear hk2
          go_wp2_with fail
          refine (unhide CI _).mono ?_
          rintro e3 w3 ⟨rfl, rfl⟩
          go_wp2_with fail
          refine (unhide CJ _).mono ?_
          rintro e4 w4 ⟨rfl, rfl⟩
          go_wp2
          have kk := (((((((unhide J0).set 0 (by simp) (.int .i64 2)).set 1 (by simp) (.string N)).set 2 (by simp) (.slice none 0 0)).set 3 (by simp) (.bool false)).set 4 (by simp) (.string ⟨#[]⟩)).set 5 (by simp) (.int .i64 ((k : Int) + 2)))
          have d0 := kk.cell 0
          have d1 := kk.cell 1
          have d2 := kk.cell 2
          have d3 := kk.cell 3
          have d4 := kk.cell 4
          have d5 := kk.cell 5
          refine bodyPost_ret (v := .agg #[.int .i64 2, .string N, .slice none 0 0, .bool false, .string ⟨#[]⟩, .int .i64 ((k : Int) + 2)]) (by simp [results, Tryz.results15, go_sem, d0, d1, d2, d3, d4, d5]) rfl ?_
          exact gotIs_two (unhide HRL) (unhide HK2) (unhide HRE) (((((((((unhide HB).setCell (by show w.heap.size ≤ G; omega) _).setCell (by simp) _).setCell (by simp) _).setCell (by simp) _).setCell (by simp) _).setCell (by simp) _).setCell (by simp) _))
        | false =>
          have HK2 : Hid (¬ kd = 2) := hide (by simpa using hkb)
          go_wp2_with fail
          refine (unhide CI _).mono ?_
          rintro e3 w3 ⟨rfl, rfl⟩
          go_wp2_with fail
          refine (unhide CJ _).mono ?_
          rintro e4 w4 ⟨rfl, rfl⟩
          go_wp2
          have kk := (((((((unhide J0).set 0 (by simp) (.int .i64 kd)).set 1 (by simp) (.string N)).set 2 (by simp) (.slice q ats.length cap)).set 3 (by simp) (.bool true)).set 4 (by simp) (.string ⟨#[]⟩)).set 5 (by simp) (.int .i64 ((k : Int) + 2)))
          have d0 := kk.cell 0
          have d1 := kk.cell 1
          have d2 := kk.cell 2
          have d3 := kk.cell 3
          have d4 := kk.cell 4
          have d5 := kk.cell 5
          refine bodyPost_ret (v := .agg #[.int .i64 kd, .string N, .slice q ats.length cap, .bool true, .string ⟨#[]⟩, .int .i64 ((k : Int) + 2)]) (by simp [results, Tryz.results15, go_sem, d0, d1, d2, d3, d4, d5]) rfl ?_
          exact gotIs_one (unhide HRL) (unhide HK2) (unhide HRE) (unhide HRA) (unhide HRF) (slN6 (unhide HCL) hGG) (((((((((unhide HB).setCell (by show w.heap.size ≤ G; omega) _).setCell (by simp) _).setCell (by simp) _).setCell (by simp) _).setCell (by simp) _).setCell (by simp) _).setCell (by simp) _))
      | false =>
        rw [h2] at CJ
        by_cases h47 : dgt s.data.toList k = 47
        · have CS : Hid (∀ w, Calls Tryz.prog 33 #[.string s, .int .i64 ((k : Int) + 1)] w fun e w' => e = .returned (.int .i64 (skipN s (k + 1) : Nat)) ∧ w' = w) := hide (fun w => skip_any s (k + 1) w hs (by omega))
          have hsk := skip_le s (i := k + 1) (by omega)
          have HN := hide (skip_no s (k + 1))
          have hx := pg_slash (ats := ats) (f := false) hp h47
          rw [h2] at hx
          have HP : Hid (partsG s (skipN s (k + 1)) ats false = R) := hide ((pg_skip s ats false _ _ rfl).symm.trans (hx.symm.trans hpr))
          clear hx
          generalize skipN s (k + 1) = k' at *
          rw [h47] at e0
          clear h47 h2 h62 hpr hsp'
          go_wp2_with fail
          refine (unhide CI _).mono ?_
          rintro e3 w3 ⟨rfl, rfl⟩
          go_wp2_with fail
          refine (unhide CJ _).mono ?_
          rintro e4 w4 ⟨rfl, rfl⟩
          go_wp2_with fail
          refine (unhide CS _).mono ?_
          rintro e5 w5 ⟨rfl, rfl⟩
          go_wp2
          go_roundw
          case rel => exact ⟨k', rfl, ats, v, hsk.1, unhide HN, by omega, unhide HP, unhide K0, unhide K8, unhide HW, unhide HB⟩
          case measure => simp [intOf]; omega
        · have CA := hide (fun w => attr5_any s k w hs hp)
          have n47 : ((dgt s.data.toList k : Int) == 47) = false := bneI (by omega)
          have hq := aqB_le s k hp
          have Q1 := fun h => (pg_twice (ats := ats) (f := false) hp h47 hsp' h62 h).symm.trans hpr
          have Q2 := fun h => (pg_new (ats := ats) (f := false) hp h47 hsp' h62 h).symm.trans hpr
          have HQ1 := hide Q1
          have HQ2 := hide Q2
          generalize dgt s.data.toList k = b at *
          clear Q1 Q2 h47 h2 h62 hpr hsp'
          go_wp2_with fail
          refine (unhide CI _).mono ?_
          rintro e3 w3 ⟨rfl, rfl⟩
          go_wp2_with fail
          refine (unhide CJ _).mono ?_
          rintro e4 w4 ⟨rfl, rfl⟩
          go_wp2_with fail
          refine (unhide CA _).mono ?_
          rintro e5 W5 ⟨n, va, E, rfl, hb5, hcase⟩
          have k0 := (unhide K0).later hb5
          have k8 := (unhide K8).later hb5
          have hrow := ownsRow_below (unhide HW) hb5
          have hbw := tr2 (unhide HB) hb5
          have hw5 : w.heap.size < W5.heap.size := k0.lt
          have hG5 : G < W5.heap.size := k8.lt
          clear CA CI CJ K0 K8 HW HB hb5
          rcases hcase with ⟨rfl, hab⟩ | ⟨E', rfl, hE1, hE2, hnn, hvv, hsk⟩
          · have HRL : Hid (¬ R.1 < s.size) := hide (by
              cases hh : hasN ats (naN s k) with
              | true => have := unhide HQ1 hh; rw [hab, pg_end (Nat.le_refl _)] at this; rw [← this]; exact Nat.lt_irrefl _
              | false => have := unhide HQ2 hh; rw [hab, pg_end (Nat.le_refl _)] at this; rw [← this]; exact Nat.lt_irrefl _)
            have hbA := hbw.alloc hbw.size (Obj.cells #[.string n, .string va, .int .i64 (-1)] 62)
            have k0' := k0.alloc (Obj.cells #[.string n, .string va, .int .i64 (-1)] 62)
            have KK := hide (And.intro k0 hbw)
            have hne : ¬ w.heap.size = W5.heap.size := by omega
            have x0 : W5.cell? ⟨w.heap.size, 0, none⟩ = some (.int .i64 0) := (k0).cell 0
            have x1 : W5.cell? ⟨w.heap.size, 1, none⟩ = some (.string ⟨#[]⟩) := (k0).cell 1
            have x2 : W5.cell? ⟨w.heap.size, 2, none⟩ = some (.slice none 0 0) := (k0).cell 2
            have x3 : W5.cell? ⟨w.heap.size, 3, none⟩ = some (.bool false) := (k0).cell 3
            have x4 : W5.cell? ⟨w.heap.size, 4, none⟩ = some (.string ⟨#[]⟩) := (k0).cell 4
            have x5 : W5.cell? ⟨w.heap.size, 5, none⟩ = some (.int .i64 0) := (k0).cell 5
            have xf0 : W5.frozen? ⟨w.heap.size, 0, none⟩ = false := (k0).frozen 0
            have xf1 : W5.frozen? ⟨w.heap.size, 1, none⟩ = false := (k0).frozen 1
            have xf2 : W5.frozen? ⟨w.heap.size, 2, none⟩ = false := (k0).frozen 2
            have xf3 : W5.frozen? ⟨w.heap.size, 3, none⟩ = false := (k0).frozen 3
            have xf4 : W5.frozen? ⟨w.heap.size, 4, none⟩ = false := (k0).frozen 4
            have xf5 : W5.frozen? ⟨w.heap.size, 5, none⟩ = false := (k0).frozen 5
            clear k0 k0' k8 hrow hbw hbA HQ1 HQ2 hab
            go_wp2
            obtain ⟨k0, hbw⟩ := unhide KK
            have kk := ((((((k0.set 0 (by simp) (.int .i64 0)).set 1 (by simp) (.string ⟨#[]⟩)).set 2 (by simp) (.slice none 0 0)).set 3 (by simp) (.bool false)).set 4 (by simp) (.string ⟨#[]⟩)).set 5 (by simp) (.int .i64 (s.size : Int))).alloc (Obj.cells #[.string n, .string va, .int .i64 (-1)] 62)
            have hbq := (((((hbw.setCell (p := ⟨w.heap.size, 0, none⟩) (by simp) (.int .i64 0)).setCell (p := ⟨w.heap.size, 1, none⟩) (by simp) (.string ⟨#[]⟩)).setCell (p := ⟨w.heap.size, 2, none⟩) (by simp) (.slice none 0 0)).setCell (p := ⟨w.heap.size, 3, none⟩) (by simp) (.bool false)).setCell (p := ⟨w.heap.size, 4, none⟩) (by simp) (.string ⟨#[]⟩)).setCell (p := ⟨w.heap.size, 5, none⟩) (by simp) (.int .i64 (s.size : Int))
            have d0 := kk.cell 0
            have d1 := kk.cell 1
            have d2 := kk.cell 2
            have d3 := kk.cell 3
            have d4 := kk.cell 4
            have d5 := kk.cell 5
            refine bodyPost_ret (v := .agg #[.int .i64 0, .string ⟨#[]⟩, .slice none 0 0, .bool false, .string ⟨#[]⟩, .int .i64 (s.size : Int)]) (by simp [results, Tryz.results15, go_sem, d0, d1, d2, d3, d4, d5]) rfl ?_
            exact gotIs_none (unhide HRL) (hbq.alloc hbq.size _)
          · subst hnn hvv
            have nE : ¬ (E' : Int) < 0 := by omega
            have CS := hide (fun w => skip_any s E' w hs hE1)
            have hsk2 := skip_le s (i := E') hE1
            have HN := hide (skip_no s E')
            have HQ1' := hide (fun h => (show partsG s (skipN s E') ats false = R by rw [hsk]; exact (pg_skip s ats false _ _ rfl).symm.trans (unhide HQ1 h)))
            have HQ2' := hide (fun h => (show partsG s (skipN s E') (ats ++ [(naN s k, aqV s k)]) false = R by rw [hsk]; exact (pg_skip s _ false _ _ rfl).symm.trans (unhide HQ2 h)))
            clear HQ1 HQ2 hsk
            obtain ⟨q, cap, rfl, hcl0⟩ := cells_of_owns hrow
            have CH := hide (fun w h => has5_any (cap := cap) (base := G + 1) q ats (naN s k) w h (by omega))
            generalize naN s k = n at *
            generalize aqV s k = va at *
            generalize skipN s E' = k' at *
            have hbA := hbw.alloc hbw.size (Obj.cells #[.string n, .string va, .int .i64 (E' : Int)] 62)
            have k11 := Blk.new W5 #[.string n, .string va, .int .i64 (E' : Int)] 62
            replace k0 := k0.alloc (Obj.cells #[.string n, .string va, .int .i64 (E' : Int)] 62)
            replace k8 := k8.alloc (Obj.cells #[.string n, .string va, .int .i64 (E' : Int)] 62)
            replace hrow := hrow.alloc (Obj.cells #[.string n, .string va, .int .i64 (E' : Int)] 62)
            have y2 : (W5.alloc (Obj.cells #[.string n, .string va, .int .i64 (E' : Int)] 62)).cell? ⟨G, 2, none⟩ = some (.slice q ats.length cap) := k8.cell 2
            clear hcl0 hbw
            go_wp2_with fail
            refine calls_from (fun W => Blk W w.heap.size #[.int .i64 0, .string ⟨#[]⟩, .slice none 0 0, .bool false, .string ⟨#[]⟩, .int .i64 0] 32 ∧ Blk W G #[.int .i64 kd, .string N, .slice q ats.length cap, .bool false, .string ⟨#[]⟩] 30 ∧ Blk W W5.heap.size #[.string n, .string va, .int .i64 (E' : Int)] 62 ∧ W.ownsRow (G + 1) 51 2 (.slice q ats.length cap) ats.length (flatA ats) ∧ Below w.heap.size w W) ⟨k0, k8, k11, hrow, hbA⟩ ?_
            clear k0 k8 k11 hrow hbA y2
            rintro W ⟨k0, k8, k11, hrow, hbA⟩
            have hcl := cells_of_owns hrow
            obtain ⟨q', cap', hqq, hcl⟩ := hcl
            obtain ⟨rfl, rfl⟩ : q = q' ∧ cap = cap' := by simpa using hqq
            refine (unhide CH _ hcl).mono ?_
            rintro e6 W6 ⟨rfl, hb6⟩
            replace k0 := k0.later hb6
            replace k8 := k8.later hb6
            replace k11 := k11.later hb6
            replace hrow := ownsRow_below hrow hb6
            replace hbA := tr2 hbA hb6
            clear hb6 hcl CH
            generalize W5.heap.size = G5 at *
            have u0 : W6.cell? ⟨G5, 0, none⟩ = some (.string n) := k11.cell 0
            have u1 : W6.cell? ⟨G5, 1, none⟩ = some (.string va) := k11.cell 1
            have u2 : W6.cell? ⟨G5, 2, none⟩ = some (.int .i64 (E' : Int)) := k11.cell 2
            have y2 : W6.cell? ⟨G, 2, none⟩ = some (.slice q ats.length cap) := k8.cell 2
            have yf2 : W6.frozen? ⟨G, 2, none⟩ = false := k8.frozen 2
            cases hh : hasN ats n with
            | true =>
              have HP := hide (unhide HQ1' hh)
              have KK := hide (And.intro k0 (And.intro k8 (And.intro hrow hbA)))
              clear HQ1' HQ2' hh k0 k8 k11 hrow hbA
              go_wp2_with fail
              refine (unhide CS _).mono ?_
              rintro e7 w7 ⟨rfl, rfl⟩
              go_wp2
              obtain ⟨k0, k8, hrow, hbA⟩ := unhide KK
              go_roundw
              case rel => exact ⟨k', rfl, ats, _, hsk2.1, unhide HN, by omega, unhide HP, k0, k8, hrow, hbA⟩
              case measure => simp [intOf]; omega
            | false =>
              have HP := hide (unhide HQ2' hh)
              have hlr : ∀ j, some j = (Value.slice q ats.length cap).ownBlock → G + 1 ≤ j := fun j hj => (hrow.lt j hj.symm).1
              have hlq : ∀ j, some j = (Value.slice q ats.length cap).ownBlock → j < W6.heap.size := fun j hj => (hrow.lt j hj.symm).2
              have hn5 : some G5 ≠ (Value.slice q ats.length cap).ownBlock := fun e => by
                rcases hrow.2 with ⟨h, _⟩ | ⟨g, cp, cur, h, _, hg, _⟩
                · rw [h] at e; cases e
                · rw [h] at e
                  cases e
                  have := hg.symm.trans k11
                  injection this with this
                  injection this with _ this
                  exact absurd this (by decide)
              have KK := hide (And.intro k0 (And.intro k8 (And.intro k11 hbA)))
              have hG6 : G < W6.heap.size := k8.lt
              have hw6 : w.heap.size < W6.heap.size := k0.lt
              clear HQ1' HQ2' hh k0 k8 k11 hbA
              go_wp2_with (at_builtin; refine wpList_append_own _ rfl _ _ 25 rfl (G + 1) 51 ai0 (.agg #[.string ⟨#[]⟩, .string ⟨#[]⟩]) 2 32 Tryz.underlying25 hi0 hi1 hi2 hi3 rfl (by decide) _ _ _ rfl (hrow.alloc _) ⟨W6.heap.size, 0, none⟩ 1 1 [.string n, .string va] rfl rfl ?c1 ?c2 ?c3 ?c4 ?c5 ?_)
              case c1 => intro j u hj; rw [addr_plain, Nat.zero_add]; exact ((Blk.new W6 #[.string n, .string va] 51).cell j).trans (by simpa using hj)
              case c2 => intro u hu; simp at hu; rcases hu with rfl | rfl <;> rfl
              case c3 => unfold maxLen; omega
              case c4 => omega
              case c5 => simp; omega
              intro v' w5 hrow5 hgrow5 _
              obtain ⟨k0, k8, k11, hbA⟩ := unhide KK
              have o0 := (k0.alloc (Obj.cells #[.string n, .string va] 51)).grown hgrow5 (fun e => by have := hlr _ e; omega)
              have o8 := (k8.alloc (Obj.cells #[.string n, .string va] 51)).grown hgrow5 (fun e => by have := hlr _ e; omega)
              have o11 := (k11.alloc (Obj.cells #[.string n, .string va] 51)).grown hgrow5 hn5
              have hbB := hbA.alloc hbA.size (Obj.cells #[.string n, .string va] 51)
              have hb5 := hbB.grown hgrow5 hbB.size (fun j hj => by have := hlr _ hj.symm; omega)
              have hg5 : G ≠ G5 := fun e => by
                subst e
                have := k8.symm.trans k11
                injection this with this
                injection this with _ this
                exact absurd this (by decide)
              obtain ⟨a5, n5, c5, hv5⟩ := slice_of hrow5
              subst hv5
              have p22 : w5.cell? ⟨G, 2, none⟩ = some (.slice q ats.length cap) := o8.cell 2
              have g22 : w5.frozen? ⟨G, 2, none⟩ = false := o8.frozen 2
              have p55 : (w5.setCell ⟨G, 2, none⟩ (.slice a5 n5 c5)).cell? ⟨G5, 2, none⟩ = some (.int .i64 (E' : Int)) := (o11.away hg5.symm _).cell 2
              have O := hide (And.intro o0 (And.intro o8 (And.intro hb5 hrow5)))
              clear o0 o8 o11 hbB hb5 hrow5 hgrow5 k0 k8 k11 hbA KK hn5 hlr hlq hrow u0 u1 u2 y2 yf2
              go_wp2_with fail
              refine (unhide CS _).mono ?_
              rintro e7 w7 ⟨rfl, rfl⟩
              go_wp2
              obtain ⟨o0, o8, hb5, hrow5⟩ := unhide O
              go_roundw
              case rel => exact ⟨k', rfl, ats ++ [(n, va)], _, hsk2.1, unhide HN, by rw [List.length_append, List.length_singleton]; omega, unhide HP, o0.away (by omega) _, o8.set 2 (by simp) _, by rw [flatA_snoc, List.length_append]; exact ownsRow_setCell_below hrow5 (by simp) _, hb5.setCell (by show w.heap.size ≤ G; omega) _⟩
              case measure => simp [intOf]; omega
    · have HRL : Hid (¬ R.1 < s.size) := hide (by rw [← hpr, pg_end (by omega)]; exact hp)
      have hpi : ¬ (k : Int) < (s.size : Int) := by omega
      have x0 : wr.cell? ⟨w.heap.size, 0, none⟩ = some (.int .i64 0) := (unhide K0).cell 0
      have x1 : wr.cell? ⟨w.heap.size, 1, none⟩ = some (.string ⟨#[]⟩) := (unhide K0).cell 1
      have x2 : wr.cell? ⟨w.heap.size, 2, none⟩ = some (.slice none 0 0) := (unhide K0).cell 2
      have x3 : wr.cell? ⟨w.heap.size, 3, none⟩ = some (.bool false) := (unhide K0).cell 3
      have x4 : wr.cell? ⟨w.heap.size, 4, none⟩ = some (.string ⟨#[]⟩) := (unhide K0).cell 4
      have x5 : wr.cell? ⟨w.heap.size, 5, none⟩ = some (.int .i64 0) := (unhide K0).cell 5
      have xf0 : wr.frozen? ⟨w.heap.size, 0, none⟩ = false := (unhide K0).frozen 0
      have xf1 : wr.frozen? ⟨w.heap.size, 1, none⟩ = false := (unhide K0).frozen 1
      have xf2 : wr.frozen? ⟨w.heap.size, 2, none⟩ = false := (unhide K0).frozen 2
      have xf3 : wr.frozen? ⟨w.heap.size, 3, none⟩ = false := (unhide K0).frozen 3
      have xf4 : wr.frozen? ⟨w.heap.size, 4, none⟩ = false := (unhide K0).frozen 4
      have xf5 : wr.frozen? ⟨w.heap.size, 5, none⟩ = false := (unhide K0).frozen 5
      clear hpr hsp HW K8
      go_wp2
      have kk := (((((((unhide K0).set 0 (by simp) (.int .i64 0)).set 1 (by simp) (.string ⟨#[]⟩)).set 2 (by simp) (.slice none 0 0)).set 3 (by simp) (.bool false)).set 4 (by simp) (.string ⟨#[]⟩)).set 5 (by simp) (.int .i64 (s.size : Int)))
      have d0 := kk.cell 0
      have d1 := kk.cell 1
      have d2 := kk.cell 2
      have d3 := kk.cell 3
      have d4 := kk.cell 4
      have d5 := kk.cell 5
      refine bodyPost_ret (v := .agg #[.int .i64 0, .string ⟨#[]⟩, .slice none 0 0, .bool false, .string ⟨#[]⟩, .int .i64 (s.size : Int)]) (by simp [results, Tryz.results15, go_sem, d0, d1, d2, d3, d4, d5]) rfl ?_
      exact gotIs_none (unhide HRL) ((((((((unhide HB).setCell (by simp) _).setCell (by simp) _).setCell (by simp) _).setCell (by simp) _).setCell (by simp) _).setCell (by simp) _))
end Go.Proofs.YtakjlolmmoladaaGreatDoor

/-
  What the reference's markup of layer 5 does.
-/
namespace Go.Proofs.YtakjlolmmoladaaGreatDoor
open Go.RowKit
set_option linter.unusedVariables false

theorem pre_cons (s : ByteArray) (k : Nat) (c : UInt8) (x : List UInt8) : (c :: x).isPrefixOf (s.data.toList.drop k) = (decide (k < s.size ∧ dgt s.data.toList k = c.toNat) && x.isPrefixOf (s.data.toList.drop (k + 1))) := by
  rw [← pre_one]
  by_cases h : k < s.size
  · obtain ⟨d, hd, hn⟩ := drop_at s.data.toList k (by rw [data_len]; exact h)
    rw [hd]; simp [List.isPrefixOf]
  · rw [List.drop_eq_nil_of_le (by rw [data_len]; omega)]; simp [List.isPrefixOf]
theorem beg60 {s : ByteArray} {i : Nat} (h : begP s i = true) : dgt s.data.toList i = 60 ∧ i + 1 < s.size := by
  refine ⟨?_, (beg_bounds h).1⟩
  rw [begP_is, Bool.and_eq_true, pre_one] at h
  exact (of_decide_eq_true h.1).2
theorem pre_lt {s : ByteArray} {i : Nat} (h : dgt s.data.toList i = 60) (hi : i + 1 < s.size) (x : List UInt8) : ((60 : UInt8) :: x).isPrefixOf (s.data.toList.drop i) = x.isPrefixOf (s.data.toList.drop (i + 1)) := by
  rw [pre_cons, decide_eq_true (show i < s.size ∧ dgt s.data.toList i = (60 : UInt8).toNat from ⟨by omega, h⟩), Bool.true_and]
theorem pre_not {s : ByteArray} {i : Nat} {c : UInt8} (h : ¬ dgt s.data.toList i = c.toNat) (x : List UInt8) : (c :: x).isPrefixOf (s.data.toList.drop i) = false := by
  rw [pre_cons, decide_eq_false (fun e => h e.2), Bool.false_and]
theorem pre_yes {s : ByteArray} {i : Nat} {c : UInt8} (hi : i < s.size) (h : dgt s.data.toList i = c.toNat) (x : List UInt8) : (c :: x).isPrefixOf (s.data.toList.drop i) = x.isPrefixOf (s.data.toList.drop (i + 1)) := by
  rw [pre_cons, decide_eq_true ⟨hi, h⟩, Bool.true_and]
theorem tagT_one {s : ByteArray} {i : Nat} (h : ¬ dgt s.data.toList (i + 1) = 47) : tagT s i = tgT s (rtN s (i + 1)) 1 (rtR s (i + 1)) ∧ tagE s i = tgE s (rtR s (i + 1)) := by
  have hG : tagG s i = i + 1 := by unfold tagG; rw [if_neg h]
  have hZ : tagZ s i = rtZ s (i + 1) := by unfold tagZ; rw [hG]; rfl
  have hR : tagR s i = rtR s (i + 1) := by unfold tagR rtR partsG; rw [hZ]
  have hN : tagN s i = rtN s (i + 1) := by unfold tagN rtN; rw [hG, hZ]
  unfold tagT tagE tgT tgE
  rw [hR, hN, if_neg h, if_neg (show ¬ (1 : Int) = 2 by decide)]
  exact ⟨rfl, rfl⟩
theorem tagT_two {s : ByteArray} {i : Nat} (h : dgt s.data.toList (i + 1) = 47) : tagT s i = tgT s (rtN s (i + 2)) 2 (rtR s (i + 2)) ∧ tagE s i = tgE s (rtR s (i + 2)) := by
  have hG : tagG s i = i + 2 := by unfold tagG; rw [if_pos h]
  have hZ : tagZ s i = rtZ s (i + 2) := by unfold tagZ; rw [hG]; rfl
  have hR : tagR s i = rtR s (i + 2) := by unfold tagR rtR partsG; rw [hZ]
  have hN : tagN s i = rtN s (i + 2) := by unfold tagN rtN; rw [hG, hZ]
  unfold tagT tagE tgT tgE
  rw [hR, hN, if_pos h, if_pos rfl]
  exact ⟨rfl, rfl⟩
theorem tag5_one (s : ByteArray) (i : Nat) (w : World) (hs : s.size ≤ 100000) (hi : i + 1 < s.size) (h : ¬ dgt s.data.toList (i + 1) = 47) :
    Calls Tryz.prog 15 #[.string s, .int .i64 ((i : Int) + 1), .int .i64 1] w (GotIs w (tagT s i) (tagE s i)) := by
  rw [(tagT_one h).1, (tagT_one h).2]; exact tag5_any s (i + 1) 1 w hs (by omega)
theorem tag5_two (s : ByteArray) (i : Nat) (w : World) (hs : s.size ≤ 100000) (hi : i + 2 ≤ s.size) (h : dgt s.data.toList (i + 1) = 47) :
    Calls Tryz.prog 15 #[.string s, .int .i64 ((i : Int) + 2), .int .i64 2] w (GotIs w (tagT s i) (tagE s i)) := by
  rw [(tagT_two h).1, (tagT_two h).2]; exact tag5_any s (i + 2) 2 w hs (by omega)
theorem odd5_one (s : ByteArray) (i : Nat) (w : World) (hs : s.size ≤ 100000) (hi : i + 1 ≤ s.size) : Calls Tryz.prog 38 #[.string s, .int .i64 ((i : Int) + 1)] w (GotIs w (oddT s (i + 1)) (cutE s (i + 1) [62])) := odd5_any s (i + 1) w hs hi
theorem odd5_two (s : ByteArray) (i : Nat) (w : World) (hs : s.size ≤ 100000) (hi : i + 2 ≤ s.size) : Calls Tryz.prog 38 #[.string s, .int .i64 ((i : Int) + 2)] w (GotIs w (oddT s (i + 2)) (cutE s (i + 2) [62])) := odd5_any s (i + 2) w hs hi
theorem note5_four (s : ByteArray) (i : Nat) (w : World) (hs : s.size ≤ 100000) (hi : i + 4 ≤ s.size) : Calls Tryz.prog 39 #[.string s, .int .i64 ((i : Int) + 4)] w (GotIs w (4, ⟨#[]⟩, [], false, noteX s (i + 4)) (noteE s (i + 4))) := note5_any s (i + 4) w hs hi
theorem letter5_one (s : ByteArray) (i : Nat) (b : Bool) (w : World) (hs : s.size ≤ 100000) (hi : i + 1 < s.size) (h : ltN (dgt s.data.toList (i + 1)) = b) : Calls Tryz.prog 37 #[.string s, .int .i64 ((i : Int) + 1)] w fun e w' => e = .returned (.bool b) ∧ w' = w := by
  have := letter5_any s (i + 1) w hs
  unfold ltP at this
  rw [decide_eq_true hi, Bool.true_and, h] at this; exact this
theorem letter5_two (s : ByteArray) (i : Nat) (b : Bool) (w : World) (hs : s.size ≤ 100000) (hi : i + 2 < s.size) (h : ltN (dgt s.data.toList (i + 2)) = b) : Calls Tryz.prog 37 #[.string s, .int .i64 ((i : Int) + 2)] w fun e w' => e = .returned (.bool b) ∧ w' = w := by
  have := letter5_any s (i + 2) w hs
  unfold ltP at this
  rw [decide_eq_true hi, Bool.true_and, h] at this; exact this
theorem is_lit (s x : ByteArray) (i : Nat) (b : Bool) (w : World) (hs : s.size ≤ 100000) (hx : x.size ≤ 1000) (hx1 : 1 ≤ x.size) (hi : i ≤ 200000) (h : x.data.toList.isPrefixOf (s.data.toList.drop i) = b) : Calls Tryz.prog 29 #[.string s, .int .i64 (i : Int), .string x] w fun e w' => e = .returned (.bool b) ∧ w' = w := by
  have := is_any s x i w hs (by omega) hx1 hi
  rw [h] at this; exact this

set_option maxHeartbeats 4000000 in
set_option maxRecDepth 100000 in
theorem markup5_letter (s : ByteArray) (i : Nat) (cd : Bool) (w : World) (hs : s.size ≤ 100000) (h60 : dgt s.data.toList i = 60) (hi : i + 1 < s.size) (hl : ltN (dgt s.data.toList (i + 1)) = true) :
    Calls Tryz.prog 18 #[.string s, .int .i64 (i : Int), .bool cd] w (GotIs w (markT s i cd) (markE s i cd)) := by
  have i1 : (i : Int) + 1 < (s.size : Int) := by omega
  have hc := ltN_true hl
  have n33 : ¬ dgt s.data.toList (i + 1) = 33 := by omega
  have n63 : ¬ dgt s.data.toList (i + 1) = 63 := by omega
  have n47 : ¬ dgt s.data.toList (i + 1) = 47 := by omega
  have eT : markT s i cd = tagT s i := by unfold markT; rw [if_neg n33, if_neg n63, if_neg (fun x => n47 x.1), if_neg (fun x => n47 x.1)]
  have eE : markE s i cd = tagE s i := by unfold markE; rw [if_neg n33, if_neg n63, if_neg (fun x => n47 x.1), if_neg (fun x => n47 x.1)]
  have CL := hide (fun w => letter5_one s i true w hs hi hl)
  have CT : Hid (∀ w, Calls Tryz.prog 15 #[.string s, .int .i64 ((i : Int) + 1), .int .i64 1] w (GotIs w (markT s i cd) (markE s i cd))) := hide (fun w => by rw [eT, eE]; exact tag5_one s i w hs hi n47)
  clear eT eE n33 n63 n47 hc hl h60
  generalize markT s i cd = T at *
  generalize markE s i cd = E at *
  obtain ⟨tk, tn, ta, tf, tx⟩ := T
  go_enter Tryz.func18, Tryz.ntmps18
  go_wp2_with fail
  refine (unhide CL _).mono ?_
  rintro e1 w1 ⟨rfl, rfl⟩
  go_wp2_with fail
  refine calls_from (fun W => Blk W w.heap.size #[.int .i64 0, .string ⟨#[]⟩, .slice none 0 0, .bool false, .string ⟨#[]⟩, .int .i64 0] 32 ∧ Below w.heap.size w W) ⟨Blk.new w #[.int .i64 0, .string ⟨#[]⟩, .slice none 0 0, .bool false, .string ⟨#[]⟩, .int .i64 0] 32, (Below.refl w.heap.size w).alloc (Nat.le_refl _) (Obj.cells #[.int .i64 0, .string ⟨#[]⟩, .slice none 0 0, .bool false, .string ⟨#[]⟩, .int .i64 0] 32)⟩ ?_
  rintro W ⟨k0, hbw⟩
  refine (unhide CT _).mono ?_
  rintro eT W4 ⟨q, cap, rfl, hsl, hbT⟩
  have hsl2 := hide (hsl.mono (b' := w.heap.size + 1) k0.lt)
  clear hsl
  replace k0 := k0.later hbT
  replace hbw := tr2 hbw hbT
  clear hbT
  have x0 : W4.cell? ⟨w.heap.size, 0, none⟩ = some (.int .i64 0) := (k0).cell 0
  have x1 : W4.cell? ⟨w.heap.size, 1, none⟩ = some (.string ⟨#[]⟩) := (k0).cell 1
  have x2 : W4.cell? ⟨w.heap.size, 2, none⟩ = some (.slice none 0 0) := (k0).cell 2
  have x3 : W4.cell? ⟨w.heap.size, 3, none⟩ = some (.bool false) := (k0).cell 3
  have x4 : W4.cell? ⟨w.heap.size, 4, none⟩ = some (.string ⟨#[]⟩) := (k0).cell 4
  have x5 : W4.cell? ⟨w.heap.size, 5, none⟩ = some (.int .i64 0) := (k0).cell 5
  have xf0 : W4.frozen? ⟨w.heap.size, 0, none⟩ = false := (k0).frozen 0
  have xf1 : W4.frozen? ⟨w.heap.size, 1, none⟩ = false := (k0).frozen 1
  have xf2 : W4.frozen? ⟨w.heap.size, 2, none⟩ = false := (k0).frozen 2
  have xf3 : W4.frozen? ⟨w.heap.size, 3, none⟩ = false := (k0).frozen 3
  have xf4 : W4.frozen? ⟨w.heap.size, 4, none⟩ = false := (k0).frozen 4
  have xf5 : W4.frozen? ⟨w.heap.size, 5, none⟩ = false := (k0).frozen 5
  have K1 := hide k0
  clear k0
  go_wp2
  have kk := ((((((unhide K1).set 0 (by simp) (.int .i64 tk)).set 1 (by simp) (.string tn)).set 2 (by simp) (.slice q ta.length cap)).set 3 (by simp) (.bool tf)).set 4 (by simp) (.string tx)).set 5 (by simp) (.int .i64 (E : Int))
  have d0 := kk.cell 0
  have d1 := kk.cell 1
  have d2 := kk.cell 2
  have d3 := kk.cell 3
  have d4 := kk.cell 4
  have d5 := kk.cell 5
  exact bodyPost_ret (v := .agg #[.int .i64 tk, .string tn, .slice q ta.length cap, .bool tf, .string tx, .int .i64 (E : Int)]) (by simp [results, Tryz.results18, go_sem, d0, d1, d2, d3, d4, d5]) rfl ⟨q, cap, rfl, (((((((unhide hsl2).away (Nat.lt_succ_self _) _).away (Nat.lt_succ_self _) _).away (Nat.lt_succ_self _) _).away (Nat.lt_succ_self _) _).away (Nat.lt_succ_self _) _).away (Nat.lt_succ_self _) _).mono (by omega), (((((hbw.setCell (by simp) _).setCell (by simp) _).setCell (by simp) _).setCell (by simp) _).setCell (by simp) _).setCell (by simp) _⟩

set_option maxHeartbeats 4000000 in
set_option maxRecDepth 100000 in
theorem markup5_shut (s : ByteArray) (i : Nat) (cd : Bool) (w : World) (hs : s.size ≤ 100000) (h60 : dgt s.data.toList i = 60) (hi : i + 1 < s.size) (hc : dgt s.data.toList (i + 1) = 47) (hi2 : i + 2 < s.size) (hd : dgt s.data.toList (i + 2) = 62) :
    Calls Tryz.prog 18 #[.string s, .int .i64 (i : Int), .bool cd] w (GotIs w (markT s i cd) (markE s i cd)) := by
  have i1 : (i : Int) + 1 < (s.size : Int) := by omega
  have h3 : 47 = (47 : UInt8).toNat := rfl
  have n33 : ¬ dgt s.data.toList (i + 1) = 33 := by omega
  have n63 : ¬ dgt s.data.toList (i + 1) = 63 := by omega
  have CL := hide (fun w => letter5_one s i false w hs hi (by rw [hc]; rfl))
  have eT : markT s i cd = noT := by unfold markT; rw [if_neg n33, if_neg n63, if_pos ⟨hc, hd⟩]
  have eE : markE s i cd = i + 3 := by unfold markE; rw [if_neg n33, if_neg n63, if_pos ⟨hc, hd⟩]
  have C1 := hide (fun w => is_lit s ⟨#[60, 47, 62]⟩ i true w hs (by decide) (by decide) (by omega) (by rw [show (ByteArray.mk #[60, 47, 62]).data.toList = [60, 47, 62] from rfl, pre_lt h60 hi, pre_yes (c := 47) hi hc, pre_one, decide_eq_true ⟨hi2, hd⟩]))
  rw [eT, eE]
  unfold noT
  have i2 : (i : Int) + 2 < (s.size : Int) := by omega
  clear eT eE n33 n63 hc hd h60 h3
  go_enter Tryz.func18, Tryz.ntmps18
  go_wp2_with fail
  refine (unhide CL _).mono ?_
  rintro e1 w1 ⟨rfl, rfl⟩
  go_wp2_with fail
  refine (unhide C1 _).mono ?_
  rintro e1 w2 ⟨rfl, rfl⟩
  go_wp2
  have k1 := (Blk.new w #[.int .i64 0, .string ⟨#[]⟩, .slice none 0 0, .bool false, .string ⟨#[]⟩, .int .i64 ((i : Int) + 3)] 32)
  have d0 := k1.cell 0
  have d1 := k1.cell 1
  have d2 := k1.cell 2
  have d3 := k1.cell 3
  have d4 := k1.cell 4
  have d5 := k1.cell 5
  exact bodyPost_ret (v := .agg #[.int .i64 0, .string ⟨#[]⟩, .slice none 0 0, .bool false, .string ⟨#[]⟩, .int .i64 ((i : Int) + 3)]) (by simp [results, Tryz.results18, go_sem, d0, d1, d2, d3, d4, d5]) rfl ⟨none, 0, rfl, slN_nil _ _ _, (Below.refl _ _).alloc (Nat.le_refl _) _⟩

set_option maxHeartbeats 4000000 in
set_option maxRecDepth 100000 in
theorem markup5_end (s : ByteArray) (i : Nat) (cd : Bool) (w : World) (hs : s.size ≤ 100000) (h60 : dgt s.data.toList i = 60) (hi : i + 1 < s.size) (hc : dgt s.data.toList (i + 1) = 47) (hi2 : i + 2 < s.size) (hd : ¬ dgt s.data.toList (i + 2) = 62) (hl : ltN (dgt s.data.toList (i + 2)) = true) :
    Calls Tryz.prog 18 #[.string s, .int .i64 (i : Int), .bool cd] w (GotIs w (markT s i cd) (markE s i cd)) := by
  have i1 : (i : Int) + 1 < (s.size : Int) := by omega
  have h3 : 47 = (47 : UInt8).toNat := rfl
  have n33 : ¬ dgt s.data.toList (i + 1) = 33 := by omega
  have n63 : ¬ dgt s.data.toList (i + 1) = 63 := by omega
  have CL := hide (fun w => letter5_one s i false w hs hi (by rw [hc]; rfl))
  have hg : ¬ (dgt s.data.toList (i + 1) = 47 ∧ dgt s.data.toList (i + 2) = 62) := fun x => hd x.2
  have eT : markT s i cd = tagT s i := by unfold markT; rw [if_neg n33, if_neg n63, if_neg hg, if_neg (fun x => by rw [hl] at x; exact absurd x.2 (by decide))]
  have eE : markE s i cd = tagE s i := by unfold markE; rw [if_neg n33, if_neg n63, if_neg hg, if_neg (fun x => by rw [hl] at x; exact absurd x.2 (by decide))]
  have C1 := hide (fun w => is_lit s ⟨#[60, 47, 62]⟩ i false w hs (by decide) (by decide) (by omega) (by rw [show (ByteArray.mk #[60, 47, 62]).data.toList = [60, 47, 62] from rfl, pre_lt h60 hi, pre_yes (c := 47) hi hc, pre_one, decide_eq_false (fun x => hd x.2)]))
  have C2 := hide (fun w => is_lit s ⟨#[60, 47]⟩ i true w hs (by decide) (by decide) (by omega) (by rw [show (ByteArray.mk #[60, 47]).data.toList = [60, 47] from rfl, pre_lt h60 hi, pre_one, decide_eq_true ⟨hi, hc⟩]))
  have CM := hide (fun w => letter5_two s i true w hs hi2 hl)
  have CT : Hid (∀ w, Calls Tryz.prog 15 #[.string s, .int .i64 ((i : Int) + 2), .int .i64 2] w (GotIs w (markT s i cd) (markE s i cd))) := hide (fun w => by rw [eT, eE]; exact tag5_two s i w hs (by omega) hc)
  have i2 : (i : Int) + 2 < (s.size : Int) := by omega
  clear eT eE n33 n63 hc hd h60 h3 hg hl
  generalize markT s i cd = T at *
  generalize markE s i cd = E at *
  obtain ⟨tk, tn, ta, tf, tx⟩ := T
  go_enter Tryz.func18, Tryz.ntmps18
  go_wp2_with fail
  refine (unhide CL _).mono ?_
  rintro e1 w1 ⟨rfl, rfl⟩
  go_wp2_with fail
  refine (unhide C1 _).mono ?_
  rintro e1 w2 ⟨rfl, rfl⟩
  go_wp2_with fail
  refine (unhide C2 _).mono ?_
  rintro e1 w3 ⟨rfl, rfl⟩
  go_wp2_with fail
  refine (unhide CM _).mono ?_
  rintro e1 w4 ⟨rfl, rfl⟩
  go_wp2_with fail
  refine calls_from (fun W => Blk W w.heap.size #[.int .i64 0, .string ⟨#[]⟩, .slice none 0 0, .bool false, .string ⟨#[]⟩, .int .i64 0] 32 ∧ Below w.heap.size w W) ⟨Blk.new w #[.int .i64 0, .string ⟨#[]⟩, .slice none 0 0, .bool false, .string ⟨#[]⟩, .int .i64 0] 32, (Below.refl w.heap.size w).alloc (Nat.le_refl _) (Obj.cells #[.int .i64 0, .string ⟨#[]⟩, .slice none 0 0, .bool false, .string ⟨#[]⟩, .int .i64 0] 32)⟩ ?_
  rintro W ⟨k0, hbw⟩
  refine (unhide CT _).mono ?_
  rintro eT W4 ⟨q, cap, rfl, hsl, hbT⟩
  have hsl2 := hide (hsl.mono (b' := w.heap.size + 1) k0.lt)
  clear hsl
  replace k0 := k0.later hbT
  replace hbw := tr2 hbw hbT
  clear hbT
  have x0 : W4.cell? ⟨w.heap.size, 0, none⟩ = some (.int .i64 0) := (k0).cell 0
  have x1 : W4.cell? ⟨w.heap.size, 1, none⟩ = some (.string ⟨#[]⟩) := (k0).cell 1
  have x2 : W4.cell? ⟨w.heap.size, 2, none⟩ = some (.slice none 0 0) := (k0).cell 2
  have x3 : W4.cell? ⟨w.heap.size, 3, none⟩ = some (.bool false) := (k0).cell 3
  have x4 : W4.cell? ⟨w.heap.size, 4, none⟩ = some (.string ⟨#[]⟩) := (k0).cell 4
  have x5 : W4.cell? ⟨w.heap.size, 5, none⟩ = some (.int .i64 0) := (k0).cell 5
  have xf0 : W4.frozen? ⟨w.heap.size, 0, none⟩ = false := (k0).frozen 0
  have xf1 : W4.frozen? ⟨w.heap.size, 1, none⟩ = false := (k0).frozen 1
  have xf2 : W4.frozen? ⟨w.heap.size, 2, none⟩ = false := (k0).frozen 2
  have xf3 : W4.frozen? ⟨w.heap.size, 3, none⟩ = false := (k0).frozen 3
  have xf4 : W4.frozen? ⟨w.heap.size, 4, none⟩ = false := (k0).frozen 4
  have xf5 : W4.frozen? ⟨w.heap.size, 5, none⟩ = false := (k0).frozen 5
  have K1 := hide k0
  clear k0
  go_wp2
  have kk := ((((((unhide K1).set 0 (by simp) (.int .i64 tk)).set 1 (by simp) (.string tn)).set 2 (by simp) (.slice q ta.length cap)).set 3 (by simp) (.bool tf)).set 4 (by simp) (.string tx)).set 5 (by simp) (.int .i64 (E : Int))
  have d0 := kk.cell 0
  have d1 := kk.cell 1
  have d2 := kk.cell 2
  have d3 := kk.cell 3
  have d4 := kk.cell 4
  have d5 := kk.cell 5
  exact bodyPost_ret (v := .agg #[.int .i64 tk, .string tn, .slice q ta.length cap, .bool tf, .string tx, .int .i64 (E : Int)]) (by simp [results, Tryz.results18, go_sem, d0, d1, d2, d3, d4, d5]) rfl ⟨q, cap, rfl, (((((((unhide hsl2).away (Nat.lt_succ_self _) _).away (Nat.lt_succ_self _) _).away (Nat.lt_succ_self _) _).away (Nat.lt_succ_self _) _).away (Nat.lt_succ_self _) _).away (Nat.lt_succ_self _) _).mono (by omega), (((((hbw.setCell (by simp) _).setCell (by simp) _).setCell (by simp) _).setCell (by simp) _).setCell (by simp) _).setCell (by simp) _⟩

set_option maxHeartbeats 4000000 in
set_option maxRecDepth 100000 in
theorem markup5_oddslash (s : ByteArray) (i : Nat) (cd : Bool) (w : World) (hs : s.size ≤ 100000) (h60 : dgt s.data.toList i = 60) (hi : i + 1 < s.size) (hc : dgt s.data.toList (i + 1) = 47) (hi2 : i + 2 < s.size) (hd : ¬ dgt s.data.toList (i + 2) = 62) (hl : ltN (dgt s.data.toList (i + 2)) = false) :
    Calls Tryz.prog 18 #[.string s, .int .i64 (i : Int), .bool cd] w (GotIs w (markT s i cd) (markE s i cd)) := by
  have i1 : (i : Int) + 1 < (s.size : Int) := by omega
  have h3 : 47 = (47 : UInt8).toNat := rfl
  have n33 : ¬ dgt s.data.toList (i + 1) = 33 := by omega
  have n63 : ¬ dgt s.data.toList (i + 1) = 63 := by omega
  have CL := hide (fun w => letter5_one s i false w hs hi (by rw [hc]; rfl))
  have hg : ¬ (dgt s.data.toList (i + 1) = 47 ∧ dgt s.data.toList (i + 2) = 62) := fun x => hd x.2
  have eT : markT s i cd = oddT s (i + 2) := by unfold markT; rw [if_neg n33, if_neg n63, if_neg hg, if_pos ⟨hc, hl⟩]
  have eE : markE s i cd = cutE s (i + 2) [62] := by unfold markE; rw [if_neg n33, if_neg n63, if_neg hg, if_pos ⟨hc, hl⟩]
  have C1 := hide (fun w => is_lit s ⟨#[60, 47, 62]⟩ i false w hs (by decide) (by decide) (by omega) (by rw [show (ByteArray.mk #[60, 47, 62]).data.toList = [60, 47, 62] from rfl, pre_lt h60 hi, pre_yes (c := 47) hi hc, pre_one, decide_eq_false (fun x => hd x.2)]))
  have C2 := hide (fun w => is_lit s ⟨#[60, 47]⟩ i true w hs (by decide) (by decide) (by omega) (by rw [show (ByteArray.mk #[60, 47]).data.toList = [60, 47] from rfl, pre_lt h60 hi, pre_one, decide_eq_true ⟨hi, hc⟩]))
  have CM := hide (fun w => letter5_two s i false w hs hi2 hl)
  have CT : Hid (∀ w, Calls Tryz.prog 38 #[.string s, .int .i64 ((i : Int) + 2)] w (GotIs w (markT s i cd) (markE s i cd))) := hide (fun w => by rw [eT, eE]; exact odd5_two s i w hs (by omega))
  have i2 : (i : Int) + 2 < (s.size : Int) := by omega
  clear eT eE n33 n63 hc hd h60 h3 hg hl
  generalize markT s i cd = T at *
  generalize markE s i cd = E at *
  obtain ⟨tk, tn, ta, tf, tx⟩ := T
  go_enter Tryz.func18, Tryz.ntmps18
  go_wp2_with fail
  refine (unhide CL _).mono ?_
  rintro e1 w1 ⟨rfl, rfl⟩
  go_wp2_with fail
  refine (unhide C1 _).mono ?_
  rintro e1 w2 ⟨rfl, rfl⟩
  go_wp2_with fail
  refine (unhide C2 _).mono ?_
  rintro e1 w3 ⟨rfl, rfl⟩
  go_wp2_with fail
  refine (unhide CM _).mono ?_
  rintro e1 w4 ⟨rfl, rfl⟩
  go_wp2_with fail
  refine (unhide C2 _).mono ?_
  rintro e1 w5 ⟨rfl, rfl⟩
  go_wp2_with fail
  refine calls_from (fun W => Blk W w.heap.size #[.int .i64 0, .string ⟨#[]⟩, .slice none 0 0, .bool false, .string ⟨#[]⟩, .int .i64 0] 32 ∧ Below w.heap.size w W) ⟨Blk.new w #[.int .i64 0, .string ⟨#[]⟩, .slice none 0 0, .bool false, .string ⟨#[]⟩, .int .i64 0] 32, (Below.refl w.heap.size w).alloc (Nat.le_refl _) (Obj.cells #[.int .i64 0, .string ⟨#[]⟩, .slice none 0 0, .bool false, .string ⟨#[]⟩, .int .i64 0] 32)⟩ ?_
  rintro W ⟨k0, hbw⟩
  refine (unhide CT _).mono ?_
  rintro eT W4 ⟨q, cap, rfl, hsl, hbT⟩
  have hsl2 := hide (hsl.mono (b' := w.heap.size + 1) k0.lt)
  clear hsl
  replace k0 := k0.later hbT
  replace hbw := tr2 hbw hbT
  clear hbT
  have x0 : W4.cell? ⟨w.heap.size, 0, none⟩ = some (.int .i64 0) := (k0).cell 0
  have x1 : W4.cell? ⟨w.heap.size, 1, none⟩ = some (.string ⟨#[]⟩) := (k0).cell 1
  have x2 : W4.cell? ⟨w.heap.size, 2, none⟩ = some (.slice none 0 0) := (k0).cell 2
  have x3 : W4.cell? ⟨w.heap.size, 3, none⟩ = some (.bool false) := (k0).cell 3
  have x4 : W4.cell? ⟨w.heap.size, 4, none⟩ = some (.string ⟨#[]⟩) := (k0).cell 4
  have x5 : W4.cell? ⟨w.heap.size, 5, none⟩ = some (.int .i64 0) := (k0).cell 5
  have xf0 : W4.frozen? ⟨w.heap.size, 0, none⟩ = false := (k0).frozen 0
  have xf1 : W4.frozen? ⟨w.heap.size, 1, none⟩ = false := (k0).frozen 1
  have xf2 : W4.frozen? ⟨w.heap.size, 2, none⟩ = false := (k0).frozen 2
  have xf3 : W4.frozen? ⟨w.heap.size, 3, none⟩ = false := (k0).frozen 3
  have xf4 : W4.frozen? ⟨w.heap.size, 4, none⟩ = false := (k0).frozen 4
  have xf5 : W4.frozen? ⟨w.heap.size, 5, none⟩ = false := (k0).frozen 5
  have K1 := hide k0
  clear k0
  go_wp2
  have kk := ((((((unhide K1).set 0 (by simp) (.int .i64 tk)).set 1 (by simp) (.string tn)).set 2 (by simp) (.slice q ta.length cap)).set 3 (by simp) (.bool tf)).set 4 (by simp) (.string tx)).set 5 (by simp) (.int .i64 (E : Int))
  have d0 := kk.cell 0
  have d1 := kk.cell 1
  have d2 := kk.cell 2
  have d3 := kk.cell 3
  have d4 := kk.cell 4
  have d5 := kk.cell 5
  exact bodyPost_ret (v := .agg #[.int .i64 tk, .string tn, .slice q ta.length cap, .bool tf, .string tx, .int .i64 (E : Int)]) (by simp [results, Tryz.results18, go_sem, d0, d1, d2, d3, d4, d5]) rfl ⟨q, cap, rfl, (((((((unhide hsl2).away (Nat.lt_succ_self _) _).away (Nat.lt_succ_self _) _).away (Nat.lt_succ_self _) _).away (Nat.lt_succ_self _) _).away (Nat.lt_succ_self _) _).away (Nat.lt_succ_self _) _).mono (by omega), (((((hbw.setCell (by simp) _).setCell (by simp) _).setCell (by simp) _).setCell (by simp) _).setCell (by simp) _).setCell (by simp) _⟩

set_option maxHeartbeats 4000000 in
set_option maxRecDepth 100000 in
theorem markup5_pi (s : ByteArray) (i : Nat) (cd : Bool) (w : World) (hs : s.size ≤ 100000) (h60 : dgt s.data.toList i = 60) (hi : i + 1 < s.size) (hc : dgt s.data.toList (i + 1) = 63) :
    Calls Tryz.prog 18 #[.string s, .int .i64 (i : Int), .bool cd] w (GotIs w (markT s i cd) (markE s i cd)) := by
  have i1 : (i : Int) + 1 < (s.size : Int) := by omega
  have n33 : ¬ dgt s.data.toList (i + 1) = 33 := by omega
  have eT : markT s i cd = oddT s (i + 1) := by unfold markT; rw [if_neg n33, if_pos hc]
  have eE : markE s i cd = cutE s (i + 1) [62] := by unfold markE; rw [if_neg n33, if_pos hc]
  have CL := hide (fun w => letter5_one s i false w hs hi (by rw [hc]; rfl))
  have C1 := hide (fun w => is_lit s ⟨#[60, 47, 62]⟩ i false w hs (by decide) (by decide) (by omega) (by rw [show (ByteArray.mk #[60, 47, 62]).data.toList = [60, 47, 62] from rfl, pre_lt h60 hi, pre_not (by rw [hc]; decide)]))
  have C2 := hide (fun w => is_lit s ⟨#[60, 47]⟩ i false w hs (by decide) (by decide) (by omega) (by rw [show (ByteArray.mk #[60, 47]).data.toList = [60, 47] from rfl, pre_lt h60 hi, pre_not (by rw [hc]; decide)]))
  have C3 := hide (fun w => is_lit s ⟨#[60, 63]⟩ i true w hs (by decide) (by decide) (by omega) (by rw [show (ByteArray.mk #[60, 63]).data.toList = [60, 63] from rfl, pre_lt h60 hi, pre_one, decide_eq_true ⟨hi, hc⟩]))
  have CT : Hid (∀ w, Calls Tryz.prog 38 #[.string s, .int .i64 ((i : Int) + 1)] w (GotIs w (markT s i cd) (markE s i cd))) := hide (fun w => by rw [eT, eE]; exact odd5_one s i w hs (by omega))
  clear eT eE n33 hc h60
  generalize markT s i cd = T at *
  generalize markE s i cd = E at *
  obtain ⟨tk, tn, ta, tf, tx⟩ := T
  go_enter Tryz.func18, Tryz.ntmps18
  go_wp2_with fail
  refine (unhide CL _).mono ?_
  rintro e1 w1 ⟨rfl, rfl⟩
  go_wp2_with fail
  refine (unhide C1 _).mono ?_
  rintro e1 w2 ⟨rfl, rfl⟩
  go_wp2_with fail
  refine (unhide C2 _).mono ?_
  rintro e1 w3 ⟨rfl, rfl⟩
  go_wp2_with fail
  refine (unhide C2 _).mono ?_
  rintro e1 w4 ⟨rfl, rfl⟩
  go_wp2_with fail
  refine (unhide C3 _).mono ?_
  rintro e1 w5 ⟨rfl, rfl⟩
  go_wp2_with fail
  refine calls_from (fun W => Blk W w.heap.size #[.int .i64 0, .string ⟨#[]⟩, .slice none 0 0, .bool false, .string ⟨#[]⟩, .int .i64 0] 32 ∧ Below w.heap.size w W) ⟨Blk.new w #[.int .i64 0, .string ⟨#[]⟩, .slice none 0 0, .bool false, .string ⟨#[]⟩, .int .i64 0] 32, (Below.refl w.heap.size w).alloc (Nat.le_refl _) (Obj.cells #[.int .i64 0, .string ⟨#[]⟩, .slice none 0 0, .bool false, .string ⟨#[]⟩, .int .i64 0] 32)⟩ ?_
  rintro W ⟨k0, hbw⟩
  refine (unhide CT _).mono ?_
  rintro eT W4 ⟨q, cap, rfl, hsl, hbT⟩
  have hsl2 := hide (hsl.mono (b' := w.heap.size + 1) k0.lt)
  clear hsl
  replace k0 := k0.later hbT
  replace hbw := tr2 hbw hbT
  clear hbT
  have x0 : W4.cell? ⟨w.heap.size, 0, none⟩ = some (.int .i64 0) := (k0).cell 0
  have x1 : W4.cell? ⟨w.heap.size, 1, none⟩ = some (.string ⟨#[]⟩) := (k0).cell 1
  have x2 : W4.cell? ⟨w.heap.size, 2, none⟩ = some (.slice none 0 0) := (k0).cell 2
  have x3 : W4.cell? ⟨w.heap.size, 3, none⟩ = some (.bool false) := (k0).cell 3
  have x4 : W4.cell? ⟨w.heap.size, 4, none⟩ = some (.string ⟨#[]⟩) := (k0).cell 4
  have x5 : W4.cell? ⟨w.heap.size, 5, none⟩ = some (.int .i64 0) := (k0).cell 5
  have xf0 : W4.frozen? ⟨w.heap.size, 0, none⟩ = false := (k0).frozen 0
  have xf1 : W4.frozen? ⟨w.heap.size, 1, none⟩ = false := (k0).frozen 1
  have xf2 : W4.frozen? ⟨w.heap.size, 2, none⟩ = false := (k0).frozen 2
  have xf3 : W4.frozen? ⟨w.heap.size, 3, none⟩ = false := (k0).frozen 3
  have xf4 : W4.frozen? ⟨w.heap.size, 4, none⟩ = false := (k0).frozen 4
  have xf5 : W4.frozen? ⟨w.heap.size, 5, none⟩ = false := (k0).frozen 5
  have K1 := hide k0
  clear k0
  go_wp2
  have kk := ((((((unhide K1).set 0 (by simp) (.int .i64 tk)).set 1 (by simp) (.string tn)).set 2 (by simp) (.slice q ta.length cap)).set 3 (by simp) (.bool tf)).set 4 (by simp) (.string tx)).set 5 (by simp) (.int .i64 (E : Int))
  have d0 := kk.cell 0
  have d1 := kk.cell 1
  have d2 := kk.cell 2
  have d3 := kk.cell 3
  have d4 := kk.cell 4
  have d5 := kk.cell 5
  exact bodyPost_ret (v := .agg #[.int .i64 tk, .string tn, .slice q ta.length cap, .bool tf, .string tx, .int .i64 (E : Int)]) (by simp [results, Tryz.results18, go_sem, d0, d1, d2, d3, d4, d5]) rfl ⟨q, cap, rfl, (((((((unhide hsl2).away (Nat.lt_succ_self _) _).away (Nat.lt_succ_self _) _).away (Nat.lt_succ_self _) _).away (Nat.lt_succ_self _) _).away (Nat.lt_succ_self _) _).away (Nat.lt_succ_self _) _).mono (by omega), (((((hbw.setCell (by simp) _).setCell (by simp) _).setCell (by simp) _).setCell (by simp) _).setCell (by simp) _).setCell (by simp) _⟩

set_option maxHeartbeats 4000000 in
set_option maxRecDepth 100000 in
theorem markup5_note (s : ByteArray) (i : Nat) (cd : Bool) (w : World) (hs : s.size ≤ 100000) (h60 : dgt s.data.toList i = 60) (hi : i + 1 < s.size) (hc : dgt s.data.toList (i + 1) = 33) (h1 : notB s i = true) :
    Calls Tryz.prog 18 #[.string s, .int .i64 (i : Int), .bool cd] w (GotIs w (markT s i cd) (markE s i cd)) := by
  have i1 : (i : Int) + 1 < (s.size : Int) := by omega
  have eT : markT s i cd = (declK s i cd, ⟨#[]⟩, [], false, declX s i cd) := by unfold markT; rw [if_pos hc]
  have eE : markE s i cd = declE s i cd := by unfold markE; rw [if_pos hc]
  have CL := hide (fun w => letter5_one s i false w hs hi (by rw [hc]; rfl))
  have C1 := hide (fun w => is_lit s ⟨#[60, 47, 62]⟩ i false w hs (by decide) (by decide) (by omega) (by rw [show (ByteArray.mk #[60, 47, 62]).data.toList = [60, 47, 62] from rfl, pre_lt h60 hi, pre_not (by rw [hc]; decide)]))
  have C2 := hide (fun w => is_lit s ⟨#[60, 47]⟩ i false w hs (by decide) (by decide) (by omega) (by rw [show (ByteArray.mk #[60, 47]).data.toList = [60, 47] from rfl, pre_lt h60 hi, pre_not (by rw [hc]; decide)]))
  have C3 := hide (fun w => is_lit s ⟨#[60, 63]⟩ i false w hs (by decide) (by decide) (by omega) (by rw [show (ByteArray.mk #[60, 63]).data.toList = [60, 63] from rfl, pre_lt h60 hi, pre_not (by rw [hc]; decide)]))
  have eK : declK s i cd = 4 := by unfold declK; rw [if_pos h1]
  have eX : declX s i cd = noteX s (i + 4) := by unfold declX; rw [if_pos h1]
  have eF : declE s i cd = noteE s (i + 4) := by unfold declE; rw [if_pos h1]
  have hr : i + 4 ≤ s.size := by
    have := pre_room h1
    rw [List.length_drop, data_len] at this
    have h4 : ([60, 33, 45, 45] : List UInt8).length = 4 := rfl
    omega
  have C4 := hide (fun w => is_lit s ⟨#[60, 33, 45, 45]⟩ i true w hs (by decide) (by decide) (by omega) (h1))
  have CT : Hid (∀ w, Calls Tryz.prog 39 #[.string s, .int .i64 ((i : Int) + 4)] w (GotIs w (markT s i cd) (markE s i cd))) := hide (fun w => by rw [eT, eE, eK, eX, eF]; exact note5_four s i w hs hr)
  have i4 : (i : Int) + 4 ≤ (s.size : Int) := by omega
  clear eT eE eK eX eF hc h60 h1
  generalize markT s i cd = T at *
  generalize markE s i cd = E at *
  obtain ⟨tk, tn, ta, tf, tx⟩ := T
  go_enter Tryz.func18, Tryz.ntmps18
  go_wp2_with fail
  refine (unhide CL _).mono ?_
  rintro e1 w1 ⟨rfl, rfl⟩
  go_wp2_with fail
  refine (unhide C1 _).mono ?_
  rintro e1 w2 ⟨rfl, rfl⟩
  go_wp2_with fail
  refine (unhide C2 _).mono ?_
  rintro e1 w3 ⟨rfl, rfl⟩
  go_wp2_with fail
  refine (unhide C2 _).mono ?_
  rintro e1 w4 ⟨rfl, rfl⟩
  go_wp2_with fail
  refine (unhide C3 _).mono ?_
  rintro e1 w5 ⟨rfl, rfl⟩
  go_wp2_with fail
  refine (unhide C4 _).mono ?_
  rintro e1 w6 ⟨rfl, rfl⟩
  go_wp2_with fail
  refine calls_from (fun W => Blk W w.heap.size #[.int .i64 0, .string ⟨#[]⟩, .slice none 0 0, .bool false, .string ⟨#[]⟩, .int .i64 0] 32 ∧ Below w.heap.size w W) ⟨Blk.new w #[.int .i64 0, .string ⟨#[]⟩, .slice none 0 0, .bool false, .string ⟨#[]⟩, .int .i64 0] 32, (Below.refl w.heap.size w).alloc (Nat.le_refl _) (Obj.cells #[.int .i64 0, .string ⟨#[]⟩, .slice none 0 0, .bool false, .string ⟨#[]⟩, .int .i64 0] 32)⟩ ?_
  rintro W ⟨k0, hbw⟩
  refine (unhide CT _).mono ?_
  rintro eT W4 ⟨q, cap, rfl, hsl, hbT⟩
  have hsl2 := hide (hsl.mono (b' := w.heap.size + 1) k0.lt)
  clear hsl
  replace k0 := k0.later hbT
  replace hbw := tr2 hbw hbT
  clear hbT
  have x0 : W4.cell? ⟨w.heap.size, 0, none⟩ = some (.int .i64 0) := (k0).cell 0
  have x1 : W4.cell? ⟨w.heap.size, 1, none⟩ = some (.string ⟨#[]⟩) := (k0).cell 1
  have x2 : W4.cell? ⟨w.heap.size, 2, none⟩ = some (.slice none 0 0) := (k0).cell 2
  have x3 : W4.cell? ⟨w.heap.size, 3, none⟩ = some (.bool false) := (k0).cell 3
  have x4 : W4.cell? ⟨w.heap.size, 4, none⟩ = some (.string ⟨#[]⟩) := (k0).cell 4
  have x5 : W4.cell? ⟨w.heap.size, 5, none⟩ = some (.int .i64 0) := (k0).cell 5
  have xf0 : W4.frozen? ⟨w.heap.size, 0, none⟩ = false := (k0).frozen 0
  have xf1 : W4.frozen? ⟨w.heap.size, 1, none⟩ = false := (k0).frozen 1
  have xf2 : W4.frozen? ⟨w.heap.size, 2, none⟩ = false := (k0).frozen 2
  have xf3 : W4.frozen? ⟨w.heap.size, 3, none⟩ = false := (k0).frozen 3
  have xf4 : W4.frozen? ⟨w.heap.size, 4, none⟩ = false := (k0).frozen 4
  have xf5 : W4.frozen? ⟨w.heap.size, 5, none⟩ = false := (k0).frozen 5
  have K1 := hide k0
  clear k0
  go_wp2
  have kk := ((((((unhide K1).set 0 (by simp) (.int .i64 tk)).set 1 (by simp) (.string tn)).set 2 (by simp) (.slice q ta.length cap)).set 3 (by simp) (.bool tf)).set 4 (by simp) (.string tx)).set 5 (by simp) (.int .i64 (E : Int))
  have d0 := kk.cell 0
  have d1 := kk.cell 1
  have d2 := kk.cell 2
  have d3 := kk.cell 3
  have d4 := kk.cell 4
  have d5 := kk.cell 5
  exact bodyPost_ret (v := .agg #[.int .i64 tk, .string tn, .slice q ta.length cap, .bool tf, .string tx, .int .i64 (E : Int)]) (by simp [results, Tryz.results18, go_sem, d0, d1, d2, d3, d4, d5]) rfl ⟨q, cap, rfl, (((((((unhide hsl2).away (Nat.lt_succ_self _) _).away (Nat.lt_succ_self _) _).away (Nat.lt_succ_self _) _).away (Nat.lt_succ_self _) _).away (Nat.lt_succ_self _) _).away (Nat.lt_succ_self _) _).mono (by omega), (((((hbw.setCell (by simp) _).setCell (by simp) _).setCell (by simp) _).setCell (by simp) _).setCell (by simp) _).setCell (by simp) _⟩

set_option maxHeartbeats 4000000 in
set_option maxRecDepth 100000 in
theorem markup5_doc (s : ByteArray) (i : Nat) (cd : Bool) (w : World) (hs : s.size ≤ 100000) (h60 : dgt s.data.toList i = 60) (hi : i + 1 < s.size) (hc : dgt s.data.toList (i + 1) = 33) (h1 : notB s i = false) (h2 : docB (s.data.toList.drop (i + 2)) = true) :
    Calls Tryz.prog 18 #[.string s, .int .i64 (i : Int), .bool cd] w (GotIs w (markT s i cd) (markE s i cd)) := by
  have i1 : (i : Int) + 1 < (s.size : Int) := by omega
  have eT : markT s i cd = (declK s i cd, ⟨#[]⟩, [], false, declX s i cd) := by unfold markT; rw [if_pos hc]
  have eE : markE s i cd = declE s i cd := by unfold markE; rw [if_pos hc]
  have CL := hide (fun w => letter5_one s i false w hs hi (by rw [hc]; rfl))
  have C1 := hide (fun w => is_lit s ⟨#[60, 47, 62]⟩ i false w hs (by decide) (by decide) (by omega) (by rw [show (ByteArray.mk #[60, 47, 62]).data.toList = [60, 47, 62] from rfl, pre_lt h60 hi, pre_not (by rw [hc]; decide)]))
  have C2 := hide (fun w => is_lit s ⟨#[60, 47]⟩ i false w hs (by decide) (by decide) (by omega) (by rw [show (ByteArray.mk #[60, 47]).data.toList = [60, 47] from rfl, pre_lt h60 hi, pre_not (by rw [hc]; decide)]))
  have C3 := hide (fun w => is_lit s ⟨#[60, 63]⟩ i false w hs (by decide) (by decide) (by omega) (by rw [show (ByteArray.mk #[60, 63]).data.toList = [60, 63] from rfl, pre_lt h60 hi, pre_not (by rw [hc]; decide)]))
  have n1 : ¬ notB s i = true := by rw [h1]; decide
  have C4 := hide (fun w => is_lit s ⟨#[60, 33, 45, 45]⟩ i false w hs (by decide) (by decide) (by omega) (h1))
  have eK : declK s i cd = 5 := by unfold declK; rw [if_neg n1, if_pos h2]
  have eX : declX s i cd = ⟨#[]⟩ := by unfold declX; rw [if_neg n1, if_pos h2]
  have eF : declE s i cd = cutE s i [62] := by unfold declE; rw [if_neg n1, if_pos h2]
  have h9 : 7 ≤ (s.data.toList.drop (i + 2)).length := by
    unfold docB at h2; rw [Bool.and_eq_true] at h2; exact of_decide_eq_true h2.1
  rw [List.length_drop, data_len] at h9
  have CO : Hid (∀ w, Calls Tryz.prog 30 #[.string (s.extract (i + 2) (i + 9))] w fun e w' => e = .returned (.string (bs (lowL ((s.data.toList.drop (i + 2)).take 7)))) ∧ Below w.heap.size w w') := hide (fun w => by
    have := rlower_any (s.extract (i + 2) (i + 9)) w (by simp; omega)
    rw [ext_data s (by omega), show i + 9 - (i + 2) = 7 by omega] at this; exact this)
  have i9 : (9 : Int) ≤ (s.size : Int) - (i : Int) := by omega
  have i8 : (i : Int) + 9 ≤ (s.size : Int) := by omega
  have zz : (s.extract (i + 2) (i + 9)).size ≤ 100000 := by simp; omega
  have hw : bs (lowL ((s.data.toList.drop (i + 2)).take 7)) = ⟨#[100, 111, 99, 116, 121, 112, 101]⟩ := by
    unfold docB at h2
    rw [Bool.and_eq_true] at h2
    have : lowL ((s.data.toList.drop (i + 2)).take 7) = docW := by simpa using h2.2
    rw [this]; rfl
  rw [hw] at CO
  have hF := fd_le s [62] (i := i) (by omega)
  have CF : Hid (∀ w, Calls Tryz.prog 40 #[.string s, .int .i64 (i : Int), .string ⟨#[62]⟩] w fun e w' => e = .returned (.int .i64 (fdN s [62] i : Nat)) ∧ w' = w) := hide (fun w => find_any s ⟨#[62]⟩ i w hs (by decide) (by decide) (by omega))
  have CP : Hid (∀ w, Calls Tryz.prog 41 #[.string s, .int .i64 (fdN s [62] i : Nat), .string ⟨#[62]⟩] w fun e w' => e = .returned (.int .i64 ((if fdN s [62] i < s.size then fdN s [62] i + 1 else s.size : Nat) : Int)) ∧ w' = w) := hide (fun w => past_any s ⟨#[62]⟩ (fdN s [62] i) w hs (by decide) hF.1)
  rw [cutE_fd s [62] i (by omega) (by simp), show ([62] : List UInt8).length = 1 from rfl] at eF
  rw [eT, eE, eK, eX, eF]
  generalize fdN s [62] i = z at *
  generalize (if z < s.size then z + 1 else s.size) = E at *
  clear eT eE eK eX eF hc h60 h1 h2 n1 h9 hw hF
  go_enter Tryz.func18, Tryz.ntmps18
  go_wp2_with fail
  refine (unhide CL _).mono ?_
  rintro e1 w1 ⟨rfl, rfl⟩
  go_wp2_with fail
  refine (unhide C1 _).mono ?_
  rintro e1 w2 ⟨rfl, rfl⟩
  go_wp2_with fail
  refine (unhide C2 _).mono ?_
  rintro e1 w3 ⟨rfl, rfl⟩
  go_wp2_with fail
  refine (unhide C2 _).mono ?_
  rintro e1 w4 ⟨rfl, rfl⟩
  go_wp2_with fail
  refine (unhide C3 _).mono ?_
  rintro e1 w5 ⟨rfl, rfl⟩
  go_wp2_with fail
  refine (unhide C4 _).mono ?_
  rintro e1 w6 ⟨rfl, rfl⟩
  go_wp2_with fail
  refine (unhide CO _).mono ?_
  rintro e7 W7 ⟨rfl, hb7⟩
  have k0 := (Blk.new w #[.int .i64 0, .string ⟨#[]⟩, .slice none 0 0, .bool false, .string ⟨#[]⟩, .int .i64 0] 32).later hb7
  have hbw := bel_of hb7
  clear hb7
  have x0 : W7.cell? ⟨w.heap.size, 0, none⟩ = some (.int .i64 0) := (k0).cell 0
  have x1 : W7.cell? ⟨w.heap.size, 1, none⟩ = some (.string ⟨#[]⟩) := (k0).cell 1
  have x2 : W7.cell? ⟨w.heap.size, 2, none⟩ = some (.slice none 0 0) := (k0).cell 2
  have x3 : W7.cell? ⟨w.heap.size, 3, none⟩ = some (.bool false) := (k0).cell 3
  have x4 : W7.cell? ⟨w.heap.size, 4, none⟩ = some (.string ⟨#[]⟩) := (k0).cell 4
  have x5 : W7.cell? ⟨w.heap.size, 5, none⟩ = some (.int .i64 0) := (k0).cell 5
  have xf0 : W7.frozen? ⟨w.heap.size, 0, none⟩ = false := (k0).frozen 0
  have xf1 : W7.frozen? ⟨w.heap.size, 1, none⟩ = false := (k0).frozen 1
  have xf2 : W7.frozen? ⟨w.heap.size, 2, none⟩ = false := (k0).frozen 2
  have xf3 : W7.frozen? ⟨w.heap.size, 3, none⟩ = false := (k0).frozen 3
  have xf4 : W7.frozen? ⟨w.heap.size, 4, none⟩ = false := (k0).frozen 4
  have xf5 : W7.frozen? ⟨w.heap.size, 5, none⟩ = false := (k0).frozen 5
  have K1 := hide k0
  have HBW := hide hbw
  clear k0 hbw
  go_wp2_with fail
  refine (unhide CF _).mono ?_
  rintro e8 w8 ⟨rfl, rfl⟩
  go_wp2_with fail
  refine (unhide CP _).mono ?_
  rintro e9 w9 ⟨rfl, rfl⟩
  go_wp2
  have kk := (((((((unhide K1).set 0 (by simp) (.int .i64 5)).set 1 (by simp) (.string ⟨#[]⟩)).set 2 (by simp) (.slice none 0 0)).set 3 (by simp) (.bool false)).set 4 (by simp) (.string ⟨#[]⟩)).set 5 (by simp) (.int .i64 (E : Int)))
  have d0 := kk.cell 0
  have d1 := kk.cell 1
  have d2 := kk.cell 2
  have d3 := kk.cell 3
  have d4 := kk.cell 4
  have d5 := kk.cell 5
  exact bodyPost_ret (v := .agg #[.int .i64 5, .string ⟨#[]⟩, .slice none 0 0, .bool false, .string ⟨#[]⟩, .int .i64 (E : Int)]) (by simp [results, Tryz.results18, go_sem, d0, d1, d2, d3, d4, d5]) rfl ⟨none, 0, rfl, slN_nil _ _ _, (((((((unhide HBW).setCell (by simp) _).setCell (by simp) _).setCell (by simp) _).setCell (by simp) _).setCell (by simp) _).setCell (by simp) _)⟩

set_option maxHeartbeats 4000000 in
set_option maxRecDepth 100000 in
theorem markup5_odd00 (s : ByteArray) (i : Nat) (cd : Bool) (w : World) (hs : s.size ≤ 100000) (h60 : dgt s.data.toList i = 60) (hi : i + 1 < s.size) (hc : dgt s.data.toList (i + 1) = 33) (h1 : notB s i = false) (h2 : docB (s.data.toList.drop (i + 2)) = false) (h9 : ¬ 9 ≤ s.size - i) (h3 : cd = false) :
    Calls Tryz.prog 18 #[.string s, .int .i64 (i : Int), .bool cd] w (GotIs w (markT s i cd) (markE s i cd)) := by
  have i1 : (i : Int) + 1 < (s.size : Int) := by omega
  have eT : markT s i cd = (declK s i cd, ⟨#[]⟩, [], false, declX s i cd) := by unfold markT; rw [if_pos hc]
  have eE : markE s i cd = declE s i cd := by unfold markE; rw [if_pos hc]
  have CL := hide (fun w => letter5_one s i false w hs hi (by rw [hc]; rfl))
  have C1 := hide (fun w => is_lit s ⟨#[60, 47, 62]⟩ i false w hs (by decide) (by decide) (by omega) (by rw [show (ByteArray.mk #[60, 47, 62]).data.toList = [60, 47, 62] from rfl, pre_lt h60 hi, pre_not (by rw [hc]; decide)]))
  have C2 := hide (fun w => is_lit s ⟨#[60, 47]⟩ i false w hs (by decide) (by decide) (by omega) (by rw [show (ByteArray.mk #[60, 47]).data.toList = [60, 47] from rfl, pre_lt h60 hi, pre_not (by rw [hc]; decide)]))
  have C3 := hide (fun w => is_lit s ⟨#[60, 63]⟩ i false w hs (by decide) (by decide) (by omega) (by rw [show (ByteArray.mk #[60, 63]).data.toList = [60, 63] from rfl, pre_lt h60 hi, pre_not (by rw [hc]; decide)]))
  have n1 : ¬ notB s i = true := by rw [h1]; decide
  have C4 := hide (fun w => is_lit s ⟨#[60, 33, 45, 45]⟩ i false w hs (by decide) (by decide) (by omega) (h1))
  have i9 : decide ((9 : Int) ≤ (s.size : Int) - (i : Int)) = false := decide_eq_false (by omega)
  have n2 : ¬ docB (s.data.toList.drop (i + 2)) = true := by rw [h2]; decide
  have n3 : ¬ cdB s i cd = true := by unfold cdB; rw [h3]; simp
  have eK : declK s i cd = 4 := by unfold declK; rw [if_neg n1, if_neg n2, if_neg n3]
  have eX : declX s i cd = bs (cutL s (i + 2) [62]) := by unfold declX; rw [if_neg n1, if_neg n2, if_neg n3]
  have eF : declE s i cd = cutE s (i + 2) [62] := by unfold declE; rw [if_neg n1, if_neg n2, if_neg n3]
  have CT : Hid (∀ w, Calls Tryz.prog 38 #[.string s, .int .i64 ((i : Int) + 2)] w (GotIs w (markT s i cd) (markE s i cd))) := hide (fun w => by rw [eT, eE, eK, eX, eF]; exact odd5_two s i w hs (by omega))
  clear eT eE hc h60 h1 h2 n1 n2 h9 eK eX eF n3
  generalize markT s i cd = T at *
  generalize markE s i cd = E at *
  obtain ⟨tk, tn, ta, tf, tx⟩ := T
  subst h3
  go_enter Tryz.func18, Tryz.ntmps18
  go_wp2_with fail
  refine (unhide CL _).mono ?_
  rintro e1 w1 ⟨rfl, rfl⟩
  go_wp2_with fail
  refine (unhide C1 _).mono ?_
  rintro e1 w2 ⟨rfl, rfl⟩
  go_wp2_with fail
  refine (unhide C2 _).mono ?_
  rintro e1 w3 ⟨rfl, rfl⟩
  go_wp2_with fail
  refine (unhide C2 _).mono ?_
  rintro e1 w4 ⟨rfl, rfl⟩
  go_wp2_with fail
  refine (unhide C3 _).mono ?_
  rintro e1 w5 ⟨rfl, rfl⟩
  go_wp2_with fail
  refine (unhide C4 _).mono ?_
  rintro e1 w6 ⟨rfl, rfl⟩
  go_wp2_with fail
  refine calls_from (fun W => Blk W w.heap.size #[.int .i64 0, .string ⟨#[]⟩, .slice none 0 0, .bool false, .string ⟨#[]⟩, .int .i64 0] 32 ∧ Below w.heap.size w W) ⟨Blk.new w #[.int .i64 0, .string ⟨#[]⟩, .slice none 0 0, .bool false, .string ⟨#[]⟩, .int .i64 0] 32, (Below.refl w.heap.size w).alloc (Nat.le_refl _) (Obj.cells #[.int .i64 0, .string ⟨#[]⟩, .slice none 0 0, .bool false, .string ⟨#[]⟩, .int .i64 0] 32)⟩ ?_
  rintro W ⟨k0, hbw⟩
  refine (unhide CT _).mono ?_
  rintro eT W4 ⟨q, cap, rfl, hsl, hbT⟩
  have hsl2 := hide (hsl.mono (b' := w.heap.size + 1) k0.lt)
  clear hsl
  replace k0 := k0.later hbT
  replace hbw := tr2 hbw hbT
  clear hbT
  have x0 : W4.cell? ⟨w.heap.size, 0, none⟩ = some (.int .i64 0) := (k0).cell 0
  have x1 : W4.cell? ⟨w.heap.size, 1, none⟩ = some (.string ⟨#[]⟩) := (k0).cell 1
  have x2 : W4.cell? ⟨w.heap.size, 2, none⟩ = some (.slice none 0 0) := (k0).cell 2
  have x3 : W4.cell? ⟨w.heap.size, 3, none⟩ = some (.bool false) := (k0).cell 3
  have x4 : W4.cell? ⟨w.heap.size, 4, none⟩ = some (.string ⟨#[]⟩) := (k0).cell 4
  have x5 : W4.cell? ⟨w.heap.size, 5, none⟩ = some (.int .i64 0) := (k0).cell 5
  have xf0 : W4.frozen? ⟨w.heap.size, 0, none⟩ = false := (k0).frozen 0
  have xf1 : W4.frozen? ⟨w.heap.size, 1, none⟩ = false := (k0).frozen 1
  have xf2 : W4.frozen? ⟨w.heap.size, 2, none⟩ = false := (k0).frozen 2
  have xf3 : W4.frozen? ⟨w.heap.size, 3, none⟩ = false := (k0).frozen 3
  have xf4 : W4.frozen? ⟨w.heap.size, 4, none⟩ = false := (k0).frozen 4
  have xf5 : W4.frozen? ⟨w.heap.size, 5, none⟩ = false := (k0).frozen 5
  have K1 := hide k0
  clear k0
  go_wp2
  have kk := ((((((unhide K1).set 0 (by simp) (.int .i64 tk)).set 1 (by simp) (.string tn)).set 2 (by simp) (.slice q ta.length cap)).set 3 (by simp) (.bool tf)).set 4 (by simp) (.string tx)).set 5 (by simp) (.int .i64 (E : Int))
  have d0 := kk.cell 0
  have d1 := kk.cell 1
  have d2 := kk.cell 2
  have d3 := kk.cell 3
  have d4 := kk.cell 4
  have d5 := kk.cell 5
  exact bodyPost_ret (v := .agg #[.int .i64 tk, .string tn, .slice q ta.length cap, .bool tf, .string tx, .int .i64 (E : Int)]) (by simp [results, Tryz.results18, go_sem, d0, d1, d2, d3, d4, d5]) rfl ⟨q, cap, rfl, (((((((unhide hsl2).away (Nat.lt_succ_self _) _).away (Nat.lt_succ_self _) _).away (Nat.lt_succ_self _) _).away (Nat.lt_succ_self _) _).away (Nat.lt_succ_self _) _).away (Nat.lt_succ_self _) _).mono (by omega), (((((hbw.setCell (by simp) _).setCell (by simp) _).setCell (by simp) _).setCell (by simp) _).setCell (by simp) _).setCell (by simp) _⟩

set_option maxHeartbeats 4000000 in
set_option maxRecDepth 100000 in
theorem markup5_odd01 (s : ByteArray) (i : Nat) (cd : Bool) (w : World) (hs : s.size ≤ 100000) (h60 : dgt s.data.toList i = 60) (hi : i + 1 < s.size) (hc : dgt s.data.toList (i + 1) = 33) (h1 : notB s i = false) (h2 : docB (s.data.toList.drop (i + 2)) = false) (h9 : ¬ 9 ≤ s.size - i) (h3 : cd = true) (h4 : cdO.isPrefixOf (s.data.toList.drop i) = false) :
    Calls Tryz.prog 18 #[.string s, .int .i64 (i : Int), .bool cd] w (GotIs w (markT s i cd) (markE s i cd)) := by
  have i1 : (i : Int) + 1 < (s.size : Int) := by omega
  have eT : markT s i cd = (declK s i cd, ⟨#[]⟩, [], false, declX s i cd) := by unfold markT; rw [if_pos hc]
  have eE : markE s i cd = declE s i cd := by unfold markE; rw [if_pos hc]
  have CL := hide (fun w => letter5_one s i false w hs hi (by rw [hc]; rfl))
  have C1 := hide (fun w => is_lit s ⟨#[60, 47, 62]⟩ i false w hs (by decide) (by decide) (by omega) (by rw [show (ByteArray.mk #[60, 47, 62]).data.toList = [60, 47, 62] from rfl, pre_lt h60 hi, pre_not (by rw [hc]; decide)]))
  have C2 := hide (fun w => is_lit s ⟨#[60, 47]⟩ i false w hs (by decide) (by decide) (by omega) (by rw [show (ByteArray.mk #[60, 47]).data.toList = [60, 47] from rfl, pre_lt h60 hi, pre_not (by rw [hc]; decide)]))
  have C3 := hide (fun w => is_lit s ⟨#[60, 63]⟩ i false w hs (by decide) (by decide) (by omega) (by rw [show (ByteArray.mk #[60, 63]).data.toList = [60, 63] from rfl, pre_lt h60 hi, pre_not (by rw [hc]; decide)]))
  have n1 : ¬ notB s i = true := by rw [h1]; decide
  have C4 := hide (fun w => is_lit s ⟨#[60, 33, 45, 45]⟩ i false w hs (by decide) (by decide) (by omega) (h1))
  have i9 : decide ((9 : Int) ≤ (s.size : Int) - (i : Int)) = false := decide_eq_false (by omega)
  have n2 : ¬ docB (s.data.toList.drop (i + 2)) = true := by rw [h2]; decide
  have n3 : ¬ cdB s i cd = true := by unfold cdB; rw [h3, h4]; simp
  have eK : declK s i cd = 4 := by unfold declK; rw [if_neg n1, if_neg n2, if_neg n3]
  have eX : declX s i cd = bs (cutL s (i + 2) [62]) := by unfold declX; rw [if_neg n1, if_neg n2, if_neg n3]
  have eF : declE s i cd = cutE s (i + 2) [62] := by unfold declE; rw [if_neg n1, if_neg n2, if_neg n3]
  have C5 := hide (fun w => is_lit s ⟨#[60, 33, 91, 67, 68, 65, 84, 65, 91]⟩ i false w hs (by decide) (by decide) (by omega) (h4))
  have CT : Hid (∀ w, Calls Tryz.prog 38 #[.string s, .int .i64 ((i : Int) + 2)] w (GotIs w (markT s i cd) (markE s i cd))) := hide (fun w => by rw [eT, eE, eK, eX, eF]; exact odd5_two s i w hs (by omega))
  clear eT eE hc h60 h1 h2 n1 n2 h9 eK eX eF n3 h4
  generalize markT s i cd = T at *
  generalize markE s i cd = E at *
  obtain ⟨tk, tn, ta, tf, tx⟩ := T
  subst h3
  go_enter Tryz.func18, Tryz.ntmps18
  go_wp2_with fail
  refine (unhide CL _).mono ?_
  rintro e1 w1 ⟨rfl, rfl⟩
  go_wp2_with fail
  refine (unhide C1 _).mono ?_
  rintro e1 w2 ⟨rfl, rfl⟩
  go_wp2_with fail
  refine (unhide C2 _).mono ?_
  rintro e1 w3 ⟨rfl, rfl⟩
  go_wp2_with fail
  refine (unhide C2 _).mono ?_
  rintro e1 w4 ⟨rfl, rfl⟩
  go_wp2_with fail
  refine (unhide C3 _).mono ?_
  rintro e1 w5 ⟨rfl, rfl⟩
  go_wp2_with fail
  refine (unhide C4 _).mono ?_
  rintro e1 w6 ⟨rfl, rfl⟩
  go_wp2_with fail
  refine (unhide C5 _).mono ?_
  rintro e8 w8 ⟨rfl, rfl⟩
  go_wp2_with fail
  refine calls_from (fun W => Blk W w.heap.size #[.int .i64 0, .string ⟨#[]⟩, .slice none 0 0, .bool false, .string ⟨#[]⟩, .int .i64 0] 32 ∧ Below w.heap.size w W) ⟨Blk.new w #[.int .i64 0, .string ⟨#[]⟩, .slice none 0 0, .bool false, .string ⟨#[]⟩, .int .i64 0] 32, (Below.refl w.heap.size w).alloc (Nat.le_refl _) (Obj.cells #[.int .i64 0, .string ⟨#[]⟩, .slice none 0 0, .bool false, .string ⟨#[]⟩, .int .i64 0] 32)⟩ ?_
  rintro W ⟨k0, hbw⟩
  refine (unhide CT _).mono ?_
  rintro eT W4 ⟨q, cap, rfl, hsl, hbT⟩
  have hsl2 := hide (hsl.mono (b' := w.heap.size + 1) k0.lt)
  clear hsl
  replace k0 := k0.later hbT
  replace hbw := tr2 hbw hbT
  clear hbT
  have x0 : W4.cell? ⟨w.heap.size, 0, none⟩ = some (.int .i64 0) := (k0).cell 0
  have x1 : W4.cell? ⟨w.heap.size, 1, none⟩ = some (.string ⟨#[]⟩) := (k0).cell 1
  have x2 : W4.cell? ⟨w.heap.size, 2, none⟩ = some (.slice none 0 0) := (k0).cell 2
  have x3 : W4.cell? ⟨w.heap.size, 3, none⟩ = some (.bool false) := (k0).cell 3
  have x4 : W4.cell? ⟨w.heap.size, 4, none⟩ = some (.string ⟨#[]⟩) := (k0).cell 4
  have x5 : W4.cell? ⟨w.heap.size, 5, none⟩ = some (.int .i64 0) := (k0).cell 5
  have xf0 : W4.frozen? ⟨w.heap.size, 0, none⟩ = false := (k0).frozen 0
  have xf1 : W4.frozen? ⟨w.heap.size, 1, none⟩ = false := (k0).frozen 1
  have xf2 : W4.frozen? ⟨w.heap.size, 2, none⟩ = false := (k0).frozen 2
  have xf3 : W4.frozen? ⟨w.heap.size, 3, none⟩ = false := (k0).frozen 3
  have xf4 : W4.frozen? ⟨w.heap.size, 4, none⟩ = false := (k0).frozen 4
  have xf5 : W4.frozen? ⟨w.heap.size, 5, none⟩ = false := (k0).frozen 5
  have K1 := hide k0
  clear k0
  go_wp2
  have kk := ((((((unhide K1).set 0 (by simp) (.int .i64 tk)).set 1 (by simp) (.string tn)).set 2 (by simp) (.slice q ta.length cap)).set 3 (by simp) (.bool tf)).set 4 (by simp) (.string tx)).set 5 (by simp) (.int .i64 (E : Int))
  have d0 := kk.cell 0
  have d1 := kk.cell 1
  have d2 := kk.cell 2
  have d3 := kk.cell 3
  have d4 := kk.cell 4
  have d5 := kk.cell 5
  exact bodyPost_ret (v := .agg #[.int .i64 tk, .string tn, .slice q ta.length cap, .bool tf, .string tx, .int .i64 (E : Int)]) (by simp [results, Tryz.results18, go_sem, d0, d1, d2, d3, d4, d5]) rfl ⟨q, cap, rfl, (((((((unhide hsl2).away (Nat.lt_succ_self _) _).away (Nat.lt_succ_self _) _).away (Nat.lt_succ_self _) _).away (Nat.lt_succ_self _) _).away (Nat.lt_succ_self _) _).away (Nat.lt_succ_self _) _).mono (by omega), (((((hbw.setCell (by simp) _).setCell (by simp) _).setCell (by simp) _).setCell (by simp) _).setCell (by simp) _).setCell (by simp) _⟩

set_option maxHeartbeats 4000000 in
set_option maxRecDepth 100000 in
theorem markup5_odd10 (s : ByteArray) (i : Nat) (cd : Bool) (w : World) (hs : s.size ≤ 100000) (h60 : dgt s.data.toList i = 60) (hi : i + 1 < s.size) (hc : dgt s.data.toList (i + 1) = 33) (h1 : notB s i = false) (h2 : docB (s.data.toList.drop (i + 2)) = false) (h9 : 9 ≤ s.size - i) (h3 : cd = false) :
    Calls Tryz.prog 18 #[.string s, .int .i64 (i : Int), .bool cd] w (GotIs w (markT s i cd) (markE s i cd)) := by
  have i1 : (i : Int) + 1 < (s.size : Int) := by omega
  have eT : markT s i cd = (declK s i cd, ⟨#[]⟩, [], false, declX s i cd) := by unfold markT; rw [if_pos hc]
  have eE : markE s i cd = declE s i cd := by unfold markE; rw [if_pos hc]
  have CL := hide (fun w => letter5_one s i false w hs hi (by rw [hc]; rfl))
  have C1 := hide (fun w => is_lit s ⟨#[60, 47, 62]⟩ i false w hs (by decide) (by decide) (by omega) (by rw [show (ByteArray.mk #[60, 47, 62]).data.toList = [60, 47, 62] from rfl, pre_lt h60 hi, pre_not (by rw [hc]; decide)]))
  have C2 := hide (fun w => is_lit s ⟨#[60, 47]⟩ i false w hs (by decide) (by decide) (by omega) (by rw [show (ByteArray.mk #[60, 47]).data.toList = [60, 47] from rfl, pre_lt h60 hi, pre_not (by rw [hc]; decide)]))
  have C3 := hide (fun w => is_lit s ⟨#[60, 63]⟩ i false w hs (by decide) (by decide) (by omega) (by rw [show (ByteArray.mk #[60, 63]).data.toList = [60, 63] from rfl, pre_lt h60 hi, pre_not (by rw [hc]; decide)]))
  have n1 : ¬ notB s i = true := by rw [h1]; decide
  have C4 := hide (fun w => is_lit s ⟨#[60, 33, 45, 45]⟩ i false w hs (by decide) (by decide) (by omega) (h1))
  have CO : Hid (∀ w, Calls Tryz.prog 30 #[.string (s.extract (i + 2) (i + 9))] w fun e w' => e = .returned (.string (bs (lowL ((s.data.toList.drop (i + 2)).take 7)))) ∧ Below w.heap.size w w') := hide (fun w => by
    have := rlower_any (s.extract (i + 2) (i + 9)) w (by simp; omega)
    rw [ext_data s (by omega), show i + 9 - (i + 2) = 7 by omega] at this; exact this)
  have i9 : (9 : Int) ≤ (s.size : Int) - (i : Int) := by omega
  have i8 : (i : Int) + 9 ≤ (s.size : Int) := by omega
  have zz : (s.extract (i + 2) (i + 9)).size ≤ 100000 := by simp; omega
  have hw : ¬ bs (lowL ((s.data.toList.drop (i + 2)).take 7)) = ⟨#[100, 111, 99, 116, 121, 112, 101]⟩ := fun e => by
    unfold docB at h2
    rw [decide_eq_true (show 7 ≤ (s.data.toList.drop (i + 2)).length by rw [List.length_drop, data_len]; omega), Bool.true_and] at h2
    have : lowL ((s.data.toList.drop (i + 2)).take 7) = docW := bs_inj (e.trans rfl)
    rw [this] at h2; exact absurd h2 (by decide)
  have ew : ((bs (lowL ((s.data.toList.drop (i + 2)).take 7))).toList == [100, 111, 99, 116, 121, 112, 101]) = false := by
    have := beq_no hw
    rwa [show (ByteArray.mk #[100, 111, 99, 116, 121, 112, 101]).toList = [100, 111, 99, 116, 121, 112, 101] by rw [Lib.toList_data]] at this
  generalize bs (lowL ((s.data.toList.drop (i + 2)).take 7)) = LW at *
  have n2 : ¬ docB (s.data.toList.drop (i + 2)) = true := by rw [h2]; decide
  have n3 : ¬ cdB s i cd = true := by unfold cdB; rw [h3]; simp
  have eK : declK s i cd = 4 := by unfold declK; rw [if_neg n1, if_neg n2, if_neg n3]
  have eX : declX s i cd = bs (cutL s (i + 2) [62]) := by unfold declX; rw [if_neg n1, if_neg n2, if_neg n3]
  have eF : declE s i cd = cutE s (i + 2) [62] := by unfold declE; rw [if_neg n1, if_neg n2, if_neg n3]
  have CT : Hid (∀ w, Calls Tryz.prog 38 #[.string s, .int .i64 ((i : Int) + 2)] w (GotIs w (markT s i cd) (markE s i cd))) := hide (fun w => by rw [eT, eE, eK, eX, eF]; exact odd5_two s i w hs (by omega))
  clear eT eE hc h60 h1 h2 n1 n2 h9 hw eK eX eF n3
  generalize markT s i cd = T at *
  generalize markE s i cd = E at *
  obtain ⟨tk, tn, ta, tf, tx⟩ := T
  subst h3
  go_enter Tryz.func18, Tryz.ntmps18
  go_wp2_with fail
  refine (unhide CL _).mono ?_
  rintro e1 w1 ⟨rfl, rfl⟩
  go_wp2_with fail
  refine (unhide C1 _).mono ?_
  rintro e1 w2 ⟨rfl, rfl⟩
  go_wp2_with fail
  refine (unhide C2 _).mono ?_
  rintro e1 w3 ⟨rfl, rfl⟩
  go_wp2_with fail
  refine (unhide C2 _).mono ?_
  rintro e1 w4 ⟨rfl, rfl⟩
  go_wp2_with fail
  refine (unhide C3 _).mono ?_
  rintro e1 w5 ⟨rfl, rfl⟩
  go_wp2_with fail
  refine (unhide C4 _).mono ?_
  rintro e1 w6 ⟨rfl, rfl⟩
  go_wp2_with fail
  refine (unhide CO _).mono ?_
  rintro e7 W7 ⟨rfl, hb7⟩
  have k0 := (Blk.new w #[.int .i64 0, .string ⟨#[]⟩, .slice none 0 0, .bool false, .string ⟨#[]⟩, .int .i64 0] 32).later hb7
  have hbw := bel_of hb7
  clear hb7
  have x0 : W7.cell? ⟨w.heap.size, 0, none⟩ = some (.int .i64 0) := (k0).cell 0
  have x1 : W7.cell? ⟨w.heap.size, 1, none⟩ = some (.string ⟨#[]⟩) := (k0).cell 1
  have x2 : W7.cell? ⟨w.heap.size, 2, none⟩ = some (.slice none 0 0) := (k0).cell 2
  have x3 : W7.cell? ⟨w.heap.size, 3, none⟩ = some (.bool false) := (k0).cell 3
  have x4 : W7.cell? ⟨w.heap.size, 4, none⟩ = some (.string ⟨#[]⟩) := (k0).cell 4
  have x5 : W7.cell? ⟨w.heap.size, 5, none⟩ = some (.int .i64 0) := (k0).cell 5
  have xf0 : W7.frozen? ⟨w.heap.size, 0, none⟩ = false := (k0).frozen 0
  have xf1 : W7.frozen? ⟨w.heap.size, 1, none⟩ = false := (k0).frozen 1
  have xf2 : W7.frozen? ⟨w.heap.size, 2, none⟩ = false := (k0).frozen 2
  have xf3 : W7.frozen? ⟨w.heap.size, 3, none⟩ = false := (k0).frozen 3
  have xf4 : W7.frozen? ⟨w.heap.size, 4, none⟩ = false := (k0).frozen 4
  have xf5 : W7.frozen? ⟨w.heap.size, 5, none⟩ = false := (k0).frozen 5
  have K1 := hide k0
  have HBW := hide hbw
  clear k0 hbw
  go_wp2_with fail
  refine calls_from (fun W => Blk W w.heap.size #[.int .i64 0, .string ⟨#[]⟩, .slice none 0 0, .bool false, .string ⟨#[]⟩, .int .i64 0] 32 ∧ Below w.heap.size w W) ⟨unhide K1, unhide HBW⟩ ?_
  rintro W ⟨k0, hbw⟩
  refine (unhide CT _).mono ?_
  rintro eT W4 ⟨q, cap, rfl, hsl, hbT⟩
  have hsl2 := hide (hsl.mono (b' := w.heap.size + 1) k0.lt)
  clear hsl
  replace k0 := k0.later hbT
  replace hbw := tr2 hbw hbT
  clear hbT
  have x0 : W4.cell? ⟨w.heap.size, 0, none⟩ = some (.int .i64 0) := (k0).cell 0
  have x1 : W4.cell? ⟨w.heap.size, 1, none⟩ = some (.string ⟨#[]⟩) := (k0).cell 1
  have x2 : W4.cell? ⟨w.heap.size, 2, none⟩ = some (.slice none 0 0) := (k0).cell 2
  have x3 : W4.cell? ⟨w.heap.size, 3, none⟩ = some (.bool false) := (k0).cell 3
  have x4 : W4.cell? ⟨w.heap.size, 4, none⟩ = some (.string ⟨#[]⟩) := (k0).cell 4
  have x5 : W4.cell? ⟨w.heap.size, 5, none⟩ = some (.int .i64 0) := (k0).cell 5
  have xf0 : W4.frozen? ⟨w.heap.size, 0, none⟩ = false := (k0).frozen 0
  have xf1 : W4.frozen? ⟨w.heap.size, 1, none⟩ = false := (k0).frozen 1
  have xf2 : W4.frozen? ⟨w.heap.size, 2, none⟩ = false := (k0).frozen 2
  have xf3 : W4.frozen? ⟨w.heap.size, 3, none⟩ = false := (k0).frozen 3
  have xf4 : W4.frozen? ⟨w.heap.size, 4, none⟩ = false := (k0).frozen 4
  have xf5 : W4.frozen? ⟨w.heap.size, 5, none⟩ = false := (k0).frozen 5
  have K1 := hide k0
  clear k0
  go_wp2
  have kk := ((((((unhide K1).set 0 (by simp) (.int .i64 tk)).set 1 (by simp) (.string tn)).set 2 (by simp) (.slice q ta.length cap)).set 3 (by simp) (.bool tf)).set 4 (by simp) (.string tx)).set 5 (by simp) (.int .i64 (E : Int))
  have d0 := kk.cell 0
  have d1 := kk.cell 1
  have d2 := kk.cell 2
  have d3 := kk.cell 3
  have d4 := kk.cell 4
  have d5 := kk.cell 5
  exact bodyPost_ret (v := .agg #[.int .i64 tk, .string tn, .slice q ta.length cap, .bool tf, .string tx, .int .i64 (E : Int)]) (by simp [results, Tryz.results18, go_sem, d0, d1, d2, d3, d4, d5]) rfl ⟨q, cap, rfl, (((((((unhide hsl2).away (Nat.lt_succ_self _) _).away (Nat.lt_succ_self _) _).away (Nat.lt_succ_self _) _).away (Nat.lt_succ_self _) _).away (Nat.lt_succ_self _) _).away (Nat.lt_succ_self _) _).mono (by omega), (((((hbw.setCell (by simp) _).setCell (by simp) _).setCell (by simp) _).setCell (by simp) _).setCell (by simp) _).setCell (by simp) _⟩

set_option maxHeartbeats 4000000 in
set_option maxRecDepth 100000 in
theorem markup5_odd11 (s : ByteArray) (i : Nat) (cd : Bool) (w : World) (hs : s.size ≤ 100000) (h60 : dgt s.data.toList i = 60) (hi : i + 1 < s.size) (hc : dgt s.data.toList (i + 1) = 33) (h1 : notB s i = false) (h2 : docB (s.data.toList.drop (i + 2)) = false) (h9 : 9 ≤ s.size - i) (h3 : cd = true) (h4 : cdO.isPrefixOf (s.data.toList.drop i) = false) :
    Calls Tryz.prog 18 #[.string s, .int .i64 (i : Int), .bool cd] w (GotIs w (markT s i cd) (markE s i cd)) := by
  have i1 : (i : Int) + 1 < (s.size : Int) := by omega
  have eT : markT s i cd = (declK s i cd, ⟨#[]⟩, [], false, declX s i cd) := by unfold markT; rw [if_pos hc]
  have eE : markE s i cd = declE s i cd := by unfold markE; rw [if_pos hc]
  have CL := hide (fun w => letter5_one s i false w hs hi (by rw [hc]; rfl))
  have C1 := hide (fun w => is_lit s ⟨#[60, 47, 62]⟩ i false w hs (by decide) (by decide) (by omega) (by rw [show (ByteArray.mk #[60, 47, 62]).data.toList = [60, 47, 62] from rfl, pre_lt h60 hi, pre_not (by rw [hc]; decide)]))
  have C2 := hide (fun w => is_lit s ⟨#[60, 47]⟩ i false w hs (by decide) (by decide) (by omega) (by rw [show (ByteArray.mk #[60, 47]).data.toList = [60, 47] from rfl, pre_lt h60 hi, pre_not (by rw [hc]; decide)]))
  have C3 := hide (fun w => is_lit s ⟨#[60, 63]⟩ i false w hs (by decide) (by decide) (by omega) (by rw [show (ByteArray.mk #[60, 63]).data.toList = [60, 63] from rfl, pre_lt h60 hi, pre_not (by rw [hc]; decide)]))
  have n1 : ¬ notB s i = true := by rw [h1]; decide
  have C4 := hide (fun w => is_lit s ⟨#[60, 33, 45, 45]⟩ i false w hs (by decide) (by decide) (by omega) (h1))
  have CO : Hid (∀ w, Calls Tryz.prog 30 #[.string (s.extract (i + 2) (i + 9))] w fun e w' => e = .returned (.string (bs (lowL ((s.data.toList.drop (i + 2)).take 7)))) ∧ Below w.heap.size w w') := hide (fun w => by
    have := rlower_any (s.extract (i + 2) (i + 9)) w (by simp; omega)
    rw [ext_data s (by omega), show i + 9 - (i + 2) = 7 by omega] at this; exact this)
  have i9 : (9 : Int) ≤ (s.size : Int) - (i : Int) := by omega
  have i8 : (i : Int) + 9 ≤ (s.size : Int) := by omega
  have zz : (s.extract (i + 2) (i + 9)).size ≤ 100000 := by simp; omega
  have hw : ¬ bs (lowL ((s.data.toList.drop (i + 2)).take 7)) = ⟨#[100, 111, 99, 116, 121, 112, 101]⟩ := fun e => by
    unfold docB at h2
    rw [decide_eq_true (show 7 ≤ (s.data.toList.drop (i + 2)).length by rw [List.length_drop, data_len]; omega), Bool.true_and] at h2
    have : lowL ((s.data.toList.drop (i + 2)).take 7) = docW := bs_inj (e.trans rfl)
    rw [this] at h2; exact absurd h2 (by decide)
  have ew : ((bs (lowL ((s.data.toList.drop (i + 2)).take 7))).toList == [100, 111, 99, 116, 121, 112, 101]) = false := by
    have := beq_no hw
    rwa [show (ByteArray.mk #[100, 111, 99, 116, 121, 112, 101]).toList = [100, 111, 99, 116, 121, 112, 101] by rw [Lib.toList_data]] at this
  generalize bs (lowL ((s.data.toList.drop (i + 2)).take 7)) = LW at *
  have n2 : ¬ docB (s.data.toList.drop (i + 2)) = true := by rw [h2]; decide
  have n3 : ¬ cdB s i cd = true := by unfold cdB; rw [h3, h4]; simp
  have eK : declK s i cd = 4 := by unfold declK; rw [if_neg n1, if_neg n2, if_neg n3]
  have eX : declX s i cd = bs (cutL s (i + 2) [62]) := by unfold declX; rw [if_neg n1, if_neg n2, if_neg n3]
  have eF : declE s i cd = cutE s (i + 2) [62] := by unfold declE; rw [if_neg n1, if_neg n2, if_neg n3]
  have C5 := hide (fun w => is_lit s ⟨#[60, 33, 91, 67, 68, 65, 84, 65, 91]⟩ i false w hs (by decide) (by decide) (by omega) (h4))
  have CT : Hid (∀ w, Calls Tryz.prog 38 #[.string s, .int .i64 ((i : Int) + 2)] w (GotIs w (markT s i cd) (markE s i cd))) := hide (fun w => by rw [eT, eE, eK, eX, eF]; exact odd5_two s i w hs (by omega))
  clear eT eE hc h60 h1 h2 n1 n2 h9 hw eK eX eF n3 h4
  generalize markT s i cd = T at *
  generalize markE s i cd = E at *
  obtain ⟨tk, tn, ta, tf, tx⟩ := T
  subst h3
  go_enter Tryz.func18, Tryz.ntmps18
  go_wp2_with fail
  refine (unhide CL _).mono ?_
  rintro e1 w1 ⟨rfl, rfl⟩
  go_wp2_with fail
  refine (unhide C1 _).mono ?_
  rintro e1 w2 ⟨rfl, rfl⟩
  go_wp2_with fail
  refine (unhide C2 _).mono ?_
  rintro e1 w3 ⟨rfl, rfl⟩
  go_wp2_with fail
  refine (unhide C2 _).mono ?_
  rintro e1 w4 ⟨rfl, rfl⟩
  go_wp2_with fail
  refine (unhide C3 _).mono ?_
  rintro e1 w5 ⟨rfl, rfl⟩
  go_wp2_with fail
  refine (unhide C4 _).mono ?_
  rintro e1 w6 ⟨rfl, rfl⟩
  go_wp2_with fail
  refine (unhide CO _).mono ?_
  rintro e7 W7 ⟨rfl, hb7⟩
  have k0 := (Blk.new w #[.int .i64 0, .string ⟨#[]⟩, .slice none 0 0, .bool false, .string ⟨#[]⟩, .int .i64 0] 32).later hb7
  have hbw := bel_of hb7
  clear hb7
  have x0 : W7.cell? ⟨w.heap.size, 0, none⟩ = some (.int .i64 0) := (k0).cell 0
  have x1 : W7.cell? ⟨w.heap.size, 1, none⟩ = some (.string ⟨#[]⟩) := (k0).cell 1
  have x2 : W7.cell? ⟨w.heap.size, 2, none⟩ = some (.slice none 0 0) := (k0).cell 2
  have x3 : W7.cell? ⟨w.heap.size, 3, none⟩ = some (.bool false) := (k0).cell 3
  have x4 : W7.cell? ⟨w.heap.size, 4, none⟩ = some (.string ⟨#[]⟩) := (k0).cell 4
  have x5 : W7.cell? ⟨w.heap.size, 5, none⟩ = some (.int .i64 0) := (k0).cell 5
  have xf0 : W7.frozen? ⟨w.heap.size, 0, none⟩ = false := (k0).frozen 0
  have xf1 : W7.frozen? ⟨w.heap.size, 1, none⟩ = false := (k0).frozen 1
  have xf2 : W7.frozen? ⟨w.heap.size, 2, none⟩ = false := (k0).frozen 2
  have xf3 : W7.frozen? ⟨w.heap.size, 3, none⟩ = false := (k0).frozen 3
  have xf4 : W7.frozen? ⟨w.heap.size, 4, none⟩ = false := (k0).frozen 4
  have xf5 : W7.frozen? ⟨w.heap.size, 5, none⟩ = false := (k0).frozen 5
  have K1 := hide k0
  have HBW := hide hbw
  clear k0 hbw
  go_wp2_with fail
  refine (unhide C5 _).mono ?_
  rintro e8 w8 ⟨rfl, rfl⟩
  go_wp2_with fail
  refine calls_from (fun W => Blk W w.heap.size #[.int .i64 0, .string ⟨#[]⟩, .slice none 0 0, .bool false, .string ⟨#[]⟩, .int .i64 0] 32 ∧ Below w.heap.size w W) ⟨unhide K1, unhide HBW⟩ ?_
  rintro W ⟨k0, hbw⟩
  refine (unhide CT _).mono ?_
  rintro eT W4 ⟨q, cap, rfl, hsl, hbT⟩
  have hsl2 := hide (hsl.mono (b' := w.heap.size + 1) k0.lt)
  clear hsl
  replace k0 := k0.later hbT
  replace hbw := tr2 hbw hbT
  clear hbT
  have x0 : W4.cell? ⟨w.heap.size, 0, none⟩ = some (.int .i64 0) := (k0).cell 0
  have x1 : W4.cell? ⟨w.heap.size, 1, none⟩ = some (.string ⟨#[]⟩) := (k0).cell 1
  have x2 : W4.cell? ⟨w.heap.size, 2, none⟩ = some (.slice none 0 0) := (k0).cell 2
  have x3 : W4.cell? ⟨w.heap.size, 3, none⟩ = some (.bool false) := (k0).cell 3
  have x4 : W4.cell? ⟨w.heap.size, 4, none⟩ = some (.string ⟨#[]⟩) := (k0).cell 4
  have x5 : W4.cell? ⟨w.heap.size, 5, none⟩ = some (.int .i64 0) := (k0).cell 5
  have xf0 : W4.frozen? ⟨w.heap.size, 0, none⟩ = false := (k0).frozen 0
  have xf1 : W4.frozen? ⟨w.heap.size, 1, none⟩ = false := (k0).frozen 1
  have xf2 : W4.frozen? ⟨w.heap.size, 2, none⟩ = false := (k0).frozen 2
  have xf3 : W4.frozen? ⟨w.heap.size, 3, none⟩ = false := (k0).frozen 3
  have xf4 : W4.frozen? ⟨w.heap.size, 4, none⟩ = false := (k0).frozen 4
  have xf5 : W4.frozen? ⟨w.heap.size, 5, none⟩ = false := (k0).frozen 5
  have K1 := hide k0
  clear k0
  go_wp2
  have kk := ((((((unhide K1).set 0 (by simp) (.int .i64 tk)).set 1 (by simp) (.string tn)).set 2 (by simp) (.slice q ta.length cap)).set 3 (by simp) (.bool tf)).set 4 (by simp) (.string tx)).set 5 (by simp) (.int .i64 (E : Int))
  have d0 := kk.cell 0
  have d1 := kk.cell 1
  have d2 := kk.cell 2
  have d3 := kk.cell 3
  have d4 := kk.cell 4
  have d5 := kk.cell 5
  exact bodyPost_ret (v := .agg #[.int .i64 tk, .string tn, .slice q ta.length cap, .bool tf, .string tx, .int .i64 (E : Int)]) (by simp [results, Tryz.results18, go_sem, d0, d1, d2, d3, d4, d5]) rfl ⟨q, cap, rfl, (((((((unhide hsl2).away (Nat.lt_succ_self _) _).away (Nat.lt_succ_self _) _).away (Nat.lt_succ_self _) _).away (Nat.lt_succ_self _) _).away (Nat.lt_succ_self _) _).away (Nat.lt_succ_self _) _).mono (by omega), (((((hbw.setCell (by simp) _).setCell (by simp) _).setCell (by simp) _).setCell (by simp) _).setCell (by simp) _).setCell (by simp) _⟩

set_option maxHeartbeats 4000000 in
set_option maxRecDepth 100000 in
theorem markup5_cd0 (s : ByteArray) (i : Nat) (cd : Bool) (w : World) (hs : s.size ≤ 100000) (h60 : dgt s.data.toList i = 60) (hi : i + 1 < s.size) (hc : dgt s.data.toList (i + 1) = 33) (h1 : notB s i = false) (h2 : docB (s.data.toList.drop (i + 2)) = false) (h9 : 9 ≤ s.size - i) (h3 : cd = true) (h4 : cdO.isPrefixOf (s.data.toList.drop i) = true) (h5 : fdN s [93, 93, 62] (i + 9) = i + 9) :
    Calls Tryz.prog 18 #[.string s, .int .i64 (i : Int), .bool cd] w (GotIs w (markT s i cd) (markE s i cd)) := by
  have i1 : (i : Int) + 1 < (s.size : Int) := by omega
  have eT : markT s i cd = (declK s i cd, ⟨#[]⟩, [], false, declX s i cd) := by unfold markT; rw [if_pos hc]
  have eE : markE s i cd = declE s i cd := by unfold markE; rw [if_pos hc]
  have CL := hide (fun w => letter5_one s i false w hs hi (by rw [hc]; rfl))
  have C1 := hide (fun w => is_lit s ⟨#[60, 47, 62]⟩ i false w hs (by decide) (by decide) (by omega) (by rw [show (ByteArray.mk #[60, 47, 62]).data.toList = [60, 47, 62] from rfl, pre_lt h60 hi, pre_not (by rw [hc]; decide)]))
  have C2 := hide (fun w => is_lit s ⟨#[60, 47]⟩ i false w hs (by decide) (by decide) (by omega) (by rw [show (ByteArray.mk #[60, 47]).data.toList = [60, 47] from rfl, pre_lt h60 hi, pre_not (by rw [hc]; decide)]))
  have C3 := hide (fun w => is_lit s ⟨#[60, 63]⟩ i false w hs (by decide) (by decide) (by omega) (by rw [show (ByteArray.mk #[60, 63]).data.toList = [60, 63] from rfl, pre_lt h60 hi, pre_not (by rw [hc]; decide)]))
  have n1 : ¬ notB s i = true := by rw [h1]; decide
  have C4 := hide (fun w => is_lit s ⟨#[60, 33, 45, 45]⟩ i false w hs (by decide) (by decide) (by omega) (h1))
  have CO : Hid (∀ w, Calls Tryz.prog 30 #[.string (s.extract (i + 2) (i + 9))] w fun e w' => e = .returned (.string (bs (lowL ((s.data.toList.drop (i + 2)).take 7)))) ∧ Below w.heap.size w w') := hide (fun w => by
    have := rlower_any (s.extract (i + 2) (i + 9)) w (by simp; omega)
    rw [ext_data s (by omega), show i + 9 - (i + 2) = 7 by omega] at this; exact this)
  have i9 : (9 : Int) ≤ (s.size : Int) - (i : Int) := by omega
  have i8 : (i : Int) + 9 ≤ (s.size : Int) := by omega
  have zz : (s.extract (i + 2) (i + 9)).size ≤ 100000 := by simp; omega
  have hw : ¬ bs (lowL ((s.data.toList.drop (i + 2)).take 7)) = ⟨#[100, 111, 99, 116, 121, 112, 101]⟩ := fun e => by
    unfold docB at h2
    rw [decide_eq_true (show 7 ≤ (s.data.toList.drop (i + 2)).length by rw [List.length_drop, data_len]; omega), Bool.true_and] at h2
    have : lowL ((s.data.toList.drop (i + 2)).take 7) = docW := bs_inj (e.trans rfl)
    rw [this] at h2; exact absurd h2 (by decide)
  have ew : ((bs (lowL ((s.data.toList.drop (i + 2)).take 7))).toList == [100, 111, 99, 116, 121, 112, 101]) = false := by
    have := beq_no hw
    rwa [show (ByteArray.mk #[100, 111, 99, 116, 121, 112, 101]).toList = [100, 111, 99, 116, 121, 112, 101] by rw [Lib.toList_data]] at this
  generalize bs (lowL ((s.data.toList.drop (i + 2)).take 7)) = LW at *
  have n2 : ¬ docB (s.data.toList.drop (i + 2)) = true := by rw [h2]; decide
  have hr : i + 9 ≤ s.size := by
    have := pre_room h4
    rw [List.length_drop, data_len] at this
    have h5 : cdO.length = 9 := rfl
    omega
  have C5 := hide (fun w => is_lit s ⟨#[60, 33, 91, 67, 68, 65, 84, 65, 91]⟩ i true w hs (by decide) (by decide) (by omega) (h4))
  have y3 : cdB s i cd = true := by unfold cdB; rw [h3, h4]; rfl
  have hF := fd_le s [93, 93, 62] (i := i + 9) hr
  have CF : Hid (∀ w, Calls Tryz.prog 40 #[.string s, .int .i64 ((i : Int) + 9), .string ⟨#[93, 93, 62]⟩] w fun e w' => e = .returned (.int .i64 (fdN s [93, 93, 62] (i + 9) : Nat)) ∧ w' = w) := hide (fun w => find_any s ⟨#[93, 93, 62]⟩ (i + 9) w hs (by decide) (by decide) hr)
  have CP : Hid (∀ w, Calls Tryz.prog 41 #[.string s, .int .i64 (fdN s [93, 93, 62] (i + 9) : Nat), .string ⟨#[93, 93, 62]⟩] w fun e w' => e = .returned (.int .i64 ((if fdN s [93, 93, 62] (i + 9) < s.size then fdN s [93, 93, 62] (i + 9) + 3 else s.size : Nat) : Int)) ∧ w' = w) := hide (fun w => past_any s ⟨#[93, 93, 62]⟩ (fdN s [93, 93, 62] (i + 9)) w hs (by decide) hF.1)
  have eF : declE s i cd = cutE s (i + 9) [93, 93, 62] := by unfold declE; rw [if_neg n1, if_neg n2, if_pos y3]
  rw [cutE_fd s [93, 93, 62] (i + 9) hr (by simp), show ([93, 93, 62] : List UInt8).length = 3 from rfl] at eF
  have eL := cutL_fd s [93, 93, 62] (i + 9) hr (by simp)
  have e0 : cutL s (i + 9) [93, 93, 62] = [] := by rw [eL, h5, Nat.sub_self]; rfl
  have eK : declK s i cd = 0 := by unfold declK; rw [if_neg n1, if_neg n2, if_pos y3, if_pos e0]
  have eX : declX s i cd = ⟨#[]⟩ := by unfold declX; rw [if_neg n1, if_neg n2, if_pos y3, if_pos e0]
  rw [eT, eE, eK, eX, eF]
  generalize fdN s [93, 93, 62] (i + 9) = z at *
  generalize (if z < s.size then z + 3 else s.size) = E at *
  have ez : ((z : Int) == (i : Int) + 9) = true := by rw [h5]; simp
  clear eT eE hc h60 h1 h2 n1 n2 h9 hw eK eX eF y3 h4 h5 e0 eL hF
  subst h3
  go_enter Tryz.func18, Tryz.ntmps18
  go_wp2_with fail
  refine (unhide CL _).mono ?_
  rintro e1 w1 ⟨rfl, rfl⟩
  go_wp2_with fail
  refine (unhide C1 _).mono ?_
  rintro e1 w2 ⟨rfl, rfl⟩
  go_wp2_with fail
  refine (unhide C2 _).mono ?_
  rintro e1 w3 ⟨rfl, rfl⟩
  go_wp2_with fail
  refine (unhide C2 _).mono ?_
  rintro e1 w4 ⟨rfl, rfl⟩
  go_wp2_with fail
  refine (unhide C3 _).mono ?_
  rintro e1 w5 ⟨rfl, rfl⟩
  go_wp2_with fail
  refine (unhide C4 _).mono ?_
  rintro e1 w6 ⟨rfl, rfl⟩
  go_wp2_with fail
  refine (unhide CO _).mono ?_
  rintro e7 W7 ⟨rfl, hb7⟩
  have k0 := (Blk.new w #[.int .i64 0, .string ⟨#[]⟩, .slice none 0 0, .bool false, .string ⟨#[]⟩, .int .i64 0] 32).later hb7
  have hbw := bel_of hb7
  clear hb7
  have x0 : W7.cell? ⟨w.heap.size, 0, none⟩ = some (.int .i64 0) := (k0).cell 0
  have x1 : W7.cell? ⟨w.heap.size, 1, none⟩ = some (.string ⟨#[]⟩) := (k0).cell 1
  have x2 : W7.cell? ⟨w.heap.size, 2, none⟩ = some (.slice none 0 0) := (k0).cell 2
  have x3 : W7.cell? ⟨w.heap.size, 3, none⟩ = some (.bool false) := (k0).cell 3
  have x4 : W7.cell? ⟨w.heap.size, 4, none⟩ = some (.string ⟨#[]⟩) := (k0).cell 4
  have x5 : W7.cell? ⟨w.heap.size, 5, none⟩ = some (.int .i64 0) := (k0).cell 5
  have xf0 : W7.frozen? ⟨w.heap.size, 0, none⟩ = false := (k0).frozen 0
  have xf1 : W7.frozen? ⟨w.heap.size, 1, none⟩ = false := (k0).frozen 1
  have xf2 : W7.frozen? ⟨w.heap.size, 2, none⟩ = false := (k0).frozen 2
  have xf3 : W7.frozen? ⟨w.heap.size, 3, none⟩ = false := (k0).frozen 3
  have xf4 : W7.frozen? ⟨w.heap.size, 4, none⟩ = false := (k0).frozen 4
  have xf5 : W7.frozen? ⟨w.heap.size, 5, none⟩ = false := (k0).frozen 5
  have K1 := hide k0
  have HBW := hide hbw
  clear k0 hbw
  go_wp2_with fail
  refine (unhide C5 _).mono ?_
  rintro e8 w8 ⟨rfl, rfl⟩
  go_wp2_with fail
  refine (unhide CF _).mono ?_
  rintro e9 w9 ⟨rfl, rfl⟩
  go_wp2_with fail
  refine (unhide CP _).mono ?_
  rintro e10 w10 ⟨rfl, rfl⟩
  go_wp2
  have kk := (((((((unhide K1).set 0 (by simp) (.int .i64 0)).set 1 (by simp) (.string ⟨#[]⟩)).set 2 (by simp) (.slice none 0 0)).set 3 (by simp) (.bool false)).set 4 (by simp) (.string ⟨#[]⟩)).set 5 (by simp) (.int .i64 (E : Int)))
  have d0 := kk.cell 0
  have d1 := kk.cell 1
  have d2 := kk.cell 2
  have d3 := kk.cell 3
  have d4 := kk.cell 4
  have d5 := kk.cell 5
  exact bodyPost_ret (v := .agg #[.int .i64 0, .string ⟨#[]⟩, .slice none 0 0, .bool false, .string ⟨#[]⟩, .int .i64 (E : Int)]) (by simp [results, Tryz.results18, go_sem, d0, d1, d2, d3, d4, d5]) rfl ⟨none, 0, rfl, slN_nil _ _ _, (((((((unhide HBW).setCell (by simp) _).setCell (by simp) _).setCell (by simp) _).setCell (by simp) _).setCell (by simp) _).setCell (by simp) _)⟩

set_option maxHeartbeats 4000000 in
set_option maxRecDepth 100000 in
theorem markup5_cd1 (s : ByteArray) (i : Nat) (cd : Bool) (w : World) (hs : s.size ≤ 100000) (h60 : dgt s.data.toList i = 60) (hi : i + 1 < s.size) (hc : dgt s.data.toList (i + 1) = 33) (h1 : notB s i = false) (h2 : docB (s.data.toList.drop (i + 2)) = false) (h9 : 9 ≤ s.size - i) (h3 : cd = true) (h4 : cdO.isPrefixOf (s.data.toList.drop i) = true) (h5 : ¬ fdN s [93, 93, 62] (i + 9) = i + 9) :
    Calls Tryz.prog 18 #[.string s, .int .i64 (i : Int), .bool cd] w (GotIs w (markT s i cd) (markE s i cd)) := by
  have i1 : (i : Int) + 1 < (s.size : Int) := by omega
  have eT : markT s i cd = (declK s i cd, ⟨#[]⟩, [], false, declX s i cd) := by unfold markT; rw [if_pos hc]
  have eE : markE s i cd = declE s i cd := by unfold markE; rw [if_pos hc]
  have CL := hide (fun w => letter5_one s i false w hs hi (by rw [hc]; rfl))
  have C1 := hide (fun w => is_lit s ⟨#[60, 47, 62]⟩ i false w hs (by decide) (by decide) (by omega) (by rw [show (ByteArray.mk #[60, 47, 62]).data.toList = [60, 47, 62] from rfl, pre_lt h60 hi, pre_not (by rw [hc]; decide)]))
  have C2 := hide (fun w => is_lit s ⟨#[60, 47]⟩ i false w hs (by decide) (by decide) (by omega) (by rw [show (ByteArray.mk #[60, 47]).data.toList = [60, 47] from rfl, pre_lt h60 hi, pre_not (by rw [hc]; decide)]))
  have C3 := hide (fun w => is_lit s ⟨#[60, 63]⟩ i false w hs (by decide) (by decide) (by omega) (by rw [show (ByteArray.mk #[60, 63]).data.toList = [60, 63] from rfl, pre_lt h60 hi, pre_not (by rw [hc]; decide)]))
  have n1 : ¬ notB s i = true := by rw [h1]; decide
  have C4 := hide (fun w => is_lit s ⟨#[60, 33, 45, 45]⟩ i false w hs (by decide) (by decide) (by omega) (h1))
  have CO : Hid (∀ w, Calls Tryz.prog 30 #[.string (s.extract (i + 2) (i + 9))] w fun e w' => e = .returned (.string (bs (lowL ((s.data.toList.drop (i + 2)).take 7)))) ∧ Below w.heap.size w w') := hide (fun w => by
    have := rlower_any (s.extract (i + 2) (i + 9)) w (by simp; omega)
    rw [ext_data s (by omega), show i + 9 - (i + 2) = 7 by omega] at this; exact this)
  have i9 : (9 : Int) ≤ (s.size : Int) - (i : Int) := by omega
  have i8 : (i : Int) + 9 ≤ (s.size : Int) := by omega
  have zz : (s.extract (i + 2) (i + 9)).size ≤ 100000 := by simp; omega
  have hw : ¬ bs (lowL ((s.data.toList.drop (i + 2)).take 7)) = ⟨#[100, 111, 99, 116, 121, 112, 101]⟩ := fun e => by
    unfold docB at h2
    rw [decide_eq_true (show 7 ≤ (s.data.toList.drop (i + 2)).length by rw [List.length_drop, data_len]; omega), Bool.true_and] at h2
    have : lowL ((s.data.toList.drop (i + 2)).take 7) = docW := bs_inj (e.trans rfl)
    rw [this] at h2; exact absurd h2 (by decide)
  have ew : ((bs (lowL ((s.data.toList.drop (i + 2)).take 7))).toList == [100, 111, 99, 116, 121, 112, 101]) = false := by
    have := beq_no hw
    rwa [show (ByteArray.mk #[100, 111, 99, 116, 121, 112, 101]).toList = [100, 111, 99, 116, 121, 112, 101] by rw [Lib.toList_data]] at this
  generalize bs (lowL ((s.data.toList.drop (i + 2)).take 7)) = LW at *
  have n2 : ¬ docB (s.data.toList.drop (i + 2)) = true := by rw [h2]; decide
  have hr : i + 9 ≤ s.size := by
    have := pre_room h4
    rw [List.length_drop, data_len] at this
    have h5 : cdO.length = 9 := rfl
    omega
  have C5 := hide (fun w => is_lit s ⟨#[60, 33, 91, 67, 68, 65, 84, 65, 91]⟩ i true w hs (by decide) (by decide) (by omega) (h4))
  have y3 : cdB s i cd = true := by unfold cdB; rw [h3, h4]; rfl
  have hF := fd_le s [93, 93, 62] (i := i + 9) hr
  have CF : Hid (∀ w, Calls Tryz.prog 40 #[.string s, .int .i64 ((i : Int) + 9), .string ⟨#[93, 93, 62]⟩] w fun e w' => e = .returned (.int .i64 (fdN s [93, 93, 62] (i + 9) : Nat)) ∧ w' = w) := hide (fun w => find_any s ⟨#[93, 93, 62]⟩ (i + 9) w hs (by decide) (by decide) hr)
  have CP : Hid (∀ w, Calls Tryz.prog 41 #[.string s, .int .i64 (fdN s [93, 93, 62] (i + 9) : Nat), .string ⟨#[93, 93, 62]⟩] w fun e w' => e = .returned (.int .i64 ((if fdN s [93, 93, 62] (i + 9) < s.size then fdN s [93, 93, 62] (i + 9) + 3 else s.size : Nat) : Int)) ∧ w' = w) := hide (fun w => past_any s ⟨#[93, 93, 62]⟩ (fdN s [93, 93, 62] (i + 9)) w hs (by decide) hF.1)
  have eF : declE s i cd = cutE s (i + 9) [93, 93, 62] := by unfold declE; rw [if_neg n1, if_neg n2, if_pos y3]
  rw [cutE_fd s [93, 93, 62] (i + 9) hr (by simp), show ([93, 93, 62] : List UInt8).length = 3 from rfl] at eF
  have eL := cutL_fd s [93, 93, 62] (i + 9) hr (by simp)
  have e0 : ¬ cutL s (i + 9) [93, 93, 62] = [] := by
    rw [eL]
    intro e
    have := congrArg List.length e
    rw [List.length_take, List.length_drop, data_len, List.length_nil] at this
    omega
  have eK : declK s i cd = 3 := by unfold declK; rw [if_neg n1, if_neg n2, if_pos y3, if_neg e0]
  have eX : declX s i cd = s.extract (i + 9) (fdN s [93, 93, 62] (i + 9)) := by unfold declX; rw [if_neg n1, if_neg n2, if_pos y3, if_neg e0, eL, cut_ext s hF.2]
  rw [eT, eE, eK, eX, eF]
  generalize fdN s [93, 93, 62] (i + 9) = z at *
  generalize (if z < s.size then z + 3 else s.size) = E at *
  have ez : ((z : Int) == (i : Int) + 9) = false := beq_eq_false_iff_ne.2 (by omega)
  have j1 : (i : Int) + 9 ≤ (z : Int) := by omega
  have j2 : (z : Int) ≤ (s.size : Int) := by omega
  have j3 : (0 : Int) ≤ (i : Int) + 9 := by omega
  have j6 : IntKind.i64.wrap ((i : Int) + 9) = (i : Int) + 9 := by simp [IntKind.wrap, IntKind.bits, IntKind.signed]; omega
  have j7 : ((i : Int) + 9).toNat = i + 9 := by omega
  have j4 : i + 9 ≤ z := by omega
  have j5 : z ≤ s.size := by omega
  clear eT eE hc h60 h1 h2 n1 n2 h9 hw eK eX eF y3 h4 h5 e0 eL hF
  subst h3
  go_enter Tryz.func18, Tryz.ntmps18
  go_wp2_with fail
  refine (unhide CL _).mono ?_
  rintro e1 w1 ⟨rfl, rfl⟩
  go_wp2_with fail
  refine (unhide C1 _).mono ?_
  rintro e1 w2 ⟨rfl, rfl⟩
  go_wp2_with fail
  refine (unhide C2 _).mono ?_
  rintro e1 w3 ⟨rfl, rfl⟩
  go_wp2_with fail
  refine (unhide C2 _).mono ?_
  rintro e1 w4 ⟨rfl, rfl⟩
  go_wp2_with fail
  refine (unhide C3 _).mono ?_
  rintro e1 w5 ⟨rfl, rfl⟩
  go_wp2_with fail
  refine (unhide C4 _).mono ?_
  rintro e1 w6 ⟨rfl, rfl⟩
  go_wp2_with fail
  refine (unhide CO _).mono ?_
  rintro e7 W7 ⟨rfl, hb7⟩
  have k0 := (Blk.new w #[.int .i64 0, .string ⟨#[]⟩, .slice none 0 0, .bool false, .string ⟨#[]⟩, .int .i64 0] 32).later hb7
  have hbw := bel_of hb7
  clear hb7
  have x0 : W7.cell? ⟨w.heap.size, 0, none⟩ = some (.int .i64 0) := (k0).cell 0
  have x1 : W7.cell? ⟨w.heap.size, 1, none⟩ = some (.string ⟨#[]⟩) := (k0).cell 1
  have x2 : W7.cell? ⟨w.heap.size, 2, none⟩ = some (.slice none 0 0) := (k0).cell 2
  have x3 : W7.cell? ⟨w.heap.size, 3, none⟩ = some (.bool false) := (k0).cell 3
  have x4 : W7.cell? ⟨w.heap.size, 4, none⟩ = some (.string ⟨#[]⟩) := (k0).cell 4
  have x5 : W7.cell? ⟨w.heap.size, 5, none⟩ = some (.int .i64 0) := (k0).cell 5
  have xf0 : W7.frozen? ⟨w.heap.size, 0, none⟩ = false := (k0).frozen 0
  have xf1 : W7.frozen? ⟨w.heap.size, 1, none⟩ = false := (k0).frozen 1
  have xf2 : W7.frozen? ⟨w.heap.size, 2, none⟩ = false := (k0).frozen 2
  have xf3 : W7.frozen? ⟨w.heap.size, 3, none⟩ = false := (k0).frozen 3
  have xf4 : W7.frozen? ⟨w.heap.size, 4, none⟩ = false := (k0).frozen 4
  have xf5 : W7.frozen? ⟨w.heap.size, 5, none⟩ = false := (k0).frozen 5
  have K1 := hide k0
  have HBW := hide hbw
  clear k0 hbw
  go_wp2_with fail
  refine (unhide C5 _).mono ?_
  rintro e8 w8 ⟨rfl, rfl⟩
  go_wp2_with fail
  refine (unhide CF _).mono ?_
  rintro e9 w9 ⟨rfl, rfl⟩
  go_wp2_with fail
  refine wp_region_any (by kernel_rfl) ?_
  change wpAny _ _ _ _ _ _ _ (World.drew _)
  refine wpAny_take (i := 0) (oi := { dst := some 98, op := _, type := _, pos := _, after := _, guard := _ }) (v := ?v0) rfl (by kernel_rfl) (by kernel_rfl) (by kernel_rfl) (fun _ _ _ h => h) (Or.inl ⟨by kernel_rfl, ?h0⟩) ?r0
  case h0 => first | (intro w; go_simp; done) | (intro w; go_simp; with_reducible rfl)
  try simp only [Act.put, List.setIfInBounds_toArray, List.set_cons_zero, List.set_cons_succ]
  refine wpAny_take (i := 1) (oi := { dst := some 99, op := _, type := _, pos := _, after := _, guard := _ }) (v := ?v1) rfl (by kernel_rfl) (by kernel_rfl) (by kernel_rfl) (fun _ _ _ h => h) (Or.inl ⟨by kernel_rfl, ?h1⟩) ?r1
  case h1 => first | (intro w; go_simp; done) | (intro w; go_simp; with_reducible rfl)
  try simp only [Act.put, List.setIfInBounds_toArray, List.set_cons_zero, List.set_cons_succ]
  refine wpAny_take (i := 2) (oi := { dst := some 100, op := _, type := _, pos := _, after := _, guard := _ }) (v := ?v2) rfl (by kernel_rfl) (by kernel_rfl) (by kernel_rfl) (fun _ _ _ h => h) (Or.inl ⟨by kernel_rfl, ?h2⟩) ?r2
  case h2 => first | (intro w; go_simp; done) | (intro w; go_simp; with_reducible rfl)
  try simp only [Act.put, List.setIfInBounds_toArray, List.set_cons_zero, List.set_cons_succ]
  refine wpAny_take (i := 3) (oi := { dst := some 101, op := _, type := _, pos := _, after := _, guard := _ }) (v := ?v3) rfl (by kernel_rfl) (by kernel_rfl) (by kernel_rfl) (fun _ _ _ h => h) (Or.inl ⟨by kernel_rfl, ?h3⟩) ?r3
  case h3 => first | (intro w; go_simp; done) | (intro w; go_simp; with_reducible rfl)
  try simp only [Act.put, List.setIfInBounds_toArray, List.set_cons_zero, List.set_cons_succ]
  refine wpAny_take (i := 4) (oi := { dst := some 102, op := _, type := _, pos := _, after := _, guard := _ }) (v := ?v4) rfl (by kernel_rfl) (by kernel_rfl) (by kernel_rfl) (fun _ _ _ h => h) (Or.inl ⟨by kernel_rfl, ?h4⟩) ?r4
  case h4 => first | (intro w; go_simp; done) | (intro w; go_simp; with_reducible rfl)
  try simp only [Act.put, List.setIfInBounds_toArray, List.set_cons_zero, List.set_cons_succ]
  refine wpAny_take (i := 5) (oi := { dst := some 103, op := _, type := _, pos := _, after := _, guard := _ }) (v := ?v5) rfl (by kernel_rfl) (by kernel_rfl) (by kernel_rfl) (fun _ _ _ h => h) (Or.inl ⟨by kernel_rfl, ?h5⟩) ?r5
  case h5 => first | (intro w; go_simp; done) | (intro w; go_simp; with_reducible rfl)
  try simp only [Act.put, List.setIfInBounds_toArray, List.set_cons_zero, List.set_cons_succ]
  refine wpAny_take (i := 6) (oi := { dst := some 104, op := _, type := _, pos := _, after := _, guard := _ }) (v := ?v6) rfl (by kernel_rfl) (by kernel_rfl) (by kernel_rfl) (fun _ _ _ h => h) (Or.inl ⟨by kernel_rfl, ?h6⟩) ?r6
  case h6 => first | (intro w; go_simp; done) | (intro w; go_simp; with_reducible rfl)
  try simp only [Act.put, List.setIfInBounds_toArray, List.set_cons_zero, List.set_cons_succ]
  refine wpAny_take (i := 7) (oi := { dst := some 105, op := _, type := _, pos := _, after := _, guard := _ }) (v := ?v7) rfl (by kernel_rfl) (by kernel_rfl) (by kernel_rfl) (fun _ _ _ h => h) (Or.inl ⟨by kernel_rfl, ?h7⟩) ?r7
  case h7 => first | (intro w; go_simp; done) | (intro w; go_simp; with_reducible rfl)
  try simp only [Act.put, List.setIfInBounds_toArray, List.set_cons_zero, List.set_cons_succ]
  refine wpAny_ready (rs := [8]) (by kernel_rfl) (by simp) ?_
  refine AllReady.cons rfl (fun K hK => ?_) AllReady.nil
  go_simp
  refine (unhide CP _).mono ?_
  rintro e10 w10 ⟨rfl, rfl⟩
  refine hK _ _ ?_
  clear hK K
  refine wpAny_take (i := 9) (oi := { dst := some 107, op := _, type := _, pos := _, after := _, guard := _ }) (v := ?v9) rfl (by kernel_rfl) (by kernel_rfl) (by kernel_rfl) (fun _ _ _ h => h) (Or.inl ⟨by kernel_rfl, ?h9⟩) ?r9
  case h9 => first | (intro w; go_simp; done) | (intro w; go_simp; with_reducible rfl)
  try simp only [Act.put, List.setIfInBounds_toArray, List.set_cons_zero, List.set_cons_succ]
  refine wpAny_ready (rs := [10]) (by kernel_rfl) (by simp) ?_
  refine AllReady.cons rfl (fun K hK => ?_) AllReady.nil
  go_simp
  refine hK _ _ ?_
  clear hK K
  refine wpAny_done (by kernel_rfl) ?_ _
  go_wp2
  have kk := ((((((((unhide K1).set 0 (by simp) (.int .i64 3)).set 1 (by simp) (.string ⟨#[]⟩)).set 2 (by simp) (.slice none 0 0)).set 3 (by simp) (.bool false)).set 4 (by simp) (.string (s.extract (i + 9) z))).set 5 (by simp) (.int .i64 (E : Int)))).later (Below.drew (Below.refl _ _))
  have d0 := kk.cell 0
  have d1 := kk.cell 1
  have d2 := kk.cell 2
  have d3 := kk.cell 3
  have d4 := kk.cell 4
  have d5 := kk.cell 5
  exact bodyPost_ret (v := .agg #[.int .i64 3, .string ⟨#[]⟩, .slice none 0 0, .bool false, .string (s.extract (i + 9) z), .int .i64 (E : Int)]) (by simp [results, Tryz.results18, go_sem, d0, d1, d2, d3, d4, d5]) rfl ⟨none, 0, rfl, slN_nil _ _ _, tr2 ((((((((unhide HBW).setCell (by simp) _).setCell (by simp) _).setCell (by simp) _).setCell (by simp) _).setCell (by simp) _).setCell (by simp) _)) (Below.drew (Below.refl _ _))⟩

theorem markup5_any (s : ByteArray) (i : Nat) (cd : Bool) (w : World) (hs : s.size ≤ 100000) (hb : begP s i = true) :
    Calls Tryz.prog 18 #[.string s, .int .i64 (i : Int), .bool cd] w (GotIs w (markT s i cd) (markE s i cd)) := by
  obtain ⟨h60, hi⟩ := beg60 hb
  cases hl : ltN (dgt s.data.toList (i + 1)) with
  | true => exact markup5_letter s i cd w hs h60 hi hl
  | false =>
    by_cases h47 : dgt s.data.toList (i + 1) = 47
    · have hi2 := (beg_bounds hb).2 h47
      by_cases hd : dgt s.data.toList (i + 2) = 62
      · exact markup5_shut s i cd w hs h60 hi h47 hi2 hd
      · cases hl2 : ltN (dgt s.data.toList (i + 2)) with
        | true => exact markup5_end s i cd w hs h60 hi h47 hi2 hd hl2
        | false => exact markup5_oddslash s i cd w hs h60 hi h47 hi2 hd hl2
    by_cases h63 : dgt s.data.toList (i + 1) = 63
    · exact markup5_pi s i cd w hs h60 hi h63
    have h33 : dgt s.data.toList (i + 1) = 33 := by
      rw [begP_is, pre_one, pre_one, pre_one, pre_one] at hb
      unfold ltP at hb
      rw [hl, Bool.and_false, Bool.false_or, decide_eq_false (p := i + 1 < s.size ∧ dgt s.data.toList (i + 1) = (63 : UInt8).toNat) (fun x => h63 x.2), Bool.false_or, decide_eq_false (p := i + 1 < s.size ∧ dgt s.data.toList (i + 1) = (47 : UInt8).toNat) (fun x => h47 x.2), Bool.false_and, Bool.or_false, Bool.and_eq_true] at hb
      exact (of_decide_eq_true hb.2).2
    cases h1 : notB s i with
    | true => exact markup5_note s i cd w hs h60 hi h33 h1
    | false =>
      cases h2 : docB (s.data.toList.drop (i + 2)) with
      | true => exact markup5_doc s i cd w hs h60 hi h33 h1 h2
      | false =>
        by_cases h9 : 9 ≤ s.size - i
        · cases h3 : cd with
          | false => exact markup5_odd10 s i false w hs h60 hi h33 h1 h2 h9 rfl
          | true =>
            cases h4 : cdO.isPrefixOf (s.data.toList.drop i) with
            | false => exact markup5_odd11 s i true w hs h60 hi h33 h1 h2 h9 rfl h4
            | true =>
              by_cases h5 : fdN s [93, 93, 62] (i + 9) = i + 9
              · exact markup5_cd0 s i true w hs h60 hi h33 h1 h2 h9 rfl h4 h5
              · exact markup5_cd1 s i true w hs h60 hi h33 h1 h2 h9 rfl h4 h5
        · cases h3 : cd with
          | false => exact markup5_odd00 s i false w hs h60 hi h33 h1 h2 h9 rfl
          | true =>
            cases h4 : cdO.isPrefixOf (s.data.toList.drop i) with
            | false => exact markup5_odd01 s i true w hs h60 hi h33 h1 h2 h9 rfl h4
            | true =>
              have := pre_room h4
              rw [List.length_drop, data_len, show cdO.length = 9 from rfl] at this
              exact absurd this h9
end Go.Proofs.YtakjlolmmoladaaGreatDoor

/-
  What the reference's closes of layer 5 does.
-/
namespace Go.Proofs.YtakjlolmmoladaaGreatDoor
open Go.RowKit
set_option linter.unusedVariables false


set_option maxHeartbeats 2000000 in
theorem closes_nil (s n : ByteArray) (i : Nat) (w : World) (hs : s.size ≤ 100000) (hn : n.size ≤ 100000) (hi : i ≤ s.size) (h0 : n.size = 0) :
    Calls Tryz.prog 14 #[.string s, .int .i64 (i : Int), .string n] w fun e w' => e = .returned (.bool false) ∧ Below w.heap.size w w' := by
  have i0 : (i : Int) ≤ (s.size : Int) := by omega
  have e0 := is_empty n h0
  go_enter Tryz.func14, Tryz.ntmps14
  go_wp2
  go_ret
  exact ⟨rfl, Below.refl _ _⟩

set_option maxHeartbeats 2000000 in
theorem closes_no (s n : ByteArray) (i : Nat) (w : World) (hs : s.size ≤ 100000) (hn : n.size ≤ 100000) (hi : i ≤ s.size) (h0 : 0 < n.size) (h1 : [60, 47].isPrefixOf (s.data.toList.drop i) = false) :
    Calls Tryz.prog 14 #[.string s, .int .i64 (i : Int), .string n] w fun e w' => e = .returned (.bool false) ∧ Below w.heap.size w w' := by
  have i0 : (i : Int) ≤ (s.size : Int) := by omega
  have e0 := not_empty n h0
  have C1 := hide (fun w => is_lit s ⟨#[60, 47]⟩ i false w hs (by decide) (by decide) (by omega) h1)
  clear h1
  go_enter Tryz.func14, Tryz.ntmps14
  go_wp2_with fail
  refine (unhide C1 _).mono ?_
  rintro e1 w1 ⟨rfl, rfl⟩
  go_wp2
  go_ret
  exact ⟨rfl, Below.refl _ _⟩

set_option maxHeartbeats 2000000 in
theorem closes_short (s n : ByteArray) (i : Nat) (w : World) (hs : s.size ≤ 100000) (hn : n.size ≤ 100000) (hi : i ≤ s.size) (h0 : 0 < n.size) (h1 : [60, 47].isPrefixOf (s.data.toList.drop i) = true) (h2 : ¬ i + 2 + n.size < s.size) :
    Calls Tryz.prog 14 #[.string s, .int .i64 (i : Int), .string n] w fun e w' => e = .returned (.bool false) ∧ Below w.heap.size w w' := by
  have i0 : (i : Int) ≤ (s.size : Int) := by omega
  have e0 := not_empty n h0
  have C1 := hide (fun w => is_lit s ⟨#[60, 47]⟩ i true w hs (by decide) (by decide) (by omega) h1)
  clear h1
  have i2 : (s.size : Int) ≤ (i : Int) + 2 + (n.size : Int) := by omega
  clear h2
  go_enter Tryz.func14, Tryz.ntmps14
  go_wp2_with fail
  refine (unhide C1 _).mono ?_
  rintro e1 w1 ⟨rfl, rfl⟩
  go_wp2
  go_ret
  exact ⟨rfl, Below.refl _ _⟩

set_option maxHeartbeats 2000000 in
theorem closes_other (s n : ByteArray) (i : Nat) (w : World) (hs : s.size ≤ 100000) (hn : n.size ≤ 100000) (hi : i ≤ s.size) (h0 : 0 < n.size) (h1 : [60, 47].isPrefixOf (s.data.toList.drop i) = true) (h2 : i + 2 + n.size < s.size) (h3 : ¬ bs (lowL ((s.data.toList.drop (i + 2)).take n.size)) = n) :
    Calls Tryz.prog 14 #[.string s, .int .i64 (i : Int), .string n] w fun e w' => e = .returned (.bool false) ∧ Below w.heap.size w w' := by
  have i0 : (i : Int) ≤ (s.size : Int) := by omega
  have e0 := not_empty n h0
  have C1 := hide (fun w => is_lit s ⟨#[60, 47]⟩ i true w hs (by decide) (by decide) (by omega) h1)
  clear h1
  have i2 : ¬ (s.size : Int) ≤ (i : Int) + 2 + (n.size : Int) := by omega
  have i2' : decide ((s.size : Int) ≤ (i : Int) + 2 + (n.size : Int)) = false := decide_eq_false i2
  have i3 : (i : Int) + 2 ≤ (i : Int) + 2 + (n.size : Int) := by omega
  have i4 : (i : Int) + 2 + (n.size : Int) ≤ (s.size : Int) := by omega
  have i5 : (i : Int) + 2 + (n.size : Int) < (s.size : Int) := by omega
  have zz : (s.extract (i + 2) (i + 2 + n.size)).size ≤ 100000 := by simp; omega
  have CO : Hid (∀ w, Calls Tryz.prog 30 #[.string (s.extract (i + 2) (i + 2 + n.size))] w fun e w' => e = .returned (.string (bs (lowL ((s.data.toList.drop (i + 2)).take n.size)))) ∧ Below w.heap.size w w') := hide (fun w => by
    have := rlower_any (s.extract (i + 2) (i + 2 + n.size)) w zz
    rw [ext_data s (by omega), show i + 2 + n.size - (i + 2) = n.size by omega] at this; exact this)
  have e3 := beq_no h3
  generalize bs (lowL ((s.data.toList.drop (i + 2)).take n.size)) = L at *
  clear h3 h2
  go_enter Tryz.func14, Tryz.ntmps14
  go_wp2_with fail
  refine (unhide C1 _).mono ?_
  rintro e1 w1 ⟨rfl, rfl⟩
  go_wp2_with fail
  refine (unhide CO _).mono ?_
  rintro e2 w2 ⟨rfl, hbw2⟩
  go_wp2
  go_ret
  exact ⟨rfl, hbw2⟩

set_option maxHeartbeats 2000000 in
theorem closes_same (s n : ByteArray) (i : Nat) (w : World) (hs : s.size ≤ 100000) (hn : n.size ≤ 100000) (hi : i ≤ s.size) (h0 : 0 < n.size) (h1 : [60, 47].isPrefixOf (s.data.toList.drop i) = true) (h2 : i + 2 + n.size < s.size) (h3 : bs (lowL ((s.data.toList.drop (i + 2)).take n.size)) = n) :
    Calls Tryz.prog 14 #[.string s, .int .i64 (i : Int), .string n] w fun e w' => e = .returned (.bool (enB (dgt s.data.toList (i + 2 + n.size)))) ∧ Below w.heap.size w w' := by
  have i0 : (i : Int) ≤ (s.size : Int) := by omega
  have e0 := not_empty n h0
  have C1 := hide (fun w => is_lit s ⟨#[60, 47]⟩ i true w hs (by decide) (by decide) (by omega) h1)
  clear h1
  have i2 : ¬ (s.size : Int) ≤ (i : Int) + 2 + (n.size : Int) := by omega
  have i2' : decide ((s.size : Int) ≤ (i : Int) + 2 + (n.size : Int)) = false := decide_eq_false i2
  have i3 : (i : Int) + 2 ≤ (i : Int) + 2 + (n.size : Int) := by omega
  have i4 : (i : Int) + 2 + (n.size : Int) ≤ (s.size : Int) := by omega
  have i5 : (i : Int) + 2 + (n.size : Int) < (s.size : Int) := by omega
  have zz : (s.extract (i + 2) (i + 2 + n.size)).size ≤ 100000 := by simp; omega
  have CO : Hid (∀ w, Calls Tryz.prog 30 #[.string (s.extract (i + 2) (i + 2 + n.size))] w fun e w' => e = .returned (.string (bs (lowL ((s.data.toList.drop (i + 2)).take n.size)))) ∧ Below w.heap.size w w') := hide (fun w => by
    have := rlower_any (s.extract (i + 2) (i + 2 + n.size)) w zz
    rw [ext_data s (by omega), show i + 2 + n.size - (i + 2) = n.size by omega] at this; exact this)
  have e3 := beq_yes (rfl : n = n)
  rw [h3] at CO
  have e4 := dgt_at s (i + 2 + n.size) h2
  have CS := hide (fun w => rspace_any (dgt s.data.toList (i + 2 + n.size)) w)
  unfold enB
  generalize dgt s.data.toList (i + 2 + n.size) = b at *
  clear h3
  cases hsp : spN b with
  | true =>
    rw [hsp] at CS
    clear hsp
    go_enter Tryz.func14, Tryz.ntmps14
    go_wp2_with fail
    refine (unhide C1 _).mono ?_
    rintro e1 w1 ⟨rfl, rfl⟩
    go_wp2_with fail
    refine (unhide CO _).mono ?_
    rintro e2 w2 ⟨rfl, hbw2⟩
    go_wp2_with fail
    refine (unhide CS _).mono ?_
    rintro e5 w5 ⟨rfl, rfl⟩
    go_wp2
    go_ret
    exact ⟨by simp, hbw2⟩
  | false =>
    rw [hsp] at CS
    by_cases h47 : b = 47
    · subst h47
      clear hsp
      go_enter Tryz.func14, Tryz.ntmps14
      go_wp2_with fail
      refine (unhide C1 _).mono ?_
      rintro e1 w1 ⟨rfl, rfl⟩
      go_wp2_with fail
      refine (unhide CO _).mono ?_
      rintro e2 w2 ⟨rfl, hbw2⟩
      go_wp2_with fail
      refine (unhide CS _).mono ?_
      rintro e5 w5 ⟨rfl, rfl⟩
      go_wp2
      go_ret
      exact ⟨by simp, hbw2⟩
    have n47 : ((b : Int) == 47) = false := bneI (by omega)
    by_cases h62 : b = 62
    · subst h62
      clear hsp
      go_enter Tryz.func14, Tryz.ntmps14
      go_wp2_with fail
      refine (unhide C1 _).mono ?_
      rintro e1 w1 ⟨rfl, rfl⟩
      go_wp2_with fail
      refine (unhide CO _).mono ?_
      rintro e2 w2 ⟨rfl, hbw2⟩
      go_wp2_with fail
      refine (unhide CS _).mono ?_
      rintro e5 w5 ⟨rfl, rfl⟩
      go_wp2
      go_ret
      exact ⟨by simp, hbw2⟩
    have n62 : ((b : Int) == 62) = false := bneI (by omega)
    rw [decide_eq_false h47, decide_eq_false h62]
    clear hsp h47 h62
    go_enter Tryz.func14, Tryz.ntmps14
    go_wp2_with fail
    refine (unhide C1 _).mono ?_
    rintro e1 w1 ⟨rfl, rfl⟩
    go_wp2_with fail
    refine (unhide CO _).mono ?_
    rintro e2 w2 ⟨rfl, hbw2⟩
    go_wp2_with fail
    refine (unhide CS _).mono ?_
    rintro e5 w5 ⟨rfl, rfl⟩
    go_wp2
    go_ret
    exact ⟨rfl, hbw2⟩
theorem lastP_of (s n : ByteArray) (i : Nat) (hi : i ≤ s.size) : lastP s n i = ([60, 47].isPrefixOf (s.data.toList.drop i) && (decide (0 < n.size ∧ i + 2 + n.size < s.size) && (enB (dgt s.data.toList (i + 2 + n.size)) && decide (bs (lowL ((s.data.toList.drop (i + 2)).take n.size)) = n)))) := by
  unfold lastP lastB
  rw [List.length_drop, data_len, data_len, dgt_drop, List.drop_drop]
  have a1 : (decide (n.data.toList ≠ [] ∧ n.size + 2 < s.size - i)) = decide (0 < n.size ∧ i + 2 + n.size < s.size) := by
    congr 1
    apply propext
    constructor
    · rintro ⟨h1, h2⟩
      refine ⟨?_, by omega⟩
      rw [← data_len]; exact List.length_pos_iff.2 h1
    · rintro ⟨h1, h2⟩
      refine ⟨?_, by omega⟩
      rw [← data_len] at h1; exact List.length_pos_iff.1 h1
  have a2 : (lowL ((s.data.toList.drop (i + 2)).take n.size) == n.data.toList) = decide (bs (lowL ((s.data.toList.drop (i + 2)).take n.size)) = n) := by
    rw [Bool.eq_iff_iff, decide_eq_true_iff, beq_iff_eq]
    constructor
    · intro h; rw [h, bs_self]
    · intro h; have := congrArg (fun x : ByteArray => x.data.toList) h; simpa [bs_toList] using this
  rw [a1, a2, show i + (2 + n.size) = i + 2 + n.size by omega]
theorem closes_any (s n : ByteArray) (i : Nat) (w : World) (hs : s.size ≤ 100000) (hn : n.size ≤ 100000) (hi : i ≤ s.size) :
    Calls Tryz.prog 14 #[.string s, .int .i64 (i : Int), .string n] w fun e w' => e = .returned (.bool (lastP s n i)) ∧ Below w.heap.size w w' := by
  rw [lastP_of s n i hi]
  by_cases h0 : 0 < n.size
  · cases h1 : [60, 47].isPrefixOf (s.data.toList.drop i) with
    | false => rw [Bool.false_and]; exact closes_no s n i w hs hn hi h0 h1
    | true =>
      rw [Bool.true_and]
      by_cases h2 : i + 2 + n.size < s.size
      · rw [decide_eq_true ⟨h0, h2⟩, Bool.true_and]
        by_cases h3 : bs (lowL ((s.data.toList.drop (i + 2)).take n.size)) = n
        · rw [decide_eq_true h3, Bool.and_true]; exact closes_same s n i w hs hn hi h0 h1 h2 h3
        · rw [decide_eq_false h3, Bool.and_false]; exact closes_other s n i w hs hn hi h0 h1 h2 h3
      · rw [decide_eq_false (fun x => h2 x.2), Bool.false_and]; exact closes_short s n i w hs hn hi h0 h1 h2
  · rw [decide_eq_false (fun x => h0 x.1), Bool.false_and, Bool.and_false]; exact closes_nil s n i w hs hn hi (by omega)
end Go.Proofs.YtakjlolmmoladaaGreatDoor

/-
  What the reference's Next of layer 5 does: of any text, from any place on, in any mode.
-/
namespace Go.Proofs.YtakjlolmmoladaaGreatDoor
open Go.RowKit
set_option linter.unusedVariables false

theorem dataF_fuel (s : ByteArray) (cd : Bool) : ∀ (k k' i : Nat), s.size < i + k → s.size < i + k' → dataF s cd k i = dataF s cd k' i
  | 0, k', i, h, h' => by rw [dataF_end (by omega), dataF_end (by omega)]
  | k + 1, k', i, h, h' => by
    by_cases hi : i < s.size
    · obtain ⟨m, rfl⟩ : ∃ m, k' = m + 1 := ⟨k' - 1, by omega⟩
      cases hb : begP s i with
      | false => rw [dataF_chars hi hb, dataF_chars hi hb]
      | true =>
        obtain ⟨b1, b2⟩ := beg_bounds hb
        have hm := markE_le s i cd b1 b2
        by_cases hk : (markT s i cd).1 = 0
        · rw [dataF_on hi hb hk, dataF_on hi hb hk]; exact dataF_fuel s cd k m _ (by omega) (by omega)
        · rw [dataF_mark hi hb hk, dataF_mark hi hb hk]
    · rw [dataF_end (by omega), dataF_end (by omega)]
theorem markT_zero (s : ByteArray) (i : Nat) (cd : Bool) (h : (markT s i cd).1 = 0) : markT s i cd = noT := by
  unfold markT at h ⊢
  split
  · rename_i hc
    rw [if_pos hc] at h
    have h' : declK s i cd = 0 := h
    unfold declK at h'
    unfold declK declX
    by_cases h1 : notB s i = true
    · rw [if_pos h1] at h'; cases h'
    rw [if_neg h1] at h' ⊢
    rw [if_neg h1]
    by_cases h2 : docB (s.data.toList.drop (i + 2)) = true
    · rw [if_pos h2] at h'; cases h'
    rw [if_neg h2] at h' ⊢
    rw [if_neg h2]
    by_cases h3 : cdB s i cd = true
    · rw [if_pos h3] at h' ⊢
      rw [if_pos h3]
      by_cases h4 : cutL s (i + 9) [93, 93, 62] = []
      · rw [if_pos h4, if_pos h4]; rfl
      · rw [if_neg h4] at h'; cases h'
    · rw [if_neg h3] at h'; cases h'
  rename_i hc
  rw [if_neg hc] at h
  split
  · rename_i h1; rw [if_pos h1] at h; cases h
  rename_i h1
  rw [if_neg h1] at h
  split
  · rfl
  rename_i h2
  rw [if_neg h2] at h
  split
  · rename_i h3; rw [if_pos h3] at h; cases h
  rename_i h3
  rw [if_neg h3] at h
  unfold tagT at h ⊢
  split
  · rename_i h4
    rw [if_pos h4] at h
    split at h <;> cases h
  · rfl

set_option maxHeartbeats 4000000 in
set_option maxRecDepth 100000 in
theorem next5_out (s n : ByteArray) (kind : Int) (cd : Bool) (a : Int) (w : World) (hs : s.size ≤ 100000) (h : a < 0 ∨ (s.size : Int) ≤ a) :
    Calls Tryz.prog 7 #[.string s, .int .i64 a, .agg #[.int .i64 kind, .string n, .bool cd]] w (GotIs w noT s.size) := by
  have hbb : Below w.heap.size w ((w.alloc (Obj.cells #[.int .i64 kind, .string n, .bool cd] 34)).alloc (Obj.cells #[.int .i64 0, .string ⟨#[]⟩, .slice none 0 0, .bool false, .string ⟨#[]⟩, .int .i64 0] 32)) := ((Below.refl w.heap.size w).alloc (Nat.le_refl _) _).alloc (by simp) _
  have kk0 : Blk ((w.alloc (Obj.cells #[.int .i64 kind, .string n, .bool cd] 34)).alloc (Obj.cells #[.int .i64 0, .string ⟨#[]⟩, .slice none 0 0, .bool false, .string ⟨#[]⟩, .int .i64 0] 32)) w.heap.size #[.int .i64 kind, .string n, .bool cd] 34 := (Blk.new w #[.int .i64 kind, .string n, .bool cd] 34).alloc _
  have kk1 : Blk ((w.alloc (Obj.cells #[.int .i64 kind, .string n, .bool cd] 34)).alloc (Obj.cells #[.int .i64 0, .string ⟨#[]⟩, .slice none 0 0, .bool false, .string ⟨#[]⟩, .int .i64 0] 32)) (w.heap.size + 1) #[.int .i64 0, .string ⟨#[]⟩, .slice none 0 0, .bool false, .string ⟨#[]⟩, .int .i64 0] 32 := by
    have := Blk.new (w.alloc (Obj.cells #[.int .i64 kind, .string n, .bool cd] 34)) #[.int .i64 0, .string ⟨#[]⟩, .slice none 0 0, .bool false, .string ⟨#[]⟩, .int .i64 0] 32
    simpa using this
  have k1 := hide (show Blk ((w.alloc (Obj.cells #[.int .i64 kind, .string n, .bool cd] 34)).alloc (Obj.cells #[.int .i64 0, .string ⟨#[]⟩, .slice none 0 0, .bool false, .string ⟨#[]⟩, .int .i64 (s.size : Int)] 32)) (w.heap.size + 1) #[.int .i64 0, .string ⟨#[]⟩, .slice none 0 0, .bool false, .string ⟨#[]⟩, .int .i64 (s.size : Int)] 32 by
    have := Blk.new (w.alloc (Obj.cells #[.int .i64 kind, .string n, .bool cd] 34)) #[.int .i64 0, .string ⟨#[]⟩, .slice none 0 0, .bool false, .string ⟨#[]⟩, .int .i64 (s.size : Int)] 32
    simpa using this)
  unfold noT
  clear kk0 kk1 hbb
  by_cases h0 : a < 0
  · clear h
    go_enter Tryz.func7, Tryz.ntmps7
    go_wp2
    have d0 := (unhide k1).cell 0
    have d1 := (unhide k1).cell 1
    have d2 := (unhide k1).cell 2
    have d3 := (unhide k1).cell 3
    have d4 := (unhide k1).cell 4
    have d5 := (unhide k1).cell 5
    exact bodyPost_ret (v := .agg #[.int .i64 0, .string ⟨#[]⟩, .slice none 0 0, .bool false, .string ⟨#[]⟩, .int .i64 (s.size : Int)]) (by simp [results, Tryz.results7, go_sem, d0, d1, d2, d3, d4, d5]) rfl ⟨none, 0, rfl, slN_nil _ _ _, ((Below.refl w.heap.size w).alloc (Nat.le_refl _) _).alloc (by simp) _⟩
  · have h1 : (s.size : Int) ≤ a := h.resolve_left h0
    clear h
    go_enter Tryz.func7, Tryz.ntmps7
    go_wp2
    have d0 := (unhide k1).cell 0
    have d1 := (unhide k1).cell 1
    have d2 := (unhide k1).cell 2
    have d3 := (unhide k1).cell 3
    have d4 := (unhide k1).cell 4
    have d5 := (unhide k1).cell 5
    exact bodyPost_ret (v := .agg #[.int .i64 0, .string ⟨#[]⟩, .slice none 0 0, .bool false, .string ⟨#[]⟩, .int .i64 (s.size : Int)]) (by simp [results, Tryz.results7, go_sem, d0, d1, d2, d3, d4, d5]) rfl ⟨none, 0, rfl, slN_nil _ _ _, ((Below.refl w.heap.size w).alloc (Nat.le_refl _) _).alloc (by simp) _⟩

set_option maxHeartbeats 8000000 in
set_option maxRecDepth 100000 in
theorem next5_one (s n : ByteArray) (kind : Int) (cd : Bool) (i : Nat) (w : World) (hs : s.size ≤ 100000) (hn : n.size ≤ 100000) (hi : i < s.size) (hk : kind = 1) :
    Calls Tryz.prog 7 #[.string s, .int .i64 (i : Int), .agg #[.int .i64 kind, .string n, .bool cd]] w (GotIs w (encT s n kind i) (encE s n i)) := by
  have i0 : ¬ (i : Int) < 0 := by omega
  have i1 : (i : Int) < (s.size : Int) := by omega
  have i2 : ¬ (s.size : Int) ≤ (i : Int) := by omega
  have hbb : Below w.heap.size w ((w.alloc (Obj.cells #[.int .i64 kind, .string n, .bool cd] 34)).alloc (Obj.cells #[.int .i64 0, .string ⟨#[]⟩, .slice none 0 0, .bool false, .string ⟨#[]⟩, .int .i64 0] 32)) := ((Below.refl w.heap.size w).alloc (Nat.le_refl _) _).alloc (by simp) _
  have kk0 : Blk ((w.alloc (Obj.cells #[.int .i64 kind, .string n, .bool cd] 34)).alloc (Obj.cells #[.int .i64 0, .string ⟨#[]⟩, .slice none 0 0, .bool false, .string ⟨#[]⟩, .int .i64 0] 32)) w.heap.size #[.int .i64 kind, .string n, .bool cd] 34 := (Blk.new w #[.int .i64 kind, .string n, .bool cd] 34).alloc _
  have kk1 : Blk ((w.alloc (Obj.cells #[.int .i64 kind, .string n, .bool cd] 34)).alloc (Obj.cells #[.int .i64 0, .string ⟨#[]⟩, .slice none 0 0, .bool false, .string ⟨#[]⟩, .int .i64 0] 32)) (w.heap.size + 1) #[.int .i64 0, .string ⟨#[]⟩, .slice none 0 0, .bool false, .string ⟨#[]⟩, .int .i64 0] 32 := by
    have := Blk.new (w.alloc (Obj.cells #[.int .i64 kind, .string n, .bool cd] 34)) #[.int .i64 0, .string ⟨#[]⟩, .slice none 0 0, .bool false, .string ⟨#[]⟩, .int .i64 0] 32
    simpa using this
  have HZ0 := hide (seekN_le (lastP s n) (n := s.size) (k := i) (by omega))
  subst hk
  go_enter Tryz.func7, Tryz.ntmps7
  go_wp2
  generalize hWW : ((w.alloc (Obj.cells #[.int .i64 1, .string n, .bool cd] 34)).alloc (Obj.cells #[.int .i64 0, .string ⟨#[]⟩, .slice none 0 0, .bool false, .string ⟨#[]⟩, .int .i64 0] 32)) = W at *
  clear hWW
  go_loopw [7] (fun a wr => ∃ z : Nat, z ≤ s.size ∧ i ≤ z ∧ a = .int .i64 z ∧ seekN (lastP s n) s.size z = encZ s n i ∧ Blk wr w.heap.size #[.int .i64 1, .string n, .bool cd] 34 ∧ Blk wr (w.heap.size + 1) #[.int .i64 0, .string ⟨#[]⟩, .slice none 0 0, .bool false, .string ⟨#[]⟩, .int .i64 0] 32 ∧ Below w.heap.size w wr) (fun a _ => s.size - (intOf a).toNat)
  case atStart => exact ⟨i, by omega, Nat.le_refl _, rfl, rfl, kk0, kk1, hbb⟩
  case round =>
    clear kk0 kk1 hbb
    obtain ⟨z, hz, hiz, rfl, hsk, k0, k1, hb⟩ := hrel
    have m0 : wr.cell? ⟨w.heap.size, 0, none⟩ = some (.int .i64 1) := k0.cell 0
    have m1 : wr.cell? ⟨w.heap.size, 1, none⟩ = some (.string n) := k0.cell 1
    by_cases hp : z < s.size
    · have hpi : (z : Int) < (s.size : Int) := by omega
      have CC := hide (fun w => closes_any s n z w hs hn hz)
      cases hl : lastP s n z with
      | false =>
        rw [hl] at CC
        have HS : Hid (seekN (lastP s n) s.size (z + 1) = encZ s n i) := hide ((seek_next _ hp hl).symm.trans hsk)
        have KK := hide (And.intro k0 (And.intro k1 hb))
        clear k0 k1 hb hl hsk
        go_wp2_with fail
        refine (unhide CC _).mono ?_
        rintro e1 W1 ⟨rfl, hb1⟩
        have KL := hide (And.intro ((unhide KK).1.later hb1) (And.intro ((unhide KK).2.1.later hb1) (tr2 (unhide KK).2.2 hb1)))
        clear hb1 KK
        go_wp2
        go_roundw
        case rel => exact ⟨z + 1, by omega, by omega, by go_num, unhide HS, unhide KL⟩
        case measure => simp [intOf]; omega
      | true =>
        rw [hl] at CC
        have hZ : encZ s n i = z := hsk.symm.trans (seek_hit _ hl)
        by_cases hzi : z = i
        · subst hzi
          have hlb := last_bounds hl
          have CT := hide (fun w => tag5_two s z w hs (by omega) hlb.2)
          have eT : encT s n 1 z = tagT s z := by unfold encT; rw [if_pos hZ]
          have eE : encE s n z = tagE s z := by unfold encE; rw [if_pos hZ]
          have HTT := hide eT
          have HEE := hide eE
          clear eT eE
          generalize tagT s z = T at *
          generalize tagE s z = E at *
          obtain ⟨tk, tn, ta, tf, tx⟩ := T
          have ez : ((z : Int) == (z : Int)) = true := by simp
          have i3 : (z : Int) + 2 < (s.size : Int) := by omega
          have KK := hide (And.intro k0 (And.intro k1 hb))
          clear k0 k1 hb hl hsk hlb hZ
          go_wp2_with fail
          refine (unhide CC _).mono ?_
          rintro e1 W1 ⟨rfl, hb1⟩
          have k1 := (unhide KK).2.1.later hb1
          have hb := tr2 (unhide KK).2.2 hb1
          clear hb1 KK m0 m1
          go_wp2_with fail
          refine (unhide CT _).mono ?_
          rintro eT W4 ⟨q, cap, rfl, hsl, hbT⟩
          have hsl2 := hide (hsl.mono (b' := w.heap.size + 1 + 1) k1.lt)
          clear hsl
          replace k1 := k1.later hbT
          replace hb := tr2 hb hbT
          clear hbT
          have x0 : W4.cell? ⟨(w.heap.size + 1), 0, none⟩ = some (.int .i64 0) := (k1).cell 0
          have x1 : W4.cell? ⟨(w.heap.size + 1), 1, none⟩ = some (.string ⟨#[]⟩) := (k1).cell 1
          have x2 : W4.cell? ⟨(w.heap.size + 1), 2, none⟩ = some (.slice none 0 0) := (k1).cell 2
          have x3 : W4.cell? ⟨(w.heap.size + 1), 3, none⟩ = some (.bool false) := (k1).cell 3
          have x4 : W4.cell? ⟨(w.heap.size + 1), 4, none⟩ = some (.string ⟨#[]⟩) := (k1).cell 4
          have x5 : W4.cell? ⟨(w.heap.size + 1), 5, none⟩ = some (.int .i64 0) := (k1).cell 5
          have xf0 : W4.frozen? ⟨(w.heap.size + 1), 0, none⟩ = false := (k1).frozen 0
          have xf1 : W4.frozen? ⟨(w.heap.size + 1), 1, none⟩ = false := (k1).frozen 1
          have xf2 : W4.frozen? ⟨(w.heap.size + 1), 2, none⟩ = false := (k1).frozen 2
          have xf3 : W4.frozen? ⟨(w.heap.size + 1), 3, none⟩ = false := (k1).frozen 3
          have xf4 : W4.frozen? ⟨(w.heap.size + 1), 4, none⟩ = false := (k1).frozen 4
          have xf5 : W4.frozen? ⟨(w.heap.size + 1), 5, none⟩ = false := (k1).frozen 5
          have K1 := hide k1
          have HBW := hide hb
          clear k1 hb
          go_wp2
          have kk := (((((((unhide K1).set 0 (by simp) (.int .i64 tk)).set 1 (by simp) (.string tn)).set 2 (by simp) (.slice q ta.length cap)).set 3 (by simp) (.bool tf)).set 4 (by simp) (.string tx)).set 5 (by simp) (.int .i64 (E : Int)))
          have d0 := kk.cell 0
          have d1 := kk.cell 1
          have d2 := kk.cell 2
          have d3 := kk.cell 3
          have d4 := kk.cell 4
          have d5 := kk.cell 5
          exact bodyPost_ret (v := .agg #[.int .i64 tk, .string tn, .slice q ta.length cap, .bool tf, .string tx, .int .i64 (E : Int)]) (by simp [results, Tryz.results7, go_sem, d0, d1, d2, d3, d4, d5]) rfl (by show GotIs w _ _ _ _; rw [unhide HTT, unhide HEE]; exact ⟨q, cap, rfl, (((((((unhide hsl2).away (Nat.lt_succ_self _) _).away (Nat.lt_succ_self _) _).away (Nat.lt_succ_self _) _).away (Nat.lt_succ_self _) _).away (Nat.lt_succ_self _) _).away (Nat.lt_succ_self _) _).mono (b' := w.heap.size) (by omega), (((((((unhide HBW).setCell (by show w.heap.size ≤ w.heap.size + 1; omega) _).setCell (by show w.heap.size ≤ w.heap.size + 1; omega) _).setCell (by show w.heap.size ≤ w.heap.size + 1; omega) _).setCell (by show w.heap.size ≤ w.heap.size + 1; omega) _).setCell (by show w.heap.size ≤ w.heap.size + 1; omega) _).setCell (by show w.heap.size ≤ w.heap.size + 1; omega) _)⟩)
        · have eE : encE s n i = z := by unfold encE; rw [hZ, if_neg hzi]
          have eT : encT s n 1 i = (3, ⟨#[]⟩, [], false, encX s n 1 i) := by unfold encT; rw [hZ, if_neg hzi]
          have eX : encX s n 1 i = bs (allL false ((s.data.toList.drop i).take (z - i))) := by unfold encX; rw [hZ, if_pos rfl]
          have HTT : Hid (encT s n 1 i = (3, ⟨#[]⟩, [], false, bs (allL false ((s.data.toList.drop i).take (z - i))))) := hide (by rw [eT, eX])
          have HEE := hide eE
          have ez : ((z : Int) == (i : Int)) = false := bneI (by omega)
          have i3 : (i : Int) ≤ (z : Int) := by omega
          have i4 : (z : Int) ≤ (s.size : Int) := by omega
          have zz : (s.extract i z).size ≤ 100000 := by simp; omega
          have CA : Hid (∀ w, Calls Tryz.prog 16 #[.string (s.extract i z), .bool false] w fun e w' => e = .returned (.string (bs (allL false ((s.data.toList.drop i).take (z - i))))) ∧ Below w.heap.size w w') := hide (fun w => by
            have := rall_any (s.extract i z) false w zz
            rw [ext_data s hiz] at this; exact this)
          generalize bs (allL false ((s.data.toList.drop i).take (z - i))) = X at *
          have KK := hide (And.intro k0 (And.intro k1 hb))
          clear k0 k1 hb hl hsk eT eE eX hZ hzi
          go_wp2_with fail
          refine (unhide CC _).mono ?_
          rintro e1 W1 ⟨rfl, hb1⟩
          have k0 := (unhide KK).1.later hb1
          have k1 := (unhide KK).2.1.later hb1
          have hb := tr2 (unhide KK).2.2 hb1
          clear hb1 KK m0 m1
          have m0 : W1.cell? ⟨w.heap.size, 0, none⟩ = some (.int .i64 1) := k0.cell 0
          go_wp2_with fail
          refine (unhide CA _).mono ?_
          rintro e8 W8 ⟨rfl, hb8⟩
          replace k1 := k1.later hb8
          replace hb := tr2 hb hb8
          clear hb8
          have x0 : W8.cell? ⟨(w.heap.size + 1), 0, none⟩ = some (.int .i64 0) := (k1).cell 0
          have x1 : W8.cell? ⟨(w.heap.size + 1), 1, none⟩ = some (.string ⟨#[]⟩) := (k1).cell 1
          have x2 : W8.cell? ⟨(w.heap.size + 1), 2, none⟩ = some (.slice none 0 0) := (k1).cell 2
          have x3 : W8.cell? ⟨(w.heap.size + 1), 3, none⟩ = some (.bool false) := (k1).cell 3
          have x4 : W8.cell? ⟨(w.heap.size + 1), 4, none⟩ = some (.string ⟨#[]⟩) := (k1).cell 4
          have x5 : W8.cell? ⟨(w.heap.size + 1), 5, none⟩ = some (.int .i64 0) := (k1).cell 5
          have xf0 : W8.frozen? ⟨(w.heap.size + 1), 0, none⟩ = false := (k1).frozen 0
          have xf1 : W8.frozen? ⟨(w.heap.size + 1), 1, none⟩ = false := (k1).frozen 1
          have xf2 : W8.frozen? ⟨(w.heap.size + 1), 2, none⟩ = false := (k1).frozen 2
          have xf3 : W8.frozen? ⟨(w.heap.size + 1), 3, none⟩ = false := (k1).frozen 3
          have xf4 : W8.frozen? ⟨(w.heap.size + 1), 4, none⟩ = false := (k1).frozen 4
          have xf5 : W8.frozen? ⟨(w.heap.size + 1), 5, none⟩ = false := (k1).frozen 5
          have K1 := hide k1
          have HBW := hide hb
          clear k1 hb
          go_wp2
          have kk := (((((((unhide K1).set 0 (by simp) (.int .i64 3)).set 1 (by simp) (.string ⟨#[]⟩)).set 2 (by simp) (.slice none 0 0)).set 3 (by simp) (.bool false)).set 4 (by simp) (.string X)).set 5 (by simp) (.int .i64 (z : Int)))
          have d0 := kk.cell 0
          have d1 := kk.cell 1
          have d2 := kk.cell 2
          have d3 := kk.cell 3
          have d4 := kk.cell 4
          have d5 := kk.cell 5
          exact bodyPost_ret (v := .agg #[.int .i64 3, .string ⟨#[]⟩, .slice none 0 0, .bool false, .string X, .int .i64 (z : Int)]) (by simp [results, Tryz.results7, go_sem, d0, d1, d2, d3, d4, d5]) rfl (by show GotIs w _ _ _ _; rw [unhide HTT, unhide HEE]; exact ⟨none, 0, rfl, slN_nil _ _ _, (((((((unhide HBW).setCell (by show w.heap.size ≤ w.heap.size + 1; omega) _).setCell (by show w.heap.size ≤ w.heap.size + 1; omega) _).setCell (by show w.heap.size ≤ w.heap.size + 1; omega) _).setCell (by show w.heap.size ≤ w.heap.size + 1; omega) _).setCell (by show w.heap.size ≤ w.heap.size + 1; omega) _).setCell (by show w.heap.size ≤ w.heap.size + 1; omega) _)⟩)
    · have hzs : z = s.size := by omega
      have hZ : encZ s n i = z := hsk.symm.trans (seek_end _ (by omega))
      have hpi : ¬ (z : Int) < (s.size : Int) := by omega
      have hzi : ¬ z = i := by omega
      have eE : encE s n i = z := by unfold encE; rw [hZ, if_neg hzi]
      have eT : encT s n 1 i = (3, ⟨#[]⟩, [], false, encX s n 1 i) := by unfold encT; rw [hZ, if_neg hzi]
      have eX : encX s n 1 i = bs (allL false ((s.data.toList.drop i).take (z - i))) := by unfold encX; rw [hZ, if_pos rfl]
      have HTT : Hid (encT s n 1 i = (3, ⟨#[]⟩, [], false, bs (allL false ((s.data.toList.drop i).take (z - i))))) := hide (by rw [eT, eX])
      have HEE := hide eE
      have ez : ((z : Int) == (i : Int)) = false := bneI (by omega)
      have i3 : (i : Int) ≤ (z : Int) := by omega
      have i4 : (z : Int) ≤ (s.size : Int) := by omega
      have zz : (s.extract i z).size ≤ 100000 := by simp; omega
      have CA : Hid (∀ w, Calls Tryz.prog 16 #[.string (s.extract i z), .bool false] w fun e w' => e = .returned (.string (bs (allL false ((s.data.toList.drop i).take (z - i))))) ∧ Below w.heap.size w w') := hide (fun w => by
        have := rall_any (s.extract i z) false w zz
        rw [ext_data s hiz] at this; exact this)
      generalize bs (allL false ((s.data.toList.drop i).take (z - i))) = X at *
      clear hsk eT eE eX hZ hzi hp hzs
      go_wp2_with fail
      refine (unhide CA _).mono ?_
      rintro e8 W8 ⟨rfl, hb8⟩
      replace k1 := k1.later hb8
      replace hb := tr2 hb hb8
      clear hb8
      have x0 : W8.cell? ⟨(w.heap.size + 1), 0, none⟩ = some (.int .i64 0) := (k1).cell 0
      have x1 : W8.cell? ⟨(w.heap.size + 1), 1, none⟩ = some (.string ⟨#[]⟩) := (k1).cell 1
      have x2 : W8.cell? ⟨(w.heap.size + 1), 2, none⟩ = some (.slice none 0 0) := (k1).cell 2
      have x3 : W8.cell? ⟨(w.heap.size + 1), 3, none⟩ = some (.bool false) := (k1).cell 3
      have x4 : W8.cell? ⟨(w.heap.size + 1), 4, none⟩ = some (.string ⟨#[]⟩) := (k1).cell 4
      have x5 : W8.cell? ⟨(w.heap.size + 1), 5, none⟩ = some (.int .i64 0) := (k1).cell 5
      have xf0 : W8.frozen? ⟨(w.heap.size + 1), 0, none⟩ = false := (k1).frozen 0
      have xf1 : W8.frozen? ⟨(w.heap.size + 1), 1, none⟩ = false := (k1).frozen 1
      have xf2 : W8.frozen? ⟨(w.heap.size + 1), 2, none⟩ = false := (k1).frozen 2
      have xf3 : W8.frozen? ⟨(w.heap.size + 1), 3, none⟩ = false := (k1).frozen 3
      have xf4 : W8.frozen? ⟨(w.heap.size + 1), 4, none⟩ = false := (k1).frozen 4
      have xf5 : W8.frozen? ⟨(w.heap.size + 1), 5, none⟩ = false := (k1).frozen 5
      have K1 := hide k1
      have HBW := hide hb
      clear k1 hb
      go_wp2
      have kk := (((((((unhide K1).set 0 (by simp) (.int .i64 3)).set 1 (by simp) (.string ⟨#[]⟩)).set 2 (by simp) (.slice none 0 0)).set 3 (by simp) (.bool false)).set 4 (by simp) (.string X)).set 5 (by simp) (.int .i64 (z : Int)))
      have d0 := kk.cell 0
      have d1 := kk.cell 1
      have d2 := kk.cell 2
      have d3 := kk.cell 3
      have d4 := kk.cell 4
      have d5 := kk.cell 5
      exact bodyPost_ret (v := .agg #[.int .i64 3, .string ⟨#[]⟩, .slice none 0 0, .bool false, .string X, .int .i64 (z : Int)]) (by simp [results, Tryz.results7, go_sem, d0, d1, d2, d3, d4, d5]) rfl (by show GotIs w _ _ _ _; rw [unhide HTT, unhide HEE]; exact ⟨none, 0, rfl, slN_nil _ _ _, (((((((unhide HBW).setCell (by show w.heap.size ≤ w.heap.size + 1; omega) _).setCell (by show w.heap.size ≤ w.heap.size + 1; omega) _).setCell (by show w.heap.size ≤ w.heap.size + 1; omega) _).setCell (by show w.heap.size ≤ w.heap.size + 1; omega) _).setCell (by show w.heap.size ≤ w.heap.size + 1; omega) _).setCell (by show w.heap.size ≤ w.heap.size + 1; omega) _)⟩)

set_option maxHeartbeats 8000000 in
set_option maxRecDepth 100000 in
theorem next5_two (s n : ByteArray) (kind : Int) (cd : Bool) (i : Nat) (w : World) (hs : s.size ≤ 100000) (hn : n.size ≤ 100000) (hi : i < s.size) (hk : kind = 2) :
    Calls Tryz.prog 7 #[.string s, .int .i64 (i : Int), .agg #[.int .i64 kind, .string n, .bool cd]] w (GotIs w (encT s n kind i) (encE s n i)) := by
  have i0 : ¬ (i : Int) < 0 := by omega
  have i1 : (i : Int) < (s.size : Int) := by omega
  have i2 : ¬ (s.size : Int) ≤ (i : Int) := by omega
  have hbb : Below w.heap.size w ((w.alloc (Obj.cells #[.int .i64 kind, .string n, .bool cd] 34)).alloc (Obj.cells #[.int .i64 0, .string ⟨#[]⟩, .slice none 0 0, .bool false, .string ⟨#[]⟩, .int .i64 0] 32)) := ((Below.refl w.heap.size w).alloc (Nat.le_refl _) _).alloc (by simp) _
  have kk0 : Blk ((w.alloc (Obj.cells #[.int .i64 kind, .string n, .bool cd] 34)).alloc (Obj.cells #[.int .i64 0, .string ⟨#[]⟩, .slice none 0 0, .bool false, .string ⟨#[]⟩, .int .i64 0] 32)) w.heap.size #[.int .i64 kind, .string n, .bool cd] 34 := (Blk.new w #[.int .i64 kind, .string n, .bool cd] 34).alloc _
  have kk1 : Blk ((w.alloc (Obj.cells #[.int .i64 kind, .string n, .bool cd] 34)).alloc (Obj.cells #[.int .i64 0, .string ⟨#[]⟩, .slice none 0 0, .bool false, .string ⟨#[]⟩, .int .i64 0] 32)) (w.heap.size + 1) #[.int .i64 0, .string ⟨#[]⟩, .slice none 0 0, .bool false, .string ⟨#[]⟩, .int .i64 0] 32 := by
    have := Blk.new (w.alloc (Obj.cells #[.int .i64 kind, .string n, .bool cd] 34)) #[.int .i64 0, .string ⟨#[]⟩, .slice none 0 0, .bool false, .string ⟨#[]⟩, .int .i64 0] 32
    simpa using this
  have HZ0 := hide (seekN_le (lastP s n) (n := s.size) (k := i) (by omega))
  subst hk
  go_enter Tryz.func7, Tryz.ntmps7
  go_wp2
  generalize hWW : ((w.alloc (Obj.cells #[.int .i64 2, .string n, .bool cd] 34)).alloc (Obj.cells #[.int .i64 0, .string ⟨#[]⟩, .slice none 0 0, .bool false, .string ⟨#[]⟩, .int .i64 0] 32)) = W at *
  clear hWW
  go_loopw [7] (fun a wr => ∃ z : Nat, z ≤ s.size ∧ i ≤ z ∧ a = .int .i64 z ∧ seekN (lastP s n) s.size z = encZ s n i ∧ Blk wr w.heap.size #[.int .i64 2, .string n, .bool cd] 34 ∧ Blk wr (w.heap.size + 1) #[.int .i64 0, .string ⟨#[]⟩, .slice none 0 0, .bool false, .string ⟨#[]⟩, .int .i64 0] 32 ∧ Below w.heap.size w wr) (fun a _ => s.size - (intOf a).toNat)
  case atStart => exact ⟨i, by omega, Nat.le_refl _, rfl, rfl, kk0, kk1, hbb⟩
  case round =>
    clear kk0 kk1 hbb
    obtain ⟨z, hz, hiz, rfl, hsk, k0, k1, hb⟩ := hrel
    have m0 : wr.cell? ⟨w.heap.size, 0, none⟩ = some (.int .i64 2) := k0.cell 0
    have m1 : wr.cell? ⟨w.heap.size, 1, none⟩ = some (.string n) := k0.cell 1
    by_cases hp : z < s.size
    · have hpi : (z : Int) < (s.size : Int) := by omega
      have CC := hide (fun w => closes_any s n z w hs hn hz)
      cases hl : lastP s n z with
      | false =>
        rw [hl] at CC
        have HS : Hid (seekN (lastP s n) s.size (z + 1) = encZ s n i) := hide ((seek_next _ hp hl).symm.trans hsk)
        have KK := hide (And.intro k0 (And.intro k1 hb))
        clear k0 k1 hb hl hsk
        go_wp2_with fail
        refine (unhide CC _).mono ?_
        rintro e1 W1 ⟨rfl, hb1⟩
        have KL := hide (And.intro ((unhide KK).1.later hb1) (And.intro ((unhide KK).2.1.later hb1) (tr2 (unhide KK).2.2 hb1)))
        clear hb1 KK
        go_wp2
        go_roundw
        case rel => exact ⟨z + 1, by omega, by omega, by go_num, unhide HS, unhide KL⟩
        case measure => simp [intOf]; omega
      | true =>
        rw [hl] at CC
        have hZ : encZ s n i = z := hsk.symm.trans (seek_hit _ hl)
        by_cases hzi : z = i
        · subst hzi
          have hlb := last_bounds hl
          have CT := hide (fun w => tag5_two s z w hs (by omega) hlb.2)
          have eT : encT s n 2 z = tagT s z := by unfold encT; rw [if_pos hZ]
          have eE : encE s n z = tagE s z := by unfold encE; rw [if_pos hZ]
          have HTT := hide eT
          have HEE := hide eE
          clear eT eE
          generalize tagT s z = T at *
          generalize tagE s z = E at *
          obtain ⟨tk, tn, ta, tf, tx⟩ := T
          have ez : ((z : Int) == (z : Int)) = true := by simp
          have i3 : (z : Int) + 2 < (s.size : Int) := by omega
          have KK := hide (And.intro k0 (And.intro k1 hb))
          clear k0 k1 hb hl hsk hlb hZ
          go_wp2_with fail
          refine (unhide CC _).mono ?_
          rintro e1 W1 ⟨rfl, hb1⟩
          have k1 := (unhide KK).2.1.later hb1
          have hb := tr2 (unhide KK).2.2 hb1
          clear hb1 KK m0 m1
          go_wp2_with fail
          refine (unhide CT _).mono ?_
          rintro eT W4 ⟨q, cap, rfl, hsl, hbT⟩
          have hsl2 := hide (hsl.mono (b' := w.heap.size + 1 + 1) k1.lt)
          clear hsl
          replace k1 := k1.later hbT
          replace hb := tr2 hb hbT
          clear hbT
          have x0 : W4.cell? ⟨(w.heap.size + 1), 0, none⟩ = some (.int .i64 0) := (k1).cell 0
          have x1 : W4.cell? ⟨(w.heap.size + 1), 1, none⟩ = some (.string ⟨#[]⟩) := (k1).cell 1
          have x2 : W4.cell? ⟨(w.heap.size + 1), 2, none⟩ = some (.slice none 0 0) := (k1).cell 2
          have x3 : W4.cell? ⟨(w.heap.size + 1), 3, none⟩ = some (.bool false) := (k1).cell 3
          have x4 : W4.cell? ⟨(w.heap.size + 1), 4, none⟩ = some (.string ⟨#[]⟩) := (k1).cell 4
          have x5 : W4.cell? ⟨(w.heap.size + 1), 5, none⟩ = some (.int .i64 0) := (k1).cell 5
          have xf0 : W4.frozen? ⟨(w.heap.size + 1), 0, none⟩ = false := (k1).frozen 0
          have xf1 : W4.frozen? ⟨(w.heap.size + 1), 1, none⟩ = false := (k1).frozen 1
          have xf2 : W4.frozen? ⟨(w.heap.size + 1), 2, none⟩ = false := (k1).frozen 2
          have xf3 : W4.frozen? ⟨(w.heap.size + 1), 3, none⟩ = false := (k1).frozen 3
          have xf4 : W4.frozen? ⟨(w.heap.size + 1), 4, none⟩ = false := (k1).frozen 4
          have xf5 : W4.frozen? ⟨(w.heap.size + 1), 5, none⟩ = false := (k1).frozen 5
          have K1 := hide k1
          have HBW := hide hb
          clear k1 hb
          go_wp2
          have kk := (((((((unhide K1).set 0 (by simp) (.int .i64 tk)).set 1 (by simp) (.string tn)).set 2 (by simp) (.slice q ta.length cap)).set 3 (by simp) (.bool tf)).set 4 (by simp) (.string tx)).set 5 (by simp) (.int .i64 (E : Int)))
          have d0 := kk.cell 0
          have d1 := kk.cell 1
          have d2 := kk.cell 2
          have d3 := kk.cell 3
          have d4 := kk.cell 4
          have d5 := kk.cell 5
          exact bodyPost_ret (v := .agg #[.int .i64 tk, .string tn, .slice q ta.length cap, .bool tf, .string tx, .int .i64 (E : Int)]) (by simp [results, Tryz.results7, go_sem, d0, d1, d2, d3, d4, d5]) rfl (by show GotIs w _ _ _ _; rw [unhide HTT, unhide HEE]; exact ⟨q, cap, rfl, (((((((unhide hsl2).away (Nat.lt_succ_self _) _).away (Nat.lt_succ_self _) _).away (Nat.lt_succ_self _) _).away (Nat.lt_succ_self _) _).away (Nat.lt_succ_self _) _).away (Nat.lt_succ_self _) _).mono (b' := w.heap.size) (by omega), (((((((unhide HBW).setCell (by show w.heap.size ≤ w.heap.size + 1; omega) _).setCell (by show w.heap.size ≤ w.heap.size + 1; omega) _).setCell (by show w.heap.size ≤ w.heap.size + 1; omega) _).setCell (by show w.heap.size ≤ w.heap.size + 1; omega) _).setCell (by show w.heap.size ≤ w.heap.size + 1; omega) _).setCell (by show w.heap.size ≤ w.heap.size + 1; omega) _)⟩)
        · have eE : encE s n i = z := by unfold encE; rw [hZ, if_neg hzi]
          have eT : encT s n 2 i = (3, ⟨#[]⟩, [], false, encX s n 2 i) := by unfold encT; rw [hZ, if_neg hzi]
          have eX : encX s n 2 i = s.extract i z := by unfold encX; rw [hZ, if_neg (by decide)]
          have HTT : Hid (encT s n 2 i = (3, ⟨#[]⟩, [], false, s.extract i z)) := hide (by rw [eT, eX])
          have HEE := hide eE
          have ez : ((z : Int) == (i : Int)) = false := bneI (by omega)
          have i3 : (i : Int) ≤ (z : Int) := by omega
          have i4 : (z : Int) ≤ (s.size : Int) := by omega
          have zz : (s.extract i z).size ≤ 100000 := by simp; omega
          have KK := hide (And.intro k0 (And.intro k1 hb))
          clear k0 k1 hb hl hsk eT eE eX hZ hzi
          go_wp2_with fail
          refine (unhide CC _).mono ?_
          rintro e1 W1 ⟨rfl, hb1⟩
          have k0 := (unhide KK).1.later hb1
          have k1 := (unhide KK).2.1.later hb1
          have hb := tr2 (unhide KK).2.2 hb1
          clear hb1 KK m0 m1
          have m0 : W1.cell? ⟨w.heap.size, 0, none⟩ = some (.int .i64 2) := k0.cell 0
          have x0 : W1.cell? ⟨(w.heap.size + 1), 0, none⟩ = some (.int .i64 0) := (k1).cell 0
          have x1 : W1.cell? ⟨(w.heap.size + 1), 1, none⟩ = some (.string ⟨#[]⟩) := (k1).cell 1
          have x2 : W1.cell? ⟨(w.heap.size + 1), 2, none⟩ = some (.slice none 0 0) := (k1).cell 2
          have x3 : W1.cell? ⟨(w.heap.size + 1), 3, none⟩ = some (.bool false) := (k1).cell 3
          have x4 : W1.cell? ⟨(w.heap.size + 1), 4, none⟩ = some (.string ⟨#[]⟩) := (k1).cell 4
          have x5 : W1.cell? ⟨(w.heap.size + 1), 5, none⟩ = some (.int .i64 0) := (k1).cell 5
          have xf0 : W1.frozen? ⟨(w.heap.size + 1), 0, none⟩ = false := (k1).frozen 0
          have xf1 : W1.frozen? ⟨(w.heap.size + 1), 1, none⟩ = false := (k1).frozen 1
          have xf2 : W1.frozen? ⟨(w.heap.size + 1), 2, none⟩ = false := (k1).frozen 2
          have xf3 : W1.frozen? ⟨(w.heap.size + 1), 3, none⟩ = false := (k1).frozen 3
          have xf4 : W1.frozen? ⟨(w.heap.size + 1), 4, none⟩ = false := (k1).frozen 4
          have xf5 : W1.frozen? ⟨(w.heap.size + 1), 5, none⟩ = false := (k1).frozen 5
          have K1 := hide k1
          have HBW := hide hb
          clear k0 k1 hb
          go_wp2
          have kk := (((((((unhide K1).set 0 (by simp) (.int .i64 3)).set 1 (by simp) (.string ⟨#[]⟩)).set 2 (by simp) (.slice none 0 0)).set 3 (by simp) (.bool false)).set 4 (by simp) (.string (s.extract i z))).set 5 (by simp) (.int .i64 (z : Int)))
          have d0 := kk.cell 0
          have d1 := kk.cell 1
          have d2 := kk.cell 2
          have d3 := kk.cell 3
          have d4 := kk.cell 4
          have d5 := kk.cell 5
          exact bodyPost_ret (v := .agg #[.int .i64 3, .string ⟨#[]⟩, .slice none 0 0, .bool false, .string (s.extract i z), .int .i64 (z : Int)]) (by simp [results, Tryz.results7, go_sem, d0, d1, d2, d3, d4, d5]) rfl (by show GotIs w _ _ _ _; rw [unhide HTT, unhide HEE]; exact ⟨none, 0, rfl, slN_nil _ _ _, (((((((unhide HBW).setCell (by show w.heap.size ≤ w.heap.size + 1; omega) _).setCell (by show w.heap.size ≤ w.heap.size + 1; omega) _).setCell (by show w.heap.size ≤ w.heap.size + 1; omega) _).setCell (by show w.heap.size ≤ w.heap.size + 1; omega) _).setCell (by show w.heap.size ≤ w.heap.size + 1; omega) _).setCell (by show w.heap.size ≤ w.heap.size + 1; omega) _)⟩)
    · have hzs : z = s.size := by omega
      have hZ : encZ s n i = z := hsk.symm.trans (seek_end _ (by omega))
      have hpi : ¬ (z : Int) < (s.size : Int) := by omega
      have hzi : ¬ z = i := by omega
      have eE : encE s n i = z := by unfold encE; rw [hZ, if_neg hzi]
      have eT : encT s n 2 i = (3, ⟨#[]⟩, [], false, encX s n 2 i) := by unfold encT; rw [hZ, if_neg hzi]
      have eX : encX s n 2 i = s.extract i z := by unfold encX; rw [hZ, if_neg (by decide)]
      have HTT : Hid (encT s n 2 i = (3, ⟨#[]⟩, [], false, s.extract i z)) := hide (by rw [eT, eX])
      have HEE := hide eE
      have ez : ((z : Int) == (i : Int)) = false := bneI (by omega)
      have i3 : (i : Int) ≤ (z : Int) := by omega
      have i4 : (z : Int) ≤ (s.size : Int) := by omega
      have zz : (s.extract i z).size ≤ 100000 := by simp; omega
      clear hsk eT eE eX hZ hzi hp hzs
      have x0 : wr.cell? ⟨(w.heap.size + 1), 0, none⟩ = some (.int .i64 0) := (k1).cell 0
      have x1 : wr.cell? ⟨(w.heap.size + 1), 1, none⟩ = some (.string ⟨#[]⟩) := (k1).cell 1
      have x2 : wr.cell? ⟨(w.heap.size + 1), 2, none⟩ = some (.slice none 0 0) := (k1).cell 2
      have x3 : wr.cell? ⟨(w.heap.size + 1), 3, none⟩ = some (.bool false) := (k1).cell 3
      have x4 : wr.cell? ⟨(w.heap.size + 1), 4, none⟩ = some (.string ⟨#[]⟩) := (k1).cell 4
      have x5 : wr.cell? ⟨(w.heap.size + 1), 5, none⟩ = some (.int .i64 0) := (k1).cell 5
      have xf0 : wr.frozen? ⟨(w.heap.size + 1), 0, none⟩ = false := (k1).frozen 0
      have xf1 : wr.frozen? ⟨(w.heap.size + 1), 1, none⟩ = false := (k1).frozen 1
      have xf2 : wr.frozen? ⟨(w.heap.size + 1), 2, none⟩ = false := (k1).frozen 2
      have xf3 : wr.frozen? ⟨(w.heap.size + 1), 3, none⟩ = false := (k1).frozen 3
      have xf4 : wr.frozen? ⟨(w.heap.size + 1), 4, none⟩ = false := (k1).frozen 4
      have xf5 : wr.frozen? ⟨(w.heap.size + 1), 5, none⟩ = false := (k1).frozen 5
      have K1 := hide k1
      have HBW := hide hb
      clear k0 k1 hb
      go_wp2
      have kk := (((((((unhide K1).set 0 (by simp) (.int .i64 3)).set 1 (by simp) (.string ⟨#[]⟩)).set 2 (by simp) (.slice none 0 0)).set 3 (by simp) (.bool false)).set 4 (by simp) (.string (s.extract i z))).set 5 (by simp) (.int .i64 (z : Int)))
      have d0 := kk.cell 0
      have d1 := kk.cell 1
      have d2 := kk.cell 2
      have d3 := kk.cell 3
      have d4 := kk.cell 4
      have d5 := kk.cell 5
      exact bodyPost_ret (v := .agg #[.int .i64 3, .string ⟨#[]⟩, .slice none 0 0, .bool false, .string (s.extract i z), .int .i64 (z : Int)]) (by simp [results, Tryz.results7, go_sem, d0, d1, d2, d3, d4, d5]) rfl (by show GotIs w _ _ _ _; rw [unhide HTT, unhide HEE]; exact ⟨none, 0, rfl, slN_nil _ _ _, (((((((unhide HBW).setCell (by show w.heap.size ≤ w.heap.size + 1; omega) _).setCell (by show w.heap.size ≤ w.heap.size + 1; omega) _).setCell (by show w.heap.size ≤ w.heap.size + 1; omega) _).setCell (by show w.heap.size ≤ w.heap.size + 1; omega) _).setCell (by show w.heap.size ≤ w.heap.size + 1; omega) _).setCell (by show w.heap.size ≤ w.heap.size + 1; omega) _)⟩)
end Go.Proofs.YtakjlolmmoladaaGreatDoor

/-
  What the reference's Next of layer 5 does in Data, and on the whole.
-/
namespace Go.Proofs.YtakjlolmmoladaaGreatDoor
open Go.RowKit
set_option linter.unusedVariables false

set_option maxHeartbeats 8000000 in
set_option maxRecDepth 100000 in
theorem next5_chars (s n : ByteArray) (kind : Int) (cd : Bool) (i : Nat) (w : World) (hs : s.size ≤ 100000) (hn : n.size ≤ 100000) (hi : i < s.size) (n1 : (kind == 1) = false) (n2 : (kind == 2) = false) (hbg : begP s i = false) :
    Calls Tryz.prog 7 #[.string s, .int .i64 (i : Int), .agg #[.int .i64 kind, .string n, .bool cd]] w (GotIs w (chT s i) (seekN (begP s) s.size i)) := by
  have i0 : ¬ (i : Int) < 0 := by omega
  have i1 : (i : Int) < (s.size : Int) := by omega
  have i2 : ¬ (s.size : Int) ≤ (i : Int) := by omega
  have hbb : Below w.heap.size w ((w.alloc (Obj.cells #[.int .i64 kind, .string n, .bool cd] 34)).alloc (Obj.cells #[.int .i64 0, .string ⟨#[]⟩, .slice none 0 0, .bool false, .string ⟨#[]⟩, .int .i64 0] 32)) := ((Below.refl w.heap.size w).alloc (Nat.le_refl _) _).alloc (by simp) _
  have kk0 : Blk ((w.alloc (Obj.cells #[.int .i64 kind, .string n, .bool cd] 34)).alloc (Obj.cells #[.int .i64 0, .string ⟨#[]⟩, .slice none 0 0, .bool false, .string ⟨#[]⟩, .int .i64 0] 32)) w.heap.size #[.int .i64 kind, .string n, .bool cd] 34 := (Blk.new w #[.int .i64 kind, .string n, .bool cd] 34).alloc _
  have kk1 : Blk ((w.alloc (Obj.cells #[.int .i64 kind, .string n, .bool cd] 34)).alloc (Obj.cells #[.int .i64 0, .string ⟨#[]⟩, .slice none 0 0, .bool false, .string ⟨#[]⟩, .int .i64 0] 32)) (w.heap.size + 1) #[.int .i64 0, .string ⟨#[]⟩, .slice none 0 0, .bool false, .string ⟨#[]⟩, .int .i64 0] 32 := by
    have := Blk.new (w.alloc (Obj.cells #[.int .i64 kind, .string n, .bool cd] 34)) #[.int .i64 0, .string ⟨#[]⟩, .slice none 0 0, .bool false, .string ⟨#[]⟩, .int .i64 0] 32
    simpa using this
  have CB := hide (fun w => begins5_any s i w hs (by omega))
  rw [hbg] at CB
  have hZl := seekN_le (begP s) (n := s.size) (k := i) (by omega)
  have HZ : Hid (seekN (begP s) s.size i = seekN (begP s) s.size i) := hide rfl
  unfold chT
  have CA : Hid (∀ w, Calls Tryz.prog 16 #[.string (s.extract i (seekN (begP s) s.size i)), .bool false] w fun e w' => e = .returned (.string (bs (allL false ((s.data.toList.drop i).take (seekN (begP s) s.size i - i))))) ∧ Below w.heap.size w w') := hide (fun w => by
    have := rall_any (s.extract i (seekN (begP s) s.size i)) false w (by simp; omega)
    rw [ext_data s hZl.2] at this; exact this)
  generalize bs (allL false ((s.data.toList.drop i).take (seekN (begP s) s.size i - i))) = X at *
  have HZ2 : ∃ Z, seekN (begP s) s.size i = Z := ⟨_, rfl⟩
  obtain ⟨Z, hZZ⟩ := HZ2
  rw [hZZ] at CA hZl
  rw [hZZ]
  have HZZ := hide hZZ
  clear hZZ HZ hbg
  have i3 : (i : Int) ≤ (Z : Int) := by omega
  have i4 : (Z : Int) ≤ (s.size : Int) := by omega
  have zz : (s.extract i Z).size ≤ 100000 := by simp; omega
  go_enter Tryz.func7, Tryz.ntmps7
  go_wp2_with fail
  refine calls_from (fun W => Blk W w.heap.size #[.int .i64 kind, .string n, .bool cd] 34 ∧ Blk W (w.heap.size + 1) #[.int .i64 0, .string ⟨#[]⟩, .slice none 0 0, .bool false, .string ⟨#[]⟩, .int .i64 0] 32 ∧ Below w.heap.size w W) ⟨kk0, kk1, hbb⟩ ?_
  clear kk0 kk1 hbb
  rintro W ⟨k0, k1, hb⟩
  refine (unhide CB _).mono ?_
  rintro e1 w1 ⟨rfl, hw1⟩
  obtain rfl : W = w1 := hw1.symm
  have KK := hide (And.intro k1 hb)
  clear k0 k1 hb
  go_wp2
  go_loopw [7] (fun a wr => ∃ z : Nat, z ≤ s.size ∧ i ≤ z ∧ a = .int .i64 z ∧ seekN (begP s) s.size z = Z ∧ wr = W) (fun a _ => s.size - (intOf a).toNat)
  case atStart => exact ⟨i, by omega, Nat.le_refl _, rfl, unhide HZZ, rfl⟩
  case round =>
    obtain ⟨z, hz, hiz, rfl, hsk, hw⟩ := hrel
    obtain rfl : W = wr := hw.symm
    by_cases hp : z < s.size
    · have hpi : (z : Int) < (s.size : Int) := by omega
      have CC := hide (fun w => begins5_any s z w hs hz)
      cases hl : begP s z with
      | false =>
        rw [hl] at CC
        have HS : Hid (seekN (begP s) s.size (z + 1) = Z) := hide ((seek_next _ hp hl).symm.trans hsk)
        clear hl hsk
        go_wp2_with fail
        refine (unhide CC _).mono ?_
        rintro e1 w1 ⟨rfl, hw1⟩
        obtain rfl : W = w1 := hw1.symm
        go_wp2
        go_roundw
        case rel => exact ⟨z + 1, by omega, by omega, by go_num, unhide HS, by first | exact rfl | trivial⟩
        case measure => simp [intOf]; omega
      | true =>
        rw [hl] at CC
        have hZ : z = Z := (seek_hit _ hl).symm.trans hsk
        subst hZ
        clear hl hsk
        go_wp2_with fail
        refine (unhide CC _).mono ?_
        rintro e1 w1 ⟨rfl, hw1⟩
        obtain rfl : W = w1 := hw1.symm
        go_wp2_with fail
        refine (unhide CA _).mono ?_
        rintro e8 W8 ⟨rfl, hb8⟩
        have k1 := (unhide KK).1.later hb8
        have hb := tr2 (unhide KK).2 hb8
        clear hb8
        have x0 : W8.cell? ⟨(w.heap.size + 1), 0, none⟩ = some (.int .i64 0) := (k1).cell 0
        have x1 : W8.cell? ⟨(w.heap.size + 1), 1, none⟩ = some (.string ⟨#[]⟩) := (k1).cell 1
        have x2 : W8.cell? ⟨(w.heap.size + 1), 2, none⟩ = some (.slice none 0 0) := (k1).cell 2
        have x3 : W8.cell? ⟨(w.heap.size + 1), 3, none⟩ = some (.bool false) := (k1).cell 3
        have x4 : W8.cell? ⟨(w.heap.size + 1), 4, none⟩ = some (.string ⟨#[]⟩) := (k1).cell 4
        have x5 : W8.cell? ⟨(w.heap.size + 1), 5, none⟩ = some (.int .i64 0) := (k1).cell 5
        have xf0 : W8.frozen? ⟨(w.heap.size + 1), 0, none⟩ = false := (k1).frozen 0
        have xf1 : W8.frozen? ⟨(w.heap.size + 1), 1, none⟩ = false := (k1).frozen 1
        have xf2 : W8.frozen? ⟨(w.heap.size + 1), 2, none⟩ = false := (k1).frozen 2
        have xf3 : W8.frozen? ⟨(w.heap.size + 1), 3, none⟩ = false := (k1).frozen 3
        have xf4 : W8.frozen? ⟨(w.heap.size + 1), 4, none⟩ = false := (k1).frozen 4
        have xf5 : W8.frozen? ⟨(w.heap.size + 1), 5, none⟩ = false := (k1).frozen 5
        have K1 := hide k1
        have HBW := hide hb
        clear k1 hb
        go_wp2
        have kk := (((((((unhide K1).set 0 (by simp) (.int .i64 3)).set 1 (by simp) (.string ⟨#[]⟩)).set 2 (by simp) (.slice none 0 0)).set 3 (by simp) (.bool false)).set 4 (by simp) (.string X)).set 5 (by simp) (.int .i64 (z : Int)))
        have d0 := kk.cell 0
        have d1 := kk.cell 1
        have d2 := kk.cell 2
        have d3 := kk.cell 3
        have d4 := kk.cell 4
        have d5 := kk.cell 5
        exact bodyPost_ret (v := .agg #[.int .i64 3, .string ⟨#[]⟩, .slice none 0 0, .bool false, .string X, .int .i64 (z : Int)]) (by simp [results, Tryz.results7, go_sem, d0, d1, d2, d3, d4, d5]) rfl ⟨none, 0, rfl, slN_nil _ _ _, (((((((unhide HBW).setCell (by show w.heap.size ≤ w.heap.size + 1; omega) _).setCell (by show w.heap.size ≤ w.heap.size + 1; omega) _).setCell (by show w.heap.size ≤ w.heap.size + 1; omega) _).setCell (by show w.heap.size ≤ w.heap.size + 1; omega) _).setCell (by show w.heap.size ≤ w.heap.size + 1; omega) _).setCell (by show w.heap.size ≤ w.heap.size + 1; omega) _)⟩
    · have hZ : z = Z := (seek_end _ (by omega)).symm.trans hsk
      subst hZ
      have hpi : ¬ (z : Int) < (s.size : Int) := by omega
      clear hsk hp
      go_wp2_with fail
      refine (unhide CA _).mono ?_
      rintro e8 W8 ⟨rfl, hb8⟩
      have k1 := (unhide KK).1.later hb8
      have hb := tr2 (unhide KK).2 hb8
      clear hb8
      have x0 : W8.cell? ⟨(w.heap.size + 1), 0, none⟩ = some (.int .i64 0) := (k1).cell 0
      have x1 : W8.cell? ⟨(w.heap.size + 1), 1, none⟩ = some (.string ⟨#[]⟩) := (k1).cell 1
      have x2 : W8.cell? ⟨(w.heap.size + 1), 2, none⟩ = some (.slice none 0 0) := (k1).cell 2
      have x3 : W8.cell? ⟨(w.heap.size + 1), 3, none⟩ = some (.bool false) := (k1).cell 3
      have x4 : W8.cell? ⟨(w.heap.size + 1), 4, none⟩ = some (.string ⟨#[]⟩) := (k1).cell 4
      have x5 : W8.cell? ⟨(w.heap.size + 1), 5, none⟩ = some (.int .i64 0) := (k1).cell 5
      have xf0 : W8.frozen? ⟨(w.heap.size + 1), 0, none⟩ = false := (k1).frozen 0
      have xf1 : W8.frozen? ⟨(w.heap.size + 1), 1, none⟩ = false := (k1).frozen 1
      have xf2 : W8.frozen? ⟨(w.heap.size + 1), 2, none⟩ = false := (k1).frozen 2
      have xf3 : W8.frozen? ⟨(w.heap.size + 1), 3, none⟩ = false := (k1).frozen 3
      have xf4 : W8.frozen? ⟨(w.heap.size + 1), 4, none⟩ = false := (k1).frozen 4
      have xf5 : W8.frozen? ⟨(w.heap.size + 1), 5, none⟩ = false := (k1).frozen 5
      have K1 := hide k1
      have HBW := hide hb
      clear k1 hb
      go_wp2
      have kk := (((((((unhide K1).set 0 (by simp) (.int .i64 3)).set 1 (by simp) (.string ⟨#[]⟩)).set 2 (by simp) (.slice none 0 0)).set 3 (by simp) (.bool false)).set 4 (by simp) (.string X)).set 5 (by simp) (.int .i64 (z : Int)))
      have d0 := kk.cell 0
      have d1 := kk.cell 1
      have d2 := kk.cell 2
      have d3 := kk.cell 3
      have d4 := kk.cell 4
      have d5 := kk.cell 5
      exact bodyPost_ret (v := .agg #[.int .i64 3, .string ⟨#[]⟩, .slice none 0 0, .bool false, .string X, .int .i64 (z : Int)]) (by simp [results, Tryz.results7, go_sem, d0, d1, d2, d3, d4, d5]) rfl ⟨none, 0, rfl, slN_nil _ _ _, (((((((unhide HBW).setCell (by show w.heap.size ≤ w.heap.size + 1; omega) _).setCell (by show w.heap.size ≤ w.heap.size + 1; omega) _).setCell (by show w.heap.size ≤ w.heap.size + 1; omega) _).setCell (by show w.heap.size ≤ w.heap.size + 1; omega) _).setCell (by show w.heap.size ≤ w.heap.size + 1; omega) _).setCell (by show w.heap.size ≤ w.heap.size + 1; omega) _)⟩

set_option maxHeartbeats 8000000 in
set_option maxRecDepth 100000 in
theorem next5_mark (s n : ByteArray) (kind : Int) (cd : Bool) (i : Nat) (w : World) (hs : s.size ≤ 100000) (hn : n.size ≤ 100000) (hi : i < s.size) (n1 : (kind == 1) = false) (n2 : (kind == 2) = false) (hbg : begP s i = true) (hk : ¬ (markT s i cd).1 = 0) :
    Calls Tryz.prog 7 #[.string s, .int .i64 (i : Int), .agg #[.int .i64 kind, .string n, .bool cd]] w (GotIs w (markT s i cd) (markE s i cd)) := by
  have i0 : ¬ (i : Int) < 0 := by omega
  have i1 : (i : Int) < (s.size : Int) := by omega
  have i2 : ¬ (s.size : Int) ≤ (i : Int) := by omega
  obtain ⟨b1, b2⟩ := beg_bounds hbg
  have hm := markE_le s i cd b1 b2
  have hbb : Below w.heap.size w ((w.alloc (Obj.cells #[.int .i64 kind, .string n, .bool cd] 34)).alloc (Obj.cells #[.int .i64 0, .string ⟨#[]⟩, .slice none 0 0, .bool false, .string ⟨#[]⟩, .int .i64 0] 32)) := ((Below.refl w.heap.size w).alloc (Nat.le_refl _) _).alloc (by simp) _
  have kk0 : Blk ((w.alloc (Obj.cells #[.int .i64 kind, .string n, .bool cd] 34)).alloc (Obj.cells #[.int .i64 0, .string ⟨#[]⟩, .slice none 0 0, .bool false, .string ⟨#[]⟩, .int .i64 0] 32)) w.heap.size #[.int .i64 kind, .string n, .bool cd] 34 := (Blk.new w #[.int .i64 kind, .string n, .bool cd] 34).alloc _
  have kk1 : Blk ((w.alloc (Obj.cells #[.int .i64 kind, .string n, .bool cd] 34)).alloc (Obj.cells #[.int .i64 0, .string ⟨#[]⟩, .slice none 0 0, .bool false, .string ⟨#[]⟩, .int .i64 0] 32)) (w.heap.size + 1) #[.int .i64 0, .string ⟨#[]⟩, .slice none 0 0, .bool false, .string ⟨#[]⟩, .int .i64 0] 32 := by
    have := Blk.new (w.alloc (Obj.cells #[.int .i64 kind, .string n, .bool cd] 34)) #[.int .i64 0, .string ⟨#[]⟩, .slice none 0 0, .bool false, .string ⟨#[]⟩, .int .i64 0] 32
    simpa using this
  have CB := hide (fun w => begins5_any s i w hs (by omega))
  have CM := hide (fun w => markup5_any s i cd w hs hbg)
  rw [hbg] at CB
  clear hbg b1 b2
  generalize markT s i cd = T at *
  generalize markE s i cd = E at *
  obtain ⟨tk, tn, ta, tf, tx⟩ := T
  have nk : (tk == 0) = false := beq_eq_false_iff_ne.2 hk
  have hk' : ¬ tk = 0 := hk
  clear hk hm
  go_enter Tryz.func7, Tryz.ntmps7
  go_wp2_with fail
  refine calls_from (fun W => Blk W w.heap.size #[.int .i64 kind, .string n, .bool cd] 34 ∧ Blk W (w.heap.size + 1) #[.int .i64 0, .string ⟨#[]⟩, .slice none 0 0, .bool false, .string ⟨#[]⟩, .int .i64 0] 32 ∧ Below w.heap.size w W) ⟨kk0, kk1, hbb⟩ ?_
  clear kk0 kk1 hbb
  rintro W ⟨k0, k1, hb⟩
  refine (unhide CB _).mono ?_
  rintro e1 w1 ⟨rfl, hw1⟩
  obtain rfl : W = w1 := hw1.symm
  have m0 : W.cell? ⟨w.heap.size, 0, none⟩ = some (.int .i64 kind) := (k0).cell 0
  have m1 : W.cell? ⟨w.heap.size, 1, none⟩ = some (.string n) := (k0).cell 1
  have m2 : W.cell? ⟨w.heap.size, 2, none⟩ = some (.bool cd) := (k0).cell 2
  have KK := hide (And.intro k0 (And.intro k1 hb))
  have hwW : w.heap.size + 1 < W.heap.size := k1.lt
  clear k0 k1 hb
  go_wp2_with fail
  refine (unhide CM _).mono ?_
  rintro e2 W4 ⟨q, cap, rfl, hsl, hbT⟩
  have hsl2 := hide (hsl.mono (b' := w.heap.size + 1 + 1) hwW)
  have k0 := (unhide KK).1.later hbT
  have k1 := (unhide KK).2.1.later hbT
  have hb := tr2 (unhide KK).2.2 hbT
  clear hsl hbT KK m0 m1 m2
  have hlt : w.heap.size + 1 < W4.heap.size := k1.lt
  have hlt0 : w.heap.size < W4.heap.size := k0.lt
  have hne : ¬ w.heap.size + 1 = W4.heap.size := by omega
  have hne0 : ¬ w.heap.size = W4.heap.size := by omega
  have x0 : W4.cell? ⟨(w.heap.size + 1), 0, none⟩ = some (.int .i64 0) := (k1).cell 0
  have x1 : W4.cell? ⟨(w.heap.size + 1), 1, none⟩ = some (.string ⟨#[]⟩) := (k1).cell 1
  have x2 : W4.cell? ⟨(w.heap.size + 1), 2, none⟩ = some (.slice none 0 0) := (k1).cell 2
  have x3 : W4.cell? ⟨(w.heap.size + 1), 3, none⟩ = some (.bool false) := (k1).cell 3
  have x4 : W4.cell? ⟨(w.heap.size + 1), 4, none⟩ = some (.string ⟨#[]⟩) := (k1).cell 4
  have x5 : W4.cell? ⟨(w.heap.size + 1), 5, none⟩ = some (.int .i64 0) := (k1).cell 5
  have xf0 : W4.frozen? ⟨(w.heap.size + 1), 0, none⟩ = false := (k1).frozen 0
  have xf1 : W4.frozen? ⟨(w.heap.size + 1), 1, none⟩ = false := (k1).frozen 1
  have xf2 : W4.frozen? ⟨(w.heap.size + 1), 2, none⟩ = false := (k1).frozen 2
  have xf3 : W4.frozen? ⟨(w.heap.size + 1), 3, none⟩ = false := (k1).frozen 3
  have xf4 : W4.frozen? ⟨(w.heap.size + 1), 4, none⟩ = false := (k1).frozen 4
  have xf5 : W4.frozen? ⟨(w.heap.size + 1), 5, none⟩ = false := (k1).frozen 5
  have K1 := hide k1
  have HBW := hide hb
  clear k0 k1 hb
  go_wp2
  have kk := (((((((unhide K1).set 0 (by simp) (.int .i64 tk)).set 1 (by simp) (.string tn)).set 2 (by simp) (.slice q ta.length cap)).set 3 (by simp) (.bool tf)).set 4 (by simp) (.string tx)).set 5 (by simp) (.int .i64 (E : Int))).alloc (Obj.cells #[.int .i64 tk, .string tn, .slice q ta.length cap, .bool tf, .string tx, .int .i64 (E : Int)] 32)
  have hbq := (((((((unhide HBW).setCell (p := ⟨w.heap.size + 1, 0, none⟩) (by show w.heap.size ≤ w.heap.size + 1; omega) (.int .i64 tk)).setCell (p := ⟨w.heap.size + 1, 1, none⟩) (by show w.heap.size ≤ w.heap.size + 1; omega) (.string tn)).setCell (p := ⟨w.heap.size + 1, 2, none⟩) (by show w.heap.size ≤ w.heap.size + 1; omega) (.slice q ta.length cap)).setCell (p := ⟨w.heap.size + 1, 3, none⟩) (by show w.heap.size ≤ w.heap.size + 1; omega) (.bool tf)).setCell (p := ⟨w.heap.size + 1, 4, none⟩) (by show w.heap.size ≤ w.heap.size + 1; omega) (.string tx)).setCell (p := ⟨w.heap.size + 1, 5, none⟩) (by show w.heap.size ≤ w.heap.size + 1; omega) (.int .i64 (E : Int)))
  have d0 := kk.cell 0
  have d1 := kk.cell 1
  have d2 := kk.cell 2
  have d3 := kk.cell 3
  have d4 := kk.cell 4
  have d5 := kk.cell 5
  exact bodyPost_ret (v := .agg #[.int .i64 tk, .string tn, .slice q ta.length cap, .bool tf, .string tx, .int .i64 (E : Int)]) (by simp [results, Tryz.results7, go_sem, d0, d1, d2, d3, d4, d5]) rfl ⟨q, cap, rfl, (((((((((unhide hsl2).away (Nat.lt_succ_self _) _).away (Nat.lt_succ_self _) _).away (Nat.lt_succ_self _) _).away (Nat.lt_succ_self _) _).away (Nat.lt_succ_self _) _).away (Nat.lt_succ_self _) _).later ((Below.refl _ _).alloc (Nat.le_refl _) _)).mono (b' := w.heap.size) (by omega)), hbq.alloc hbq.size _⟩

set_option maxHeartbeats 8000000 in
set_option maxRecDepth 100000 in
theorem next5_last (s n : ByteArray) (kind : Int) (cd : Bool) (i : Nat) (w : World) (hs : s.size ≤ 100000) (hn : n.size ≤ 100000) (hi : i < s.size) (n1 : (kind == 1) = false) (n2 : (kind == 2) = false) (hbg : begP s i = true) (hk : (markT s i cd).1 = 0) (hE : s.size ≤ markE s i cd) :
    Calls Tryz.prog 7 #[.string s, .int .i64 (i : Int), .agg #[.int .i64 kind, .string n, .bool cd]] w (GotIs w noT s.size) := by
  have i0 : ¬ (i : Int) < 0 := by omega
  have i1 : (i : Int) < (s.size : Int) := by omega
  have i2 : ¬ (s.size : Int) ≤ (i : Int) := by omega
  obtain ⟨b1, b2⟩ := beg_bounds hbg
  have hm := markE_le s i cd b1 b2
  have hbb : Below w.heap.size w ((w.alloc (Obj.cells #[.int .i64 kind, .string n, .bool cd] 34)).alloc (Obj.cells #[.int .i64 0, .string ⟨#[]⟩, .slice none 0 0, .bool false, .string ⟨#[]⟩, .int .i64 0] 32)) := ((Below.refl w.heap.size w).alloc (Nat.le_refl _) _).alloc (by simp) _
  have kk0 : Blk ((w.alloc (Obj.cells #[.int .i64 kind, .string n, .bool cd] 34)).alloc (Obj.cells #[.int .i64 0, .string ⟨#[]⟩, .slice none 0 0, .bool false, .string ⟨#[]⟩, .int .i64 0] 32)) w.heap.size #[.int .i64 kind, .string n, .bool cd] 34 := (Blk.new w #[.int .i64 kind, .string n, .bool cd] 34).alloc _
  have kk1 : Blk ((w.alloc (Obj.cells #[.int .i64 kind, .string n, .bool cd] 34)).alloc (Obj.cells #[.int .i64 0, .string ⟨#[]⟩, .slice none 0 0, .bool false, .string ⟨#[]⟩, .int .i64 0] 32)) (w.heap.size + 1) #[.int .i64 0, .string ⟨#[]⟩, .slice none 0 0, .bool false, .string ⟨#[]⟩, .int .i64 0] 32 := by
    have := Blk.new (w.alloc (Obj.cells #[.int .i64 kind, .string n, .bool cd] 34)) #[.int .i64 0, .string ⟨#[]⟩, .slice none 0 0, .bool false, .string ⟨#[]⟩, .int .i64 0] 32
    simpa using this
  have CB := hide (fun w => begins5_any s i w hs (by omega))
  have CM := hide (fun w => markup5_any s i cd w hs hbg)
  rw [hbg] at CB
  clear hbg b1 b2
  have hT := markT_zero s i cd hk
  have hEE : markE s i cd = s.size := by omega
  rw [hT, hEE] at CM
  unfold noT at CM ⊢
  clear hk hE hT hEE hm
  have e9 : (s.size : Int) ≤ (s.size : Int) := Int.le_refl _
  go_enter Tryz.func7, Tryz.ntmps7
  go_wp2_with fail
  refine calls_from (fun W => Blk W w.heap.size #[.int .i64 kind, .string n, .bool cd] 34 ∧ Blk W (w.heap.size + 1) #[.int .i64 0, .string ⟨#[]⟩, .slice none 0 0, .bool false, .string ⟨#[]⟩, .int .i64 0] 32 ∧ Below w.heap.size w W) ⟨kk0, kk1, hbb⟩ ?_
  clear kk0 kk1 hbb
  rintro W ⟨k0, k1, hb⟩
  refine (unhide CB _).mono ?_
  rintro e1 w1 ⟨rfl, hw1⟩
  obtain rfl : W = w1 := hw1.symm
  have m0 : W.cell? ⟨w.heap.size, 0, none⟩ = some (.int .i64 kind) := (k0).cell 0
  have m1 : W.cell? ⟨w.heap.size, 1, none⟩ = some (.string n) := (k0).cell 1
  have m2 : W.cell? ⟨w.heap.size, 2, none⟩ = some (.bool cd) := (k0).cell 2
  have KK := hide (And.intro k0 (And.intro k1 hb))
  have hwW : w.heap.size + 1 < W.heap.size := k1.lt
  clear k0 k1 hb
  go_wp2_with fail
  refine (unhide CM _).mono ?_
  rintro e2 W4 ⟨q, cap, rfl, hsl, hbT⟩
  have hsl2 := hide (hsl.mono (b' := w.heap.size + 1 + 1) hwW)
  have k0 := (unhide KK).1.later hbT
  have k1 := (unhide KK).2.1.later hbT
  have hb := tr2 (unhide KK).2.2 hbT
  clear hsl hbT KK m0 m1 m2
  have hlt : w.heap.size + 1 < W4.heap.size := k1.lt
  have hlt0 : w.heap.size < W4.heap.size := k0.lt
  have hne : ¬ w.heap.size + 1 = W4.heap.size := by omega
  have hne0 : ¬ w.heap.size = W4.heap.size := by omega
  have x0 : W4.cell? ⟨(w.heap.size + 1), 0, none⟩ = some (.int .i64 0) := (k1).cell 0
  have x1 : W4.cell? ⟨(w.heap.size + 1), 1, none⟩ = some (.string ⟨#[]⟩) := (k1).cell 1
  have x2 : W4.cell? ⟨(w.heap.size + 1), 2, none⟩ = some (.slice none 0 0) := (k1).cell 2
  have x3 : W4.cell? ⟨(w.heap.size + 1), 3, none⟩ = some (.bool false) := (k1).cell 3
  have x4 : W4.cell? ⟨(w.heap.size + 1), 4, none⟩ = some (.string ⟨#[]⟩) := (k1).cell 4
  have x5 : W4.cell? ⟨(w.heap.size + 1), 5, none⟩ = some (.int .i64 0) := (k1).cell 5
  have xf0 : W4.frozen? ⟨(w.heap.size + 1), 0, none⟩ = false := (k1).frozen 0
  have xf1 : W4.frozen? ⟨(w.heap.size + 1), 1, none⟩ = false := (k1).frozen 1
  have xf2 : W4.frozen? ⟨(w.heap.size + 1), 2, none⟩ = false := (k1).frozen 2
  have xf3 : W4.frozen? ⟨(w.heap.size + 1), 3, none⟩ = false := (k1).frozen 3
  have xf4 : W4.frozen? ⟨(w.heap.size + 1), 4, none⟩ = false := (k1).frozen 4
  have xf5 : W4.frozen? ⟨(w.heap.size + 1), 5, none⟩ = false := (k1).frozen 5
  have K1 := hide k1
  have HBW := hide hb
  clear k0 k1 hb
  go_wp2
  have kk := (((((((unhide K1).set 0 (by simp) (.int .i64 0)).set 1 (by simp) (.string ⟨#[]⟩)).set 2 (by simp) (.slice q 0 cap)).set 3 (by simp) (.bool false)).set 4 (by simp) (.string ⟨#[]⟩)).set 5 (by simp) (.int .i64 (s.size : Int))).alloc (Obj.cells #[.int .i64 0, .string ⟨#[]⟩, .slice q 0 cap, .bool false, .string ⟨#[]⟩, .int .i64 (s.size : Int)] 32)
  have hbq := (((((((unhide HBW).setCell (p := ⟨w.heap.size + 1, 0, none⟩) (by show w.heap.size ≤ w.heap.size + 1; omega) (.int .i64 0)).setCell (p := ⟨w.heap.size + 1, 1, none⟩) (by show w.heap.size ≤ w.heap.size + 1; omega) (.string ⟨#[]⟩)).setCell (p := ⟨w.heap.size + 1, 2, none⟩) (by show w.heap.size ≤ w.heap.size + 1; omega) (.slice q 0 cap)).setCell (p := ⟨w.heap.size + 1, 3, none⟩) (by show w.heap.size ≤ w.heap.size + 1; omega) (.bool false)).setCell (p := ⟨w.heap.size + 1, 4, none⟩) (by show w.heap.size ≤ w.heap.size + 1; omega) (.string ⟨#[]⟩)).setCell (p := ⟨w.heap.size + 1, 5, none⟩) (by show w.heap.size ≤ w.heap.size + 1; omega) (.int .i64 (s.size : Int)))
  have d0 := kk.cell 0
  have d1 := kk.cell 1
  have d2 := kk.cell 2
  have d3 := kk.cell 3
  have d4 := kk.cell 4
  have d5 := kk.cell 5
  exact bodyPost_ret (v := .agg #[.int .i64 0, .string ⟨#[]⟩, .slice q 0 cap, .bool false, .string ⟨#[]⟩, .int .i64 (s.size : Int)]) (by simp [results, Tryz.results7, go_sem, d0, d1, d2, d3, d4, d5]) rfl ⟨q, cap, rfl, (((((((((unhide hsl2).away (Nat.lt_succ_self _) _).away (Nat.lt_succ_self _) _).away (Nat.lt_succ_self _) _).away (Nat.lt_succ_self _) _).away (Nat.lt_succ_self _) _).away (Nat.lt_succ_self _) _).later ((Below.refl _ _).alloc (Nat.le_refl _) _)).mono (b' := w.heap.size) (by omega)), hbq.alloc hbq.size _⟩

set_option maxHeartbeats 8000000 in
set_option maxRecDepth 100000 in
theorem next5_on (s n : ByteArray) (kind : Int) (cd : Bool) (i : Nat) (w : World) (hs : s.size ≤ 100000) (hn : n.size ≤ 100000) (hi : i < s.size) (n1 : (kind == 1) = false) (n2 : (kind == 2) = false) (hbg : begP s i = true) (hk : (markT s i cd).1 = 0) (hE : markE s i cd < s.size) (T : PTok) (E' : Nat) (ih : ∀ w, Calls Tryz.prog 7 #[.string s, .int .i64 (markE s i cd : Nat), .agg #[.int .i64 kind, .string n, .bool cd]] w (GotIs w T E')) :
    Calls Tryz.prog 7 #[.string s, .int .i64 (i : Int), .agg #[.int .i64 kind, .string n, .bool cd]] w (GotIs w T E') := by
  have i0 : ¬ (i : Int) < 0 := by omega
  have i1 : (i : Int) < (s.size : Int) := by omega
  have i2 : ¬ (s.size : Int) ≤ (i : Int) := by omega
  obtain ⟨b1, b2⟩ := beg_bounds hbg
  have hm := markE_le s i cd b1 b2
  have hbb : Below w.heap.size w ((w.alloc (Obj.cells #[.int .i64 kind, .string n, .bool cd] 34)).alloc (Obj.cells #[.int .i64 0, .string ⟨#[]⟩, .slice none 0 0, .bool false, .string ⟨#[]⟩, .int .i64 0] 32)) := ((Below.refl w.heap.size w).alloc (Nat.le_refl _) _).alloc (by simp) _
  have kk0 : Blk ((w.alloc (Obj.cells #[.int .i64 kind, .string n, .bool cd] 34)).alloc (Obj.cells #[.int .i64 0, .string ⟨#[]⟩, .slice none 0 0, .bool false, .string ⟨#[]⟩, .int .i64 0] 32)) w.heap.size #[.int .i64 kind, .string n, .bool cd] 34 := (Blk.new w #[.int .i64 kind, .string n, .bool cd] 34).alloc _
  have kk1 : Blk ((w.alloc (Obj.cells #[.int .i64 kind, .string n, .bool cd] 34)).alloc (Obj.cells #[.int .i64 0, .string ⟨#[]⟩, .slice none 0 0, .bool false, .string ⟨#[]⟩, .int .i64 0] 32)) (w.heap.size + 1) #[.int .i64 0, .string ⟨#[]⟩, .slice none 0 0, .bool false, .string ⟨#[]⟩, .int .i64 0] 32 := by
    have := Blk.new (w.alloc (Obj.cells #[.int .i64 kind, .string n, .bool cd] 34)) #[.int .i64 0, .string ⟨#[]⟩, .slice none 0 0, .bool false, .string ⟨#[]⟩, .int .i64 0] 32
    simpa using this
  have CB := hide (fun w => begins5_any s i w hs (by omega))
  have CM := hide (fun w => markup5_any s i cd w hs hbg)
  rw [hbg] at CB
  clear hbg b1 b2
  have hT := markT_zero s i cd hk
  rw [hT] at CM
  unfold noT at CM
  have IH := hide ih
  clear ih
  generalize markE s i cd = E at *
  have e9 : ¬ (s.size : Int) ≤ (E : Int) := by omega
  obtain ⟨tk, tn, ta, tf, tx⟩ := T
  clear hk hE hT hm
  go_enter Tryz.func7, Tryz.ntmps7
  go_wp2_with fail
  refine calls_from (fun W => Blk W w.heap.size #[.int .i64 kind, .string n, .bool cd] 34 ∧ Blk W (w.heap.size + 1) #[.int .i64 0, .string ⟨#[]⟩, .slice none 0 0, .bool false, .string ⟨#[]⟩, .int .i64 0] 32 ∧ Below w.heap.size w W) ⟨kk0, kk1, hbb⟩ ?_
  clear kk0 kk1 hbb
  rintro W ⟨k0, k1, hb⟩
  refine (unhide CB _).mono ?_
  rintro e1 w1 ⟨rfl, hw1⟩
  obtain rfl : W = w1 := hw1.symm
  have m0 : W.cell? ⟨w.heap.size, 0, none⟩ = some (.int .i64 kind) := (k0).cell 0
  have m1 : W.cell? ⟨w.heap.size, 1, none⟩ = some (.string n) := (k0).cell 1
  have m2 : W.cell? ⟨w.heap.size, 2, none⟩ = some (.bool cd) := (k0).cell 2
  have KK := hide (And.intro k0 (And.intro k1 hb))
  have hwW : w.heap.size + 1 < W.heap.size := k1.lt
  clear k0 k1 hb
  go_wp2_with fail
  refine (unhide CM _).mono ?_
  rintro e2 W4 ⟨q9, cap9, rfl, hsl, hbT⟩
  have k0 := (unhide KK).1.later hbT
  have k1 := (unhide KK).2.1.later hbT
  have hb := tr2 (unhide KK).2.2 hbT
  clear hsl hbT KK m0 m1 m2
  have hlt : w.heap.size + 1 < W4.heap.size := k1.lt
  have hlt0 : w.heap.size < W4.heap.size := k0.lt
  have hne : ¬ w.heap.size + 1 = W4.heap.size := by omega
  have hne0 : ¬ w.heap.size = W4.heap.size := by omega
  have hbA := hb.alloc hb.size (Obj.cells #[.int .i64 0, .string ⟨#[]⟩, .slice q9 0 cap9, .bool false, .string ⟨#[]⟩, .int .i64 (E : Int)] 32)
  replace k0 := k0.alloc (Obj.cells #[.int .i64 0, .string ⟨#[]⟩, .slice q9 0 cap9, .bool false, .string ⟨#[]⟩, .int .i64 (E : Int)] 32)
  replace k1 := k1.alloc (Obj.cells #[.int .i64 0, .string ⟨#[]⟩, .slice q9 0 cap9, .bool false, .string ⟨#[]⟩, .int .i64 (E : Int)] 32)
  have m0 : (W4.alloc (Obj.cells #[.int .i64 0, .string ⟨#[]⟩, .slice q9 0 cap9, .bool false, .string ⟨#[]⟩, .int .i64 (E : Int)] 32)).cell? ⟨w.heap.size, 0, none⟩ = some (.int .i64 kind) := (k0).cell 0
  have m1 : (W4.alloc (Obj.cells #[.int .i64 0, .string ⟨#[]⟩, .slice q9 0 cap9, .bool false, .string ⟨#[]⟩, .int .i64 (E : Int)] 32)).cell? ⟨w.heap.size, 1, none⟩ = some (.string n) := (k0).cell 1
  have m2 : (W4.alloc (Obj.cells #[.int .i64 0, .string ⟨#[]⟩, .slice q9 0 cap9, .bool false, .string ⟨#[]⟩, .int .i64 (E : Int)] 32)).cell? ⟨w.heap.size, 2, none⟩ = some (.bool cd) := (k0).cell 2
  clear hb
  go_wp2_with fail
  refine calls_from (fun W => Blk W (w.heap.size + 1) #[.int .i64 0, .string ⟨#[]⟩, .slice none 0 0, .bool false, .string ⟨#[]⟩, .int .i64 0] 32 ∧ Below w.heap.size w W) ⟨k1, hbA⟩ ?_
  clear k0 k1 hbA m0 m1 m2
  rintro W9 ⟨k1, hb⟩
  refine (unhide IH _).mono ?_
  rintro e3 W5 ⟨q, cap, rfl, hsl, hbT⟩
  have hsl2 := hide (hsl.mono (b' := w.heap.size + 1 + 1) k1.lt)
  clear hsl
  replace k1 := k1.later hbT
  replace hb := tr2 hb hbT
  clear hbT
  have x0 : W5.cell? ⟨(w.heap.size + 1), 0, none⟩ = some (.int .i64 0) := (k1).cell 0
  have x1 : W5.cell? ⟨(w.heap.size + 1), 1, none⟩ = some (.string ⟨#[]⟩) := (k1).cell 1
  have x2 : W5.cell? ⟨(w.heap.size + 1), 2, none⟩ = some (.slice none 0 0) := (k1).cell 2
  have x3 : W5.cell? ⟨(w.heap.size + 1), 3, none⟩ = some (.bool false) := (k1).cell 3
  have x4 : W5.cell? ⟨(w.heap.size + 1), 4, none⟩ = some (.string ⟨#[]⟩) := (k1).cell 4
  have x5 : W5.cell? ⟨(w.heap.size + 1), 5, none⟩ = some (.int .i64 0) := (k1).cell 5
  have xf0 : W5.frozen? ⟨(w.heap.size + 1), 0, none⟩ = false := (k1).frozen 0
  have xf1 : W5.frozen? ⟨(w.heap.size + 1), 1, none⟩ = false := (k1).frozen 1
  have xf2 : W5.frozen? ⟨(w.heap.size + 1), 2, none⟩ = false := (k1).frozen 2
  have xf3 : W5.frozen? ⟨(w.heap.size + 1), 3, none⟩ = false := (k1).frozen 3
  have xf4 : W5.frozen? ⟨(w.heap.size + 1), 4, none⟩ = false := (k1).frozen 4
  have xf5 : W5.frozen? ⟨(w.heap.size + 1), 5, none⟩ = false := (k1).frozen 5
  have K1 := hide k1
  have HBW := hide hb
  clear k1 hb
  go_wp2
  have kk := (((((((unhide K1).set 0 (by simp) (.int .i64 tk)).set 1 (by simp) (.string tn)).set 2 (by simp) (.slice q ta.length cap)).set 3 (by simp) (.bool tf)).set 4 (by simp) (.string tx)).set 5 (by simp) (.int .i64 (E' : Int)))
  have d0 := kk.cell 0
  have d1 := kk.cell 1
  have d2 := kk.cell 2
  have d3 := kk.cell 3
  have d4 := kk.cell 4
  have d5 := kk.cell 5
  exact bodyPost_ret (v := .agg #[.int .i64 tk, .string tn, .slice q ta.length cap, .bool tf, .string tx, .int .i64 (E' : Int)]) (by simp [results, Tryz.results7, go_sem, d0, d1, d2, d3, d4, d5]) rfl ⟨q, cap, rfl, (((((((unhide hsl2).away (Nat.lt_succ_self _) _).away (Nat.lt_succ_self _) _).away (Nat.lt_succ_self _) _).away (Nat.lt_succ_self _) _).away (Nat.lt_succ_self _) _).away (Nat.lt_succ_self _) _).mono (b' := w.heap.size) (by omega), (((((((unhide HBW).setCell (by show w.heap.size ≤ w.heap.size + 1; omega) _).setCell (by show w.heap.size ≤ w.heap.size + 1; omega) _).setCell (by show w.heap.size ≤ w.heap.size + 1; omega) _).setCell (by show w.heap.size ≤ w.heap.size + 1; omega) _).setCell (by show w.heap.size ≤ w.heap.size + 1; omega) _).setCell (by show w.heap.size ≤ w.heap.size + 1; omega) _)⟩

theorem next5_data (s n : ByteArray) (kind : Int) (cd : Bool) (hs : s.size ≤ 100000) (hn : n.size ≤ 100000) (n1 : (kind == 1) = false) (n2 : (kind == 2) = false) : ∀ (k i : Nat) (w : World), s.size < i + k → i < s.size →
    Calls Tryz.prog 7 #[.string s, .int .i64 (i : Int), .agg #[.int .i64 kind, .string n, .bool cd]] w (GotIs w (dataF s cd k i).1 (dataF s cd k i).2)
  | 0, i, w, h, hi => by omega
  | k + 1, i, w, h, hi => by
    cases hb : begP s i with
    | false => rw [dataF_chars hi hb]; exact next5_chars s n kind cd i w hs hn hi n1 n2 hb
    | true =>
      obtain ⟨b1, b2⟩ := beg_bounds hb
      have hm := markE_le s i cd b1 b2
      by_cases hk : (markT s i cd).1 = 0
      · rw [dataF_on hi hb hk]
        by_cases hE : markE s i cd < s.size
        · exact next5_on s n kind cd i w hs hn hi n1 n2 hb hk hE _ _ (fun w => next5_data s n kind cd hs hn n1 n2 k _ w (by omega) hE)
        · rw [dataF_end (by omega)]; exact next5_last s n kind cd i w hs hn hi n1 n2 hb hk (by omega)
      · rw [dataF_mark hi hb hk]; exact next5_mark s n kind cd i w hs hn hi n1 n2 hb hk
theorem next5_any (s n : ByteArray) (kind : Int) (cd : Bool) (a : Int) (w : World) (hs : s.size ≤ 100000) (hn : n.size ≤ 100000) :
    Calls Tryz.prog 7 #[.string s, .int .i64 a, .agg #[.int .i64 kind, .string n, .bool cd]] w (GotIs w (nextT s n kind cd a).1 (nextT s n kind cd a).2) := by
  unfold nextT
  by_cases h : a < 0 ∨ (s.size : Int) ≤ a
  · rw [if_pos h]; exact next5_out s n kind cd a w hs h
  rw [if_neg h]
  obtain ⟨i, rfl⟩ : ∃ i : Nat, a = (i : Int) := ⟨a.toNat, by omega⟩
  have hi : i < s.size := by omega
  rw [Int.toNat_natCast]
  by_cases h1 : kind = 1
  · rw [if_pos (Or.inl h1)]; exact next5_one s n kind cd i w hs hn hi h1
  by_cases h2 : kind = 2
  · rw [if_pos (Or.inr h2)]; exact next5_two s n kind cd i w hs hn hi h2
  rw [if_neg (by rintro (h | h); exact h1 h; exact h2 h)]
  exact next5_data s n kind cd hs hn (beq_eq_false_iff_ne.2 h1) (beq_eq_false_iff_ne.2 h2) _ i w (by omega) hi
end Go.Proofs.YtakjlolmmoladaaGreatDoor
