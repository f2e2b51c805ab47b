/-
  The law WordsBack (made by mk_lxb.py).
-/
import Derived.Test.YtfbgpodcdgmpjaaXAb
namespace Go.Proofs.Ytfbgpodcdgmpjaa
open Go.RowKit
set_option linter.unusedVariables false
set_option linter.unusedSimpArgs false

theorem eqT_tx {ss tt : List ByteArray} {x y : Nat} (h : eqT ss tt x y = true) : ss.getD x ByteArray.empty = tt.getD y ByteArray.empty := by
  have := of_decide_eq_true h
  unfold tx at this
  have h2 := congrArg bs this
  rwa [bs_self, bs_self] at h2
theorem flB_bsL (l : List UInt8) : flB (bsL (grp l)) = l := flB_grp l
theorem old_is (a b : ByteArray) : toldF (ifK (inK [1, 2])) (jnP (rwP a b)) = a.data.toList := by
  rw [told_jn]
  unfold rwP
  split
  · simp [toldF, ifK, inK]
  · unfold shP
    rw [told_old (p := inK [1, 2]) (by decide) (by decide) (by decide) _ _ _ 0 0 (shP_rise _ _), List.drop_zero, flB_bsL]
theorem new_is (a b : ByteArray) : toldF (ifK (inK [1, 3])) (jnP (rwP a b)) = b.data.toList := by
  rw [told_jn]
  unfold rwP
  split
  · simp [toldF, ifK, inK]
  · unfold shP
    rw [told_new (p := inK [1, 3]) (by decide) (by decide) (by decide) _ _ (fun x y _ _ h => eqT_tx h) _ 0 0 (shP_rise _ _), List.drop_zero, flB_bsL]
theorem grp_nil {l : List UInt8} (h : grp l = []) : l = [] := by
  cases l with
  | nil => rfl
  | cons b r => rw [grp_step _ (by simp)] at h; cases h
theorem self_short (a : ByteArray) (h : longB a.data.toList = false) : jnP (rwP a a) = if a.data.toList = [] then [] else [((1 : Int), a)] := by
  unfold rwP
  rw [h, if_neg (by decide)]
  unfold shP
  rw [ls_self (bsL (grp a.data.toList)) (fun i hi => by unfold eqT; simp) _ 0 (Nat.le_refl _), List.drop_zero, jn_tk, flB_bsL]
  by_cases e : a.data.toList = []
  · rw [if_pos e]
    rw [e]; rfl
  · rw [if_neg e, if_neg (fun x => e (grp_nil (by simpa [bsL] using x)))]
    unfold jn1
    rw [if_neg e, bs_self]
theorem self_long (a : ByteArray) (h : longB a.data.toList = true) : jnP (rwP a a) = [((2 : Int), a), (3, a)] := by
  unfold rwP
  rw [h, if_pos (by decide), two_jn]
  have e : a.data.toList ≠ [] := fun e => by rw [e] at h; exact absurd h (by decide)
  unfold jn1
  rw [if_neg e, if_neg e, bs_self]; rfl
theorem bs_beq (l : List UInt8) (s : ByteArray) (h : l = s.data.toList) : bs l = s := by rw [h, bs_self]
set_option maxHeartbeats 1000000 in
theorem wordsBack_great (a b : ByteArray) (w : World) (h : 1000 < a.size ∨ 1000 < b.size) :
    Calls Try.prog 6 #[.string a, .string b] w fun e w' => e = .returned (.bool true) ∧ Below w.heap.size w w' := by
  have CA := hide abc_any
  by_cases h1 : 1000 < a.size
  · have h1i : (1000 : Int) < (a.size : Int) := by omega
    go_enter Try.func6, Try.ntmps6
    go_wp2_with fail
    refine Calls.mono (unhide CA _) ?_
    rintro e w1 ⟨rfl, hb⟩
    go_wp2
    go_ret
    exact ⟨rfl, hb⟩
  · have h1i : ¬ (1000 : Int) < (a.size : Int) := by omega
    have h2 : 1000 < b.size := by omega
    have h2i : (1000 : Int) < (b.size : Int) := by omega
    go_enter Try.func6, Try.ntmps6
    go_wp2_with fail
    refine Calls.mono (unhide CA _) ?_
    rintro e w1 ⟨rfl, hb⟩
    go_wp2
    go_ret
    exact ⟨rfl, hb⟩
set_option maxHeartbeats 4000000 in
set_option maxRecDepth 100000 in
theorem back_empty (a b : ByteArray) (w : World) (ha : a.size ≤ 1000) (hb : b.size ≤ 1000) (h0 : a.data.toList = []) :
    Calls Try.prog 6 #[.string a, .string b] w fun e w' => e = .returned (.bool true) ∧ Below w.heap.size w w' := by
  have CA := hide abc_any
  have C1 := hide (wtexts_any a b w (by omega) (by omega))
  have C2 := hide (fun (W : World) => wtexts_any a a W (by omega) (by omega))
  unfold TxSaid at C1 C2
  have h1i : ¬ (1000 : Int) < (a.size : Int) := by omega
  have h2i : ¬ (1000 : Int) < (b.size : Int) := by omega
  have hsm := rwP_small a b (by omega) (by omega)
  have hjl := jnP_len _ (rwP a b) (Nat.le_refl _)
  have hsep := sep_jn _ (jok_rw a b)
  have hold := old_is a b
  have hnew := new_is a b
  have hla : longB a.data.toList = false := by rw [h0]; decide
  have hK : jnP (rwP a a) = [] := by rw [self_short a hla, if_pos h0]
  have he : a.toList.isEmpty = true := is_empty a (by rw [← data_len, h0]; rfl)
  have CS := hide (fun (W : World) => split_any a W (by omega))
  unfold SplitSaid at CS
  rw [h0] at CS
  have hg : (bsL (grp [])).length = 0 := rfl
  rw [hg] at CS
  rw [hK] at C2
  obtain ⟨L, hL⟩ : ∃ L, jnP (rwP a b) = L := ⟨_, rfl⟩
  rw [hL] at C1 hjl hsep hold hnew
  have hLl : L.length ≤ 200000 := by omega
  have CO := hide (fun (q : Option Addr) (c : Nat) (W : World) h => old_any q c L W h (by omega) (by rw [hold, data_len]; omega))
  have CN := hide (fun (q : Option Addr) (c : Nat) (W : World) h => new_any q c L W h (by omega) (by rw [hnew, data_len]; omega))
  rw [hold, bs_self] at CO
  rw [hnew, bs_self] at CN
  have HSEP := hide hsep
  clear hsm hjl hsep hold hnew hL hK
  go_enter Try.func6, Try.ntmps6
  go_wp2_with fail
  refine Calls.mono (unhide C1) ?_
  rintro e w1 ⟨v1, rfl, hv1, hb1⟩
  obtain ⟨q1, c1, hq1, hc1, hp1⟩ := hv1.read
  subst hq1
  have HP1 := hide hp1
  have HB1 := hide hb1
  clear C1 hv1 hb1 hp1 hc1
  go_wp2
  go_loopw [24] (fun i wr => ∃ k : Nat, k ≤ L.length ∧ i = .int .i64 (k : Int) ∧ Below w1.heap.size w1 wr) (fun i _ => L.length - (intOf i).toNat)
  case atStart => exact ⟨0, Nat.zero_le _, rfl, Below.refl _ _⟩
  case round =>
    obtain ⟨k, hk, rfl, hbw⟩ := hrel
    have HBW := hide hbw
    by_cases hp : k < L.length
    · have hpi : (k : Int) < (L.length : Int) := by omega
      obtain ⟨g, o, rfl, hcell⟩ := (unhide HP1).below hbw (by omega)
      obtain ⟨x0, x1⟩ := hcell k hp
      have hbA : Below wr.heap.size wr (wr.alloc (Obj.cells #[.int .i64 (L.getD k (0, ByteArray.empty)).1, .string (L.getD k (0, ByteArray.empty)).2] 41)) := (Below.refl _ _).alloc (Nat.le_refl _) _
      have HBA := hide (tr2 hbw hbA)
      have hget : L[k]? = some (L.getD k (0, ByteArray.empty)) := by rw [List.getD, List.getElem?_eq_getElem hp]; rfl
      have hne := (unhide HSEP).1 _ (List.mem_of_getElem? hget)
      by_cases hk0 : k = 0
      · have hg0 : decide ((0 : Int) < (k : Int)) = false := decide_eq_false (by omega)
        have hg1 : decide (0 < k) = false := decide_eq_false (by omega)
        generalize L.getD k (0, ByteArray.empty) = pk at *
        obtain ⟨kk, tk'⟩ := pk
        dsimp only at x0 x1 HBA hne
        have he : tk'.toList.isEmpty = false := not_empty _ (by rw [← data_len]; exact List.length_pos_iff.2 hne)
        clear hcell hbA hget hne hk0 hbw
        go_wp2
        go_quiet (fail)
        go_wp2
        go_roundw
        case rel => exact ⟨k + 1, by omega, by go_num, below_drewN (unhide HBA) _⟩
        case measure => simp [intOf]; omega
      · have hg0 : (0 : Int) < (k : Int) := by omega
        have hg2 : decide ((0 : Int) < (k : Int)) = true := decide_eq_true hg0
        have hg1 : (0 : Nat) < k := by omega
        obtain ⟨j, hj⟩ : ∃ j, k = j + 1 := ⟨k - 1, by omega⟩
        obtain ⟨z0, _⟩ := hcell j (by omega)
        have z0' := cell_later hbA z0
        have hgetj : L[j]? = some (L.getD j (0, ByteArray.empty)) := by rw [List.getD, List.getElem?_eq_getElem (by omega)]; rfl
        have hdiff := (unhide HSEP).2 j _ _ hgetj (by rw [← hj]; exact hget)
        have hkj : (k : Int) - 1 = (j : Int) := by omega
        have hwr : IntKind.i64.wrap (j : Int) = (j : Int) := by rw [IntKind.wrap_i64]; omega
        have hj1 : (j : Int) < (L.length : Int) := by omega
        have hj0 : (0 : Int) ≤ (j : Int) := by omega
        have HJ := hide hj
        generalize L.getD k (0, ByteArray.empty) = pk at *
        generalize L.getD j (0, ByteArray.empty) = pj at *
        obtain ⟨kk, tk'⟩ := pk
        obtain ⟨kj, tj⟩ := pj
        dsimp only at x0 x1 HBA hne z0 z0' hdiff
        have he : tk'.toList.isEmpty = false := not_empty _ (by rw [← data_len]; exact List.length_pos_iff.2 hne)
        have hdd : (kj == kk) = false := beq_eq_false_iff_ne.2 hdiff
        clear hcell hbA hget hne hk0 hbw hgetj hdiff hj z0
        go_wp2
        go_quiet (fail)
        go_wp2
        go_roundw
        case rel => exact ⟨k + 1, by omega, by go_num, below_drewN (unhide HBA) _⟩
        case measure => simp [intOf]; omega
    · have hke : k = L.length := by omega
      have hpi : ¬ (k : Int) < (L.length : Int) := by omega
      have haa : (a.toList == a.toList) = true := beq_self_eq_true _
      have hbb : (b.toList == b.toList) = true := beq_self_eq_true _
      have HPR := hide ((unhide HP1).below hbw)
      clear hke hbw
      go_wp2_with fail
      refine Calls.mono (unhide C2 _) ?_
      rintro e w2 ⟨v2, rfl, hv2, hb2⟩
      obtain ⟨q2, c2, hq2, hc2, hp2⟩ := hv2.read
      subst hq2
      have HB2 := hide (tr2 (unhide HBW) hb2)
      have HPS := hide ((unhide HPR).below hb2)
      clear hv2 hb2 hp2 hc2
      go_wp2_with fail
      refine Calls.mono (unhide CS _) ?_
      rintro e w6 ⟨v6, rfl, hv6, hb6⟩
      obtain ⟨q6, c6, hq6, _⟩ := owns_cap hv6
      subst hq6
      have HB2 := hide (tr2 (unhide HB2) hb6)
      have HPS := hide ((unhide HPS).below hb6)
      clear hv6 hb6
      go_wp2_with fail
      refine Calls.mono (unhide CO q1 c1 _ (unhide HPS)) ?_
      rintro e w3 ⟨rfl, hb3⟩
      have HB3 := hide (tr2 (unhide HB2) hb3)
      have HPT := hide ((unhide HPS).below hb3)
      clear hb3
      go_wp2_with fail
      refine Calls.mono (unhide CN q1 c1 _ (unhide HPT)) ?_
      rintro e w4 ⟨rfl, hb4⟩
      have HB4 := hide (tr2 (unhide HB3) hb4)
      clear hb4
      go_wp2_with fail
      refine Calls.mono (unhide CA _) ?_
      rintro e w5 ⟨rfl, hb5⟩
      have HB5 := hide (tr2 (unhide HB4) hb5)
      clear hb5
      go_wp2
      go_ret
      exact ⟨rfl, tr2 (unhide HB1) (unhide HB5)⟩
set_option maxHeartbeats 4000000 in
set_option maxRecDepth 100000 in
theorem back_short (a b : ByteArray) (w : World) (ha : a.size ≤ 1000) (hb : b.size ≤ 1000) (hla : longB a.data.toList = false) (h0 : a.data.toList ≠ []) :
    Calls Try.prog 6 #[.string a, .string b] w fun e w' => e = .returned (.bool true) ∧ Below w.heap.size w w' := by
  have CA := hide abc_any
  have C1 := hide (wtexts_any a b w (by omega) (by omega))
  have C2 := hide (fun (W : World) => wtexts_any a a W (by omega) (by omega))
  unfold TxSaid at C1 C2
  have h1i : ¬ (1000 : Int) < (a.size : Int) := by omega
  have h2i : ¬ (1000 : Int) < (b.size : Int) := by omega
  have hsm := rwP_small a b (by omega) (by omega)
  have hjl := jnP_len _ (rwP a b) (Nat.le_refl _)
  have hsep := sep_jn _ (jok_rw a b)
  have hold := old_is a b
  have hnew := new_is a b
  have hK : jnP (rwP a a) = [((1 : Int), a)] := by rw [self_short a hla, if_neg h0]
  have he : a.toList.isEmpty = false := not_empty a (by rw [← data_len]; exact List.length_pos_iff.2 h0)
  have hka : [((1 : Int), a)].length = 1 := rfl
  rw [hK] at C2
  obtain ⟨L, hL⟩ : ∃ L, jnP (rwP a b) = L := ⟨_, rfl⟩
  rw [hL] at C1 hjl hsep hold hnew
  have hLl : L.length ≤ 200000 := by omega
  have CO := hide (fun (q : Option Addr) (c : Nat) (W : World) h => old_any q c L W h (by omega) (by rw [hold, data_len]; omega))
  have CN := hide (fun (q : Option Addr) (c : Nat) (W : World) h => new_any q c L W h (by omega) (by rw [hnew, data_len]; omega))
  rw [hold, bs_self] at CO
  rw [hnew, bs_self] at CN
  have HSEP := hide hsep
  clear hsm hjl hsep hold hnew hL hK
  go_enter Try.func6, Try.ntmps6
  go_wp2_with fail
  refine Calls.mono (unhide C1) ?_
  rintro e w1 ⟨v1, rfl, hv1, hb1⟩
  obtain ⟨q1, c1, hq1, hc1, hp1⟩ := hv1.read
  subst hq1
  have HP1 := hide hp1
  have HB1 := hide hb1
  clear C1 hv1 hb1 hp1 hc1
  go_wp2
  go_loopw [24] (fun i wr => ∃ k : Nat, k ≤ L.length ∧ i = .int .i64 (k : Int) ∧ Below w1.heap.size w1 wr) (fun i _ => L.length - (intOf i).toNat)
  case atStart => exact ⟨0, Nat.zero_le _, rfl, Below.refl _ _⟩
  case round =>
    obtain ⟨k, hk, rfl, hbw⟩ := hrel
    have HBW := hide hbw
    by_cases hp : k < L.length
    · have hpi : (k : Int) < (L.length : Int) := by omega
      obtain ⟨g, o, rfl, hcell⟩ := (unhide HP1).below hbw (by omega)
      obtain ⟨x0, x1⟩ := hcell k hp
      have hbA : Below wr.heap.size wr (wr.alloc (Obj.cells #[.int .i64 (L.getD k (0, ByteArray.empty)).1, .string (L.getD k (0, ByteArray.empty)).2] 41)) := (Below.refl _ _).alloc (Nat.le_refl _) _
      have HBA := hide (tr2 hbw hbA)
      have hget : L[k]? = some (L.getD k (0, ByteArray.empty)) := by rw [List.getD, List.getElem?_eq_getElem hp]; rfl
      have hne := (unhide HSEP).1 _ (List.mem_of_getElem? hget)
      by_cases hk0 : k = 0
      · have hg0 : decide ((0 : Int) < (k : Int)) = false := decide_eq_false (by omega)
        have hg1 : decide (0 < k) = false := decide_eq_false (by omega)
        generalize L.getD k (0, ByteArray.empty) = pk at *
        obtain ⟨kk, tk'⟩ := pk
        dsimp only at x0 x1 HBA hne
        have he : tk'.toList.isEmpty = false := not_empty _ (by rw [← data_len]; exact List.length_pos_iff.2 hne)
        clear hcell hbA hget hne hk0 hbw
        go_wp2
        go_quiet (fail)
        go_wp2
        go_roundw
        case rel => exact ⟨k + 1, by omega, by go_num, below_drewN (unhide HBA) _⟩
        case measure => simp [intOf]; omega
      · have hg0 : (0 : Int) < (k : Int) := by omega
        have hg2 : decide ((0 : Int) < (k : Int)) = true := decide_eq_true hg0
        have hg1 : (0 : Nat) < k := by omega
        obtain ⟨j, hj⟩ : ∃ j, k = j + 1 := ⟨k - 1, by omega⟩
        obtain ⟨z0, _⟩ := hcell j (by omega)
        have z0' := cell_later hbA z0
        have hgetj : L[j]? = some (L.getD j (0, ByteArray.empty)) := by rw [List.getD, List.getElem?_eq_getElem (by omega)]; rfl
        have hdiff := (unhide HSEP).2 j _ _ hgetj (by rw [← hj]; exact hget)
        have hkj : (k : Int) - 1 = (j : Int) := by omega
        have hwr : IntKind.i64.wrap (j : Int) = (j : Int) := by rw [IntKind.wrap_i64]; omega
        have hj1 : (j : Int) < (L.length : Int) := by omega
        have hj0 : (0 : Int) ≤ (j : Int) := by omega
        have HJ := hide hj
        generalize L.getD k (0, ByteArray.empty) = pk at *
        generalize L.getD j (0, ByteArray.empty) = pj at *
        obtain ⟨kk, tk'⟩ := pk
        obtain ⟨kj, tj⟩ := pj
        dsimp only at x0 x1 HBA hne z0 z0' hdiff
        have he : tk'.toList.isEmpty = false := not_empty _ (by rw [← data_len]; exact List.length_pos_iff.2 hne)
        have hdd : (kj == kk) = false := beq_eq_false_iff_ne.2 hdiff
        clear hcell hbA hget hne hk0 hbw hgetj hdiff hj z0
        go_wp2
        go_quiet (fail)
        go_wp2
        go_roundw
        case rel => exact ⟨k + 1, by omega, by go_num, below_drewN (unhide HBA) _⟩
        case measure => simp [intOf]; omega
    · have hke : k = L.length := by omega
      have hpi : ¬ (k : Int) < (L.length : Int) := by omega
      have haa : (a.toList == a.toList) = true := beq_self_eq_true _
      have hbb : (b.toList == b.toList) = true := beq_self_eq_true _
      have HPR := hide ((unhide HP1).below hbw)
      clear hke hbw
      go_wp2_with fail
      refine Calls.mono (unhide C2 _) ?_
      rintro e w2 ⟨v2, rfl, hv2, hb2⟩
      obtain ⟨q2, c2, hq2, hc2, hp2⟩ := hv2.read
      subst hq2
      have HB2 := hide (tr2 (unhide HBW) hb2)
      have HPS := hide ((unhide HPR).below hb2)
      obtain ⟨g2, o2, rfl, hcell2⟩ := hp2 (by simp)
      obtain ⟨x0, x1⟩ := hcell2 0 (by simp)
      have x0' : w2.cell? ⟨g2, o2, none⟩ = some (.int .i64 1) := by simpa using x0
      have x1' : w2.cell? ⟨g2, o2 + 1, none⟩ = some (.string a) := by simpa using x1
      rw [hka]
      clear hv2 hb2 hp2 hc2 hcell2 x0 x1
      go_wp2_with fail
      refine Calls.mono (unhide CO q1 c1 _ (unhide HPS)) ?_
      rintro e w3 ⟨rfl, hb3⟩
      have HB3 := hide (tr2 (unhide HB2) hb3)
      have HPT := hide ((unhide HPS).below hb3)
      clear hb3
      go_wp2_with fail
      refine Calls.mono (unhide CN q1 c1 _ (unhide HPT)) ?_
      rintro e w4 ⟨rfl, hb4⟩
      have HB4 := hide (tr2 (unhide HB3) hb4)
      clear hb4
      go_wp2_with fail
      refine Calls.mono (unhide CA _) ?_
      rintro e w5 ⟨rfl, hb5⟩
      have HB5 := hide (tr2 (unhide HB4) hb5)
      clear hb5
      go_wp2
      go_ret
      exact ⟨rfl, tr2 (unhide HB1) (unhide HB5)⟩
set_option maxHeartbeats 4000000 in
set_option maxRecDepth 100000 in
theorem back_long (a b : ByteArray) (w : World) (ha : a.size ≤ 1000) (hb : b.size ≤ 1000) (hla : longB a.data.toList = true) :
    Calls Try.prog 6 #[.string a, .string b] w fun e w' => e = .returned (.bool true) ∧ Below w.heap.size w w' := by
  have CA := hide abc_any
  have C1 := hide (wtexts_any a b w (by omega) (by omega))
  have C2 := hide (fun (W : World) => wtexts_any a a W (by omega) (by omega))
  unfold TxSaid at C1 C2
  have h1i : ¬ (1000 : Int) < (a.size : Int) := by omega
  have h2i : ¬ (1000 : Int) < (b.size : Int) := by omega
  have hsm := rwP_small a b (by omega) (by omega)
  have hjl := jnP_len _ (rwP a b) (Nat.le_refl _)
  have hsep := sep_jn _ (jok_rw a b)
  have hold := old_is a b
  have hnew := new_is a b
  have hK : jnP (rwP a a) = [((2 : Int), a), (3, a)] := self_long a hla
  have he : a.toList.isEmpty = false := not_empty a (by rw [← data_len]; exact List.length_pos_iff.2 (fun e => by rw [e] at hla; exact absurd hla (by decide)))
  have hka : [((2 : Int), a), (3, a)].length = 2 := rfl
  have CS := hide (fun (W : World) => split_any a W (by omega))
  unfold SplitSaid at CS
  rw [bsL_len] at CS
  have hgl : 400 < (grp a.data.toList).length := of_decide_eq_true hla
  have hgm := grp_len a.data.toList
  rw [data_len] at hgm
  obtain ⟨gn, hgn⟩ : ∃ gn, (grp a.data.toList).length = gn := ⟨_, rfl⟩
  rw [hgn] at CS hgl hgm
  have hgi : (400 : Int) < (gn : Int) := by omega
  clear hgn
  rw [hK] at C2
  obtain ⟨L, hL⟩ : ∃ L, jnP (rwP a b) = L := ⟨_, rfl⟩
  rw [hL] at C1 hjl hsep hold hnew
  have hLl : L.length ≤ 200000 := by omega
  have CO := hide (fun (q : Option Addr) (c : Nat) (W : World) h => old_any q c L W h (by omega) (by rw [hold, data_len]; omega))
  have CN := hide (fun (q : Option Addr) (c : Nat) (W : World) h => new_any q c L W h (by omega) (by rw [hnew, data_len]; omega))
  rw [hold, bs_self] at CO
  rw [hnew, bs_self] at CN
  have HSEP := hide hsep
  clear hsm hjl hsep hold hnew hL hK
  go_enter Try.func6, Try.ntmps6
  go_wp2_with fail
  refine Calls.mono (unhide C1) ?_
  rintro e w1 ⟨v1, rfl, hv1, hb1⟩
  obtain ⟨q1, c1, hq1, hc1, hp1⟩ := hv1.read
  subst hq1
  have HP1 := hide hp1
  have HB1 := hide hb1
  clear C1 hv1 hb1 hp1 hc1
  go_wp2
  go_loopw [24] (fun i wr => ∃ k : Nat, k ≤ L.length ∧ i = .int .i64 (k : Int) ∧ Below w1.heap.size w1 wr) (fun i _ => L.length - (intOf i).toNat)
  case atStart => exact ⟨0, Nat.zero_le _, rfl, Below.refl _ _⟩
  case round =>
    obtain ⟨k, hk, rfl, hbw⟩ := hrel
    have HBW := hide hbw
    by_cases hp : k < L.length
    · have hpi : (k : Int) < (L.length : Int) := by omega
      obtain ⟨g, o, rfl, hcell⟩ := (unhide HP1).below hbw (by omega)
      obtain ⟨x0, x1⟩ := hcell k hp
      have hbA : Below wr.heap.size wr (wr.alloc (Obj.cells #[.int .i64 (L.getD k (0, ByteArray.empty)).1, .string (L.getD k (0, ByteArray.empty)).2] 41)) := (Below.refl _ _).alloc (Nat.le_refl _) _
      have HBA := hide (tr2 hbw hbA)
      have hget : L[k]? = some (L.getD k (0, ByteArray.empty)) := by rw [List.getD, List.getElem?_eq_getElem hp]; rfl
      have hne := (unhide HSEP).1 _ (List.mem_of_getElem? hget)
      by_cases hk0 : k = 0
      · have hg0 : decide ((0 : Int) < (k : Int)) = false := decide_eq_false (by omega)
        have hg1 : decide (0 < k) = false := decide_eq_false (by omega)
        generalize L.getD k (0, ByteArray.empty) = pk at *
        obtain ⟨kk, tk'⟩ := pk
        dsimp only at x0 x1 HBA hne
        have he : tk'.toList.isEmpty = false := not_empty _ (by rw [← data_len]; exact List.length_pos_iff.2 hne)
        clear hcell hbA hget hne hk0 hbw
        go_wp2
        go_quiet (fail)
        go_wp2
        go_roundw
        case rel => exact ⟨k + 1, by omega, by go_num, below_drewN (unhide HBA) _⟩
        case measure => simp [intOf]; omega
      · have hg0 : (0 : Int) < (k : Int) := by omega
        have hg2 : decide ((0 : Int) < (k : Int)) = true := decide_eq_true hg0
        have hg1 : (0 : Nat) < k := by omega
        obtain ⟨j, hj⟩ : ∃ j, k = j + 1 := ⟨k - 1, by omega⟩
        obtain ⟨z0, _⟩ := hcell j (by omega)
        have z0' := cell_later hbA z0
        have hgetj : L[j]? = some (L.getD j (0, ByteArray.empty)) := by rw [List.getD, List.getElem?_eq_getElem (by omega)]; rfl
        have hdiff := (unhide HSEP).2 j _ _ hgetj (by rw [← hj]; exact hget)
        have hkj : (k : Int) - 1 = (j : Int) := by omega
        have hwr : IntKind.i64.wrap (j : Int) = (j : Int) := by rw [IntKind.wrap_i64]; omega
        have hj1 : (j : Int) < (L.length : Int) := by omega
        have hj0 : (0 : Int) ≤ (j : Int) := by omega
        have HJ := hide hj
        generalize L.getD k (0, ByteArray.empty) = pk at *
        generalize L.getD j (0, ByteArray.empty) = pj at *
        obtain ⟨kk, tk'⟩ := pk
        obtain ⟨kj, tj⟩ := pj
        dsimp only at x0 x1 HBA hne z0 z0' hdiff
        have he : tk'.toList.isEmpty = false := not_empty _ (by rw [← data_len]; exact List.length_pos_iff.2 hne)
        have hdd : (kj == kk) = false := beq_eq_false_iff_ne.2 hdiff
        clear hcell hbA hget hne hk0 hbw hgetj hdiff hj z0
        go_wp2
        go_quiet (fail)
        go_wp2
        go_roundw
        case rel => exact ⟨k + 1, by omega, by go_num, below_drewN (unhide HBA) _⟩
        case measure => simp [intOf]; omega
    · have hke : k = L.length := by omega
      have hpi : ¬ (k : Int) < (L.length : Int) := by omega
      have haa : (a.toList == a.toList) = true := beq_self_eq_true _
      have hbb : (b.toList == b.toList) = true := beq_self_eq_true _
      have HPR := hide ((unhide HP1).below hbw)
      clear hke hbw
      go_wp2_with fail
      refine Calls.mono (unhide C2 _) ?_
      rintro e w2 ⟨v2, rfl, hv2, hb2⟩
      obtain ⟨q2, c2, hq2, hc2, hp2⟩ := hv2.read
      subst hq2
      have HB2 := hide (tr2 (unhide HBW) hb2)
      have HPS := hide ((unhide HPR).below hb2)
      rw [hka]
      clear hv2 hb2 hp2 hc2
      go_wp2_with fail
      refine Calls.mono (unhide CS _) ?_
      rintro e w6 ⟨v6, rfl, hv6, hb6⟩
      obtain ⟨q6, c6, hq6, _⟩ := owns_cap hv6
      subst hq6
      have HB2 := hide (tr2 (unhide HB2) hb6)
      have HPS := hide ((unhide HPS).below hb6)
      clear hv6 hb6
      go_wp2_with fail
      refine Calls.mono (unhide CO q1 c1 _ (unhide HPS)) ?_
      rintro e w3 ⟨rfl, hb3⟩
      have HB3 := hide (tr2 (unhide HB2) hb3)
      have HPT := hide ((unhide HPS).below hb3)
      clear hb3
      go_wp2_with fail
      refine Calls.mono (unhide CN q1 c1 _ (unhide HPT)) ?_
      rintro e w4 ⟨rfl, hb4⟩
      have HB4 := hide (tr2 (unhide HB3) hb4)
      clear hb4
      go_wp2_with fail
      refine Calls.mono (unhide CA _) ?_
      rintro e w5 ⟨rfl, hb5⟩
      have HB5 := hide (tr2 (unhide HB4) hb5)
      clear hb5
      go_wp2
      go_ret
      exact ⟨rfl, tr2 (unhide HB1) (unhide HB5)⟩
theorem wordsBack_walk (a b : ByteArray) (w : World) :
    Calls Try.prog 6 #[.string a, .string b] w fun e w' => e = .returned (.bool true) ∧ Below w.heap.size w w' := by
  by_cases h : 1000 < a.size ∨ 1000 < b.size
  · exact wordsBack_great a b w h
  · by_cases h0 : a.data.toList = []
    · exact back_empty a b w (by omega) (by omega) h0
    · cases hla : longB a.data.toList with
      | false => exact back_short a b w (by omega) (by omega) hla h0
      | true => exact back_long a b w (by omega) (by omega) hla
end Go.Proofs.Ytfbgpodcdgmpjaa
