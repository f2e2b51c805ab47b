/-
  The law WordsSplit.
-/
import Derived.Test.YtfbgpodcdgmpjaaXAb
namespace Go.Proofs.Ytfbgpodcdgmpjaa
open Go.RowKit
set_option linter.unusedVariables false
set_option linter.unusedSimpArgs false

theorem take_flat (gs : List (List UInt8)) (k : Nat) (h : k < gs.length) : (gs.take (k + 1)).flatten = (gs.take k).flatten ++ gs.getD k [] := by
  rw [List.take_add_one, List.getElem?_eq_getElem h, List.flatten_append, List.getD, List.getElem?_eq_getElem h]
  simp
theorem take_flat_le (gs : List (List UInt8)) (k : Nat) : (gs.take k).flatten.length ≤ gs.flatten.length := by
  have : gs.flatten = (gs.take k).flatten ++ (gs.drop k).flatten := by rw [← List.flatten_append, List.take_append_drop]
  rw [this, List.length_append]; omega
theorem bsL_get (gs : List (List UInt8)) (k : Nat) (h : k < gs.length) : tx (bsL gs) k = bs (gs.getD k []) := by
  unfold tx bsL
  simp [List.getD, List.getElem?_map, List.getElem?_eq_getElem h]
set_option maxHeartbeats 4000000 in
set_option maxRecDepth 100000 in
theorem wordsSplit_walk (s : ByteArray) (w : World) (hs : s.size ≤ 9223372036854775807) :
    Calls Try.prog 7 #[.string s] w fun e w' => e = .returned (.bool true) ∧ Below w.heap.size w w' := by
  have CA := hide abc_any
  by_cases hlong : 1000 < s.size
  · have hli : (1000 : Int) < (s.size : Int) := by omega
    go_enter Try.func7, Try.ntmps7
    go_wp2_with fail
    refine Calls.mono (unhide CA _) ?_
    rintro e w1 ⟨rfl, hb⟩
    go_wp2
    go_ret
    exact ⟨rfl, hb⟩
  · have hli : ¬ (1000 : Int) < (s.size : Int) := by omega
    have CS := hide (split_any s w (by omega))
    have CX := hide (fun (x : ByteArray) (hx : x.size ≤ 100000) (W : World) => split_any x W hx)
    unfold SplitSaid at CS CX
    obtain ⟨gs, hgs⟩ : ∃ gs, grp s.data.toList = gs := ⟨_, rfl⟩
    have hflat : gs.flatten = s.data.toList := by rw [← hgs]; exact grp_flatten _
    have hok : WordsOk gs := by rw [← hgs]; exact grp_ok _
    have hlen : gs.length ≤ 1000 := by rw [← hgs]; have := grp_len s.data.toList; rw [data_len] at this; omega
    have hfl : gs.flatten.length ≤ 1000 := by rw [hflat, data_len]; omega
    rw [hgs] at CS
    have HF := hide hflat
    have HOK := hide hok
    have HFL := hide hfl
    clear hgs hflat hok hfl hlong
    go_enter Try.func7, Try.ntmps7
    go_wp2_with fail
    refine Calls.mono (unhide CS) ?_
    rintro e w1 ⟨v, rfl, hv, hb1⟩
    obtain ⟨q, c, hq, hc⟩ := owns_cap hv
    subst hq
    have HV := hide (view_of_owns hv)
    have HB1 := hide hb1
    have hbl : (bsL gs).length = gs.length := bsL_len gs
    rw [hbl] at HV ⊢
    clear CS hv hb1 hbl hc
    go_wp2
    go_loopw [15, 3] (fun i t wr => ∃ k : Nat, k ≤ gs.length ∧ i = .int .i64 (k : Int) ∧ t = .string (bs (gs.take k).flatten) ∧ Below w1.heap.size w1 wr) (fun i _ _ => gs.length - (intOf i).toNat)
    case atStart => exact ⟨0, Nat.zero_le _, rfl, rfl, Below.refl _ _⟩
    case round =>
      obtain ⟨k, hk, rfl, rfl, hbw⟩ := hrel
      have HBW := hide hbw
      have hsz1 := take_flat_le gs k
      have hfl := unhide HFL
      have hsz : (bs (gs.take k).flatten).size = (gs.take k).flatten.length := bs_size _
      by_cases hp : k < gs.length
      · have hpi : (k : Int) < (gs.length : Int) := by omega
        obtain ⟨g, o, rfl, cS⟩ := view_atR (unhide HV) hbw k (by rw [bsL_len]; exact hp)
        rw [bsL_get gs k hp] at cS
        have hT := take_flat gs k hp
        have hsz2 := take_flat_le gs (k + 1)
        rw [hT, List.length_append] at hsz2
        have hmem : gs.getD k [] ∈ gs := by rw [List.getD, List.getElem?_eq_getElem hp]; exact List.getElem_mem hp
        obtain ⟨hne, hone⟩ := wordsOk_mem (unhide HOK) _ hmem
        have CW := hide (unhide CX (bs (gs.getD k [])) (by rw [bs_size]; omega))
        rw [bs_toList, hone] at CW
        have hw1 : (bsL [gs.getD k []]).length = 1 := rfl
        rw [hw1] at CW
        have he : (bs (gs.getD k [])).toList.isEmpty = false := not_empty _ (by rw [bs_size]; exact List.length_pos_iff.2 hne)
        have hws : (bs (gs.getD k [])).size = (gs.getD k []).length := bs_size _
        have hcat : ¬ 9223372036854775807 < (bs (gs.take k).flatten).size + (bs (gs.getD k [])).size := by rw [hsz, hws]; omega
        have HR : Hid (bs (gs.take k).flatten ++ bs (gs.getD k []) = bs (gs.take (k + 1)).flatten) := hide (by rw [hT, bs_bs])
        by_cases hk0 : k = 0
        · have hg0 : decide ((0 : Int) < (k : Int)) = false := decide_eq_false (by omega)
          have hg1 : decide (0 < k) = false := decide_eq_false (by omega)
          generalize gs.getD k [] = gk at *
          generalize bs gk = wk at *
          generalize (gs.take k).flatten = ak at *
          generalize bs ak = bk at *
          clear hT hsz2 hmem hne hone hk0 hsz1 hfl hsz hws hbw
          go_wp2_with fail
          refine Calls.mono (unhide CW _) ?_
          rintro e w2 ⟨v2, rfl, hv2, hb2⟩
          obtain ⟨q2, c2, hq2, _⟩ := owns_cap hv2
          subst hq2
          have HB2 := hide (tr2 (unhide HBW) hb2)
          clear hv2 hb2
          go_wp2
          go_roundw
          case rel => exact ⟨k + 1, by omega, by go_num, by rw [unhide HR], unhide HB2⟩
          case measure => simp [intOf]; omega
        · have hg0 : (0 : Int) < (k : Int) := by omega
          have hg1 : (0 : Nat) < k := by omega
          obtain ⟨j, hj⟩ : ∃ j, k = j + 1 := ⟨k - 1, by omega⟩
          obtain ⟨g', o', hq', cP⟩ := view_atR (unhide HV) hbw j (by rw [bsL_len]; omega)
          injection hq' with hq'
          injection hq' with hq1 hq2 _
          subst hq1 hq2
          rw [bsL_get gs j (by omega)] at cP
          have htwo := wordsOk_two (unhide HOK) j (by omega)
          have hmem2 : gs.getD j [] ∈ gs := by rw [List.getD, List.getElem?_eq_getElem (by omega)]; exact List.getElem_mem _
          have hmf := mem_flatten_le gs _ hmem2
          have hmk := mem_flatten_le gs _ hmem
          have CW2 := hide (unhide CX (bs (gs.getD j []) ++ bs (gs.getD k [])) (by rw [bs_bs, bs_size, List.length_append]; omega))
          rw [bs_bs, bs_toList] at CW2
          rw [← hj] at htwo
          rw [htwo] at CW2
          have hw2 : (bsL [gs.getD j [], gs.getD k []]).length = 2 := rfl
          rw [hw2, ← bs_bs] at CW2
          have hcat2 : ¬ 9223372036854775807 < (bs (gs.getD j [])).size + (bs (gs.getD k [])).size := by rw [bs_size, bs_size]; omega
          have hkj : (k : Int) - 1 = (j : Int) := by omega
          have hwr : IntKind.i64.wrap (j : Int) = (j : Int) := by rw [IntKind.wrap_i64]; omega
          have hj1 : (j : Int) < (gs.length : Int) := by omega
          have hj0 : (0 : Int) ≤ (j : Int) := by omega
          have HJ := hide hj
          generalize gs.getD k [] = gk at *
          generalize gs.getD j [] = gj at *
          generalize bs gk = wk at *
          generalize bs gj = wj at *
          generalize (gs.take k).flatten = ak at *
          generalize bs ak = bk at *
          clear hT hsz2 hmem hne hone hk0 hsz1 hfl hsz hws hbw htwo hmem2 hmf hmk hj
          go_wp2_with fail
          refine Calls.mono (unhide CW2 _) ?_
          rintro e w2 ⟨v2, rfl, hv2, hb2⟩
          obtain ⟨q2, c2, hq2, _⟩ := owns_cap hv2
          subst hq2
          have HB2 := hide (tr2 (unhide HBW) hb2)
          clear hv2 hb2
          go_wp2_with fail
          refine Calls.mono (unhide CW _) ?_
          rintro e w3 ⟨v3, rfl, hv3, hb3⟩
          obtain ⟨q3, c3, hq3, _⟩ := owns_cap hv3
          subst hq3
          have HB3 := hide (tr2 (unhide HB2) hb3)
          clear hv3 hb3
          go_wp2
          go_roundw
          case rel => exact ⟨k + 1, by omega, by go_num, by rw [unhide HR], unhide HB3⟩
          case measure => simp [intOf]; omega
      · have hke : k = gs.length := by omega
        have hpi : ¬ (k : Int) < (gs.length : Int) := by omega
        have hall : bs (gs.take k).flatten = s := by rw [hke, List.take_length, unhide HF, bs_self]
        rw [hall]
        have hss : (s.toList == s.toList) = true := beq_self_eq_true _
        clear hsz1 hfl hsz hall hke hbw
        go_wp2_with fail
        refine Calls.mono (unhide CA _) ?_
        rintro e w2 ⟨rfl, hb2⟩
        have HB2 := hide (tr2 (unhide HBW) hb2)
        clear hb2
        go_wp2
        go_ret
        exact ⟨rfl, tr2 (unhide HB1) (unhide HB2)⟩
end Go.Proofs.Ytfbgpodcdgmpjaa
