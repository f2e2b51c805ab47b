/-
  The law UrlsHidden walked (made by mk_lvh.py).
-/
import Derived.Test.YtcpebhecjlcioaaVSf
import Derived.Test.YtcpebhecjlcioaaVBk
import Derived.Deep.RegionHeld
namespace Go.Proofs.Ytcpebhecjlcioaa
open Go.RowKit
set_option linter.unusedVariables false
set_option linter.unusedSimpArgs false

def tnS : ByteArray := ⟨#[9, 13, 10]⟩
theorem sp_of {l : List UInt8} (h : ∀ j, j < l.length → dgt l j ≤ 32) : ∀ a ∈ l, spB a = true := by
  intro a ha
  obtain ⟨j, hj, e⟩ := List.getElem_of_mem ha
  have := h j hj
  unfold dgt at this
  rw [List.getD, List.getElem?_eq_getElem hj] at this
  simp only [spB, decide_eq_true_eq, ← e]
  exact this
theorem hid_at (s a b : ByteArray) (k : Nat) (ha : ∀ j, j < a.size → dgt a.data.toList j ≤ 32) (hb : ∀ j, j < b.size → dgt b.data.toList j ≤ 32) (SA SB : ByteArray) (h1 : s.extract 0 k = SA) (h2 : s.extract k s.size = SB) :
    plL ((((a ++ SA) ++ tnS) ++ SB) ++ b).data.toList = plL s.data.toList := by
  rw [ba_add, ba_add, ba_add, ba_add, ← h1, ← h2, Lib.Pa.extract_upto_list, Lib.extract_to_end, List.append_assoc, List.append_assoc, List.append_assoc]
  exact hidden_is s.data.toList a.data.toList b.data.toList k (sp_of (by rw [data_len]; exact ha)) (sp_of (by rw [data_len]; exact hb))

theorem hid_0 (s a b : ByteArray) (ha : ∀ j, j < a.size → dgt a.data.toList j ≤ 32) (hb : ∀ j, j < b.size → dgt b.data.toList j ≤ 32) :
    plL (((a ++ tnS) ++ s) ++ b).data.toList = plL s.data.toList := by
  rw [ba_add, ba_add, ba_add, List.append_assoc, List.append_assoc]
  exact hidden_is s.data.toList a.data.toList b.data.toList 0 (sp_of (by rw [data_len]; exact ha)) (sp_of (by rw [data_len]; exact hb))

set_option maxHeartbeats 4000000 in
set_option maxRecDepth 100000 in
theorem urlsHidden_walk (s a b : ByteArray) (at' : Int) (w : World) (hs : s.size ≤ 9223372036854775807) (hsa : a.size ≤ 9223372036854775807) (hsb : b.size ≤ 9223372036854775807) :
    Calls Try.prog 7 #[.string s, .int .i64 at', .agg #[.string a, .string b]] w fun e w' => e = .returned (.bool true) ∧ Below w.heap.size w w' := by
  have CJ := hide java_any
  have al := (Below.refl w.heap.size w).alloc (Nat.le_refl _) (Obj.cells #[.string a, .string b] 38)
  by_cases h0 : 1000 < s.size
  · have i0 : (1000 : Int) < (s.size : Int) := by omega
    go_enter Try.func7, Try.ntmps7
    go_wp2_with fail
    refine (unhide CJ _).mono ?_
    rintro e w2 ⟨rfl, hb2⟩
    go_wp2
    go_ret
    exact ⟨rfl, bel_of hb2⟩
  have i0 : ¬ (1000 : Int) < (s.size : Int) := by omega
  by_cases h1 : 100 < a.size
  · have i1 : (100 : Int) < (a.size : Int) := by omega
    go_enter Try.func7, Try.ntmps7
    go_wp2_with fail
    refine (unhide CJ _).mono ?_
    rintro e w2 ⟨rfl, hb2⟩
    go_wp2
    go_ret
    exact ⟨rfl, bel_of hb2⟩
  have i1 : ¬ (100 : Int) < (a.size : Int) := by omega
  by_cases h2 : 100 < b.size
  · have i2 : (100 : Int) < (b.size : Int) := by omega
    go_enter Try.func7, Try.ntmps7
    go_wp2_with fail
    refine (unhide CJ _).mono ?_
    rintro e w2 ⟨rfl, hb2⟩
    go_wp2
    go_ret
    exact ⟨rfl, bel_of hb2⟩
  have i2 : ¬ (100 : Int) < (b.size : Int) := by omega
  have HBa := hide al
  clear al
  go_enter Try.func7, Try.ntmps7
  go_wp2
  generalize (w.alloc (Obj.cells #[.string a, .string b] 38)) = w1 at *
  go_loopw [9] (fun i wr => ∃ k : Nat, k ≤ a.size ∧ i = .int .i64 k ∧ (∀ j, j < k → dgt a.data.toList j ≤ 32) ∧ wr = w1) (fun i _ => a.size - (intOf i).toNat)
  case atStart => exact ⟨0, Nat.zero_le _, rfl, fun j hj => absurd hj (Nat.not_lt_zero _), rfl⟩
  case round =>
    obtain ⟨k, hk, rfl, hr, hw⟩ := hrel
    have hw' := hw.symm
    subst hw'
    have HRa := hide hr
    clear hr hw
    by_cases hp : k < a.size
    · have hpi : (k : Int) < (a.size : Int) := by omega
      have e := dgt_at a k hp
      by_cases h32 : dgt a.data.toList k ≤ 32
      · have hi : ¬ (32 : Int) < ((dgt a.data.toList k : Nat) : Int) := by omega
        have HR2 : Hid (∀ j, j < k + 1 → dgt a.data.toList j ≤ 32) := hide (fun j hj => by
          by_cases ej : j = k
          · rw [ej]; exact h32
          · exact unhide HRa j (by omega))
        clear h32
        generalize dgt a.data.toList k = d at *
        go_wp2
        go_roundw
        case rel => exact ⟨k + 1, by omega, by go_num, unhide HR2, by first | rfl | trivial⟩
        case measure => simp [intOf]; omega
      · have hi : (32 : Int) < ((dgt a.data.toList k : Nat) : Int) := by omega
        clear h32
        generalize dgt a.data.toList k = d at *
        go_wp2_with fail
        refine (unhide CJ _).mono ?_
        rintro e w2 ⟨rfl, hb2⟩
        go_wp2
        go_ret
        exact ⟨rfl, tr2 (unhide HBa) hb2⟩
    · have hkn : k = a.size := by omega
      subst hkn
      go_wp2
      go_loopw [10] (fun i wr => ∃ k : Nat, k ≤ b.size ∧ i = .int .i64 k ∧ (∀ j, j < k → dgt b.data.toList j ≤ 32) ∧ wr = w1) (fun i _ => b.size - (intOf i).toNat)
      case atStart => exact ⟨0, Nat.zero_le _, rfl, fun j hj => absurd hj (Nat.not_lt_zero _), rfl⟩
      case round =>
        obtain ⟨k, hk, rfl, hr, hw⟩ := hrel
        have hw' := hw.symm
        subst hw'
        have HRb := hide hr
        clear hr hw
        by_cases hp : k < b.size
        · have hpi : (k : Int) < (b.size : Int) := by omega
          have e := dgt_at b k hp
          by_cases h32 : dgt b.data.toList k ≤ 32
          · have hi : ¬ (32 : Int) < ((dgt b.data.toList k : Nat) : Int) := by omega
            have HR2 : Hid (∀ j, j < k + 1 → dgt b.data.toList j ≤ 32) := hide (fun j hj => by
              by_cases ej : j = k
              · rw [ej]; exact h32
              · exact unhide HRb j (by omega))
            clear h32
            generalize dgt b.data.toList k = d at *
            go_wp2
            go_roundw
            case rel => exact ⟨k + 1, by omega, by go_num, unhide HR2, by first | rfl | trivial⟩
            case measure => simp [intOf]; omega
          · have hi : (32 : Int) < ((dgt b.data.toList k : Nat) : Int) := by omega
            clear h32
            generalize dgt b.data.toList k = d at *
            go_wp2_with fail
            refine (unhide CJ _).mono ?_
            rintro e w2 ⟨rfl, hb2⟩
            go_wp2
            go_ret
            exact ⟨rfl, tr2 (unhide HBa) hb2⟩
        · have hkn : k = b.size := by omega
          subst hkn
          by_cases hA : 0 < at'
          · by_cases hB : at' ≤ (s.size : Int)
            · obtain ⟨m, rfl⟩ : ∃ m : Nat, at' = (m : Int) := ⟨at'.toNat, by omega⟩
              have g1 : (m : Int) ≤ (s.size : Int) := hB
              have g0 : (0 : Int) ≤ (m : Int) := by omega
              have g2 : m ≤ s.size := by omega
              have hh := hid_at s a b m (unhide HRa) (unhide HRb)
              have hez : (s.extract 0 m).size ≤ s.size := by simp <;> omega
              have hez2 : (s.extract m s.size).size ≤ s.size := by simp <;> omega
              obtain ⟨SA, eSA⟩ : ∃ SA, s.extract 0 m = SA := ⟨_, rfl⟩
              obtain ⟨SB, eSB⟩ : ∃ SB, s.extract m s.size = SB := ⟨_, rfl⟩
              have hq := hh SA SB eSA eSB
              rw [eSA] at hez
              rw [eSB] at hez2
              have hS := hide (fun w => plain_any s w (by omega))
              have hsz : ((((a ++ SA) ++ tnS) ++ SB) ++ b).size ≤ 100000 := by
                have h3 : tnS.size = 3 := rfl
                rw [sz_add, sz_add, sz_add, sz_add, h3]; omega
              have hZ := hide (fun w => plain_any ((((a ++ SA) ++ tnS) ++ SB) ++ b) w hsz)
              clear hsz
              rw [hq] at hZ
              generalize bs (plL s.data.toList) = P at *
              have eP := beq_yes (rfl : P = P)
              unfold tnS at hZ
              have v1 : ¬ 9223372036854775807 < a.size + SA.size := by omega
              have v2 : ¬ 9223372036854775807 < a.size + SA.size + 3 := by omega
              have v3 : ¬ 9223372036854775807 < a.size + SA.size + 3 + SB.size := by omega
              have v4 : ¬ 9223372036854775807 < a.size + SA.size + 3 + SB.size + b.size := by omega
              clear hh hq h0 h1 h2
              go_wp2_with fail
              refine (unhide hS _).mono ?_
              rintro e w2 ⟨rfl, hb2⟩
              have HB2 := hide (tr3 (unhide HBa) hb2 (below_draws w2 1))
              clear hb2
              go_wp2_with fail
              have hSa : (fun _ : World => True) w2.drew := trivial
              refine wp_region_held (S := (fun _ : World => True)) (by kernel_rfl) ?_
              change wpAnyH _ _ _ _ _ _ _ _ (World.drew _)
              refine wpAnyH_take (i := 0) (oi := { dst := some 65, op := _, type := _, pos := _, after := _, guard := _ }) (v := ?va0_1) rfl (by kernel_rfl) (by kernel_rfl) (by kernel_rfl) (fun _ _ _ h => h) (Or.inl ⟨by kernel_rfl, ?ha0_1⟩) hSa ?ra0_1
              case ha0_1 => first | (intro w hSw; obtain _hx := hSw; go_simp; done) | (intro w hSw; obtain _hx := hSw; go_simp; with_reducible rfl)
              try simp only [Act.put, List.setIfInBounds_toArray, List.set_cons_zero, List.set_cons_succ]
              refine wpAnyH_take (i := 1) (oi := { dst := some 66, op := _, type := _, pos := _, after := _, guard := _ }) (v := ?va1_2) rfl (by kernel_rfl) (by kernel_rfl) (by kernel_rfl) (fun _ _ _ h => h) (Or.inl ⟨by kernel_rfl, ?ha1_2⟩) hSa ?ra1_2
              case ha1_2 => first | (intro w hSw; obtain _hx := hSw; go_simp; done) | (intro w hSw; obtain _hx := hSw; go_simp; with_reducible rfl)
              try simp only [Act.put, List.setIfInBounds_toArray, List.set_cons_zero, List.set_cons_succ]
              refine wpAnyH_take (i := 2) (oi := { dst := some 67, op := _, type := _, pos := _, after := _, guard := _ }) (v := ?va2_3) rfl (by kernel_rfl) (by kernel_rfl) (by kernel_rfl) (fun _ _ _ h => h) (Or.inl ⟨by kernel_rfl, ?ha2_3⟩) hSa ?ra2_3
              case ha2_3 => first | (intro w hSw; obtain _hx := hSw; go_simp; done) | (intro w hSw; obtain _hx := hSw; go_simp; with_reducible rfl)
              try simp only [Act.put, List.setIfInBounds_toArray, List.set_cons_zero, List.set_cons_succ]
              refine wpAnyH_take (i := 3) (oi := { dst := some 68, op := _, type := _, pos := _, after := _, guard := _ }) (v := ?va3_4) rfl (by kernel_rfl) (by kernel_rfl) (by kernel_rfl) (fun _ _ _ h => h) (Or.inl ⟨by kernel_rfl, ?ha3_4⟩) hSa ?ra3_4
              case ha3_4 => first | (intro w hSw; obtain _hx := hSw; go_simp; done) | (intro w hSw; obtain _hx := hSw; go_simp; with_reducible rfl)
              try simp only [Act.put, List.setIfInBounds_toArray, List.set_cons_zero, List.set_cons_succ]
              refine wpAnyH_take (i := 4) (oi := { dst := some 69, op := _, type := _, pos := _, after := _, guard := _ }) (v := ?va4_5) rfl (by kernel_rfl) (by kernel_rfl) (by kernel_rfl) (fun _ _ _ h => h) (Or.inl ⟨by kernel_rfl, ?ha4_5⟩) hSa ?ra4_5
              case ha4_5 => first | (intro w hSw; obtain _hx := hSw; go_simp; done) | (intro w hSw; obtain _hx := hSw; go_simp; with_reducible rfl)
              try simp only [Act.put, List.setIfInBounds_toArray, List.set_cons_zero, List.set_cons_succ]
              refine wpAnyH_take (i := 5) (oi := { dst := some 70, op := _, type := _, pos := _, after := _, guard := _ }) (v := ?va5_6) rfl (by kernel_rfl) (by kernel_rfl) (by kernel_rfl) (fun _ _ _ h => h) (Or.inl ⟨by kernel_rfl, ?ha5_6⟩) hSa ?ra5_6
              case ha5_6 => first | (intro w hSw; obtain _hx := hSw; go_simp; done) | (intro w hSw; obtain _hx := hSw; go_simp; with_reducible rfl)
              try simp only [Act.put, List.setIfInBounds_toArray, List.set_cons_zero, List.set_cons_succ]
              refine wpAnyH_take (i := 6) (oi := { dst := some 71, op := _, type := _, pos := _, after := _, guard := _ }) (v := ?va6_7) rfl (by kernel_rfl) (by kernel_rfl) (by kernel_rfl) (fun _ _ _ h => h) (Or.inl ⟨by kernel_rfl, ?ha6_7⟩) hSa ?ra6_7
              case ha6_7 => first | (intro w hSw; obtain _hx := hSw; go_simp; done) | (intro w hSw; obtain _hx := hSw; go_simp; with_reducible rfl)
              try simp only [Act.put, List.setIfInBounds_toArray, List.set_cons_zero, List.set_cons_succ]
              refine wpAnyH_take (i := 7) (oi := { dst := some 72, op := _, type := _, pos := _, after := _, guard := _ }) (v := ?va7_8) rfl (by kernel_rfl) (by kernel_rfl) (by kernel_rfl) (fun _ _ _ h => h) (Or.inl ⟨by kernel_rfl, ?ha7_8⟩) hSa ?ra7_8
              case ha7_8 => first | (intro w hSw; obtain _hx := hSw; go_simp; done) | (intro w hSw; obtain _hx := hSw; go_simp; with_reducible rfl)
              try simp only [Act.put, List.setIfInBounds_toArray, List.set_cons_zero, List.set_cons_succ]
              refine wpAnyH_take (i := 8) (oi := { dst := some 73, op := _, type := _, pos := _, after := _, guard := _ }) (v := ?va8_9) rfl (by kernel_rfl) (by kernel_rfl) (by kernel_rfl) (fun _ _ _ h => h) (Or.inl ⟨by kernel_rfl, ?ha8_9⟩) hSa ?ra8_9
              case ha8_9 => first | (intro w hSw; obtain _hx := hSw; go_simp; done) | (intro w hSw; obtain _hx := hSw; go_simp; with_reducible rfl)
              try simp only [Act.put, List.setIfInBounds_toArray, List.set_cons_zero, List.set_cons_succ]
              refine wpAnyH_take (i := 9) (oi := { dst := some 74, op := _, type := _, pos := _, after := _, guard := _ }) (v := ?va9_10) rfl (by kernel_rfl) (by kernel_rfl) (by kernel_rfl) (fun _ _ _ h => h) (Or.inl ⟨by kernel_rfl, ?ha9_10⟩) hSa ?ra9_10
              case ha9_10 => first | (intro w hSw; obtain _hx := hSw; go_simp; done) | (intro w hSw; obtain _hx := hSw; go_simp; with_reducible rfl)
              try simp only [Act.put, List.setIfInBounds_toArray, List.set_cons_zero, List.set_cons_succ]
              refine wpAnyH_take (i := 10) (oi := { dst := some 75, op := _, type := _, pos := _, after := _, guard := _ }) (v := ?va10_11) rfl (by kernel_rfl) (by kernel_rfl) (by kernel_rfl) (fun _ _ _ h => h) (Or.inl ⟨by kernel_rfl, ?ha10_11⟩) hSa ?ra10_11
              case ha10_11 => first | (intro w hSw; obtain _hx := hSw; go_simp; done) | (intro w hSw; obtain _hx := hSw; go_simp; with_reducible rfl)
              try simp only [Act.put, List.setIfInBounds_toArray, List.set_cons_zero, List.set_cons_succ]
              refine wpAnyH_take (i := 11) (oi := { dst := some 76, op := _, type := _, pos := _, after := _, guard := _ }) (v := ?va11_12) rfl (by kernel_rfl) (by kernel_rfl) (by kernel_rfl) (fun _ _ _ h => h) (Or.inl ⟨by kernel_rfl, ?ha11_12⟩) hSa ?ra11_12
              case ha11_12 => first | (intro w hSw; obtain _hx := hSw; go_simp; done) | (intro w hSw; obtain _hx := hSw; go_simp; with_reducible rfl)
              try simp only [Act.put, List.setIfInBounds_toArray, List.set_cons_zero, List.set_cons_succ]
              refine wpAnyH_ready (rs := [12]) (by kernel_rfl) (by simp) ?_
              refine AllReadyH.cons rfl (fun K hK => ?_) AllReadyH.nil
              go_simp
              refine (unhide hZ _).mono ?_
              rintro e w3 ⟨rfl, hb⟩
              have HB3 := hide (tr2 (unhide HB2) hb)
              have hSa' : (fun _ : World => True) w3 := trivial
              clear hb
              refine hK _ _ hSa' (fun _ => ?_)
              clear hK K hSa
              have hSa := hSa'
              clear hSa'
              refine wpAnyH_take (i := 13) (oi := { dst := some 13, op := _, type := _, pos := _, after := _, guard := _ }) (v := ?va13_13) rfl (by kernel_rfl) (by kernel_rfl) (by kernel_rfl) (fun _ _ _ h => h) (Or.inl ⟨by kernel_rfl, ?ha13_13⟩) hSa ?ra13_13
              case ha13_13 => first | (intro w hSw; obtain _hx := hSw; go_simp; done) | (intro w hSw; obtain _hx := hSw; go_simp; with_reducible rfl)
              try simp only [Act.put, List.setIfInBounds_toArray, List.set_cons_zero, List.set_cons_succ]
              refine wpAnyH_done (by kernel_rfl) ?_ _
              clear hSa
              go_wp2_with fail
              refine (unhide CJ _).mono ?_
              rintro e w4 ⟨rfl, hb4⟩
              go_wp2
              go_ret
              exact ⟨rfl, tr2 (unhide HB3) hb4⟩
            · have g3 : decide (at' ≤ (s.size : Int)) = false := by simp; omega
              have hq := hid_0 s a b (unhide HRa) (unhide HRb)
              have hS := hide (fun w => plain_any s w (by omega))
              have hsz : (((a ++ tnS) ++ s) ++ b).size ≤ 100000 := by
                have h3 : tnS.size = 3 := rfl
                rw [sz_add, sz_add, sz_add, h3]; omega
              have hZ := hide (fun w => plain_any (((a ++ tnS) ++ s) ++ b) w hsz)
              clear hsz
              rw [hq] at hZ
              generalize bs (plL s.data.toList) = P at *
              have eP := beq_yes (rfl : P = P)
              unfold tnS at hZ
              have v1 : ¬ 9223372036854775807 < a.size := by omega
              have v2 : ¬ 9223372036854775807 < a.size + 3 := by omega
              have v3 : ¬ 9223372036854775807 < a.size + 3 + s.size := by omega
              have v4 : ¬ 9223372036854775807 < a.size + 3 + s.size + b.size := by omega
              clear hq h0 h1 h2
              go_wp2_with fail
              refine (unhide hS _).mono ?_
              rintro e w2 ⟨rfl, hb2⟩
              have HB2 := hide (tr3 (unhide HBa) hb2 (below_draws w2 1))
              clear hb2
              go_wp2_with fail
              have hSa : (fun _ : World => True) w2.drew := trivial
              refine wp_region_held (S := (fun _ : World => True)) (by kernel_rfl) ?_
              change wpAnyH _ _ _ _ _ _ _ _ (World.drew _)
              refine wpAnyH_take (i := 0) (oi := { dst := some 65, op := _, type := _, pos := _, after := _, guard := _ }) (v := ?va0_14) rfl (by kernel_rfl) (by kernel_rfl) (by kernel_rfl) (fun _ _ _ h => h) (Or.inl ⟨by kernel_rfl, ?ha0_14⟩) hSa ?ra0_14
              case ha0_14 => first | (intro w hSw; obtain _hx := hSw; go_simp; done) | (intro w hSw; obtain _hx := hSw; go_simp; with_reducible rfl)
              try simp only [Act.put, List.setIfInBounds_toArray, List.set_cons_zero, List.set_cons_succ]
              refine wpAnyH_take (i := 1) (oi := { dst := some 66, op := _, type := _, pos := _, after := _, guard := _ }) (v := ?va1_15) rfl (by kernel_rfl) (by kernel_rfl) (by kernel_rfl) (fun _ _ _ h => h) (Or.inl ⟨by kernel_rfl, ?ha1_15⟩) hSa ?ra1_15
              case ha1_15 => first | (intro w hSw; obtain _hx := hSw; go_simp; done) | (intro w hSw; obtain _hx := hSw; go_simp; with_reducible rfl)
              try simp only [Act.put, List.setIfInBounds_toArray, List.set_cons_zero, List.set_cons_succ]
              refine wpAnyH_take (i := 2) (oi := { dst := some 67, op := _, type := _, pos := _, after := _, guard := _ }) (v := ?va2_16) rfl (by kernel_rfl) (by kernel_rfl) (by kernel_rfl) (fun _ _ _ h => h) (Or.inl ⟨by kernel_rfl, ?ha2_16⟩) hSa ?ra2_16
              case ha2_16 => first | (intro w hSw; obtain _hx := hSw; go_simp; done) | (intro w hSw; obtain _hx := hSw; go_simp; with_reducible rfl)
              try simp only [Act.put, List.setIfInBounds_toArray, List.set_cons_zero, List.set_cons_succ]
              refine wpAnyH_take (i := 3) (oi := { dst := some 68, op := _, type := _, pos := _, after := _, guard := _ }) (v := ?va3_17) rfl (by kernel_rfl) (by kernel_rfl) (by kernel_rfl) (fun _ _ _ h => h) (Or.inl ⟨by kernel_rfl, ?ha3_17⟩) hSa ?ra3_17
              case ha3_17 => first | (intro w hSw; obtain _hx := hSw; go_simp; done) | (intro w hSw; obtain _hx := hSw; go_simp; with_reducible rfl)
              try simp only [Act.put, List.setIfInBounds_toArray, List.set_cons_zero, List.set_cons_succ]
              refine wpAnyH_take (i := 4) (oi := { dst := some 69, op := _, type := _, pos := _, after := _, guard := _ }) (v := ?va4_18) rfl (by kernel_rfl) (by kernel_rfl) (by kernel_rfl) (fun _ _ _ h => h) (Or.inl ⟨by kernel_rfl, ?ha4_18⟩) hSa ?ra4_18
              case ha4_18 => first | (intro w hSw; obtain _hx := hSw; go_simp; done) | (intro w hSw; obtain _hx := hSw; go_simp; with_reducible rfl)
              try simp only [Act.put, List.setIfInBounds_toArray, List.set_cons_zero, List.set_cons_succ]
              refine wpAnyH_take (i := 5) (oi := { dst := some 70, op := _, type := _, pos := _, after := _, guard := _ }) (v := ?va5_19) rfl (by kernel_rfl) (by kernel_rfl) (by kernel_rfl) (fun _ _ _ h => h) (Or.inl ⟨by kernel_rfl, ?ha5_19⟩) hSa ?ra5_19
              case ha5_19 => first | (intro w hSw; obtain _hx := hSw; go_simp; done) | (intro w hSw; obtain _hx := hSw; go_simp; with_reducible rfl)
              try simp only [Act.put, List.setIfInBounds_toArray, List.set_cons_zero, List.set_cons_succ]
              refine wpAnyH_take (i := 6) (oi := { dst := some 71, op := _, type := _, pos := _, after := _, guard := _ }) (v := ?va6_20) rfl (by kernel_rfl) (by kernel_rfl) (by kernel_rfl) (fun _ _ _ h => h) (Or.inl ⟨by kernel_rfl, ?ha6_20⟩) hSa ?ra6_20
              case ha6_20 => first | (intro w hSw; obtain _hx := hSw; go_simp; done) | (intro w hSw; obtain _hx := hSw; go_simp; with_reducible rfl)
              try simp only [Act.put, List.setIfInBounds_toArray, List.set_cons_zero, List.set_cons_succ]
              refine wpAnyH_take (i := 7) (oi := { dst := some 72, op := _, type := _, pos := _, after := _, guard := _ }) (v := ?va7_21) rfl (by kernel_rfl) (by kernel_rfl) (by kernel_rfl) (fun _ _ _ h => h) (Or.inl ⟨by kernel_rfl, ?ha7_21⟩) hSa ?ra7_21
              case ha7_21 => first | (intro w hSw; obtain _hx := hSw; go_simp; done) | (intro w hSw; obtain _hx := hSw; go_simp; with_reducible rfl)
              try simp only [Act.put, List.setIfInBounds_toArray, List.set_cons_zero, List.set_cons_succ]
              refine wpAnyH_take (i := 8) (oi := { dst := some 73, op := _, type := _, pos := _, after := _, guard := _ }) (v := ?va8_22) rfl (by kernel_rfl) (by kernel_rfl) (by kernel_rfl) (fun _ _ _ h => h) (Or.inl ⟨by kernel_rfl, ?ha8_22⟩) hSa ?ra8_22
              case ha8_22 => first | (intro w hSw; obtain _hx := hSw; go_simp; done) | (intro w hSw; obtain _hx := hSw; go_simp; with_reducible rfl)
              try simp only [Act.put, List.setIfInBounds_toArray, List.set_cons_zero, List.set_cons_succ]
              refine wpAnyH_take (i := 9) (oi := { dst := some 74, op := _, type := _, pos := _, after := _, guard := _ }) (v := ?va9_23) rfl (by kernel_rfl) (by kernel_rfl) (by kernel_rfl) (fun _ _ _ h => h) (Or.inl ⟨by kernel_rfl, ?ha9_23⟩) hSa ?ra9_23
              case ha9_23 => first | (intro w hSw; obtain _hx := hSw; go_simp; done) | (intro w hSw; obtain _hx := hSw; go_simp; with_reducible rfl)
              try simp only [Act.put, List.setIfInBounds_toArray, List.set_cons_zero, List.set_cons_succ]
              refine wpAnyH_take (i := 10) (oi := { dst := some 75, op := _, type := _, pos := _, after := _, guard := _ }) (v := ?va10_24) rfl (by kernel_rfl) (by kernel_rfl) (by kernel_rfl) (fun _ _ _ h => h) (Or.inl ⟨by kernel_rfl, ?ha10_24⟩) hSa ?ra10_24
              case ha10_24 => first | (intro w hSw; obtain _hx := hSw; go_simp; done) | (intro w hSw; obtain _hx := hSw; go_simp; with_reducible rfl)
              try simp only [Act.put, List.setIfInBounds_toArray, List.set_cons_zero, List.set_cons_succ]
              refine wpAnyH_take (i := 11) (oi := { dst := some 76, op := _, type := _, pos := _, after := _, guard := _ }) (v := ?va11_25) rfl (by kernel_rfl) (by kernel_rfl) (by kernel_rfl) (fun _ _ _ h => h) (Or.inl ⟨by kernel_rfl, ?ha11_25⟩) hSa ?ra11_25
              case ha11_25 => first | (intro w hSw; obtain _hx := hSw; go_simp; done) | (intro w hSw; obtain _hx := hSw; go_simp; with_reducible rfl)
              try simp only [Act.put, List.setIfInBounds_toArray, List.set_cons_zero, List.set_cons_succ]
              refine wpAnyH_ready (rs := [12]) (by kernel_rfl) (by simp) ?_
              refine AllReadyH.cons rfl (fun K hK => ?_) AllReadyH.nil
              go_simp
              refine (unhide hZ _).mono ?_
              rintro e w3 ⟨rfl, hb⟩
              have HB3 := hide (tr2 (unhide HB2) hb)
              have hSa' : (fun _ : World => True) w3 := trivial
              clear hb
              refine hK _ _ hSa' (fun _ => ?_)
              clear hK K hSa
              have hSa := hSa'
              clear hSa'
              refine wpAnyH_take (i := 13) (oi := { dst := some 13, op := _, type := _, pos := _, after := _, guard := _ }) (v := ?va13_26) rfl (by kernel_rfl) (by kernel_rfl) (by kernel_rfl) (fun _ _ _ h => h) (Or.inl ⟨by kernel_rfl, ?ha13_26⟩) hSa ?ra13_26
              case ha13_26 => first | (intro w hSw; obtain _hx := hSw; go_simp; done) | (intro w hSw; obtain _hx := hSw; go_simp; with_reducible rfl)
              try simp only [Act.put, List.setIfInBounds_toArray, List.set_cons_zero, List.set_cons_succ]
              refine wpAnyH_done (by kernel_rfl) ?_ _
              clear hSa
              go_wp2_with fail
              refine (unhide CJ _).mono ?_
              rintro e w4 ⟨rfl, hb4⟩
              go_wp2
              go_ret
              exact ⟨rfl, tr2 (unhide HB3) hb4⟩
          · have g3 : decide (0 < at') = false := by simp; omega
            have hq := hid_0 s a b (unhide HRa) (unhide HRb)
            have hS := hide (fun w => plain_any s w (by omega))
            have hsz : (((a ++ tnS) ++ s) ++ b).size ≤ 100000 := by
              have h3 : tnS.size = 3 := rfl
              rw [sz_add, sz_add, sz_add, h3]; omega
            have hZ := hide (fun w => plain_any (((a ++ tnS) ++ s) ++ b) w hsz)
            clear hsz
            rw [hq] at hZ
            generalize bs (plL s.data.toList) = P at *
            have eP := beq_yes (rfl : P = P)
            unfold tnS at hZ
            have v1 : ¬ 9223372036854775807 < a.size := by omega
            have v2 : ¬ 9223372036854775807 < a.size + 3 := by omega
            have v3 : ¬ 9223372036854775807 < a.size + 3 + s.size := by omega
            have v4 : ¬ 9223372036854775807 < a.size + 3 + s.size + b.size := by omega
            clear hq h0 h1 h2
            go_wp2_with fail
            refine (unhide hS _).mono ?_
            rintro e w2 ⟨rfl, hb2⟩
            have HB2 := hide (tr3 (unhide HBa) hb2 (below_draws w2 1))
            clear hb2
            go_wp2_with fail
            have hSa : (fun _ : World => True) w2.drew := trivial
            refine wp_region_held (S := (fun _ : World => True)) (by kernel_rfl) ?_
            change wpAnyH _ _ _ _ _ _ _ _ (World.drew _)
            refine wpAnyH_take (i := 0) (oi := { dst := some 65, op := _, type := _, pos := _, after := _, guard := _ }) (v := ?va0_27) rfl (by kernel_rfl) (by kernel_rfl) (by kernel_rfl) (fun _ _ _ h => h) (Or.inl ⟨by kernel_rfl, ?ha0_27⟩) hSa ?ra0_27
            case ha0_27 => first | (intro w hSw; obtain _hx := hSw; go_simp; done) | (intro w hSw; obtain _hx := hSw; go_simp; with_reducible rfl)
            try simp only [Act.put, List.setIfInBounds_toArray, List.set_cons_zero, List.set_cons_succ]
            refine wpAnyH_take (i := 1) (oi := { dst := some 66, op := _, type := _, pos := _, after := _, guard := _ }) (v := ?va1_28) rfl (by kernel_rfl) (by kernel_rfl) (by kernel_rfl) (fun _ _ _ h => h) (Or.inl ⟨by kernel_rfl, ?ha1_28⟩) hSa ?ra1_28
            case ha1_28 => first | (intro w hSw; obtain _hx := hSw; go_simp; done) | (intro w hSw; obtain _hx := hSw; go_simp; with_reducible rfl)
            try simp only [Act.put, List.setIfInBounds_toArray, List.set_cons_zero, List.set_cons_succ]
            refine wpAnyH_take (i := 2) (oi := { dst := some 67, op := _, type := _, pos := _, after := _, guard := _ }) (v := ?va2_29) rfl (by kernel_rfl) (by kernel_rfl) (by kernel_rfl) (fun _ _ _ h => h) (Or.inl ⟨by kernel_rfl, ?ha2_29⟩) hSa ?ra2_29
            case ha2_29 => first | (intro w hSw; obtain _hx := hSw; go_simp; done) | (intro w hSw; obtain _hx := hSw; go_simp; with_reducible rfl)
            try simp only [Act.put, List.setIfInBounds_toArray, List.set_cons_zero, List.set_cons_succ]
            refine wpAnyH_take (i := 3) (oi := { dst := some 68, op := _, type := _, pos := _, after := _, guard := _ }) (v := ?va3_30) rfl (by kernel_rfl) (by kernel_rfl) (by kernel_rfl) (fun _ _ _ h => h) (Or.inl ⟨by kernel_rfl, ?ha3_30⟩) hSa ?ra3_30
            case ha3_30 => first | (intro w hSw; obtain _hx := hSw; go_simp; done) | (intro w hSw; obtain _hx := hSw; go_simp; with_reducible rfl)
            try simp only [Act.put, List.setIfInBounds_toArray, List.set_cons_zero, List.set_cons_succ]
            refine wpAnyH_take (i := 4) (oi := { dst := some 69, op := _, type := _, pos := _, after := _, guard := _ }) (v := ?va4_31) rfl (by kernel_rfl) (by kernel_rfl) (by kernel_rfl) (fun _ _ _ h => h) (Or.inl ⟨by kernel_rfl, ?ha4_31⟩) hSa ?ra4_31
            case ha4_31 => first | (intro w hSw; obtain _hx := hSw; go_simp; done) | (intro w hSw; obtain _hx := hSw; go_simp; with_reducible rfl)
            try simp only [Act.put, List.setIfInBounds_toArray, List.set_cons_zero, List.set_cons_succ]
            refine wpAnyH_take (i := 5) (oi := { dst := some 70, op := _, type := _, pos := _, after := _, guard := _ }) (v := ?va5_32) rfl (by kernel_rfl) (by kernel_rfl) (by kernel_rfl) (fun _ _ _ h => h) (Or.inl ⟨by kernel_rfl, ?ha5_32⟩) hSa ?ra5_32
            case ha5_32 => first | (intro w hSw; obtain _hx := hSw; go_simp; done) | (intro w hSw; obtain _hx := hSw; go_simp; with_reducible rfl)
            try simp only [Act.put, List.setIfInBounds_toArray, List.set_cons_zero, List.set_cons_succ]
            refine wpAnyH_take (i := 6) (oi := { dst := some 71, op := _, type := _, pos := _, after := _, guard := _ }) (v := ?va6_33) rfl (by kernel_rfl) (by kernel_rfl) (by kernel_rfl) (fun _ _ _ h => h) (Or.inl ⟨by kernel_rfl, ?ha6_33⟩) hSa ?ra6_33
            case ha6_33 => first | (intro w hSw; obtain _hx := hSw; go_simp; done) | (intro w hSw; obtain _hx := hSw; go_simp; with_reducible rfl)
            try simp only [Act.put, List.setIfInBounds_toArray, List.set_cons_zero, List.set_cons_succ]
            refine wpAnyH_take (i := 7) (oi := { dst := some 72, op := _, type := _, pos := _, after := _, guard := _ }) (v := ?va7_34) rfl (by kernel_rfl) (by kernel_rfl) (by kernel_rfl) (fun _ _ _ h => h) (Or.inl ⟨by kernel_rfl, ?ha7_34⟩) hSa ?ra7_34
            case ha7_34 => first | (intro w hSw; obtain _hx := hSw; go_simp; done) | (intro w hSw; obtain _hx := hSw; go_simp; with_reducible rfl)
            try simp only [Act.put, List.setIfInBounds_toArray, List.set_cons_zero, List.set_cons_succ]
            refine wpAnyH_take (i := 8) (oi := { dst := some 73, op := _, type := _, pos := _, after := _, guard := _ }) (v := ?va8_35) rfl (by kernel_rfl) (by kernel_rfl) (by kernel_rfl) (fun _ _ _ h => h) (Or.inl ⟨by kernel_rfl, ?ha8_35⟩) hSa ?ra8_35
            case ha8_35 => first | (intro w hSw; obtain _hx := hSw; go_simp; done) | (intro w hSw; obtain _hx := hSw; go_simp; with_reducible rfl)
            try simp only [Act.put, List.setIfInBounds_toArray, List.set_cons_zero, List.set_cons_succ]
            refine wpAnyH_take (i := 9) (oi := { dst := some 74, op := _, type := _, pos := _, after := _, guard := _ }) (v := ?va9_36) rfl (by kernel_rfl) (by kernel_rfl) (by kernel_rfl) (fun _ _ _ h => h) (Or.inl ⟨by kernel_rfl, ?ha9_36⟩) hSa ?ra9_36
            case ha9_36 => first | (intro w hSw; obtain _hx := hSw; go_simp; done) | (intro w hSw; obtain _hx := hSw; go_simp; with_reducible rfl)
            try simp only [Act.put, List.setIfInBounds_toArray, List.set_cons_zero, List.set_cons_succ]
            refine wpAnyH_take (i := 10) (oi := { dst := some 75, op := _, type := _, pos := _, after := _, guard := _ }) (v := ?va10_37) rfl (by kernel_rfl) (by kernel_rfl) (by kernel_rfl) (fun _ _ _ h => h) (Or.inl ⟨by kernel_rfl, ?ha10_37⟩) hSa ?ra10_37
            case ha10_37 => first | (intro w hSw; obtain _hx := hSw; go_simp; done) | (intro w hSw; obtain _hx := hSw; go_simp; with_reducible rfl)
            try simp only [Act.put, List.setIfInBounds_toArray, List.set_cons_zero, List.set_cons_succ]
            refine wpAnyH_take (i := 11) (oi := { dst := some 76, op := _, type := _, pos := _, after := _, guard := _ }) (v := ?va11_38) rfl (by kernel_rfl) (by kernel_rfl) (by kernel_rfl) (fun _ _ _ h => h) (Or.inl ⟨by kernel_rfl, ?ha11_38⟩) hSa ?ra11_38
            case ha11_38 => first | (intro w hSw; obtain _hx := hSw; go_simp; done) | (intro w hSw; obtain _hx := hSw; go_simp; with_reducible rfl)
            try simp only [Act.put, List.setIfInBounds_toArray, List.set_cons_zero, List.set_cons_succ]
            refine wpAnyH_ready (rs := [12]) (by kernel_rfl) (by simp) ?_
            refine AllReadyH.cons rfl (fun K hK => ?_) AllReadyH.nil
            go_simp
            refine (unhide hZ _).mono ?_
            rintro e w3 ⟨rfl, hb⟩
            have HB3 := hide (tr2 (unhide HB2) hb)
            have hSa' : (fun _ : World => True) w3 := trivial
            clear hb
            refine hK _ _ hSa' (fun _ => ?_)
            clear hK K hSa
            have hSa := hSa'
            clear hSa'
            refine wpAnyH_take (i := 13) (oi := { dst := some 13, op := _, type := _, pos := _, after := _, guard := _ }) (v := ?va13_39) rfl (by kernel_rfl) (by kernel_rfl) (by kernel_rfl) (fun _ _ _ h => h) (Or.inl ⟨by kernel_rfl, ?ha13_39⟩) hSa ?ra13_39
            case ha13_39 => first | (intro w hSw; obtain _hx := hSw; go_simp; done) | (intro w hSw; obtain _hx := hSw; go_simp; with_reducible rfl)
            try simp only [Act.put, List.setIfInBounds_toArray, List.set_cons_zero, List.set_cons_succ]
            refine wpAnyH_done (by kernel_rfl) ?_ _
            clear hSa
            go_wp2_with fail
            refine (unhide CJ _).mono ?_
            rintro e w4 ⟨rfl, hb4⟩
            go_wp2
            go_ret
            exact ⟨rfl, tr2 (unhide HB3) hb4⟩
end Go.Proofs.Ytcpebhecjlcioaa
