/-
  What 'pen.Name' and the reference's do: which texts are names.
-/
import Derived.Test.YtfdhmhdemfbfeaaPPl
import Derived.Laws.EntriesVeiled
namespace Go.Proofs.Ytfdhmhdemfbfeaa
open Go.RowKit
set_option linter.unusedVariables false

theorem nameB_short {l : List UInt8} (h : ¬ (0 < l.length ∧ l.length ≤ 24)) : nameB l = false := by
  unfold nameB; rw [decide_eq_false h]; rfl
theorem nameB_ok {l : List UInt8} (h : 0 < l.length ∧ l.length ≤ 24) : nameB l = (smN (dgt l 0) && allN okN l) := by
  unfold nameB; rw [decide_eq_true h]; rfl

set_option maxHeartbeats 2000000 in
theorem pname_any (s : ByteArray) (w : World) (hs : s.size ≤ 9223372036854775807) :
    Calls Try.prog 61 #[.string s] w fun e w' => e = .returned (.bool (nameB s.data.toList)) ∧ Below w.heap.size w w' := by
  by_cases h0 : s.size = 0
  · have he := is_empty s h0
    rw [nameB_short (by rw [data_len]; omega)]
    go_enter Try.func61, Try.ntmps61
    go_wp2
    go_ret
    exact ⟨rfl, Below.refl _ _⟩
  have he := not_empty s (by omega)
  by_cases h1 : 24 < s.size
  · have hi : (24 : Int) < (s.size : Int) := by omega
    rw [nameB_short (by rw [data_len]; omega)]
    go_enter Try.func61, Try.ntmps61
    go_wp2
    go_ret
    exact ⟨rfl, Below.refl _ _⟩
  have hi : ¬ (24 : Int) < (s.size : Int) := by omega
  have hp0 : 0 < s.size := by omega
  have hp0i : (0 : Int) < (s.size : Int) := by omega
  rw [nameB_ok (by rw [data_len]; omega)]
  have e0 := dgt_at s 0 hp0
  have CS := hide (small_any (dgt s.data.toList 0))
  have hcap : Cap w.heap.size (w.alloc (.cells #[.func (.func 79) #[] #[]] 77)) := World.cell?_alloc_at _ _ _ _ rfl
  have CE := hide (fun w' h => every_name s w.heap.size w' h hs)
  generalize dgt s.data.toList 0 = b at *
  generalize allN okN s.data.toList = ev at *
  have hmf : ∀ (fn : Fn) (first cap : Array Value) (w : World), (Instr.makeFunc fn first cap).run Try.prog w = .ok (.func fn first cap) w := fun _ _ _ _ => rfl
  have HC := hide hcap
  clear hcap h0 h1
  cases hb : smN b with
  | true =>
    rw [hb] at CS
    clear hb
    go_enter Try.func61, Try.ntmps61
    go_wp2
    go_quiet ((first | (go_at_call 79; exact Calls.quiet_of_same (unhide CS _)) | (go_at_call 80; exact Calls.quiet_of_same (unhide CE _ (unhide HC)))))
    go_wp2
    go_ret
    exact ⟨rfl, below_drewN ((Below.refl _ _).alloc (Nat.le_refl _) _) _⟩
  | false =>
    rw [hb] at CS
    clear hb
    go_enter Try.func61, Try.ntmps61
    go_wp2
    go_quiet ((go_at_call 79; exact Calls.quiet_of_same (unhide CS _)))
    go_wp2
    go_ret
    exact ⟨rfl, below_drewN ((Below.refl _ _).alloc (Nat.le_refl _) _) _⟩

set_option maxHeartbeats 2000000 in
theorem rname6_any (s : ByteArray) (w : World) (hs : s.size ≤ 9223372036854775807) :
    Calls Try.prog 48 #[.string s] w fun e w' => e = .returned (.bool (nameB s.data.toList)) ∧ w' = w := by
  go_enter Try.func48, Try.ntmps48
  go_wp2
  go_loopw [3] (fun i wr => ∃ k : Nat, k ≤ s.size ∧ i = .int .i64 k ∧ allN okN s.data.toList = allN okN (s.data.toList.drop k) ∧ (0 < k → smN (dgt s.data.toList 0) = true) ∧ wr = w) (fun i _ => s.size - (intOf i).toNat)
  case atStart => exact ⟨0, Nat.zero_le _, rfl, rfl, fun h => by omega, rfl⟩
  case round =>
    obtain ⟨k, hk, rfl, hr, h0, rfl⟩ := hrel
    have HR := hide hr
    have H0 := hide h0
    clear hr h0
    by_cases hp : k < s.size
    · have hpi : (k : Int) < (s.size : Int) := by omega
      have e := dgt_at s k hp
      have hst := allN_step okN (l := s.data.toList) (k := k) (by rw [data_len]; exact hp)
      rw [ok_more] at hst
      have hz : k = 0 → smN (dgt s.data.toList 0) = smN (dgt s.data.toList k) := fun h => by rw [h]
      have hno1 : k = 0 → smN (dgt s.data.toList k) = false → nameB s.data.toList = false := fun h1 h2 => by
        unfold nameB; rw [hz h1, h2]; simp
      have hno2 : (smN (dgt s.data.toList k) || moreN (dgt s.data.toList k)) = false → nameB s.data.toList = false := fun h => by
        unfold nameB; rw [unhide HR, hst, h]; simp
      have HST := hide hst
      have HZ := hide hz
      have N1 := hide hno1
      have N2 := hide hno2
      clear hst hz hno1 hno2
      have hbl := dgt_lt s.data.toList k
      generalize dgt s.data.toList k = b at *
      by_cases g1 : 97 ≤ b ∧ b ≤ 122
      · have i1 : (97 : Int) ≤ (b : Int) := by omega
        have i2 : (b : Int) ≤ 122 := by omega
        have i3 : (48 : Int) ≤ (b : Int) := by omega
        have i4 : decide ((b : Int) ≤ 58) = false := decide_eq_false (by omega)
        have i5 : ((b : Int) == 45) = false := bneI (by omega)
        rw [smN_yes g1] at HST HZ
        clear g1 N1 N2
        go_wp2
        go_roundw
        case rel => exact ⟨k + 1, by omega, by go_num, by rw [unhide HR, unhide HST]; rfl, fun _ => by
          by_cases hk0 : k = 0
          · exact unhide HZ hk0
          · exact unhide H0 (by omega), by first | exact rfl | trivial⟩
        case measure => simp [intOf]; omega
      · rw [smN_no g1] at HST HZ N1 N2
        by_cases gk : k = 0
        · subst gk
          have HN := hide (unhide N1 rfl rfl)
          by_cases g2 : 97 ≤ b
          · have i1 : (97 : Int) ≤ (b : Int) := by omega
            have i2 : decide ((b : Int) ≤ 122) = false := decide_eq_false (by omega)
            have i3 : (48 : Int) ≤ (b : Int) := by omega
            have i4 : decide ((b : Int) ≤ 58) = false := decide_eq_false (by omega)
            have i5 : ((b : Int) == 45) = false := bneI (by omega)
            clear g1 N1 N2
            go_wp2
            go_ret
            exact ⟨by rw [unhide HN]; rfl, rfl⟩
          · have i1 : decide ((97 : Int) ≤ (b : Int)) = false := decide_eq_false (by omega)
            clear g1 g2 N1 N2
            by_cases g3 : 48 ≤ b
            · have i3 : (48 : Int) ≤ (b : Int) := by omega
              by_cases g4 : b ≤ 58
              · have i4 : (b : Int) ≤ 58 := by omega
                go_wp2
                go_ret
                exact ⟨by rw [unhide HN]; rfl, rfl⟩
              · have i4 : decide ((b : Int) ≤ 58) = false := decide_eq_false (by omega)
                have i5 : ((b : Int) == 45) = false := bneI (by omega)
                clear g4
                go_wp2
                go_ret
                exact ⟨by rw [unhide HN]; rfl, rfl⟩
            · have i3 : decide ((48 : Int) ≤ (b : Int)) = false := decide_eq_false (by omega)
              clear g3
              by_cases g5 : b = 45
              · subst g5
                go_wp2
                go_ret
                exact ⟨by rw [unhide HN]; rfl, rfl⟩
              · have i5 : ((b : Int) == 45) = false := bneI (by omega)
                clear g5
                go_wp2
                go_ret
                exact ⟨by rw [unhide HN]; rfl, rfl⟩
        · have ik : ((k : Int) == 0) = false := bneI (by omega)
          have hk0 : 0 < k := by omega
          rw [Bool.false_or] at HST N2
          by_cases gm : (48 ≤ b ∧ b ≤ 58) ∨ b = 45
          · have em : moreN b = true := decide_eq_true gm
            rw [em] at HST
            clear N1 N2 em
            by_cases g3 : 48 ≤ b
            · have i3 : (48 : Int) ≤ (b : Int) := by omega
              have i4 : (b : Int) ≤ 58 := by omega
              have i1 : decide ((97 : Int) ≤ (b : Int)) = false := decide_eq_false (by omega)
              clear g1 gm g3 gk
              go_wp2
              go_roundw
              case rel => exact ⟨k + 1, by omega, by go_num, by rw [unhide HR, unhide HST]; rfl, fun _ => unhide H0 hk0, by first | exact rfl | trivial⟩
              case measure => simp [intOf]; omega
            · have hb45 : b = 45 := by omega
              subst hb45
              clear g1 gm g3 gk
              go_wp2
              go_roundw
              case rel => exact ⟨k + 1, by omega, by go_num, by rw [unhide HR, unhide HST]; rfl, fun _ => unhide H0 hk0, by first | exact rfl | trivial⟩
              case measure => simp [intOf]; omega
          · have em : moreN b = false := decide_eq_false gm
            have HN := hide (unhide N2 em)
            have i5 : ((b : Int) == 45) = false := bneI (by omega)
            clear N1 N2 em
            by_cases g3 : 48 ≤ b
            · have i3 : (48 : Int) ≤ (b : Int) := by omega
              have i4 : decide ((b : Int) ≤ 58) = false := decide_eq_false (by omega)
              by_cases g2 : 97 ≤ b
              · have i1 : (97 : Int) ≤ (b : Int) := by omega
                have i2 : decide ((b : Int) ≤ 122) = false := decide_eq_false (by omega)
                clear g1 gm g3 gk
                go_wp2
                go_ret
                exact ⟨by rw [unhide HN]; rfl, rfl⟩
              · have i1 : decide ((97 : Int) ≤ (b : Int)) = false := decide_eq_false (by omega)
                clear g1 gm g3 gk g2
                go_wp2
                go_ret
                exact ⟨by rw [unhide HN]; rfl, rfl⟩
            · have i3 : decide ((48 : Int) ≤ (b : Int)) = false := decide_eq_false (by omega)
              have i1 : decide ((97 : Int) ≤ (b : Int)) = false := decide_eq_false (by omega)
              clear g1 gm g3 gk
              go_wp2
              go_ret
              exact ⟨by rw [unhide HN]; rfl, rfl⟩
    · have he : allN okN s.data.toList = true := by rw [unhide HR]; exact allN_end _ (by rw [data_len]; omega)
      have hks : k = s.size := by omega
      have hv : nameB s.data.toList = (decide ((0 : Int) < (s.size : Int)) && decide ((s.size : Int) < 25)) := by
        unfold nameB
        rw [he, data_len]
        by_cases hz : 0 < s.size
        · rw [unhide H0 (by omega), decide_eq_true (show (0 : Int) < (s.size : Int) by omega)]
          by_cases h25 : s.size ≤ 24
          · rw [decide_eq_true ⟨hz, h25⟩, decide_eq_true (show (s.size : Int) < 25 by omega)]; rfl
          · rw [decide_eq_false (by omega), decide_eq_false (show ¬ (s.size : Int) < 25 by omega)]; rfl
        · rw [decide_eq_false (by omega), decide_eq_false (show ¬ (0 : Int) < (s.size : Int) by omega)]; rfl
      have HV := hide hv
      clear hv he
      by_cases hz : 0 < s.size
      · have j1 : (0 : Int) < (s.size : Int) := by omega
        by_cases h25 : s.size < 25
        · have j2 : (s.size : Int) < 25 := by omega
          rw [decide_eq_true j1, decide_eq_true j2] at HV
          go_wp2
          go_ret
          exact ⟨by rw [unhide HV]; rfl, rfl⟩
        · have j2 : decide ((s.size : Int) < 25) = false := decide_eq_false (by omega)
          rw [decide_eq_true j1, j2] at HV
          clear h25
          go_wp2
          go_ret
          exact ⟨by rw [unhide HV]; rfl, rfl⟩
      · have j1 : decide ((0 : Int) < (s.size : Int)) = false := decide_eq_false (by omega)
        rw [j1, Bool.false_and] at HV
        have j0 : s.size = 0 := by omega
        clear hz j1
        go_wp2
        go_ret
        exact ⟨by rw [unhide HV]; rfl, rfl⟩

end Go.Proofs.Ytfdhmhdemfbfeaa
