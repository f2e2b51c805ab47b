/-
  What 'refs.Name' and 'refs.Number' do: of every name its character, of every number its character.
-/
import Derived.Test.YtmiehnknnkcdlaaDoorEPl
namespace Go.Proofs.YtmiehnknnkcdlaaDoor
open Go.RowKit
set_option linter.unusedVariables false

theorem name_some (s : ByteArray) (i : Nat) (w : World) (ht : NTab w) (h : nameI s.data.toList = some i) :
    Calls Tryd.prog 14 #[.string s] w fun e w' => e = .returned (.tuple #[.int .i64 (nmChar i), .bool true]) ∧ Below w.heap.size w w' := by
  have HT := hide ht
  have hi := nameI_some h
  have HI := hide hi.2
  have hi1 := hi.1
  clear ht h hi
  go_enter Tryd.func14, Tryd.ntmps14
  go_wp2
  go_loopw [5] (fun i wr => ∃ k : Nat, k ≤ 28 ∧ i = .int .i64 k ∧ Below w.heap.size w wr ∧ ∀ j, j < k → ¬ nmName j = s.data.toList) (fun i _ => 28 - (intOf i).toNat)
  case atStart => exact ⟨0, Nat.zero_le _, rfl, Below.refl _ _, fun j hj => by omega⟩
  case round =>
    obtain ⟨k, hk, rfl, hbw, hno⟩ := hrel
    have HN := hide hno
    clear hno
    by_cases hp : k < 28
    · have hpi : (k : Int) < 28 := by omega
      obtain ⟨c1, c2, c3⟩ := unhide HT k hp
      have d1 := cell_later hbw c1
      have d2 := cell_later hbw c2
      clear c1 c2 c3
      by_cases he : nmName k = s.data.toList
      · have hki : k = i := nm_inj k hp i hi1 (by rw [he, unhide HI])
        have hxx : bs (nmName k) = s := by rw [he, bs_self]
        have hb := beq_yes hxx
        subst hki
        clear he
        go_wp2
        go_ret2
        exact ⟨rfl, by first | exact hbw | exact below_drewN hbw _⟩
      · have hxx : ¬ bs (nmName k) = s := fun e => he (by rw [← e, bs_toList])
        have hb := beq_no hxx
        have HE := hide he
        clear he hxx
        go_wp2
        go_roundw
        case rel => exact ⟨k + 1, by omega, by go_num, by first | exact hbw | exact below_drewN hbw _, fun j hj => by
          by_cases hjk : j = k
          · rw [hjk]; exact unhide HE
          · exact unhide HN j (by omega)⟩
        case measure => simp [intOf]; omega
    · exact absurd (unhide HI) (unhide HN i (by omega))

theorem name_none (s : ByteArray) (w : World) (ht : NTab w) (h : nameI s.data.toList = none) :
    Calls Tryd.prog 14 #[.string s] w fun e w' => e = .returned (.tuple #[.int .i64 0, .bool false]) ∧ Below w.heap.size w w' := by
  have HT := hide ht
  have HI := hide (nameI_none h)
  clear ht h
  go_enter Tryd.func14, Tryd.ntmps14
  go_wp2
  go_loopw [5] (fun i wr => ∃ k : Nat, k ≤ 28 ∧ i = .int .i64 k ∧ Below w.heap.size w wr ∧ ∀ j, j < k → ¬ nmName j = s.data.toList) (fun i _ => 28 - (intOf i).toNat)
  case atStart => exact ⟨0, Nat.zero_le _, rfl, Below.refl _ _, fun j hj => by omega⟩
  case round =>
    obtain ⟨k, hk, rfl, hbw, hno⟩ := hrel
    have HN := hide hno
    clear hno
    by_cases hp : k < 28
    · have hpi : (k : Int) < 28 := by omega
      obtain ⟨c1, c2, c3⟩ := unhide HT k hp
      have d1 := cell_later hbw c1
      have d2 := cell_later hbw c2
      clear c1 c2 c3
      have he := unhide HI k hp
      have hxx : ¬ bs (nmName k) = s := fun e => he (by rw [← e, bs_toList])
      have hb := beq_no hxx
      have HE := hide he
      clear he hxx
      go_wp2
      go_roundw
      case rel => exact ⟨k + 1, by omega, by go_num, by first | exact hbw | exact below_drewN hbw _, fun j hj => by
        by_cases hjk : j = k
        · rw [hjk]; exact unhide HE
        · exact unhide HN j (by omega)⟩
      case measure => simp [intOf]; omega
    · have hpi : ¬ (k : Int) < 28 := by omega
      go_wp2
      go_ret2
      exact ⟨rfl, hbw⟩

theorem name_any (s : ByteArray) (w : World) (ht : NTab w) :
    Calls Tryd.prog 14 #[.string s] w fun e w' => e = .returned (.tuple #[.int .i64 (nameC s.data.toList), .bool (nameC s.data.toList != 0)]) ∧ Below w.heap.size w w' := by
  cases h : nameI s.data.toList with
  | none => rw [nameC_none h]; exact name_none s w ht h
  | some i =>
    rw [nameC_some h]
    have hf := nm_facts i (nameI_some h).1
    have : (nmChar i != 0) = true := by simp; omega
    rw [this]
    exact name_some s i w ht h

theorem numC_no {n : Int} (h : n ≤ 0 ∨ isC n = false) : numC n = 65533 := by rw [numC, if_pos h]
theorem numC_old {n : Int} (h0 : 128 ≤ n) (h1 : n < 160) (h2 : ¬ oldAt (n - 128).toNat = 0) : numC n = oldAt (n - 128).toNat := by
  rw [numC, if_neg (by rw [isC_mk (by omega)]; simp; omega), if_pos ⟨h0, h1, h2⟩]
theorem numC_self {n : Int} (h0 : 0 < n) (hc : isC n = true) (h2 : ¬ (128 ≤ n ∧ n < 160 ∧ oldAt (n - 128).toNat ≠ 0)) : numC n = n := by
  rw [numC, if_neg (by rw [hc]; simp; omega), if_neg h2]

set_option maxHeartbeats 400000 in
theorem number_any (n : Int) (w : World) (ht : OTab w) :
    Calls Tryd.prog 16 #[.int .i64 n] w fun e w' => e = .returned (.int .i64 (numC n)) ∧ Below w.heap.size w w' := by
  have HT := hide ht
  clear ht
  by_cases h0 : n ≤ 0
  · rw [numC_no (.inl h0)]
    go_enter Tryd.func16, Tryd.ntmps16
    go_wp2
    go_ret
    exact ⟨rfl, Below.refl _ _⟩
  have h0' : ¬ n ≤ 0 := h0
  by_cases h1 : 1114111 < n
  · rw [numC_no (.inr (isC_no (by omega)))]
    go_enter Tryd.func16, Tryd.ntmps16
    go_wp2
    go_ret
    exact ⟨rfl, Below.refl _ _⟩
  by_cases h2 : 55296 ≤ n
  · by_cases h3 : n ≤ 57343
    · rw [numC_no (.inr (isC_no (by omega)))]
      go_enter Tryd.func16, Tryd.ntmps16
      go_wp2
      go_ret
      exact ⟨rfl, Below.refl _ _⟩
    · rw [numC_self (by omega) (isC_mk (by omega)) (by omega)]
      have h4 : 128 ≤ n := by omega
      have h5 : ¬ n < 160 := by omega
      have h6 : decide (n ≤ 57343) = false := by simp; omega
      have h7 : decide (n < 160) = false := by simp; omega
      clear h3
      go_enter Tryd.func16, Tryd.ntmps16
      go_wp2
      go_ret
      exact ⟨rfl, Below.refl _ _⟩
  have h2' : decide (55296 ≤ n) = false := by simp; omega
  by_cases h4 : 128 ≤ n
  · by_cases h5 : n < 160
    · obtain ⟨j, hj⟩ : ∃ j : Nat, (n - 128).toNat = j := ⟨_, rfl⟩
      have hj32 : j < 32 := by omega
      have c1 := unhide HT j hj32
      have i0 : 0 ≤ n - 128 := by omega
      have i1 : n - 128 < 32 := by omega
      by_cases ho : oldAt j = 0
      · rw [numC_self (by omega) (isC_mk (by omega)) (by rw [hj]; simp [ho])]
        rw [ho] at c1
        clear h2 h1 h0
        go_enter Tryd.func16, Tryd.ntmps16
        go_wp2
        go_ret
        exact ⟨rfl, Below.refl _ _⟩
      · rw [numC_old h4 h5 (by rw [hj]; exact ho), hj]
        have hb : (oldAt j != 0) = true := by simpa using ho
        have hb2 : (oldAt j == 0) = false := by simpa using ho
        clear h2 h1 h0 ho
        go_enter Tryd.func16, Tryd.ntmps16
        go_wp2
        go_ret
        exact ⟨rfl, Below.refl _ _⟩
    · rw [numC_self (by omega) (isC_mk (by omega)) (by omega)]
      have h7 : decide (n < 160) = false := by simp; omega
      clear h2 h5
      go_enter Tryd.func16, Tryd.ntmps16
      go_wp2
      go_ret
      exact ⟨rfl, Below.refl _ _⟩
  · rw [numC_self (by omega) (isC_mk (by omega)) (by omega)]
    have h7 : decide (128 ≤ n) = false := by simp; omega
    clear h2 h4
    go_enter Tryd.func16, Tryd.ntmps16
    go_wp2
    go_ret
    exact ⟨rfl, Below.refl _ _⟩
end Go.Proofs.YtmiehnknnkcdlaaDoor
