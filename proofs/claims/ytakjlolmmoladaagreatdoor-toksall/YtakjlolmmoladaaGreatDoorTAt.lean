/-
  What the parts of 'toks.attribute' do: where an attribute's name ends, where spaces end, where a value with no quotes ends, what stands up to a mark.
-/
import Derived.Test.YtakjlolmmoladaaGreatDoorTTg
import Derived.Test.YtakjlolmmoladaaGreatDoorTLb
namespace Go.Proofs.YtakjlolmmoladaaGreatDoor
open Go.RowKit
set_option linter.unusedVariables false

/-- Which bytes end an attribute's name. -/
def eaB (b : Nat) : Bool := decide (b = 61) || enB b
set_option maxHeartbeats 1000000 in
theorem endsName_attr (b : Nat) (w : World) :
    Calls Tryz.prog 43 #[.int .u8 (b : Int), .bool true] w fun e w' => e = .returned (.bool (eaB b)) ∧ w' = w := by
  have CS := hide (space_any b)
  unfold eaB enB
  by_cases h61 : b = 61
  · subst h61
    rw [decide_eq_true rfl, Bool.true_or]
    go_enter Tryz.func43, Tryz.ntmps43
    go_wp2
    go_ret
    exact ⟨rfl, rfl⟩
  have n61 : ((b : Int) == 61) = false := bneI (by omega)
  rw [decide_eq_false h61, Bool.false_or]
  by_cases h47 : b = 47
  · subst h47
    rw [decide_eq_true rfl, Bool.true_or]
    go_enter Tryz.func43, Tryz.ntmps43
    go_wp2
    go_ret
    exact ⟨rfl, rfl⟩
  have n47 : ((b : Int) == 47) = false := bneI (by omega)
  rw [decide_eq_false h47, Bool.false_or]
  by_cases h62 : b = 62
  · subst h62
    rw [decide_eq_true rfl, Bool.true_or]
    go_enter Tryz.func43, Tryz.ntmps43
    go_wp2
    go_ret
    exact ⟨rfl, rfl⟩
  have n62 : ((b : Int) == 62) = false := bneI (by omega)
  rw [decide_eq_false h62, Bool.false_or]
  generalize spN b = sb at *
  clear h61 h47 h62
  go_enter Tryz.func43, Tryz.ntmps43
  go_wp2_with fail
  refine (unhide CS _).mono ?_
  rintro e w1 ⟨rfl, rfl⟩
  go_wp2
  go_ret
  exact ⟨rfl, rfl⟩

def eaP (s : ByteArray) (i : Nat) : Bool := eaB (dgt s.data.toList i)
theorem attr1_any (s : ByteArray) (i g : Nat) (w : World) (hg : w.cell? ⟨g, 0, none⟩ = some (.string s)) (hi : i < s.size) :
    Calls Tryz.prog 65 #[.int .i64 (i : Int), .pointer (some ⟨g, 0, none⟩)] w fun e w' => e = .returned (.bool (eaP s i)) ∧ w' = w := by
  have hii : (i : Int) < (s.size : Int) := by omega
  have e0 := dgt_at s i hi
  have C := hide (fun w => endsName_attr (dgt s.data.toList i) w)
  unfold eaP
  generalize dgt s.data.toList i = b at *
  generalize eaB b = eb at *
  go_enter Tryz.func65, Tryz.ntmps65
  go_wp2_with fail
  refine (unhide C _).mono ?_
  rintro e w1 ⟨rfl, rfl⟩
  go_wp2
  go_ret
  exact ⟨rfl, rfl⟩

/-- No space stands there. -/
def nsP (s : ByteArray) (i : Nat) : Bool := !spN (dgt s.data.toList i)
theorem pass1_any (s : ByteArray) (i g : Nat) (w : World) (hg : w.cell? ⟨g, 0, none⟩ = some (.string s)) (hi : i < s.size) :
    Calls Tryz.prog 84 #[.int .i64 (i : Int), .pointer (some ⟨g, 0, none⟩)] w fun e w' => e = .returned (.bool (nsP s i)) ∧ w' = w := by
  have hii : (i : Int) < (s.size : Int) := by omega
  have e0 := dgt_at s i hi
  have C := hide (fun w => space_any (dgt s.data.toList i) w)
  unfold nsP
  generalize dgt s.data.toList i = b at *
  generalize spN b = eb at *
  go_enter Tryz.func84, Tryz.ntmps84
  go_wp2_with fail
  refine (unhide C _).mono ?_
  rintro e w1 ⟨rfl, rfl⟩
  go_wp2
  go_ret
  exact ⟨rfl, rfl⟩

/-- A value with no quotes ends there. -/
def uvP (s : ByteArray) (i : Nat) : Bool := decide (dgt s.data.toList i = 62) || spN (dgt s.data.toList i)
theorem val1_any (s : ByteArray) (i g : Nat) (w : World) (hg : w.cell? ⟨g, 0, none⟩ = some (.string s)) (hi : i < s.size) :
    Calls Tryz.prog 85 #[.int .i64 (i : Int), .pointer (some ⟨g, 0, none⟩)] w fun e w' => e = .returned (.bool (uvP s i)) ∧ w' = w := by
  have hii : (i : Int) < (s.size : Int) := by omega
  have e0 := dgt_at s i hi
  have C := hide (fun w => space_any (dgt s.data.toList i) w)
  unfold uvP
  generalize dgt s.data.toList i = b at *
  by_cases h62 : b = 62
  · subst h62
    rw [decide_eq_true rfl, Bool.true_or]
    go_enter Tryz.func85, Tryz.ntmps85
    go_wp2
    go_ret
    exact ⟨rfl, rfl⟩
  have n62 : ((b : Int) == 62) = false := bneI (by omega)
  rw [decide_eq_false h62, Bool.false_or]
  generalize spN b = eb at *
  clear h62
  go_enter Tryz.func85, Tryz.ntmps85
  go_wp2_with fail
  refine (unhide C _).mono ?_
  rintro e w1 ⟨rfl, rfl⟩
  go_wp2
  go_ret
  exact ⟨rfl, rfl⟩

set_option maxHeartbeats 1000000 in
theorem seek_attr (s : ByteArray) (i g : Nat) (w : World) (hg : w.cell? ⟨g, 0, none⟩ = some (.string s)) (hi : i ≤ s.size) (hs : s.size ≤ 9223372036854775800) :
    Calls Tryz.prog 21 #[.string s, .int .i64 (i : Int), .func (.func 65) #[] #[.pointer (some ⟨g, 0, none⟩)]] w fun e w' => e = .returned (.int .i64 (seekN (eaP s) s.size i : Int)) ∧ w' = w := by
  have HG := hide hg
  clear hg
  go_enter Tryz.func21, Tryz.ntmps21
  go_wp2
  go_loopw [1] (fun a wr => ∃ k : Nat, k ≤ s.size ∧ a = .int .i64 (k : Int) ∧ seekN (eaP s) s.size i = seekN (eaP s) s.size k ∧ wr = w) (fun a _ => s.size - (intOf a).toNat)
  case atStart => exact ⟨i, hi, rfl, rfl, rfl⟩
  case round =>
    obtain ⟨k, hk, rfl, hr, rfl⟩ := hrel
    have HR := hide hr
    clear hr
    by_cases hp : k < s.size
    · have hpi : (k : Int) < (s.size : Int) := by omega
      have C := hide (fun w h => attr1_any s k g w h hp)
      have hh := @seek_hit (eaP s) s.size k
      have hn := @seek_next (eaP s) s.size k hp
      generalize eaP s k = b at *
      cases b with
      | true =>
        have HV := hide (hh rfl)
        clear hh hn
        go_wp2_with (go_at_call 65; refine (unhide C _ (unhide HG)).mono ?_; rintro e1 w1 ⟨rfl, rfl⟩)
        go_ret
        exact ⟨by rw [unhide HR, unhide HV]; rfl, rfl⟩
      | false =>
        have HV := hide (hn rfl)
        clear hh hn
        go_wp2_with (go_at_call 65; refine (unhide C _ (unhide HG)).mono ?_; rintro e1 w1 ⟨rfl, rfl⟩)
        go_roundw
        case rel => exact ⟨k + 1, by omega, by go_num, by rw [unhide HR, unhide HV], by first | exact rfl | trivial⟩
        case measure => simp [intOf]; omega
    · have HV := hide (@seek_end (eaP s) s.size k (by omega))
      go_wp2
      go_ret
      exact ⟨by rw [unhide HR, unhide HV]; rfl, rfl⟩

set_option maxHeartbeats 1000000 in
theorem seek_pass (s : ByteArray) (i g : Nat) (w : World) (hg : w.cell? ⟨g, 0, none⟩ = some (.string s)) (hi : i ≤ s.size) (hs : s.size ≤ 9223372036854775800) :
    Calls Tryz.prog 21 #[.string s, .int .i64 (i : Int), .func (.func 84) #[] #[.pointer (some ⟨g, 0, none⟩)]] w fun e w' => e = .returned (.int .i64 (seekN (nsP s) s.size i : Int)) ∧ w' = w := by
  have HG := hide hg
  clear hg
  go_enter Tryz.func21, Tryz.ntmps21
  go_wp2
  go_loopw [1] (fun a wr => ∃ k : Nat, k ≤ s.size ∧ a = .int .i64 (k : Int) ∧ seekN (nsP s) s.size i = seekN (nsP s) s.size k ∧ wr = w) (fun a _ => s.size - (intOf a).toNat)
  case atStart => exact ⟨i, hi, rfl, rfl, rfl⟩
  case round =>
    obtain ⟨k, hk, rfl, hr, rfl⟩ := hrel
    have HR := hide hr
    clear hr
    by_cases hp : k < s.size
    · have hpi : (k : Int) < (s.size : Int) := by omega
      have C := hide (fun w h => pass1_any s k g w h hp)
      have hh := @seek_hit (nsP s) s.size k
      have hn := @seek_next (nsP s) s.size k hp
      generalize nsP s k = b at *
      cases b with
      | true =>
        have HV := hide (hh rfl)
        clear hh hn
        go_wp2_with (go_at_call 84; refine (unhide C _ (unhide HG)).mono ?_; rintro e1 w1 ⟨rfl, rfl⟩)
        go_ret
        exact ⟨by rw [unhide HR, unhide HV]; rfl, rfl⟩
      | false =>
        have HV := hide (hn rfl)
        clear hh hn
        go_wp2_with (go_at_call 84; refine (unhide C _ (unhide HG)).mono ?_; rintro e1 w1 ⟨rfl, rfl⟩)
        go_roundw
        case rel => exact ⟨k + 1, by omega, by go_num, by rw [unhide HR, unhide HV], by first | exact rfl | trivial⟩
        case measure => simp [intOf]; omega
    · have HV := hide (@seek_end (nsP s) s.size k (by omega))
      go_wp2
      go_ret
      exact ⟨by rw [unhide HR, unhide HV]; rfl, rfl⟩

set_option maxHeartbeats 1000000 in
theorem seek_val (s : ByteArray) (i g : Nat) (w : World) (hg : w.cell? ⟨g, 0, none⟩ = some (.string s)) (hi : i ≤ s.size) (hs : s.size ≤ 9223372036854775800) :
    Calls Tryz.prog 21 #[.string s, .int .i64 (i : Int), .func (.func 85) #[] #[.pointer (some ⟨g, 0, none⟩)]] w fun e w' => e = .returned (.int .i64 (seekN (uvP s) s.size i : Int)) ∧ w' = w := by
  have HG := hide hg
  clear hg
  go_enter Tryz.func21, Tryz.ntmps21
  go_wp2
  go_loopw [1] (fun a wr => ∃ k : Nat, k ≤ s.size ∧ a = .int .i64 (k : Int) ∧ seekN (uvP s) s.size i = seekN (uvP s) s.size k ∧ wr = w) (fun a _ => s.size - (intOf a).toNat)
  case atStart => exact ⟨i, hi, rfl, rfl, rfl⟩
  case round =>
    obtain ⟨k, hk, rfl, hr, rfl⟩ := hrel
    have HR := hide hr
    clear hr
    by_cases hp : k < s.size
    · have hpi : (k : Int) < (s.size : Int) := by omega
      have C := hide (fun w h => val1_any s k g w h hp)
      have hh := @seek_hit (uvP s) s.size k
      have hn := @seek_next (uvP s) s.size k hp
      generalize uvP s k = b at *
      cases b with
      | true =>
        have HV := hide (hh rfl)
        clear hh hn
        go_wp2_with (go_at_call 85; refine (unhide C _ (unhide HG)).mono ?_; rintro e1 w1 ⟨rfl, rfl⟩)
        go_ret
        exact ⟨by rw [unhide HR, unhide HV]; rfl, rfl⟩
      | false =>
        have HV := hide (hn rfl)
        clear hh hn
        go_wp2_with (go_at_call 85; refine (unhide C _ (unhide HG)).mono ?_; rintro e1 w1 ⟨rfl, rfl⟩)
        go_roundw
        case rel => exact ⟨k + 1, by omega, by go_num, by rw [unhide HR, unhide HV], by first | exact rfl | trivial⟩
        case measure => simp [intOf]; omega
    · have HV := hide (@seek_end (uvP s) s.size k (by omega))
      go_wp2
      go_ret
      exact ⟨by rw [unhide HR, unhide HV]; rfl, rfl⟩

set_option maxHeartbeats 1000000 in
theorem passSpaces_any (s : ByteArray) (i : Nat) (w : World) (hi : i ≤ s.size) (hs : s.size ≤ 9223372036854775800) :
    Calls Tryz.prog 66 #[.string s, .int .i64 (i : Int)] w fun e w' => e = .returned (.int .i64 (seekN (nsP s) s.size i : Int)) ∧ Below w.heap.size w w' := by
  have CS := hide (fun w g h => seek_pass s i g w h hi hs)
  have hbA : Below w.heap.size w (w.alloc (.cells #[.string s] 9)) := (Below.refl _ _).alloc (Nat.le_refl _) _
  have c0 : (w.alloc (.cells #[.string s] 9)).cell? ⟨w.heap.size, 0, none⟩ = some (.string s) := World.cell?_alloc_at _ _ _ _ rfl
  generalize seekN (nsP s) s.size i = e at *
  go_enter Tryz.func66, Tryz.ntmps66
  go_wp2_with fail
  refine (unhide CS _ _ c0).mono ?_
  rintro e w1 ⟨rfl, rfl⟩
  go_wp2
  go_ret
  exact ⟨rfl, hbA⟩
end Go.Proofs.YtakjlolmmoladaaGreatDoor
