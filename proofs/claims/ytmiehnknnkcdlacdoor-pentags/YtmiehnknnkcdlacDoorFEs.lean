/-
  What the reference's Escape does: any text with references.
-/
import Derived.Test.YtmiehnknnkcdlacDoorFSm
import Derived.Laws.IdiomStrings
namespace Go.Proofs.YtmiehnknnkcdlacDoor
open Go.RowKit
set_option linter.unusedVariables false

def ampL : List UInt8 := [38, 97, 109, 112, 59]
def ltL : List UInt8 := [38, 108, 116, 59]
def gtL : List UInt8 := [38, 103, 116, 59]
def quotL : List UInt8 := [38, 113, 117, 111, 116, 59]
def nbspL : List UInt8 := [38, 110, 98, 115, 112, 59]
def hd160 : List UInt8 → Bool
  | [] => false
  | c :: _ => decide (c.toNat = 160)
/-- The text with references; the flag: the first byte is passed over. -/
def escS (v : Bool) : Bool → List UInt8 → List UInt8
  | _, [] => []
  | true, _ :: l => escS v false l
  | false, c :: l =>
    if c.toNat = 38 then ampL ++ escS v false l else if c.toNat = 60 then ltL ++ escS v false l else if c.toNat = 62 then gtL ++ escS v false l
    else if c.toNat = 34 then (if v = true then quotL else [34]) ++ escS v false l
    else if c.toNat = 194 ∧ hd160 l = true then nbspL ++ escS v true l else c :: escS v false l
def escL (v : Bool) (l : List UInt8) : List UInt8 := escS v false l
theorem hd160_at (l : List UInt8) (k : Nat) : hd160 (l.drop k) = decide (atB l k = 160) := by
  unfold atB
  by_cases h : k < l.length
  · obtain ⟨c, hc, hn⟩ := drop_at l k h
    rw [if_pos h, hc, hd160, hn]
  · rw [if_neg h, List.drop_eq_nil_of_le (by omega)]; rfl
theorem esc_38 {v : Bool} {l : List UInt8} {k : Nat} (hk : k < l.length) (h : dgt l k = 38) : escL v (l.drop k) = ampL ++ escL v (l.drop (k + 1)) := by
  obtain ⟨c, hc, hn⟩ := drop_at l k hk
  rw [escL, hc, escS, if_pos (by omega)]; rfl
theorem esc_60 {v : Bool} {l : List UInt8} {k : Nat} (hk : k < l.length) (h : dgt l k = 60) : escL v (l.drop k) = ltL ++ escL v (l.drop (k + 1)) := by
  obtain ⟨c, hc, hn⟩ := drop_at l k hk
  rw [escL, hc, escS, if_neg (by omega), if_pos (by omega)]; rfl
theorem esc_62 {v : Bool} {l : List UInt8} {k : Nat} (hk : k < l.length) (h : dgt l k = 62) : escL v (l.drop k) = gtL ++ escL v (l.drop (k + 1)) := by
  obtain ⟨c, hc, hn⟩ := drop_at l k hk
  rw [escL, hc, escS, if_neg (by omega), if_neg (by omega), if_pos (by omega)]; rfl
theorem esc_34 {v : Bool} {l : List UInt8} {k : Nat} (hk : k < l.length) (h : dgt l k = 34) : escL v (l.drop k) = (if v = true then quotL else [34]) ++ escL v (l.drop (k + 1)) := by
  obtain ⟨c, hc, hn⟩ := drop_at l k hk
  rw [escL, hc, escS, if_neg (by omega), if_neg (by omega), if_neg (by omega), if_pos (by omega)]; rfl
theorem esc_160 {v : Bool} {l : List UInt8} {k : Nat} (hk : k + 1 < l.length) (h : dgt l k = 194) (h2 : atB l (k + 1) = 160) : escL v (l.drop k) = nbspL ++ escL v (l.drop (k + 2)) := by
  obtain ⟨c, hc, hn⟩ := drop_at l k (by omega)
  obtain ⟨c2, hc2, _⟩ := drop_at l (k + 1) hk
  have h3 : hd160 (l.drop (k + 1)) = true := by rw [hd160_at, h2]; rfl
  rw [escL, hc, escS, if_neg (by omega), if_neg (by omega), if_neg (by omega), if_neg (by omega), if_pos ⟨by omega, h3⟩, hc2, escS]; rfl
theorem esc_other {v : Bool} {l : List UInt8} {k : Nat} (hk : k < l.length) (h0 : ¬ dgt l k = 38) (h1 : ¬ dgt l k = 60) (h2 : ¬ dgt l k = 62) (h3 : ¬ dgt l k = 34) (h4 : ¬ (dgt l k = 194 ∧ atB l (k + 1) = 160)) :
    escL v (l.drop k) = byt (dgt l k : Int) :: escL v (l.drop (k + 1)) := by
  obtain ⟨c, hc, hn⟩ := drop_at l k hk
  have h5 : ¬ (c.toNat = 194 ∧ hd160 (l.drop (k + 1)) = true) := by rw [hd160_at]; simp; omega
  rw [escL, hc, escS, if_neg (by omega), if_neg (by omega), if_neg (by omega), if_neg (by omega), if_neg h5, ← hn, byt_self]; rfl
theorem at_lt {l : List UInt8} {k : Nat} (h : atB l k = 160) : k < l.length := by
  unfold atB at h; split at h
  · assumption
  · omega
theorem one_atE (s : ByteArray) (k : Nat) (h : k < s.size) : s.extract k (k + 1) = bs [byt (dgt s.data.toList k)] := by
  obtain ⟨c, hc, hn⟩ := drop_at s.data.toList k (by rw [data_len]; exact h)
  rw [extract_take, hc, ← hn, byt_self]; rfl
theorem bsArr (l : List UInt8) : (⟨l.toArray⟩ : ByteArray) = bs l := rfl

set_option maxHeartbeats 4000000 in
theorem rescape_any (s : ByteArray) (v : Bool) (w : World) (hs : s.size ≤ 100000) :
    Calls Tryd.prog 40 #[.string s, .bool v] w fun e w' => e = .returned (.string (bs (escL v s.data.toList))) ∧ w' = w := by
  go_enter Tryd.func40, Tryd.ntmps40
  go_wp2
  go_loopw [5, 6] (fun o i wr => ∃ (k : Nat) (acc : List UInt8), k ≤ s.size ∧ i = .int .i64 k ∧ o = .string (bs acc) ∧ acc.length ≤ 6 * k ∧ escL v s.data.toList = acc ++ escL v (s.data.toList.drop k) ∧ wr = w) (fun _ i _ => s.size - (intOf i).toNat)
  case atStart => exact ⟨0, [], Nat.zero_le _, rfl, rfl, by simp, rfl, rfl⟩
  case round =>
    obtain ⟨k, acc, hk, rfl, rfl, hal, hr, rfl⟩ := hrel
    have HR := hide hr
    have HAL := hide hal
    clear hr
    rw [← bs_size] at hal
    by_cases hp : k < s.size
    · have hpi : (k : Int) < (s.size : Int) := by omega
      have hkl : k < s.data.toList.length := by rw [data_len]; exact hp
      have e := dgt_at s k hp
      have hone := one_atE s k hp
      have hone' := congrArg ByteArray.size hone
      rw [bs_size] at hone'
      have s1 := esc_38 (v := v) hkl
      have s2 := esc_60 (v := v) hkl
      have s3 := esc_62 (v := v) hkl
      have s4 := esc_34 (v := v) hkl
      have s5 := fun h => esc_160 (v := v) (k := k) (l := s.data.toList) h
      have s6 := esc_other (v := v) hkl
      have CA := hide (fun w => rat_at s (k + 1) w (by omega) (by omega))
      rw [Int.natCast_add] at CA
      have hatl := @at_lt s.data.toList (k + 1)
      rw [data_len] at s5 hatl
      generalize dgt s.data.toList k = b at *
      generalize atB s.data.toList (k + 1) = b2 at *
      generalize hx : bs acc = x at *
      have HX := hide hx
      have HO := hide hone
      clear hx hone
      by_cases g38 : b = 38
      · subst g38
        have S := hide (s1 rfl)
        clear s1 s2 s3 s4 s5 s6 hatl
        go_wp2
        go_roundw
        case rel => exact ⟨k + 1, acc ++ ampL, by omega, by go_num, by rw [← unhide HX, ← bs_bs]; rfl, by have := unhide HAL; rw [List.length_append]; show _ + 5 ≤ _; omega, by rw [unhide HR, unhide S, List.append_assoc], by first | exact rfl | trivial⟩
        case measure => simp [intOf]; omega
      have n38 : ((b : Int) == 38) = false := bneI (by omega)
      by_cases g60 : b = 60
      · subst g60
        have S := hide (s2 rfl)
        clear s1 s2 s3 s4 s5 s6 hatl
        go_wp2
        go_roundw
        case rel => exact ⟨k + 1, acc ++ ltL, by omega, by go_num, by rw [← unhide HX, ← bs_bs]; rfl, by have := unhide HAL; rw [List.length_append]; show _ + 4 ≤ _; omega, by rw [unhide HR, unhide S, List.append_assoc], by first | exact rfl | trivial⟩
        case measure => simp [intOf]; omega
      have n60 : ((b : Int) == 60) = false := bneI (by omega)
      by_cases g62 : b = 62
      · subst g62
        have S := hide (s3 rfl)
        clear s1 s2 s3 s4 s5 s6 hatl
        go_wp2
        go_roundw
        case rel => exact ⟨k + 1, acc ++ gtL, by omega, by go_num, by rw [← unhide HX, ← bs_bs]; rfl, by have := unhide HAL; rw [List.length_append]; show _ + 4 ≤ _; omega, by rw [unhide HR, unhide S, List.append_assoc], by first | exact rfl | trivial⟩
        case measure => simp [intOf]; omega
      have n62 : ((b : Int) == 62) = false := bneI (by omega)
      by_cases g34 : b = 34
      · subst g34
        cases v with
        | true =>
          have S := hide (s4 rfl)
          rw [if_pos rfl] at S
          clear s1 s2 s3 s4 s5 s6 hatl
          go_wp2
          go_roundw
          case rel => exact ⟨k + 1, acc ++ quotL, by omega, by go_num, by rw [← unhide HX, ← bs_bs]; rfl, by have := unhide HAL; rw [List.length_append]; show _ + 6 ≤ _; omega, by rw [unhide HR, unhide S, List.append_assoc], by first | exact rfl | trivial⟩
          case measure => simp [intOf]; omega
        | false =>
          have S := hide (s4 rfl)
          rw [if_neg (by decide)] at S
          clear s1 s2 s3 s4 s5 s6 hatl
          go_wp2
          go_roundw
          case rel => exact ⟨k + 1, acc ++ [34], by omega, by go_num, by rw [← unhide HX, ← bs_bs]; rfl, by have := unhide HAL; rw [List.length_append]; show _ + 1 ≤ _; omega, by rw [unhide HR, unhide S, List.append_assoc], by first | exact rfl | trivial⟩
          case measure => simp [intOf]; omega
      have n34 : ((b : Int) == 34) = false := bneI (by omega)
      by_cases h4 : b = 194
      · subst h4
        by_cases h5 : b2 = 160
        · subst h5
          have hk2 := hatl rfl
          have S := hide (s5 hk2 rfl rfl)
          clear s1 s2 s3 s4 s5 s6 hatl
          go_wp2_with fail
          refine (unhide CA _).mono ?_
          rintro e1 w1 ⟨rfl, rfl⟩
          go_wp2
          go_roundw
          case rel => exact ⟨k + 2, acc ++ nbspL, by omega, by go_num, by rw [← unhide HX, ← bs_bs]; rfl, by have := unhide HAL; rw [List.length_append]; show _ + 6 ≤ _; omega, by rw [unhide HR, unhide S, List.append_assoc], by first | exact rfl | trivial⟩
          case measure => simp [intOf]; omega
        · have n5 : ((b2 : Int) == 160) = false := bneI (by omega)
          have S := hide (s6 (by omega) (by omega) (by omega) (by omega) (by omega))
          clear s1 s2 s3 s4 s5 s6 hatl h5
          go_wp2_with fail
          refine (unhide CA _).mono ?_
          rintro e1 w1 ⟨rfl, rfl⟩
          go_wp2
          go_roundw
          case rel => exact ⟨k + 1, acc ++ [byt ((194 : Nat) : Int)], by omega, by go_num, by rw [← unhide HX, unhide HO, bs_bs], by have := unhide HAL; simp; omega, by rw [unhide HR, unhide S, List.append_assoc]; rfl, by first | exact rfl | trivial⟩
          case measure => simp [intOf]; omega
      · have n4 : ((b : Int) == 194) = false := bneI (by omega)
        have S := hide (s6 (by omega) (by omega) (by omega) (by omega) (by omega))
        clear s1 s2 s3 s4 s5 s6 hatl h4 g38 g60 g62 g34
        go_wp2
        go_roundw
        case rel => exact ⟨k + 1, acc ++ [byt (b : Int)], by omega, by go_num, by rw [← unhide HX, unhide HO, bs_bs], by have := unhide HAL; simp; omega, by rw [unhide HR, unhide S, List.append_assoc]; rfl, by first | exact rfl | trivial⟩
        case measure => simp [intOf]; omega
    · have hf : escL v s.data.toList = acc := by rw [unhide HR, List.drop_eq_nil_of_le (by rw [data_len]; omega)]; simp [escL, escS]
      have HF := hide hf
      clear hf
      go_wp2
      go_ret
      exact ⟨by rw [unhide HF]; rfl, rfl⟩
end Go.Proofs.YtmiehnknnkcdlacDoor
