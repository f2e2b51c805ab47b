/-
  What the reference's Ready does: of every text that isn't too long, it made ready.
-/
import Derived.Test.YtgdhnpjblnhjmaaDoorCLo
import Derived.Test.YtgdhnpjblnhjmaaDoorRCln
namespace Go.Proofs.YtgdhnpjblnhjmaaDoor
open Go.RowKit
set_option linter.unusedVariables false

theorem rr_0 {l : List UInt8} {k : Nat} (hk : k < l.length) (h : dgt l k = 0) : rdR (l.drop k) = ub 65533 ++ rdR (l.drop (k + 1)) := by
  obtain ⟨c, hc, hn⟩ := drop_at l k hk
  rw [hc, rdR, if_pos (by omega)]
theorem rr_other {l : List UInt8} {k : Nat} (hk : k < l.length) (h : ¬ dgt l k = 0) (h13 : ¬ dgt l k = 13) : rdR (l.drop k) = byt (dgt l k : Int) :: rdR (l.drop (k + 1)) := by
  obtain ⟨c, hc, hn⟩ := drop_at l k hk
  rw [hc, rdR, if_neg (by omega), if_pos (by omega), ← hn, byt_self]
theorem rr_13 {l : List UInt8} {k : Nat} (hk : k < l.length) (h : dgt l k = 13) (h2 : ¬ (k + 1 < l.length ∧ dgt l (k + 1) = 10)) : rdR (l.drop k) = 10 :: rdR (l.drop (k + 1)) := by
  obtain ⟨c, hc, hn⟩ := drop_at l k hk
  have h3 : hd10 (l.drop (k + 1)) = false := by
    by_cases e : k + 1 < l.length
    · obtain ⟨c2, hc2, hn2⟩ := drop_at l (k + 1) e
      rw [hc2]; simp [hd10]; omega
    · rw [List.drop_eq_nil_of_le (by omega)]; rfl
  rw [hc, rdR, if_neg (by omega), if_neg (by omega), h3, if_neg (by decide)]
theorem rr_1310 {l : List UInt8} {k : Nat} (hk : k < l.length) (h : dgt l k = 13) (h1 : k + 1 < l.length) (h2 : dgt l (k + 1) = 10) : rdR (l.drop k) = rdR (l.drop (k + 1)) := by
  obtain ⟨c, hc, hn⟩ := drop_at l k hk
  have h3 : hd10 (l.drop (k + 1)) = true := by
    obtain ⟨c2, hc2, hn2⟩ := drop_at l (k + 1) h1
    rw [hc2]; simp [hd10]; omega
  rw [hc, rdR, if_neg (by omega), if_neg (by omega), h3, if_pos rfl]

set_option maxHeartbeats 2000000 in
theorem rready_any (s : ByteArray) (w : World) (hs : s.size ≤ 4000) :
    Calls Tryd.prog 11 #[.string s] w fun e w' => e = .returned (.tuple #[.string (bs (readyL s.data.toList)), .int .i64 0]) ∧ Below w.heap.size w w' := by
  have CB := hide (fun w => rbytes_char 65533 w (by decide))
  have hst : str (ubI 65533) = bs (ub 65533) := rfl
  rw [hst] at CB
  have hq3 : (bs (ub 65533)).size = 3 := rfl
  have hsi : (s.size : Int) ≤ 4000 := by omega
  have hten : (bs [10]).size = 1 := rfl
  have htn : (⟨#[10]⟩ : ByteArray) = bs [10] := rfl
  generalize hu : bs (ub 65533) = u at *
  have HU := hide hu
  clear hst hu
  go_enter Tryd.func11, Tryd.ntmps11
  go_wp2
  go_loopw [4, 5] (fun o i wr => ∃ (k : Nat) (acc : List UInt8), k ≤ s.size ∧ i = .int .i64 k ∧ o = .string (bs acc) ∧ acc.length ≤ 3 * k ∧ rdR s.data.toList = acc ++ rdR (s.data.toList.drop k) ∧ Below w.heap.size w wr) (fun _ i _ => s.size - (intOf i).toNat)
  case atStart => exact ⟨0, [], Nat.zero_le _, rfl, rfl, by simp, rfl, Below.refl _ _⟩
  case round =>
    obtain ⟨k, acc, hk, rfl, rfl, hal, hr, hbw⟩ := hrel
    have HR := hide hr
    clear hr
    rw [← bs_size] at hal
    by_cases hp : k < s.size
    · have hpi : (k : Int) < (s.size : Int) := by omega
      have hkl : k < s.data.toList.length := by rw [data_len]; exact hp
      have e := dgt_at s k hp
      have hone := one_at s k hp
      have hone' := congrArg ByteArray.size hone
      rw [bs_size] at hone'
      have s1 := rr_0 hkl
      have s2 := rr_other hkl
      have s3 := rr_13 hkl
      have s4 := rr_1310 hkl
      rw [data_len] at s3 s4
      have e2 := fun h => dgt_at s (k + 1) h
      generalize hdk : dgt s.data.toList k = b at *
      generalize hdp : dgt s.data.toList (k + 1) = b2 at *
      generalize hx : bs acc = x at *
      have HX := hide hx
      have HO := hide hone
      clear hdk hdp hx hone
      by_cases h0 : b = 0
      · subst h0
        have S := hide (s1 rfl)
        clear s1 s2 s3 s4 e2
        go_wp2_with fail
        refine (unhide CB _).mono ?_
        rintro e1 w2 ⟨rfl, hb2⟩
        go_wp2
        go_roundw
        case rel => exact ⟨k + 1, acc ++ ub 65533, by omega, by go_num, by rw [← unhide HU, ← unhide HX, bs_bs], by
          have e3 : (ub 65533).length = 3 := rfl
          have e4 := congrArg ByteArray.size (unhide HX)
          rw [bs_size] at e4
          rw [List.length_append, e3]; omega, by rw [unhide HR, unhide S, List.append_assoc], hbw.trans (hb2.mono hbw.size)⟩
        case measure => simp [intOf]; omega
      have n0 : ((b : Int) == 0) = false := bneI (by omega)
      by_cases h13 : b = 13
      · subst h13
        by_cases h1 : k + 1 < s.size
        · have h1i : (k : Int) + 1 < (s.size : Int) := by omega
          have h1d : decide ((s.size : Int) ≤ (k : Int) + 1) = false := by simp; omega
          have e3 := e2 h1
          by_cases h2 : b2 = 10
          · subst h2
            have S := hide (s4 rfl h1 rfl)
            clear s1 s2 s3 s4 e2 h0
            go_wp2
            go_roundw
            case rel => exact ⟨k + 1, acc, by omega, by go_num, by rw [unhide HX], by
              have e4 := congrArg ByteArray.size (unhide HX)
              rw [bs_size] at e4
              omega, by rw [unhide HR, unhide S], hbw⟩
            case measure => simp [intOf]; omega
          · have n2 : ((b2 : Int) == 10) = false := bneI (by omega)
            have S := hide (s3 rfl (by omega))
            clear s1 s2 s3 s4 e2 h0 h2
            go_wp2
            go_roundw
            case rel => exact ⟨k + 1, acc ++ [10], by omega, by go_num, by rw [← unhide HX, ← bs_bs], by
              have e4 := congrArg ByteArray.size (unhide HX)
              rw [bs_size] at e4
              simp; omega, by rw [unhide HR, unhide S, List.append_assoc]; rfl, hbw⟩
            case measure => simp [intOf]; omega
        · have h1d : decide ((s.size : Int) ≤ (k : Int) + 1) = true := by simp; omega
          have S := hide (s3 rfl (by omega))
          clear s1 s2 s3 s4 e2 h0
          go_wp2
          go_roundw
          case rel => exact ⟨k + 1, acc ++ [10], by omega, by go_num, by rw [← unhide HX, ← bs_bs], by
            have e4 := congrArg ByteArray.size (unhide HX)
            rw [bs_size] at e4
            simp; omega, by rw [unhide HR, unhide S, List.append_assoc]; rfl, hbw⟩
          case measure => simp [intOf]; omega
      · have n13 : ((b : Int) == 13) = false := bneI (by omega)
        have S := hide (s2 h0 h13)
        clear s1 s2 s3 s4 e2 h0 h13
        go_wp2
        go_roundw
        case rel => exact ⟨k + 1, acc ++ [byt (b : Int)], by omega, by go_num, by rw [← unhide HX, unhide HO, bs_bs], by
          have e4 := congrArg ByteArray.size (unhide HX)
          rw [bs_size] at e4
          simp; omega, by rw [unhide HR, unhide S, List.append_assoc]; rfl, hbw⟩
        case measure => simp [intOf]; omega
    · have hd : s.data.toList.drop k = [] := List.drop_eq_nil_of_le (by rw [data_len]; omega)
      have hf : rdR s.data.toList = acc := by rw [unhide HR, hd, rdR, List.append_nil]
      have CC := hide (fun w => rclean_any (bs acc) w (by omega))
      rw [bs_toList] at CC
      have HF := hide hf
      clear hf hd
      go_wp2_with fail
      refine (unhide CC _).mono ?_
      rintro e w3 ⟨rfl, hb3⟩
      go_wp2
      go_ret2
      exact ⟨by rw [readyL, unhide HF]; rfl, hbw.trans (hb3.mono hbw.size)⟩
end Go.Proofs.YtgdhnpjblnhjmaaDoor
