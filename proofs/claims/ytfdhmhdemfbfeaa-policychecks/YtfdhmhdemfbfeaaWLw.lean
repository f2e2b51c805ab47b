/-
  The reference's Lower of layer 3, of whatever text.
-/
import Derived.Test.YtfdhmhdemfbfeaaDLo
namespace Go.Proofs.Ytfdhmhdemfbfeaa
open Go.RowKit
set_option linter.unusedVariables false

set_option maxHeartbeats 400000 in
theorem rlower_long (s : ByteArray) (w : World) (hs : s.size ≤ 9223372036854775807) :
    Calls Try.prog 27 #[.string s] w fun e w' => e = .returned (.string (bs (lowL s.data.toList))) ∧ Below w.heap.size w w' := by
  go_enter Try.func27, Try.ntmps27
  go_wp2
  go_loopw [3, 4] (fun o i wr => ∃ k : Nat, k ≤ s.size ∧ i = .int .i64 k ∧ o = .string (bs (lowK s.data.toList k)) ∧ Below w.heap.size w wr) (fun _ i _ => s.size - (intOf i).toNat)
  case atStart => exact ⟨0, Nat.zero_le _, rfl, rfl, Below.refl _ _⟩
  case round =>
    obtain ⟨k, hk, rfl, rfl, hbw⟩ := hrel
    have hsz := lowK_len s.data.toList k (by rw [data_len]; exact hk)
    rw [← bs_size] at hsz
    by_cases hp : k < s.size
    · have hpi : (k : Int) < (s.size : Int) := by omega
      have hkl : k < s.data.toList.length := by rw [data_len]; exact hp
      have e := dgt_at s k hp
      have hst := lowK_step s.data.toList k hkl
      have hone := one_at s k hp
      have hone' := congrArg ByteArray.size hone
      rw [bs_size] at hone'
      have hblt := dgt_lt s.data.toList k
      have hlN := @lowN_up (dgt s.data.toList k)
      have hlO := @lowN_no (dgt s.data.toList k)
      generalize dgt s.data.toList k = b at *
      generalize hx : bs (lowK s.data.toList k) = x at *
      have hcat : (x.size : Int) + 1 ≤ 9223372036854775807 := by omega
      have hcat2 : ¬ 9223372036854775807 < x.size + 1 := by omega
      cases hb : upN b with
      | true =>
        have hup := upN_true hb
        have i0 : (65 : Int) ≤ (b : Int) := by omega
        have i1 : (b : Int) ≤ 90 := by omega
        rw [hlN hb] at hst
        have HS := hide hst
        have HX := hide hx
        have hcv : Sem.run Try.prog (convert 83 9 (Value.slice (some { block := wr.heap.size, off := 0 }) 1 1)) (wr.alloc (Obj.cells #[.int .u8 ((b : Int) + 32)] 5)) = .ok (.string (str [(b : Int) + 32])) (wr.alloc (Obj.cells #[.int .u8 ((b : Int) + 32)] 5)) := convL wr wr.heap.size [(b : Int) + 32] rfl
        have hq : (str [(b : Int) + 32]).size = 1 := str_size _
        clear hst hlN hlO hb hone hone' hx
        go_wp2
        go_roundw
        case rel => exact ⟨k + 1, by omega, by go_num, by rw [unhide HS, ← unhide HX, str_bs, bs_bs]; rfl, by first | exact hbw | exact hbw.alloc hbw.size _ | exact (hbw.alloc hbw.size _).drew | exact below_drewN hbw _⟩
        case measure => simp [intOf]; omega
      | false =>
        have hup := upN_false hb
        rw [hlO hb] at hst
        have HS := hide hst
        have HX := hide hx
        have HO := hide hone
        clear hst hlN hlO hone hx
        by_cases h65 : 65 ≤ b
        · have i0 : (65 : Int) ≤ (b : Int) := by omega
          have i1 : decide ((b : Int) ≤ 90) = false := by simp; omega
          clear hup hb
          go_wp2
          go_roundw
          case rel => exact ⟨k + 1, by omega, by go_num, by rw [unhide HS, ← unhide HX, unhide HO, bs_bs], by first | exact hbw | exact hbw.alloc hbw.size _ | exact (hbw.alloc hbw.size _).drew | exact below_drewN hbw _⟩
          case measure => simp [intOf]; omega
        · have i0 : decide ((65 : Int) ≤ (b : Int)) = false := by simp; omega
          clear hup hb h65
          go_wp2
          go_roundw
          case rel => exact ⟨k + 1, by omega, by go_num, by rw [unhide HS, ← unhide HX, unhide HO, bs_bs], by first | exact hbw | exact hbw.alloc hbw.size _ | exact (hbw.alloc hbw.size _).drew | exact below_drewN hbw _⟩
          case measure => simp [intOf]; omega
    · have he : lowK s.data.toList k = lowL s.data.toList := by rw [lowK, List.take_of_length_le (by rw [data_len]; omega)]
      have HE := hide he
      clear he
      go_wp2
      go_ret
      exact ⟨by rw [unhide HE]; rfl, hbw⟩
end Go.Proofs.Ytfdhmhdemfbfeaa
