/-
  What the reference's flat, Raw, In and Text of layer 13 do (made by mk_jrf.py).
-/
import Derived.Test.YtfbgpodcdgmpjaaDoorJLs
namespace Go.Proofs.YtfbgpodcdgmpjaaDoor
open Go.RowKit
set_option linter.unusedVariables false
set_option linter.unusedSimpArgs false

theorem bs_add' (l : List UInt8) (x : ByteArray) : bs l ++ x = bs (l ++ x.data.toList) := by
  rw [← bs_self x, bs_bs, bs_toList]
theorem flat_snoc (l : List UInt8) (b : UInt8) : flatL (l ++ [b]) = flatL l ++ [flB b] := by unfold flatL; simp
set_option maxHeartbeats 1000000 in
theorem rflat_any (s : ByteArray) (w : World) (hs : s.size ≤ 100000) : Calls Tryd.prog 32 #[.string s] w fun e w' => e = .returned (.string (bs (flatL s.data.toList))) ∧ w' = w := by
  have hdl := data_len s
  go_enter Tryd.func32, Tryd.ntmps32
  go_wp2
  go_loopw [3, 4] (fun o i wr => ∃ k : Nat, k ≤ s.size ∧ i = .int .i64 k ∧ o = .string (bs (flatL (s.data.toList.take k))) ∧ wr = w) (fun _ i _ => s.size - (intOf i).toNat)
  case atStart => exact ⟨0, Nat.zero_le _, rfl, rfl, rfl⟩
  case round =>
    obtain ⟨k, hk, rfl, rfl, rfl⟩ := hrel
    have hz : (bs (flatL (s.data.toList.take k))).size ≤ 100000 := by rw [bs_size]; unfold flatL; rw [List.length_map, List.length_take]; omega
    by_cases hp : k < s.size
    · have hpi : (k : Int) < (s.size : Int) := by omega
      have hki : (k : Int) ≤ 100000 := by omega
      have hk1 : k < s.data.toList.length := by omega
      have htk : s.data.toList.take (k + 1) = s.data.toList.take k ++ [s.data.toList[k]] := by rw [List.take_add_one, List.getElem?_eq_getElem hk1]; rfl
      have e := dgt_at s k hp
      have hdg : dgt s.data.toList k = (s.data.toList[k]).toNat := by unfold dgt; rw [List.getD, List.getElem?_eq_getElem hk1]; rfl
      have hone := one_atE s k hp
      have hbt : byt (dgt s.data.toList k) = s.data.toList[k] := by rw [hdg]; exact byt_self _
      rw [hbt] at hone
      have hone' := congrArg ByteArray.size hone
      rw [bs_size] at hone'
      simp only [List.length_cons, List.length_nil] at hone'
      have HR : Hid (bs (flatL (s.data.toList.take (k + 1))) = bs (flatL (s.data.toList.take k)) ++ bs [flB s.data.toList[k]]) := hide (by rw [htk, flat_snoc, bs_bs])
      have h10 : Hid (dgt s.data.toList k = 10 → bs [flB s.data.toList[k]] = ⟨#[32]⟩) := hide (fun h => by
        have : s.data.toList[k] = 10 := by rw [hdg] at h; exact UInt8.toNat_inj.1 h
        rw [this]; rfl)
      have hno : Hid (¬ dgt s.data.toList k = 10 → bs [flB s.data.toList[k]] = s.extract k (k + 1)) := hide (fun h => by
        rw [hone]
        unfold flB
        rw [if_neg (fun h' => h (by rw [hdg, h']; rfl))])
      clear htk hdg hbt hone hdl
      generalize hX : bs (flatL (s.data.toList.take k)) = X at *
      generalize hY : bs [flB s.data.toList[k]] = Y at *
      generalize dgt s.data.toList k = b at *
      clear hX hY
      have z1 : ¬ 9223372036854775807 < X.size + 1 := by omega
      by_cases g10 : b = 10
      · subst g10
        have HY := hide (unhide h10 rfl)
        clear h10 hno
        go_wp2
        go_roundw
        case rel => exact ⟨k + 1, by omega, by go_num, by rw [unhide HR, unhide HY], by first | exact rfl | trivial⟩
        case measure => simp [intOf]; omega
      · have n10 : ((b : Int) == 10) = false := bneI (by omega)
        have HY := hide (unhide hno g10)
        clear h10 hno
        go_wp2
        go_roundw
        case rel => exact ⟨k + 1, by omega, by go_num, by rw [unhide HR, unhide HY], by first | exact rfl | trivial⟩
        case measure => simp [intOf]; omega
    · have hpi : ¬ (k : Int) < (s.size : Int) := by omega
      have HF : Hid (bs (flatL (s.data.toList.take k)) = bs (flatL s.data.toList)) := hide (by rw [List.take_of_length_le (by omega)])
      generalize bs (flatL (s.data.toList.take k)) = X at *
      clear hz hdl
      go_wp2
      go_ret
      exact ⟨by rw [← unhide HF]; rfl, rfl⟩
def KeepN6 (b : Nat) (k sp : Int) (n : ByteArray) (qa : Option Addr) (al ca : Nat) (tx : ByteArray) (qk : Option Addr) (kl ck : Nat) (W : World) : Prop :=
  W.cell? ⟨b, 0, none⟩ = some (.int .i64 k) ∧ W.cell? ⟨b, 1, none⟩ = some (.int .i64 sp) ∧ W.cell? ⟨b, 2, none⟩ = some (.string n) ∧ W.cell? ⟨b, 3, none⟩ = some (.slice qa al ca) ∧ W.cell? ⟨b, 4, none⟩ = some (.string tx) ∧ W.cell? ⟨b, 5, none⟩ = some (.slice qk kl ck)
theorem KeepN6.of {b : Nat} {k sp : Int} {n : ByteArray} {qa : Option Addr} {al ca : Nat} {tx : ByteArray} {qk : Option Addr} {kl ck : Nat} {W : World} {t : TypeId} (h : Blk W b #[.int .i64 k, .int .i64 sp, .string n, .slice qa al ca, .string tx, .slice qk kl ck] t) : KeepN6 b k sp n qa al ca tx qk kl ck W := ⟨h.cell 0, h.cell 1, h.cell 2, h.cell 3, h.cell 4, h.cell 5⟩
end Go.Proofs.YtfbgpodcdgmpjaaDoor
