/-
  What 'chars.Ready' does: of every text, it made ready, or that it is too long.
-/
import Derived.Test.YtgdhnpjblnhjmaaDoorCBl
import Derived.Test.YtgdhnpjblnhjmaaDoorBw
import Derived.Test.YtgdhnpjblnhjmaaDoorUCln
namespace Go.Proofs.YtgdhnpjblnhjmaaDoor
open Go.RowKit
set_option linter.unusedVariables false

def prevB (l : List UInt8) (k : Nat) : Bool := decide (0 < k ∧ dgt l (k - 1) = 13)
theorem prev_next (l : List UInt8) (k : Nat) (b : Bool) (h : (dgt l k = 13) = (b = true)) : prevB l (k + 1) = b := by
  cases b with
  | true => have : dgt l k = 13 := by rw [h]
            simp [prevB, this]
  | false => have : ¬ dgt l k = 13 := by rw [h]; simp
             simp [prevB, this]
theorem rd_13 {l : List UInt8} {k : Nat} (hk : k < l.length) (h : dgt l k = 13) (p : Bool) : rdP p (l.drop k) = byt ((10 : Nat) : Int) :: rdP (prevB l (k + 1)) (l.drop (k + 1)) := by
  obtain ⟨c, hc, hn⟩ := drop_at l k hk
  rw [prev_next l k true (by simp [h]), hc, rdP, if_pos (by omega)]
  rfl
theorem rd_10 {l : List UInt8} {k : Nat} (hk : k < l.length) (h : dgt l k = 10) (h0 : 0 < k) (hp : dgt l (k - 1) = 13) : rdP (prevB l k) (l.drop k) = rdP (prevB l (k + 1)) (l.drop (k + 1)) := by
  obtain ⟨c, hc, hn⟩ := drop_at l k hk
  have hpb : prevB l k = true := by simp [prevB, h0, hp]
  rw [prev_next l k false (by simp [h]), hc, rdP, if_neg (by omega), if_pos ⟨by omega, hpb⟩]
theorem rd_0 {l : List UInt8} {k : Nat} (hk : k < l.length) (h : dgt l k = 0) (p : Bool) : rdP p (l.drop k) = ub 65533 ++ rdP (prevB l (k + 1)) (l.drop (k + 1)) := by
  obtain ⟨c, hc, hn⟩ := drop_at l k hk
  rw [prev_next l k false (by simp [h]), hc, rdP, if_neg (by omega), if_neg (by omega), if_pos (by omega)]
theorem rd_other {l : List UInt8} {k : Nat} (hk : k < l.length) (h13 : ¬ dgt l k = 13) (h0 : ¬ dgt l k = 0) (h : ¬ (dgt l k = 10 ∧ 0 < k ∧ dgt l (k - 1) = 13)) : rdP (prevB l k) (l.drop k) = byt (dgt l k : Int) :: rdP (prevB l (k + 1)) (l.drop (k + 1)) := by
  obtain ⟨c, hc, hn⟩ := drop_at l k hk
  rw [prev_next l k false (by simp [h13]), hc, rdP, if_neg (by omega), if_neg (by rw [hn, prevB]; simp; omega), if_neg (by omega), ← hn, byt_self]

theorem writeTen (B b : Nat) (l : List UInt8) (w : World) (h : Bld B b l w) (hlen : l.length + 1 ≤ 140737488355328) (hBw : B ≤ w.heap.size) :
    Calls Tryd.prog 29 #[.pointer (some ⟨b, 0, none⟩), .int .u8 10] w fun e w' => e = .returned .nilIface ∧ Bld B b (l ++ [byt ((10 : Nat) : Int)]) w' ∧ Below B w w' :=
  writeByte_any B b l 10 w (by decide) h hlen hBw

theorem ready_long (s : ByteArray) (w : World) (h : 4000 < s.size) (hs : s.size ≤ 9223372036854775807) :
    Calls Tryd.prog 9 #[.string s] w fun e w' => e = .returned (.tuple #[.string ⟨#[]⟩, .int .i64 2]) ∧ Below w.heap.size w w' := by
  have hi : (4000 : Int) < (s.size : Int) := by omega
  go_enter Tryd.func9, Tryd.ntmps9
  go_wp2
  go_ret2
  exact ⟨rfl, Below.refl _ _⟩

set_option maxHeartbeats 400000 in
theorem ready_empty (s : ByteArray) (w : World) (ht : Tabs w) (h0 : s.size = 0) :
    Calls Tryd.prog 9 #[.string s] w fun e w' => e = .returned (.tuple #[.string (bs []), .int .i64 0]) ∧ Below w.heap.size w w' := by
  have HT := hide ht
  clear ht
  have CB := hide (fun w h => bytes_any 65533 w h)
  rw [strange] at CB
  have CC := hide (fun w h => clean_any ⟨#[]⟩ w h (by decide))
  have hcz : bs (cleanL (⟨#[]⟩ : ByteArray).data.toList) = bs [] := rfl
  rw [hcz] at CC
  generalize bs [] = z at *
  go_enter Tryd.func9, Tryd.ntmps9
  go_wp2_with fail
  refine (unhide CB _ (unhide HT)).mono ?_
  rintro e w1 ⟨rfl, hb1⟩
  go_wp2
  refine wp_loop_rounds 1 ?_
  rw [rounds_succ]; go_wp2_with fail
  refine (string_nil w1.heap.size (.pointer none) _ (heap_alloc_new _ _)).mono ?_
  rintro e w2 ⟨rfl, hb2⟩
  go_wp2_with fail
  refine (unhide CC _ (((unhide HT).below hb1).below (bel_of hb2))).mono ?_
  rintro e w3 ⟨rfl, hb3⟩
  go_wp2
  go_ret2
  exact ⟨rfl, tr3 hb1 (bel_of hb2) hb3⟩

set_option maxHeartbeats 2000000 in
theorem ready_some (s : ByteArray) (w : World) (ht : Tabs w) (hs : s.size ≤ 4000) (hp0 : 0 < s.size) :
    Calls Tryd.prog 9 #[.string s] w fun e w' => e = .returned (.tuple #[.string (bs (cleanL (rdP false s.data.toList))), .int .i64 0]) ∧ Below w.heap.size w w' := by
  have HT := hide ht
  clear ht
  have hsi : (s.size : Int) ≤ 4000 := by omega
  have CB := hide (fun w h => bytes_any 65533 w h)
  rw [strange] at CB
  have hsz : (bs (ub 65533)).size = 3 := rfl
  have HS := hide hsz
  clear hsz
  go_enter Tryd.func9, Tryd.ntmps9
  go_wp2_with fail
  refine (unhide CB _ (unhide HT)).mono ?_
  rintro e w1 ⟨rfl, hb1⟩
  have hz1 := hb1.size
  go_wp2
  go_loopw [13] (fun i wr => ∃ (k : Nat) (acc : List UInt8), k ≤ s.size ∧ i = .int .i64 k ∧ acc.length ≤ 3 * k ∧ (0 < k → acc ≠ []) ∧ rdP false s.data.toList = acc ++ rdP (prevB s.data.toList k) (s.data.toList.drop k) ∧ Bld w1.heap.size w1.heap.size acc wr ∧ Below w1.heap.size w1 wr) (fun i _ => s.size - (intOf i).toNat)
  case atStart => exact ⟨0, [], Nat.zero_le _, rfl, by simp, fun h => by omega, rfl, bld_new w1, (Below.refl _ _).alloc (Nat.le_refl _) _⟩
  case round =>
    obtain ⟨k, acc, hk, rfl, hal, hne, hr, hB, hbw⟩ := hrel
    have HR := hide hr
    have HN := hide hne
    have hzw := hbw.size
    clear hr hne
    by_cases hp : k < s.size
    · have hpi : (k : Int) < (s.size : Int) := by omega
      have hkl : k < s.data.toList.length := by rw [data_len]; exact hp
      have e := dgt_at s k hp
      have e2 := dgt_at s (k - 1) (by omega)
      have hblt := dgt_lt s.data.toList k
      have s1 := fun h => rd_13 hkl h (prevB s.data.toList k)
      have s2 := rd_10 hkl
      have s3 := fun h => rd_0 hkl h (prevB s.data.toList k)
      have s4 := rd_other hkl
      generalize hdk : dgt s.data.toList k = b at *
      generalize hdp : dgt s.data.toList (k - 1) = b2 at *
      clear hdk hdp
      by_cases h13 : b = 13
      · subst h13
        have S := hide (s1 rfl)
        clear s1 s2 s3 s4 e2
        go_wp2_with fail
        refine (writeTen _ _ _ _ hB (by omega) (by omega)).mono ?_
        rintro e1 w2 ⟨rfl, B2, hb2⟩
        go_wp2
        go_roundw
        case rel => exact ⟨k + 1, acc ++ [byt ((10 : Nat) : Int)], by omega, by go_num, by simp; omega, fun _ => by simp, by rw [unhide HR, unhide S, List.append_assoc]; rfl, B2, hbw.trans hb2⟩
        case measure => simp [intOf]; omega
      have n13 : ((b : Int) == 13) = false := bneI (by omega)
      by_cases h0 : b = 0
      · subst h0
        have S := hide (s3 rfl)
        clear s1 s2 s3 s4 e2 h13
        go_wp2_with fail
        refine (writeString_any _ _ _ _ _ hB (by rw [unhide HS]; omega) (by omega)).mono ?_
        rintro e1 w2 ⟨rfl, B2, hb2⟩
        rw [bs_toList] at B2
        go_wp2
        go_roundw
        case rel => exact ⟨k + 1, acc ++ ub 65533, by omega, by go_num, by
          have e3 : (ub 65533).length = 3 := rfl
          rw [List.length_append, e3]; omega, fun _ h => by
          have := congrArg List.length h
          have e3 : (ub 65533).length = 3 := rfl
          rw [List.length_append, e3] at this; simp at this, by rw [unhide HR, unhide S, List.append_assoc], B2, hbw.trans hb2⟩
        case measure => simp [intOf]; omega
      have n0 : ((b : Int) == 0) = false := bneI (by omega)
      by_cases h10 : b = 10
      · subst h10
        by_cases hk0 : 0 < k
        · have hk0i : (0 : Int) < (k : Int) := by omega
          have hi0 : (0 : Int) ≤ (k : Int) - 1 := by omega
          have hi1 : (k : Int) - 1 < (s.size : Int) := by omega
          have hi2 : ((k : Int) - 1).toNat = k - 1 := by omega
          by_cases h2 : b2 = 13
          · subst h2
            have S := hide (s2 rfl hk0 rfl)
            clear s1 s2 s3 s4 h13 h0
            go_wp2
            go_roundw
            case rel => exact ⟨k + 1, acc, by omega, by go_num, by omega, fun _ => unhide HN hk0, by rw [unhide HR, unhide S], hB, hbw⟩
            case measure => simp [intOf]; omega
          · have n2 : ((b2 : Int) == 13) = false := bneI (by omega)
            have S := hide (s4 h13 h0 (by omega))
            clear s1 s2 s3 s4 h13 h0 h2
            go_wp2_with fail
            refine (writeTen _ _ _ _ hB (by omega) (by omega)).mono ?_
            rintro e1 w2 ⟨rfl, B2, hb2⟩
            go_wp2
            go_roundw
            case rel => exact ⟨k + 1, acc ++ [byt ((10 : Nat) : Int)], by omega, by go_num, by simp; omega, fun _ => by simp, by rw [unhide HR, unhide S, List.append_assoc]; rfl, B2, hbw.trans hb2⟩
            case measure => simp [intOf]; omega
        · have S := hide (s4 h13 h0 (by omega))
          have hd1 : ¬ (0 : Int) < (k : Int) := by omega
          clear s1 s2 s3 s4 h13 h0 e2
          go_wp2_with fail
          refine (writeTen _ _ _ _ hB (by omega) (by omega)).mono ?_
          rintro e1 w2 ⟨rfl, B2, hb2⟩
          go_wp2
          go_roundw
          case rel => exact ⟨k + 1, acc ++ [byt ((10 : Nat) : Int)], by omega, by go_num, by simp; omega, fun _ => by simp, by rw [unhide HR, unhide S, List.append_assoc]; rfl, B2, hbw.trans hb2⟩
          case measure => simp [intOf]; omega
      · have n10 : ((b : Int) == 10) = false := bneI (by omega)
        have S := hide (s4 h13 h0 (by omega))
        clear s1 s2 s3 s4 h13 h0 h10 e2
        go_wp2_with fail
        refine (writeByte_any _ _ _ b _ hblt hB (by omega) (by omega)).mono ?_
        rintro e1 w2 ⟨rfl, B2, hb2⟩
        go_wp2
        go_roundw
        case rel => exact ⟨k + 1, acc ++ [byt (b : Int)], by omega, by go_num, by simp; omega, fun _ => by simp, by rw [unhide HR, unhide S, List.append_assoc]; rfl, B2, hbw.trans hb2⟩
        case measure => simp [intOf]; omega
    · have hd : s.data.toList.drop k = [] := List.drop_eq_nil_of_le (by rw [data_len]; omega)
      have hf : rdP false s.data.toList = acc := by rw [unhide HR, hd, rdP, List.append_nil]
      have hne := unhide HN (by omega)
      have CC := hide (fun w h => clean_any (bs acc) w h (by rw [bs_size]; omega))
      rw [bs_toList] at CC
      have HF := hide hf
      have hbs : (⟨acc.toArray⟩ : ByteArray) = bs acc := rfl
      clear hf hd
      go_wp2_with fail
      refine (string_any _ _ _ _ hB hne).mono ?_
      rintro e w2 ⟨rfl, hb2⟩
      rw [hbs]
      go_wp2_with fail
      refine (unhide CC _ (((unhide HT).below hb1).below (hbw.trans hb2))).mono ?_
      rintro e w3 ⟨rfl, hb3⟩
      go_wp2
      go_ret2
      exact ⟨by rw [unhide HF]; rfl, tr3 hb1 (hbw.trans hb2) hb3⟩

theorem ready_any (s : ByteArray) (w : World) (ht : Tabs w) (hs : s.size ≤ 4000) :
    Calls Tryd.prog 9 #[.string s] w fun e w' => e = .returned (.tuple #[.string (bs (readyL s.data.toList)), .int .i64 0]) ∧ Below w.heap.size w w' := by
  rw [readyL, ← rd_same]
  by_cases h0 : s.size = 0
  · have : s.data.toList = [] := List.eq_nil_of_length_eq_zero (by rw [data_len]; exact h0)
    rw [this]
    exact ready_empty s w ht h0
  · exact ready_some s w ht hs (by omega)
end Go.Proofs.YtgdhnpjblnhjmaaDoor
