/-
  The law QuillBack walked: what was written is read, whatever is behind it.
-/
import Derived.Test.YtekkgmgdihlefaaPw
import Derived.Test.YtekkgmgdihlefaaPn
import Derived.Test.YtekkgmgdihlefaaTw
namespace Go.Proofs.Ytekkgmgdihlefaa
open Go.RowKit
set_option linter.unusedVariables false

theorem app_size (l : List UInt8) (b : ByteArray) : (bs l ++ b).size = l.length + b.size := by
  rw [bs_add, bs_size, List.length_append]; simp
theorem app_toList (l : List UInt8) (b : ByteArray) : (bs l ++ b).data.toList = l ++ b.data.toList := by rw [bs_add, bs_toList]

theorem back_num (n : Int) (b : ByteArray) (h0 : 0 ≤ n) (h1 : n ≤ 1099511627776) (hb : b.size ≤ 10000) :
    ∀ w, Calls Try.prog 17 #[.string (bs (nb n) ++ b)] w fun e w' => e = .returned (.tuple #[.int .i64 n, .string b, .int .i64 0]) ∧ Below w.heap.size w w' := by
  intro w
  have hz := nb_size n
  rw [bs_size] at hz
  have := takeNum_any (bs (nb n) ++ b) w (by rw [app_size]; omega)
  rw [app_toList, takeNV, takeN_nb n _ h0 h1] at this
  simp only [List.drop_left, bs_self] at this
  exact this

theorem back_list (ss : List ByteArray) (b : ByteArray) (hn : ss.length ≤ 1000) (h : ∀ s ∈ ss, s.size ≤ 65536) (hb : b.size ≤ 10000) :
    ∀ w, Calls Try.prog 21 #[.string (bs (lb ss.length ss) ++ b)] w fun e w' => ∃ v, e = .returned (.tuple #[v, .string b, .int .i64 0]) ∧ w'.ownsRow w.heap.size 9 1 v ss.length (ss.map Value.string) ∧ Below w.heap.size w w' := by
  intro w
  have hz := lb_len ss.length ss h ss.length (Nat.le_refl _)
  rw [List.take_length] at hz
  have := takeList_any (bs (lb ss.length ss) ++ b) w (by rw [app_size]; omega)
  rw [app_toList, takeL_lb ss _ hn h] at this
  refine this.mono fun e w' hp => ?_
  obtain ⟨v, h1, h2, h3⟩ := hp
  rw [bs_self] at h1
  exact ⟨v, h1, h2, h3⟩

set_option maxHeartbeats 1000000 in
theorem back_11 (n : Int) (v : Value) (b : ByteArray) (ss : List ByteArray) (w : World) (hab : ABs) (hb : b.size ≤ 10000)
    (CL : Hid (∀ w, View w v ss → Calls Try.prog 9 #[v] w fun e w' => e = .returned (.bool false) ∧ Below w.heap.size w w')) (HW : Hid (View w v ss))
    (h0 : 0 ≤ n) (h1 : n ≤ 1099511627776)
    (hn : ss.length ≤ 1000) (hf : Hid (∀ s ∈ ss, s.size ≤ 65536)) (C5 : Hid (∀ w, View w v ss → Calls Try.prog 15 #[v] w fun e w' => e = .returned (.tuple #[.string (bs (lb ss.length ss)), .int .i64 0]) ∧ Below w.heap.size w w')) :
    Calls Try.prog 6 #[.int .i64 n, v, .string b] w fun e w' => e = .returned (.bool true) ∧ Below w.heap.size w w' := by
  have CN := hide (back_num n b h0 h1 hb)
  have hz := nb_size n
  have CT := hide (back_list ss b hn (unhide hf) hb)
  have hz2 := lb_len ss.length ss (unhide hf) ss.length (Nat.le_refl _)
  rw [List.take_length, ← bs_size] at hz2
  go_enter Try.func6, Try.ntmps6
  go_wp2_with fail
  refine (unhide CL _ (unhide HW)).mono ?_
  rintro e w1 ⟨rfl, hb1⟩
  go_wp2_with fail
  refine (num_ok _ _ h0 h1).mono ?_
  rintro e w2 ⟨rfl, hb2⟩
  go_wp2_with fail
  refine (unhide CN _).mono ?_
  rintro e w3 ⟨rfl, hb3⟩
  have hb03 := tr3 hb1 hb2 hb3
  go_wp2_with fail
  refine (unhide C5 _ (view_below (unhide HW) hb03)).mono ?_
  rintro e w4 ⟨rfl, hb4⟩
  go_wp2_with fail
  refine (unhide CT _).mono ?_
  rintro e w5 ⟨v5, rfl, ho5, hb5⟩
  have hb05 := tr3 hb03 hb4 hb5
  go_wp2_with fail
  refine (texts_any _ _ ss ss _ (view_of_owns ho5) (view_below (unhide HW) hb05)).mono ?_
  rw [sameT_refl]
  rintro e w6 ⟨rfl, hb6⟩
  have hb06 := tr3 hb05 hb6 (Below.refl _ _)
  go_wp2_with fail
  refine (hab _).mono ?_
  rintro e w7 ⟨rfl, hb7⟩
  go_wp2
  go_ret
  exact ⟨rfl, tr3 hb06 hb7 (Below.refl _ _)⟩

set_option maxHeartbeats 1000000 in
theorem back_10 (n : Int) (v : Value) (b : ByteArray) (ss : List ByteArray) (w : World) (hab : ABs) (hb : b.size ≤ 10000)
    (CL : Hid (∀ w, View w v ss → Calls Try.prog 9 #[v] w fun e w' => e = .returned (.bool false) ∧ Below w.heap.size w w')) (HW : Hid (View w v ss))
    (h0 : 0 ≤ n) (h1 : n ≤ 1099511627776)
    (C5 : Hid (∀ w, View w v ss → Calls Try.prog 15 #[v] w fun e w' => e = .returned (.tuple #[.string ⟨#[]⟩, .int .i64 2]) ∧ Below w.heap.size w w')) :
    Calls Try.prog 6 #[.int .i64 n, v, .string b] w fun e w' => e = .returned (.bool true) ∧ Below w.heap.size w w' := by
  have CN := hide (back_num n b h0 h1 hb)
  have hz := nb_size n
  go_enter Try.func6, Try.ntmps6
  go_wp2_with fail
  refine (unhide CL _ (unhide HW)).mono ?_
  rintro e w1 ⟨rfl, hb1⟩
  go_wp2_with fail
  refine (num_ok _ _ h0 h1).mono ?_
  rintro e w2 ⟨rfl, hb2⟩
  go_wp2_with fail
  refine (unhide CN _).mono ?_
  rintro e w3 ⟨rfl, hb3⟩
  have hb03 := tr3 hb1 hb2 hb3
  go_wp2_with fail
  refine (unhide C5 _ (view_below (unhide HW) hb03)).mono ?_
  rintro e w4 ⟨rfl, hb4⟩
  have hb06 := tr3 hb03 hb4 (Below.refl _ _)
  go_wp2_with fail
  refine (hab _).mono ?_
  rintro e w7 ⟨rfl, hb7⟩
  go_wp2
  go_ret
  exact ⟨rfl, tr3 hb06 hb7 (Below.refl _ _)⟩

set_option maxHeartbeats 1000000 in
theorem back_01 (n : Int) (v : Value) (b : ByteArray) (ss : List ByteArray) (w : World) (hab : ABs) (hb : b.size ≤ 10000)
    (CL : Hid (∀ w, View w v ss → Calls Try.prog 9 #[v] w fun e w' => e = .returned (.bool false) ∧ Below w.heap.size w w')) (HW : Hid (View w v ss))
    (h : Hid (n < 0 ∨ 1099511627776 < n))
    (hn : ss.length ≤ 1000) (hf : Hid (∀ s ∈ ss, s.size ≤ 65536)) (C5 : Hid (∀ w, View w v ss → Calls Try.prog 15 #[v] w fun e w' => e = .returned (.tuple #[.string (bs (lb ss.length ss)), .int .i64 0]) ∧ Below w.heap.size w w')) :
    Calls Try.prog 6 #[.int .i64 n, v, .string b] w fun e w' => e = .returned (.bool true) ∧ Below w.heap.size w w' := by
  have CT := hide (back_list ss b hn (unhide hf) hb)
  have hz2 := lb_len ss.length ss (unhide hf) ss.length (Nat.le_refl _)
  rw [List.take_length, ← bs_size] at hz2
  go_enter Try.func6, Try.ntmps6
  go_wp2_with fail
  refine (unhide CL _ (unhide HW)).mono ?_
  rintro e w1 ⟨rfl, hb1⟩
  go_wp2_with fail
  refine (num_no _ _ (unhide h)).mono ?_
  rintro e w2 ⟨rfl, hb2⟩
  have hb3 := Below.refl w2.heap.size w2
  have hb03 := tr3 hb1 hb2 hb3
  go_wp2_with fail
  refine (unhide C5 _ (view_below (unhide HW) hb03)).mono ?_
  rintro e w4 ⟨rfl, hb4⟩
  go_wp2_with fail
  refine (unhide CT _).mono ?_
  rintro e w5 ⟨v5, rfl, ho5, hb5⟩
  have hb05 := tr3 hb03 hb4 hb5
  go_wp2_with fail
  refine (texts_any _ _ ss ss _ (view_of_owns ho5) (view_below (unhide HW) hb05)).mono ?_
  rw [sameT_refl]
  rintro e w6 ⟨rfl, hb6⟩
  have hb06 := tr3 hb05 hb6 (Below.refl _ _)
  go_wp2_with fail
  refine (hab _).mono ?_
  rintro e w7 ⟨rfl, hb7⟩
  go_wp2
  go_ret
  exact ⟨rfl, tr3 hb06 hb7 (Below.refl _ _)⟩

set_option maxHeartbeats 1000000 in
theorem back_00 (n : Int) (v : Value) (b : ByteArray) (ss : List ByteArray) (w : World) (hab : ABs) (hb : b.size ≤ 10000)
    (CL : Hid (∀ w, View w v ss → Calls Try.prog 9 #[v] w fun e w' => e = .returned (.bool false) ∧ Below w.heap.size w w')) (HW : Hid (View w v ss))
    (h : Hid (n < 0 ∨ 1099511627776 < n))
    (C5 : Hid (∀ w, View w v ss → Calls Try.prog 15 #[v] w fun e w' => e = .returned (.tuple #[.string ⟨#[]⟩, .int .i64 2]) ∧ Below w.heap.size w w')) :
    Calls Try.prog 6 #[.int .i64 n, v, .string b] w fun e w' => e = .returned (.bool true) ∧ Below w.heap.size w w' := by
  go_enter Try.func6, Try.ntmps6
  go_wp2_with fail
  refine (unhide CL _ (unhide HW)).mono ?_
  rintro e w1 ⟨rfl, hb1⟩
  go_wp2_with fail
  refine (num_no _ _ (unhide h)).mono ?_
  rintro e w2 ⟨rfl, hb2⟩
  have hb3 := Below.refl w2.heap.size w2
  have hb03 := tr3 hb1 hb2 hb3
  go_wp2_with fail
  refine (unhide C5 _ (view_below (unhide HW) hb03)).mono ?_
  rintro e w4 ⟨rfl, hb4⟩
  have hb06 := tr3 hb03 hb4 (Below.refl _ _)
  go_wp2_with fail
  refine (hab _).mono ?_
  rintro e w7 ⟨rfl, hb7⟩
  go_wp2
  go_ret
  exact ⟨rfl, tr3 hb06 hb7 (Below.refl _ _)⟩

set_option maxHeartbeats 1000000 in
theorem back_walk (n : Int) (a : Option Addr) (len cap : Nat) (b : ByteArray) (ss : List ByteArray) (w : World) (hv : View w (.slice a len cap) ss) (hbig : ∀ t ∈ ss, t.size ≤ 9223372036854775807) (hs : b.size ≤ 9223372036854775807) :
    Calls Try.prog 6 #[.int .i64 n, .slice a len cap, .string b] w fun e w' => e = .returned (.bool true) ∧ Below w.heap.size w w' := by
  have hab := ab_ok
  obtain ⟨v, hvv⟩ : ∃ v, v = Value.slice a len cap := ⟨_, rfl⟩
  rw [← hvv] at hv ⊢
  clear hvv
  have CL := hide (fun w (h : View w v ss) => long_any v ss w h hbig)
  have HW := hide hv
  cases hl : longB ss with
  | true =>
    rw [hl] at CL
    clear hl hv
    go_enter Try.func6, Try.ntmps6
    go_wp2_with fail
    refine (unhide CL _ (unhide HW)).mono ?_
    rintro e w1 ⟨rfl, hb1⟩
    go_wp2_with fail
    refine (hab _).mono ?_
    rintro e w2 ⟨rfl, hb2⟩
    go_wp2
    go_ret
    exact ⟨rfl, tr3 hb1 hb2 (Below.refl _ _)⟩
  | false =>
    rw [hl] at CL
    clear hl
    by_cases h5 : 10000 < b.size
    · clear hv
      go_enter Try.func6, Try.ntmps6
      go_wp2_with fail
      refine (unhide CL _ (unhide HW)).mono ?_
      rintro e w1 ⟨rfl, hb1⟩
      go_wp2_with fail
      refine (hab _).mono ?_
      rintro e w2 ⟨rfl, hb2⟩
      go_wp2
      go_ret
      exact ⟨rfl, tr3 hb1 hb2 (Below.refl _ _)⟩
    · have h6 : b.size ≤ 10000 := by omega
      by_cases hn : 1000 < ss.length
      · have C5 := hide (fun w hv => list_long v ss w hv hn)
        by_cases h : n < 0 ∨ 1099511627776 < n
        · exact back_00 n v b ss w hab h6 CL HW (hide h) C5
        · exact back_10 n v b ss w hab h6 CL HW (by omega) (by omega) C5
      · by_cases hf : fits ss = true
        · have C5 : Hid (∀ w, View w v ss → Calls Try.prog 15 #[v] w fun e w' => e = .returned (.tuple #[.string (bs (lb ss.length ss)), .int .i64 0]) ∧ Below w.heap.size w w') := by
            intro w hv
            have := list_any v ss w hv (by omega) hbig
            rw [listV, if_pos hf] at this; exact this
          by_cases h : n < 0 ∨ 1099511627776 < n
          · exact back_01 n v b ss w hab h6 CL HW (hide h) (by omega) (hide ((fits_iff ss).1 hf)) C5
          · exact back_11 n v b ss w hab h6 CL HW (by omega) (by omega) (by omega) (hide ((fits_iff ss).1 hf)) C5
        · have C5 : Hid (∀ w, View w v ss → Calls Try.prog 15 #[v] w fun e w' => e = .returned (.tuple #[.string ⟨#[]⟩, .int .i64 2]) ∧ Below w.heap.size w w') := by
            intro w hv
            have := list_any v ss w hv (by omega) hbig
            rw [listV, if_neg hf] at this; exact this
          by_cases h : n < 0 ∨ 1099511627776 < n
          · exact back_00 n v b ss w hab h6 CL HW (hide h) C5
          · exact back_10 n v b ss w hab h6 CL HW (by omega) (by omega) C5
end Go.Proofs.Ytekkgmgdihlefaa
