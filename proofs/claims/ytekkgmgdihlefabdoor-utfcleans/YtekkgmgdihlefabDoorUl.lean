/-
  What 'utf.Clean' does: of every text that isn't too long, it cleaned; and the law UtfStays walked.
-/
import Derived.Test.YtekkgmgdihlefabDoorUc
namespace Go.Proofs.YtekkgmgdihlefabDoor
open Go.RowKit
set_option linter.unusedVariables false

set_option maxHeartbeats 400000 in
theorem clean_empty (s : ByteArray) (w : World) (ht : Tabs w) (h0 : s.size = 0) :
    Calls Tryd.prog 16 #[.string s] w fun e w' => e = .returned (.string (bs [])) ∧ Below w.heap.size w w' := by
  have he := is_empty s h0
  have HT := hide ht
  clear ht
  have CB := hide (fun w h => bytes_any 65533 w h)
  go_enter Tryd.func16, Tryd.ntmps16
  go_wp2_with fail
  refine (unhide CB _ (unhide HT)).mono ?_
  rintro e w1 ⟨rfl, hb1⟩
  go_wp2
  refine wp_loop_rounds 1 ?_
  rw [rounds_succ]; go_wp2_with fail
  refine (string_nil w1.heap.size (.pointer none) _ (heap_alloc_new _ _)).mono ?_
  rintro e w2 ⟨rfl, hb2⟩
  go_wp2
  go_ret
  exact ⟨rfl, tr2 hb1 (bel_of hb2)⟩

theorem strange : str (utfI 65533) = bs (ub 65533) := rfl

set_option maxHeartbeats 1000000 in
theorem clean_some (s : ByteArray) (w : World) (ht : Tabs w) (hs : s.size ≤ 100000) (hp0 : 0 < s.size) :
    Calls Tryd.prog 16 #[.string s] w fun e w' => e = .returned (.string (bs (cleanL s.data.toList))) ∧ Below w.heap.size w w' := by
  have HT := hide ht
  clear ht
  have CB := hide (fun w h => bytes_any 65533 w h)
  rw [strange] at CB
  have hsz : (bs (ub 65533)).size = 3 := rfl
  have HS := hide hsz
  clear hsz
  have hnonempty : cleanL s.data.toList ≠ [] := by rw [cleanL_cons (ne_of_size hp0)]; exact ub_ne _ _
  have HN := hide hnonempty
  clear hnonempty
  go_enter Tryd.func16, Tryd.ntmps16
  go_wp2_with fail
  refine (unhide CB _ (unhide HT)).mono ?_
  rintro e w1 ⟨rfl, hb1⟩
  have hz1 := hb1.size
  go_wp2
  go_loopw [0] (fun t wr => ∃ (x : ByteArray) (l : List UInt8), t = .string x ∧ x.size ≤ s.size ∧ l.length + 3 * x.size ≤ 3 * s.size ∧ cleanL s.data.toList = l ++ cleanL x.data.toList ∧ Bld w1.heap.size w1.heap.size l wr ∧ Below w1.heap.size w1 wr) (fun t _ => match t with | .string x => x.size | _ => 0)
  case atStart => exact ⟨s, [], rfl, Nat.le_refl _, by simp, by simp, bld_new w1, (Below.refl _ _).alloc (Nat.le_refl _) _⟩
  case round =>
    obtain ⟨x, l, rfl, hx, hl, hr, hB, hbw⟩ := hrel
    have HR := hide hr
    clear hr
    by_cases h0 : x.size = 0
    · have he := is_empty x h0
      have hf : cleanL s.data.toList = l := by
        have : x.data.toList = [] := List.eq_nil_of_length_eq_zero (by rw [data_len]; exact h0)
        rw [unhide HR, this, cleanL_nil, List.append_nil]
      have hln : l ≠ [] := by rw [← hf]; exact unhide HN
      have HF := hide hf
      clear hf
      go_wp2_with fail
      refine (string_any _ _ _ _ hB hln).mono ?_
      rintro e w2 ⟨rfl, hb2⟩
      go_wp2
      go_ret
      exact ⟨by rw [unhide HF]; rfl, tr2 hb1 (hbw.trans hb2)⟩
    · have hp : 0 < x.size := by omega
      have hne := ne_of_size hp
      have he := not_empty x hp
      have hok := step_ok hne
      rw [data_len] at hok
      have C1 := hide (firstIs x (by omega) hp)
      have C2 := hide (wrongIs hne)
      have hcons := cleanL_cons hne
      have htk := @step_take _ hne
      have hno := @step_no x.data.toList
      have HX := hide (rest_of x)
      have HX0 := hide (Lib.Pa.extract_upto x)
      generalize hstep : step x.data.toList = st at *
      obtain ⟨c, n, ok⟩ := st
      simp only at hok C1 C2 hcons htk hno
      have hn1 : (1 : Int) ≤ (n : Int) := by omega
      have hn00 : (0 : Int) ≤ (n : Int) := by omega
      have hn2 : (n : Int) ≤ (x.size : Int) := by omega
      have hn0 : 1 ≤ n := by omega
      have hn3 : n ≤ x.size := by omega
      have HC := hide hcons
      have hzw := hbw.size
      clear hcons hstep hok hne
      cases ok with
      | false =>
        have h2 := hno rfl
        have hc := h2.1
        have hn := h2.2
        have HCc := hide hc
        have HNn := hide hn
        clear htk hno h2 hc hn
        go_wp2_with fail
        refine (unhide C1 _ (((unhide HT).below hb1).below hbw)).mono ?_
        rintro e w2 ⟨rfl, hb2⟩
        have B2 := bld_below hB hb2
        have hz2 := hb2.size
        go_wp2_with fail
        refine (unhide C2 _).mono ?_
        rintro e w3 ⟨rfl, rfl⟩
        go_wp2_with fail
        refine (writeString_any _ _ _ _ _ B2 (by rw [unhide HS]; omega) (by omega)).mono ?_
        rintro e w4 ⟨rfl, B4, hb4⟩
        rw [bs_toList] at B4
        go_wp2
        go_roundw
        case rel => exact ⟨x.extract n x.size, l ++ ub 65533, rfl, by simp; omega, by
            have e3 : (ub 65533).length = 3 := rfl
            have := unhide HNn
            rw [List.length_append, e3]; simp; omega, by
            rw [unhide HR, unhide HC, unhide HX, bs_toList, unhide HCc, List.append_assoc], B4, (hbw.trans (hb2.mono hzw)).trans hb4⟩
        case measure => simp; omega
      | true =>
        have h2 := htk rfl
        have htake := h2.1
        have hsz := h2.2
        have HTK := hide htake
        have HSZ := hide hsz
        clear htk hno h2 htake hsz
        go_wp2_with fail
        refine (unhide C1 _ (((unhide HT).below hb1).below hbw)).mono ?_
        rintro e w2 ⟨rfl, hb2⟩
        have B2 := bld_below hB hb2
        have hz2 := hb2.size
        go_wp2_with fail
        refine (unhide C2 _).mono ?_
        rintro e w3 ⟨rfl, rfl⟩
        go_wp2_with fail
        refine (writeString_any _ _ _ _ _ B2 (by simp; omega) (by omega)).mono ?_
        rintro e w4 ⟨rfl, B4, hb4⟩
        rw [unhide HX0] at B4
        go_wp2
        go_roundw
        case rel => exact ⟨x.extract n x.size, l ++ ub c, rfl, by simp; omega, by
            have e3 := ub_len c
            have := unhide HSZ
            rw [List.length_append, e3]; simp; omega, by
            rw [unhide HR, unhide HC, unhide HX, bs_toList, List.append_assoc], by
            rw [← unhide HTK]; exact B4, (hbw.trans (hb2.mono hzw)).trans hb4⟩
        case measure => simp; omega

theorem clean_any (s : ByteArray) (w : World) (ht : Tabs w) (hs : s.size ≤ 100000) :
    Calls Tryd.prog 16 #[.string s] w fun e w' => e = .returned (.string (bs (cleanL s.data.toList))) ∧ Below w.heap.size w w' := by
  by_cases h0 : s.size = 0
  · have : s.data.toList = [] := List.eq_nil_of_length_eq_zero (by rw [data_len]; exact h0)
    rw [this]
    exact clean_empty s w ht h0
  · exact clean_some s w ht hs (by omega)

def CleanIs (s x : ByteArray) : Prop := ∀ w, Tabs w → Calls Tryd.prog 16 #[.string s] w fun e w' => e = .returned (.string x) ∧ Below w.heap.size w w'
def RightIs (s : ByteArray) (b : Bool) : Prop := ∀ w, Tabs w → Calls Tryd.prog 18 #[.string s] w fun e w' => e = .returned (.bool b) ∧ Below w.heap.size w w'
def CountIs (s : ByteArray) (n : Nat) : Prop := ∀ w, Tabs w → Calls Tryd.prog 19 #[.string s] w fun e w' => e = .returned (.int .i64 n) ∧ Below w.heap.size w w'

set_option maxHeartbeats 1000000 in
theorem stays_main (s t a b : ByteArray) (k m : Nat) (r : Bool) (w : World) (ht : Tabs w) (hab : Euro) (hs : s.size ≤ 3000) (hts : t.size ≤ 3000) (ha : a.size ≤ 9000) (hb : b.size ≤ 9000) (hk : k ≤ 9000) (hm : m ≤ 9000)
    (Ca : CleanIs s a) (Cb : CleanIs t b) (Ra : RightIs a true) (Caa : CleanIs a a) (Rab : RightIs (a ++ b) true) (Nab : CountIs (a ++ b) (k + m)) (Na : CountIs a k) (Nb : CountIs b m) (Ns : CountIs s k) (Rs : RightIs s r)
    (hr : (a.toList == s.toList) = r) :
    Calls Tryd.prog 7 #[.string s, .string t] w fun e w' => e = .returned (.bool true) ∧ Below w.heap.size w w' := by
  have HT := hide ht
  clear ht
  have hrr : (r == r) = true := by simp
  go_enter Tryd.func7, Tryd.ntmps7
  go_wp2_with fail
  refine (Ca _ (unhide HT)).mono ?_
  rintro e w1 ⟨rfl, hb1⟩
  go_wp2_with fail
  refine (Cb _ ((unhide HT).below hb1)).mono ?_
  rintro e w2 ⟨rfl, hb2⟩
  have hc2 := tr2 hb1 hb2
  go_wp2_with fail
  refine (Ra _ ((unhide HT).below hc2)).mono ?_
  rintro e w3 ⟨rfl, hb3⟩
  have hc3 := tr2 hc2 hb3
  go_wp2_with fail
  refine (Caa _ ((unhide HT).below hc3)).mono ?_
  rintro e w4 ⟨rfl, hb4⟩
  have hc4 := tr2 hc3 hb4
  go_wp2_with fail
  refine (Rab _ ((unhide HT).below hc4)).mono ?_
  rintro e w5 ⟨rfl, hb5⟩
  have hc5 := tr2 hc4 hb5
  go_wp2_with fail
  refine (Nab _ ((unhide HT).below hc5)).mono ?_
  rintro e w6 ⟨rfl, hb6⟩
  have hc6 := tr2 hc5 hb6
  go_wp2_with fail
  refine (Na _ ((unhide HT).below hc6)).mono ?_
  rintro e w7 ⟨rfl, hb7⟩
  have hc7 := tr2 hc6 hb7
  go_wp2_with fail
  refine (Nb _ ((unhide HT).below hc7)).mono ?_
  rintro e w8 ⟨rfl, hb8⟩
  have hc8 := tr2 hc7 hb8
  go_wp2_with fail
  refine (Na _ ((unhide HT).below hc8)).mono ?_
  rintro e w9 ⟨rfl, hb9⟩
  have hc9 := tr2 hc8 hb9
  go_wp2_with fail
  refine (Ns _ ((unhide HT).below hc9)).mono ?_
  rintro e w10 ⟨rfl, hb10⟩
  have hc10 := tr2 hc9 hb10
  go_wp2_with fail
  refine (Rs _ ((unhide HT).below hc10)).mono ?_
  rintro e w11 ⟨rfl, hb11⟩
  have hc11 := tr2 hc10 hb11
  go_wp2_with fail
  refine (hab _ ((unhide HT).below hc11)).mono ?_
  rintro e w12 ⟨rfl, hb12⟩
  go_wp2
  go_ret
  exact ⟨rfl, tr2 hc11 hb12⟩

theorem utfStays_walk (s t : ByteArray) (w : World) (ht : Tabs w) (hs : s.size ≤ 9223372036854775807) (hts : t.size ≤ 9223372036854775807) :
    Calls Tryd.prog 7 #[.string s, .string t] w fun e w' => e = .returned (.bool true) ∧ Below w.heap.size w w' := by
  have hab := euro_any
  by_cases h1 : 3000 < s.size
  · have HT := hide ht
    clear ht
    go_enter Tryd.func7, Tryd.ntmps7
    go_wp2_with fail
    refine (hab _ (unhide HT)).mono ?_
    rintro e w5 ⟨rfl, hb5⟩
    go_wp2
    go_ret
    exact ⟨rfl, hb5⟩
  have h1' : s.size ≤ 3000 := by omega
  clear h1
  by_cases h2 : 3000 < t.size
  · have HT := hide ht
    clear ht
    go_enter Tryd.func7, Tryd.ntmps7
    go_wp2_with fail
    refine (hab _ (unhide HT)).mono ?_
    rintro e w5 ⟨rfl, hb5⟩
    go_wp2
    go_ret
    exact ⟨rfl, hb5⟩
  have h2' : t.size ≤ 3000 := by omega
  clear h2
  have ls := data_len s
  have lt := data_len t
  have za := cleanL_len s.size s.data.toList (by omega)
  have zb := cleanL_len t.size t.data.toList (by omega)
  have ka := ch_len s.size s.data.toList (by omega)
  have kb := ch_len t.size t.data.toList (by omega)
  have sa := bs_size (cleanL s.data.toList)
  have sb := bs_size (cleanL t.data.toList)
  have sab : (bs (cleanL s.data.toList) ++ bs (cleanL t.data.toList)).size ≤ 18000 := by rw [ByteArray.size_append]; omega
  have tab : (bs (cleanL s.data.toList) ++ bs (cleanL t.data.toList)).data.toList = cleanL s.data.toList ++ cleanL t.data.toList := by rw [bs_bs, bs_toList]
  refine stays_main s t (bs (cleanL s.data.toList)) (bs (cleanL t.data.toList)) (ch s.data.toList).length (ch t.data.toList).length (rightB s.data.toList) w ht hab h1' h2' (by omega) (by omega) (by omega) (by omega)
    (fun w h => clean_any s w h (by omega)) (fun w h => clean_any t w h (by omega)) ?_ ?_ ?_ ?_ ?_ ?_ (fun w h => count_any s w h hs) (fun w h => right_any s w h hs) ?_
  · intro w h
    have := right_any (bs (cleanL s.data.toList)) w h (by omega)
    rw [bs_toList, right_clean] at this; exact this
  · intro w h
    have := clean_any (bs (cleanL s.data.toList)) w h (by omega)
    rw [bs_toList, clean_clean] at this; exact this
  · intro w h
    have := right_any (bs (cleanL s.data.toList) ++ bs (cleanL t.data.toList)) w h (by omega)
    rw [tab, right_two] at this; exact this
  · intro w h
    have := count_any (bs (cleanL s.data.toList) ++ bs (cleanL t.data.toList)) w h (by omega)
    rw [tab, count_two, count_clean, count_clean] at this; exact this
  · intro w h
    have := count_any (bs (cleanL s.data.toList)) w h (by omega)
    rw [bs_toList, count_clean] at this; exact this
  · intro w h
    have := count_any (bs (cleanL t.data.toList)) w h (by omega)
    rw [bs_toList, count_clean] at this; exact this
  · cases hr : rightB s.data.toList with
    | true => exact beq_yes (by rw [(clean_iff _).2 hr, bs_self])
    | false =>
      refine beq_no ?_
      intro e
      have : cleanL s.data.toList = s.data.toList := by rw [← bs_toList (cleanL s.data.toList), e]
      rw [(clean_iff _).1 this] at hr
      cases hr
end Go.Proofs.YtekkgmgdihlefabDoor
