/-
  What 'utf.Clean' does: of every text that isn't too long, it cleaned.
-/
import Derived.Test.YtakjlolmmoladaaDoorURgt
import Derived.Test.YtakjlolmmoladaaDoorUByt
import Derived.Test.YtakjlolmmoladaaDoorBd
namespace Go.Proofs.YtakjlolmmoladaaDoor
open Go.RowKit
set_option linter.unusedVariables false

set_option maxHeartbeats 400000 in
theorem clean_empty (s : ByteArray) (w : World) (ht : Tabs w) (h0 : s.size = 0) :
    Calls Tryd.prog 12 #[.string s] w fun e w' => e = .returned (.string (bs [])) ∧ Below w.heap.size w w' := by
  have he := is_empty s h0
  have HT := hide ht
  clear ht
  have CB := hide (fun w h => bytes_any 65533 w h)
  go_enter Tryd.func12, Tryd.ntmps12
  go_wp2_with fail
  refine (unhide CB _ (unhide HT)).mono ?_
  rintro e w1 ⟨rfl, hb1⟩
  go_wp2
  refine wp_loop_rounds 1 ?_
  rw [rounds_succ]; go_wp2_with fail
  refine (string_nil w1.heap.size (.pointer none) _ (heap_alloc_new _ _)).mono ?_
  rintro e w2 ⟨rfl, hb2⟩
  go_wp2
  go_ret
  exact ⟨rfl, tr2 hb1 (bel_of hb2)⟩

set_option maxHeartbeats 1000000 in
theorem clean_some (s : ByteArray) (w : World) (ht : Tabs w) (hs : s.size ≤ 100000) (hp0 : 0 < s.size) :
    Calls Tryd.prog 12 #[.string s] w fun e w' => e = .returned (.string (bs (cleanL s.data.toList))) ∧ Below w.heap.size w w' := by
  have HT := hide ht
  clear ht
  have CB := hide (fun w h => bytes_any 65533 w h)
  rw [strange] at CB
  have hsz : (bs (ub 65533)).size = 3 := rfl
  have HS := hide hsz
  clear hsz
  have hnonempty : cleanL s.data.toList ≠ [] := by rw [cleanL_cons (ne_of_size hp0)]; exact ub_ne _ _
  have HN := hide hnonempty
  clear hnonempty
  go_enter Tryd.func12, Tryd.ntmps12
  go_wp2_with fail
  refine (unhide CB _ (unhide HT)).mono ?_
  rintro e w1 ⟨rfl, hb1⟩
  have hz1 := hb1.size
  go_wp2
  go_loopw [0] (fun t wr => ∃ (x : ByteArray) (l : List UInt8), t = .string x ∧ x.size ≤ s.size ∧ l.length + 3 * x.size ≤ 3 * s.size ∧ cleanL s.data.toList = l ++ cleanL x.data.toList ∧ Bld w1.heap.size w1.heap.size l wr ∧ Below w1.heap.size w1 wr) (fun t _ => match t with | .string x => x.size | _ => 0)
  case atStart => exact ⟨s, [], rfl, Nat.le_refl _, by simp, by simp, bld_new w1, (Below.refl _ _).alloc (Nat.le_refl _) _⟩
  case round =>
    obtain ⟨x, l, rfl, hx, hl, hr, hB, hbw⟩ := hrel
    have HR := hide hr
    clear hr
    by_cases h0 : x.size = 0
    · have he := is_empty x h0
      have hf : cleanL s.data.toList = l := by
        have : x.data.toList = [] := List.eq_nil_of_length_eq_zero (by rw [data_len]; exact h0)
        rw [unhide HR, this, cleanL_nil, List.append_nil]
      have hln : l ≠ [] := by rw [← hf]; exact unhide HN
      have HF := hide hf
      clear hf
      go_wp2_with fail
      refine (string_any _ _ _ _ hB hln).mono ?_
      rintro e w2 ⟨rfl, hb2⟩
      go_wp2
      go_ret
      exact ⟨by rw [unhide HF]; rfl, tr2 hb1 (hbw.trans hb2)⟩
    · have hp : 0 < x.size := by omega
      have hne := ne_of_size hp
      have he := not_empty x hp
      have hok := step_ok hne
      rw [data_len] at hok
      have C1 := hide (firstIs x (by omega) hp)
      have C2 := hide (wrongIs hne)
      have hcons := cleanL_cons hne
      have htk := @step_take _ hne
      have hno := @step_no x.data.toList
      have HX := hide (rest_of x)
      have HX0 := hide (Lib.Pa.extract_upto x)
      generalize hstep : step x.data.toList = st at *
      obtain ⟨c, n, ok⟩ := st
      simp only at hok C1 C2 hcons htk hno
      have hn1 : (1 : Int) ≤ (n : Int) := by omega
      have hn00 : (0 : Int) ≤ (n : Int) := by omega
      have hn2 : (n : Int) ≤ (x.size : Int) := by omega
      have hn0 : 1 ≤ n := by omega
      have hn3 : n ≤ x.size := by omega
      have HC := hide hcons
      have hzw := hbw.size
      clear hcons hstep hok hne
      cases ok with
      | false =>
        have h2 := hno rfl
        have hc := h2.1
        have hn := h2.2
        have HCc := hide hc
        have HNn := hide hn
        clear htk hno h2 hc hn
        go_wp2_with fail
        refine (unhide C1 _ (((unhide HT).below hb1).below hbw)).mono ?_
        rintro e w2 ⟨rfl, hb2⟩
        have B2 := bld_below hB hb2
        have hz2 := hb2.size
        go_wp2_with fail
        refine (unhide C2 _).mono ?_
        rintro e w3 ⟨rfl, rfl⟩
        go_wp2_with fail
        refine (writeString_any _ _ _ _ _ B2 (by rw [unhide HS]; omega) (by omega)).mono ?_
        rintro e w4 ⟨rfl, B4, hb4⟩
        rw [bs_toList] at B4
        go_wp2
        go_roundw
        case rel => exact ⟨x.extract n x.size, l ++ ub 65533, rfl, by simp; omega, by
            have e3 : (ub 65533).length = 3 := rfl
            have := unhide HNn
            rw [List.length_append, e3]; simp; omega, by
            rw [unhide HR, unhide HC, unhide HX, bs_toList, unhide HCc, List.append_assoc], B4, (hbw.trans (hb2.mono hzw)).trans hb4⟩
        case measure => simp; omega
      | true =>
        have h2 := htk rfl
        have htake := h2.1
        have hsz := h2.2
        have HTK := hide htake
        have HSZ := hide hsz
        clear htk hno h2 htake hsz
        go_wp2_with fail
        refine (unhide C1 _ (((unhide HT).below hb1).below hbw)).mono ?_
        rintro e w2 ⟨rfl, hb2⟩
        have B2 := bld_below hB hb2
        have hz2 := hb2.size
        go_wp2_with fail
        refine (unhide C2 _).mono ?_
        rintro e w3 ⟨rfl, rfl⟩
        go_wp2_with fail
        refine (writeString_any _ _ _ _ _ B2 (by simp; omega) (by omega)).mono ?_
        rintro e w4 ⟨rfl, B4, hb4⟩
        rw [unhide HX0] at B4
        go_wp2
        go_roundw
        case rel => exact ⟨x.extract n x.size, l ++ ub c, rfl, by simp; omega, by
            have e3 := ub_len c
            have := unhide HSZ
            rw [List.length_append, e3]; simp; omega, by
            rw [unhide HR, unhide HC, unhide HX, bs_toList, List.append_assoc], by
            rw [← unhide HTK]; exact B4, (hbw.trans (hb2.mono hzw)).trans hb4⟩
        case measure => simp; omega

theorem clean_any (s : ByteArray) (w : World) (ht : Tabs w) (hs : s.size ≤ 100000) :
    Calls Tryd.prog 12 #[.string s] w fun e w' => e = .returned (.string (bs (cleanL s.data.toList))) ∧ Below w.heap.size w w' := by
  by_cases h0 : s.size = 0
  · have : s.data.toList = [] := List.eq_nil_of_length_eq_zero (by rw [data_len]; exact h0)
    rw [this]
    exact clean_empty s w ht h0
  · exact clean_some s w ht hs (by omega)
end Go.Proofs.YtakjlolmmoladaaDoor
