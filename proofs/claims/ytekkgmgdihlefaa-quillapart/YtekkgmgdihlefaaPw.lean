/-
  The law QuillPuts walked: the bytes of each number, each text and each list that 'quill' answers are the document's.
-/
import Derived.Test.YtekkgmgdihlefaaRq
import Derived.SliceStrings
namespace Go.Proofs.Ytekkgmgdihlefaa
open Go.RowKit
set_option linter.unusedVariables false

/-- A slice of texts that came in, as a view. -/
theorem view_in {w : World} {a : Addr} {len cap : Nat} {ss : List ByteArray} (hl : len ≤ cap) (hm : cap ≤ maxLen) (hz : ss.length = cap)
    (hcell : ∀ i, i < ss.length → w.cell? (a.add i) = some (.string (ss.getD i ByteArray.empty))) : View w (.slice (some a) len cap) (ss.take len) := by
  have hlen : (ss.take len).length = len := by simp; omega
  refine ⟨by rw [hlen]; exact Nat.le_trans hl hm, some a, cap, by rw [hlen], fun h0 => ?_⟩
  rw [hlen] at h0 ⊢
  obtain ⟨b, off, spot⟩ := a
  have hc := hcell 0 (by omega)
  have hspot : spot = none := by simpa [Addr.add] using World.cell?_spot hc
  subst hspot
  refine ⟨b, off, rfl, fun i hi => ?_⟩
  have := hcell i (by omega)
  have e : (ss.take len).getD i ByteArray.empty = ss.getD i ByteArray.empty := by
    rw [List.getD, List.getD, List.getElem?_take, if_pos hi]
  rw [e]
  have hplain : (⟨b, off, none⟩ : Addr).add i = ⟨b, off + i, none⟩ := by unfold Addr.add; split <;> simp_all
  rw [hplain] at this
  exact this
theorem view_none (w : World) : View w (.slice none 0 0) [] := ⟨by decide, none, 0, rfl, fun h => by cases h⟩

theorem nums_both (n : Int) : ∃ (x : ByteArray) (er : Int),
    (∀ w, Calls Try.prog 11 #[.int .i64 n] w fun e w' => e = .returned (.tuple #[.string x, .int .i64 er]) ∧ Below w.heap.size w w') ∧
    (∀ w, Calls Try.prog 12 #[.int .i64 n] w fun e w' => e = .returned (.tuple #[.string x, .int .i64 er]) ∧ Below w.heap.size w w') := by
  by_cases h : n < 0 ∨ 1099511627776 < n
  · exact ⟨_, _, fun w => num_no n w h, fun w => rNum_no n w h⟩
  · exact ⟨_, _, fun w => num_ok n w (by omega) (by omega), fun w => rNum_ok n w (by omega) (by omega)⟩
theorem textsP_both (s : ByteArray) (hs : s.size ≤ 9223372036854775807) : ∃ (x : ByteArray) (er : Int),
    (∀ w, Calls Try.prog 13 #[.string s] w fun e w' => e = .returned (.tuple #[.string x, .int .i64 er]) ∧ Below w.heap.size w w') ∧
    (∀ w, Calls Try.prog 14 #[.string s] w fun e w' => e = .returned (.tuple #[.string x, .int .i64 er]) ∧ Below w.heap.size w w') := by
  by_cases h : s.size ≤ 65536
  · exact ⟨_, _, fun w => text_ok s w h, fun w => rText_ok s w h⟩
  · exact ⟨_, _, fun w => text_no s w hs (by omega), fun w => rText_no s w hs (by omega)⟩
theorem listsP_both (v : Value) (ss : List ByteArray) (hbig : ∀ s ∈ ss, s.size ≤ 9223372036854775807) : ∃ (x : ByteArray) (er : Int),
    (∀ w, View w v ss → Calls Try.prog 15 #[v] w fun e w' => e = .returned (.tuple #[.string x, .int .i64 er]) ∧ Below w.heap.size w w') ∧
    (∀ w, View w v ss → Calls Try.prog 16 #[v] w fun e w' => e = .returned (.tuple #[.string x, .int .i64 er]) ∧ Below w.heap.size w w') := by
  by_cases h : 1000 < ss.length
  · exact ⟨_, _, fun w hv => list_long v ss w hv h, fun w hv => rlistW_long v ss w hv h⟩
  · by_cases hf : fits ss = true
    · refine ⟨bs (lb ss.length ss), 0, fun w hv => ?_, fun w hv => ?_⟩
      · have := list_any v ss w hv (by omega) hbig
        rw [listV, if_pos hf] at this; exact this
      · have := rlistW_any v ss w hv (by omega) hbig
        rw [listV, if_pos hf] at this; exact this
    · refine ⟨⟨#[]⟩, 2, fun w hv => ?_, fun w hv => ?_⟩
      · have := list_any v ss w hv (by omega) hbig
        rw [listV, if_neg hf] at this; exact this
      · have := rlistW_any v ss w hv (by omega) hbig
        rw [listV, if_neg hf] at this; exact this

set_option maxHeartbeats 1000000 in
theorem puts_walk (n : Int) (s : ByteArray) (a : Option Addr) (len cap : Nat) (ss : List ByteArray) (w : World) (hs : s.size ≤ 9223372036854775807) (hv : View w (.slice a len cap) ss) (hbig : ∀ t ∈ ss, t.size ≤ 9223372036854775807) :
    Calls Try.prog 3 #[.int .i64 n, .string s, .slice a len cap] w fun e w' => e = .returned (.bool true) ∧ Below w.heap.size w w' := by
  have hab := ab_ok
  obtain ⟨v, hvv⟩ : ∃ v, v = Value.slice a len cap := ⟨_, rfl⟩
  rw [← hvv] at hv ⊢
  have HV := hide hvv
  clear hvv
  have CL := hide (fun w (h : View w v ss) => long_any v ss w h hbig)
  have HW := hide hv
  cases hl : longB ss with
  | true =>
    rw [hl] at CL
    clear hl hv
    go_enter Try.func3, Try.ntmps3
    go_wp2_with fail
    refine (unhide CL _ (unhide HW)).mono ?_
    rintro e w1 ⟨rfl, hb1⟩
    go_wp2_with fail
    refine (hab _).mono ?_
    rintro e w2 ⟨rfl, hb2⟩
    go_wp2
    go_ret
    exact ⟨rfl, tr3 hb1 hb2 (Below.refl _ _)⟩
  | false =>
    rw [hl] at CL
    clear hl hv
    by_cases h5 : 100000 < s.size
    · go_enter Try.func3, Try.ntmps3
      go_wp2_with fail
      refine (unhide CL _ (unhide HW)).mono ?_
      rintro e w1 ⟨rfl, hb1⟩
      go_wp2_with fail
      refine (hab _).mono ?_
      rintro e w2 ⟨rfl, hb2⟩
      go_wp2
      go_ret
      exact ⟨rfl, tr3 hb1 hb2 (Below.refl _ _)⟩
    · have h6 : s.size ≤ 100000 := by omega
      clear h5
      obtain ⟨x1, e1, c1, c2⟩ := nums_both n
      obtain ⟨x2, e2, c3, c4⟩ := textsP_both s hs
      obtain ⟨x3, e3, c5, c6⟩ := listsP_both v ss hbig
      have C1 := hide c1
      have C2 := hide c2
      have C3 := hide c3
      have C4 := hide c4
      have C5 := hide c5
      have C6 := hide c6
      clear c1 c2 c3 c4 c5 c6
      go_enter Try.func3, Try.ntmps3
      go_wp2_with fail
      refine (unhide CL _ (unhide HW)).mono ?_
      rintro e w1 ⟨rfl, hb1⟩
      go_wp2_with fail
      refine (unhide C1 _).mono ?_
      rintro e w2 ⟨rfl, hb2⟩
      go_wp2_with fail
      refine (unhide C2 _).mono ?_
      rintro e w3 ⟨rfl, hb3⟩
      go_wp2_with fail
      refine (unhide C3 _).mono ?_
      rintro e w4 ⟨rfl, hb4⟩
      go_wp2_with fail
      refine (unhide C4 _).mono ?_
      rintro e w5 ⟨rfl, hb5⟩
      have hb05 := tr3 (tr3 hb1 hb2 hb3) hb4 hb5
      go_wp2_with fail
      refine (unhide C5 _ (view_below (unhide HW) hb05)).mono ?_
      rintro e w6 ⟨rfl, hb6⟩
      go_wp2_with fail
      refine (unhide C6 _ (view_below (unhide HW) (tr3 hb05 hb6 (Below.refl _ _)))).mono ?_
      rintro e w7 ⟨rfl, hb7⟩
      go_wp2_with fail
      refine (hab _).mono ?_
      rintro e w8 ⟨rfl, hb8⟩
      go_wp2
      go_ret
      exact ⟨rfl, tr3 (tr3 hb05 hb6 hb7) hb8 (Below.refl _ _)⟩
end Go.Proofs.Ytekkgmgdihlefaa
