/-
  What 'pen.Close' and 'pen.Chars' do, and the reference's.
-/
import Derived.Test.YtmiehnknnkcdlacDoorPNm
import Derived.Test.YtmiehnknnkcdlacDoorEEs
import Derived.Test.YtmiehnknnkcdlacDoorFEs
namespace Go.Proofs.YtmiehnknnkcdlacDoor
open Go.RowKit
set_option linter.unusedVariables false

/-- What is told: a text, or that its form is wrong. -/
def toldV (b : Bool) (x : ByteArray) : Value := .tuple #[.string (if b = true then x else ⟨#[]⟩), .int .i64 (if b = true then 0 else 4)]
def closeL (l : List UInt8) : List UInt8 := [60, 47] ++ (l ++ [62])
theorem close_bs (s : ByteArray) : (⟨#[60, 47]⟩ : ByteArray) ++ s ++ ⟨#[62]⟩ = bs (closeL s.data.toList) := by
  have h1 : (⟨#[60, 47]⟩ : ByteArray) = bs [60, 47] := rfl
  have h2 : (⟨#[62]⟩ : ByteArray) = bs [62] := rfl
  rw [h1, h2, bs_add, bs_bs]; unfold closeL; simp

set_option maxHeartbeats 1000000 in
theorem pclose_any (s : ByteArray) (w : World) (hs : s.size ≤ 100000) :
    Calls Tryd.prog 12 #[.string s] w fun e w' => e = .returned (toldV (nameB s.data.toList) (bs (closeL s.data.toList))) ∧ Below w.heap.size w w' := by
  have C := hide (fun w => pname_any s w (by omega))
  have hcl := close_bs s
  generalize bs (closeL s.data.toList) = y at *
  unfold toldV
  cases hb : nameB s.data.toList with
  | true =>
    rw [hb] at C
    rw [if_pos rfl, if_pos rfl]
    clear hb
    go_enter Tryd.func12, Tryd.ntmps12
    go_wp2_with fail
    refine (unhide C _).mono ?_
    rintro e w1 ⟨rfl, hb1⟩
    go_wp2
    go_ret2
    exact ⟨rfl, hb1⟩
  | false =>
    rw [hb] at C
    rw [if_neg (by decide), if_neg (by decide)]
    clear hb
    go_enter Tryd.func12, Tryd.ntmps12
    go_wp2_with fail
    refine (unhide C _).mono ?_
    rintro e w1 ⟨rfl, hb1⟩
    go_wp2
    go_ret2
    exact ⟨rfl, hb1⟩
set_option maxHeartbeats 1000000 in
theorem rclose6_any (s : ByteArray) (w : World) (hs : s.size ≤ 100000) :
    Calls Tryd.prog 13 #[.string s] w fun e w' => e = .returned (toldV (nameB s.data.toList) (bs (closeL s.data.toList))) ∧ w' = w := by
  have C := hide (fun w => rname6_any s w (by omega))
  have hcl := close_bs s
  generalize bs (closeL s.data.toList) = y at *
  unfold toldV
  cases hb : nameB s.data.toList with
  | true =>
    rw [hb] at C
    rw [if_pos rfl, if_pos rfl]
    clear hb
    go_enter Tryd.func13, Tryd.ntmps13
    go_wp2_with fail
    refine (unhide C _).mono ?_
    rintro e w1 ⟨rfl, rfl⟩
    go_wp2
    go_ret2
    exact ⟨rfl, rfl⟩
  | false =>
    rw [hb] at C
    rw [if_neg (by decide), if_neg (by decide)]
    clear hb
    go_enter Tryd.func13, Tryd.ntmps13
    go_wp2_with fail
    refine (unhide C _).mono ?_
    rintro e w1 ⟨rfl, rfl⟩
    go_wp2
    go_ret2
    exact ⟨rfl, rfl⟩

def charsB (l : List UInt8) : Bool := decide (l ≠ []) && goodB l
theorem charsB_no {l : List UInt8} (h : l = []) : charsB l = false := by subst h; rfl
theorem charsB_ok {l : List UInt8} (h : l ≠ []) : charsB l = goodB l := by unfold charsB; rw [decide_eq_true h]; rfl
theorem ne_size {s : ByteArray} (h : 0 < s.size) : s.data.toList ≠ [] := by
  intro e; have := congrArg List.length e; rw [data_len] at this; simp only [List.length_nil] at this; omega
theorem nil_size {s : ByteArray} (h : s.size = 0) : s.data.toList = [] := List.eq_nil_of_length_eq_zero (by rw [data_len]; exact h)

set_option maxHeartbeats 1000000 in
theorem pchars_any (s : ByteArray) (w : World) (ht : Tabs w) (hs : s.size ≤ 100000) :
    Calls Tryd.prog 18 #[.string s] w fun e w' => e = .returned (toldV (charsB s.data.toList) (bs (escL false s.data.toList))) ∧ Below w.heap.size w w' := by
  have HT := hide ht
  have C := hide (fun w h => pgood_any s w h (by omega))
  have CE := hide (fun w h => escape_any s false w h hs)
  generalize bs (escL false s.data.toList) = y at *
  unfold toldV
  clear ht
  by_cases h0 : s.size = 0
  · have he := is_empty s h0
    rw [charsB_no (nil_size h0), if_neg (by decide), if_neg (by decide)]
    go_enter Tryd.func18, Tryd.ntmps18
    go_wp2
    go_ret2
    exact ⟨rfl, Below.refl _ _⟩
  have he := not_empty s (by omega)
  rw [charsB_ok (ne_size (by omega))]
  clear h0
  cases hb : goodB s.data.toList with
  | true =>
    rw [hb] at C
    rw [if_pos rfl, if_pos rfl]
    clear hb
    go_enter Tryd.func18, Tryd.ntmps18
    go_wp2_with fail
    refine (unhide C _ (unhide HT)).mono ?_
    rintro e w1 ⟨rfl, hb1⟩
    go_wp2_with fail
    refine (unhide CE _ ((unhide HT).below hb1)).mono ?_
    rintro e w2 ⟨rfl, hb2⟩
    go_wp2
    go_ret2
    exact ⟨rfl, tr2 hb1 hb2⟩
  | false =>
    rw [hb] at C
    rw [if_neg (by decide), if_neg (by decide)]
    clear hb
    go_enter Tryd.func18, Tryd.ntmps18
    go_wp2_with fail
    refine (unhide C _ (unhide HT)).mono ?_
    rintro e w1 ⟨rfl, hb1⟩
    go_wp2
    go_ret2
    exact ⟨rfl, hb1⟩
set_option maxHeartbeats 1000000 in
theorem rchars6_any (s : ByteArray) (w : World) (hs : s.size ≤ 100000) :
    Calls Tryd.prog 19 #[.string s] w fun e w' => e = .returned (toldV (charsB s.data.toList) (bs (escL false s.data.toList))) ∧ Below w.heap.size w w' := by
  have C := hide (fun w => rgood6_any s w hs)
  have CE := hide (fun w => rescape_any s false w hs)
  generalize bs (escL false s.data.toList) = y at *
  unfold toldV
  by_cases h0 : s.size = 0
  · have he := is_empty s h0
    rw [charsB_no (nil_size h0), if_neg (by decide), if_neg (by decide)]
    go_enter Tryd.func19, Tryd.ntmps19
    go_wp2
    go_ret2
    exact ⟨rfl, Below.refl _ _⟩
  have he := not_empty s (by omega)
  rw [charsB_ok (ne_size (by omega))]
  clear h0
  cases hb : goodB s.data.toList with
  | true =>
    rw [hb] at C
    rw [if_pos rfl, if_pos rfl]
    clear hb
    go_enter Tryd.func19, Tryd.ntmps19
    go_wp2_with fail
    refine (unhide C _).mono ?_
    rintro e w1 ⟨rfl, hb1⟩
    go_wp2_with fail
    refine (unhide CE _).mono ?_
    rintro e w2 ⟨rfl, rfl⟩
    go_wp2
    go_ret2
    exact ⟨rfl, hb1⟩
  | false =>
    rw [hb] at C
    rw [if_neg (by decide), if_neg (by decide)]
    clear hb
    go_enter Tryd.func19, Tryd.ntmps19
    go_wp2_with fail
    refine (unhide C _).mono ?_
    rintro e w1 ⟨rfl, hb1⟩
    go_wp2
    go_ret2
    exact ⟨rfl, hb1⟩
end Go.Proofs.YtmiehnknnkcdlacDoor
