/-
  What 'pen.Note' does, and the reference's: a comment's text, or that there is none.
-/
import Derived.Test.YtmiehnknnkcdlacDoorPCh
import Derived.Test.YtmiehnknnkcdlacDoorHp
import Derived.Test.YtmiehnknnkcdlacDoorSh
import Derived.Lib.IndexBytes
namespace Go.Proofs.YtmiehnknnkcdlacDoor
open Go.RowKit
set_option linter.unusedVariables false

/-- The library's own variable that says how long a text it seeks at once: whatever it holds. -/
def Mx (w : World) : Prop := ∃ m, w.cell? ⟨2, 0, none⟩ = some (.int .i64 m)
theorem Mx.below {w w' : World} (h : Mx w) (hb : Below w.heap.size w w') : Mx w' := by
  obtain ⟨m, h⟩ := h; exact ⟨m, cell_later hb h⟩
theorem suffix_any (s : ByteArray) (p : List UInt8) (w : World) (hs : s.size ≤ 100000) :
    Calls Tryd.prog 60 #[.string s, .string (bs p)] w fun e w' => e = .returned (.bool (Lib.hasSuffix s.data.toList p)) ∧ w' = w := by
  have := Tryd.strings_HasSuffix s (bs p) w (by omega)
  rw [bs_toList] at this; exact this
theorem contains_any (s : ByteArray) (p : List UInt8) (w : World) (hm : Mx w) (hs : s.size ≤ 100000) :
    Calls Tryd.prog 61 #[.string s, .string (bs p)] w fun e w' => e = .returned (.bool (Lib.contains s.data.toList p)) ∧ w' = w := by
  obtain ⟨m, hm⟩ := hm
  have := Tryd.strings_Contains s (bs p) m w (by omega) hm
  rw [bs_toList] at this; exact this
theorem prefix_any (s : ByteArray) (p : List UInt8) (w : World) :
    Calls Tryd.prog 59 #[.string s, .string (bs p)] w fun e w' => e = .returned (.bool (p.isPrefixOf s.data.toList)) ∧ w' = w := by
  have := hasPrefix_any s (bs p) w
  rw [bs_toList] at this; exact this

/-- Does a text stand at a place? -/
def at6 (l x : List UInt8) (i : Int) : Bool := decide (0 ≤ i ∧ (x.length : Int) ≤ (l.length : Int) - i) && x.isPrefixOf (l.drop i.toNat)
theorem at6_short {l x : List UInt8} {i : Int} (h : ¬ (0 ≤ i ∧ (x.length : Int) ≤ (l.length : Int) - i)) : at6 l x i = false := by
  unfold at6; rw [decide_eq_false h]; rfl
theorem at6_long {l x : List UInt8} {i : Int} (h : 0 ≤ i ∧ (x.length : Int) ≤ (l.length : Int) - i) : at6 l x i = x.isPrefixOf (l.drop i.toNat) := by
  unfold at6; rw [decide_eq_true h]; rfl
set_option maxHeartbeats 1000000 in
theorem at6_any (s x : ByteArray) (i : Int) (w : World) (hs : s.size ≤ 100000) (hx : x.size ≤ 100000) (hi : -100 ≤ i) (hi2 : i ≤ 200000) :
    Calls Tryd.prog 43 #[.string s, .int .i64 i, .string x] w fun e w' => e = .returned (.bool (at6 s.data.toList x.data.toList i)) ∧ w' = w := by
  by_cases h0 : 0 ≤ i
  · obtain ⟨k, rfl⟩ : ∃ k : Nat, i = (k : Int) := ⟨i.toNat, by omega⟩
    by_cases h1 : (x.size : Int) ≤ (s.size : Int) - (k : Int)
    · have hp := Lib.occ_of_piece s x k (by omega)
      have hv : at6 s.data.toList x.data.toList (k : Int) = ((s.extract k (k + x.size)).toList == x.toList) := by
        rw [at6_long (by rw [data_len, data_len]; omega), ← hp, Int.toNat_natCast]; rfl
      rw [hv]
      have h2 : (k : Int) + (x.size : Int) ≤ (s.size : Int) := by omega
      clear hp hv
      generalize hb : ((s.extract k (k + x.size)).toList == x.toList) = b at *
      go_enter Tryd.func43, Tryd.ntmps43
      go_wp2
      go_ret
      exact ⟨rfl, rfl⟩
    · rw [at6_short (by rw [data_len, data_len]; omega)]
      have h1' : decide ((x.size : Int) ≤ (s.size : Int) - (k : Int)) = false := decide_eq_false h1
      clear h1
      go_enter Tryd.func43, Tryd.ntmps43
      go_wp2
      go_ret
      exact ⟨rfl, rfl⟩
  · have hv : at6 s.data.toList x.data.toList i = false := at6_short (by omega)
    rw [hv]
    have h0' : decide (0 ≤ i) = false := decide_eq_false h0
    clear h0
    go_enter Tryd.func43, Tryd.ntmps43
    go_wp2
    go_ret
    exact ⟨rfl, rfl⟩

set_option maxHeartbeats 1000000 in
theorem has6_any (s x : ByteArray) (w : World) (hs : s.size ≤ 100000) (hx : x.size ≤ 100000) (hx1 : 1 ≤ x.size) :
    Calls Tryd.prog 46 #[.string s, .string x] w fun e w' => e = .returned (.bool (Lib.contains s.data.toList x.data.toList)) ∧ w' = w := by
  go_enter Tryd.func46, Tryd.ntmps46
  go_wp2
  go_loopw [5] (fun i wr => ∃ k : Nat, k ≤ s.size ∧ i = .int .i64 k ∧ (∀ j, j < k → Lib.occAt s.data.toList x.data.toList j = false) ∧ wr = w) (fun i _ => s.size - (intOf i).toNat)
  case atStart => exact ⟨0, Nat.zero_le _, rfl, fun j hj => by omega, rfl⟩
  case round =>
    obtain ⟨k, hk, rfl, hno, rfl⟩ := hrel
    have HNO := hide hno
    clear hno
    by_cases hp : k < s.size
    · have hpi : (k : Int) < (s.size : Int) := by omega
      have C := hide (fun w => at6_any s x (k : Int) w hs hx (by omega) (by omega))
      have ha : at6 s.data.toList x.data.toList (k : Int) = Lib.occAt s.data.toList x.data.toList k := by
        by_cases hr : (x.size : Int) ≤ (s.size : Int) - (k : Int)
        · rw [at6_long (by rw [data_len, data_len]; omega), Int.toNat_natCast]; rfl
        · rw [at6_short (by rw [data_len, data_len]; omega)]
          cases e : Lib.occAt s.data.toList x.data.toList k with
          | false => rfl
          | true =>
            rcases Lib.occAt_room e with h | h
            · rw [data_len, data_len] at h; omega
            · have := congrArg List.length h; rw [data_len] at this; simp only [List.length_nil] at this; omega
      rw [ha] at C
      clear ha
      cases ho : Lib.occAt s.data.toList x.data.toList k with
      | true =>
        rw [ho] at C
        have hc : Lib.contains s.data.toList x.data.toList = true := by
          unfold Lib.contains; rw [Lib.index_first (by rw [data_len]; omega) ho (unhide HNO)]; exact decide_eq_true (by omega)
        have HC := hide hc
        clear hc ho
        go_wp2_with (go_at_call 43; refine (unhide C _).mono ?_; rintro e1 w1 ⟨rfl, rfl⟩)
        go_ret
        exact ⟨by rw [unhide HC]; rfl, rfl⟩
      | false =>
        rw [ho] at C
        have HO := hide ho
        clear ho
        go_wp2_with (go_at_call 43; refine (unhide C _).mono ?_; rintro e1 w1 ⟨rfl, rfl⟩)
        go_roundw
        case rel => exact ⟨k + 1, by omega, by go_num, fun j hj => by
          by_cases hjk : j = k
          · rw [hjk]; exact unhide HO
          · exact unhide HNO j (by omega), by first | exact rfl | trivial⟩
        case measure => simp [intOf]; omega
    · have hc : Lib.contains s.data.toList x.data.toList = false := by
        unfold Lib.contains
        rw [Lib.index_none (fun j hj => ?_)]
        · rfl
        · by_cases hjk : j < k
          · exact unhide HNO j hjk
          · rw [data_len] at hj
            cases e : Lib.occAt s.data.toList x.data.toList j with
            | false => rfl
            | true =>
              rcases Lib.occAt_room e with h | h
              · rw [data_len, data_len] at h; omega
              · have := congrArg List.length h; rw [data_len] at this; simp only [List.length_nil] at this; omega
      have HC := hide hc
      clear hc
      go_wp2
      go_ret
      exact ⟨by rw [unhide HC]; rfl, rfl⟩

theorem suffix_at (l p : List UInt8) : at6 l p ((l.length : Int) - (p.length : Int)) = Lib.hasSuffix l p := by
  unfold Lib.hasSuffix
  by_cases h : p.length ≤ l.length
  · rw [at6_long (by omega), show ((l.length : Int) - (p.length : Int)).toNat = l.length - p.length by omega]
    rw [Bool.eq_iff_iff, List.isPrefixOf_iff_prefix, List.isSuffixOf_iff_suffix]
    constructor
    · intro hp
      have e : p = l.drop (l.length - p.length) := List.IsPrefix.eq_of_length hp (by rw [List.length_drop]; omega)
      have : l.drop (l.length - p.length) <:+ l := List.drop_suffix _ _
      rw [← e] at this; exact this
    · intro hs
      have e := List.suffix_iff_eq_drop.1 hs
      rw [← e]; exact List.prefix_refl _
  · rw [at6_short (by omega)]
    cases e : p.isSuffixOf l with
    | false => rfl
    | true => have := (List.isSuffixOf_iff_suffix.1 e).length_le; omega
theorem prefix_at (l p : List UInt8) : at6 l p 0 = p.isPrefixOf l := by
  by_cases h : p.length ≤ l.length
  · rw [at6_long (by omega)]; rfl
  · rw [at6_short (by omega)]
    cases e : p.isPrefixOf l with
    | false => rfl
    | true => have := (List.isPrefixOf_iff_prefix.1 e).length_le; omega

def early (l : List UInt8) : Bool := [62].isPrefixOf l || ([45, 62].isPrefixOf l || (Lib.hasSuffix l [45] || (Lib.hasSuffix l [45, 45, 33] || (Lib.contains l [45, 45, 62] || Lib.contains l [45, 45, 33, 62]))))
def noteB (l : List UInt8) : Bool := goodB l && !early l
def noteL (l : List UInt8) : List UInt8 := [60, 33, 45, 45] ++ (l ++ [45, 45, 62])
theorem note_bs (s : ByteArray) : (⟨#[60, 33, 45, 45]⟩ : ByteArray) ++ s ++ ⟨#[45, 45, 62]⟩ = bs (noteL s.data.toList) := by
  have h1 : (⟨#[60, 33, 45, 45]⟩ : ByteArray) = bs [60, 33, 45, 45] := rfl
  have h2 : (⟨#[45, 45, 62]⟩ : ByteArray) = bs [45, 45, 62] := rfl
  rw [h1, h2, bs_add, bs_bs]; unfold noteL; simp

set_option maxHeartbeats 2000000 in
theorem early_any (s : ByteArray) (w : World) (hm : Mx w) (hs : s.size ≤ 100000) :
    Calls Tryd.prog 45 #[.string s] w fun e w' => e = .returned (.bool (early s.data.toList)) ∧ w' = w := by
  have HM := hide hm
  have C1 : Hid (∀ w, Calls Tryd.prog 59 #[.string s, .string ⟨#[62]⟩] w fun e w' => e = .returned (.bool ([62].isPrefixOf s.data.toList)) ∧ w' = w) := fun w => prefix_any s [62] w
  have C2 : Hid (∀ w, Calls Tryd.prog 59 #[.string s, .string ⟨#[45, 62]⟩] w fun e w' => e = .returned (.bool ([45, 62].isPrefixOf s.data.toList)) ∧ w' = w) := fun w => prefix_any s [45, 62] w
  have C3 : Hid (∀ w, Calls Tryd.prog 60 #[.string s, .string ⟨#[45]⟩] w fun e w' => e = .returned (.bool (Lib.hasSuffix s.data.toList [45])) ∧ w' = w) := fun w => suffix_any s [45] w hs
  have C4 : Hid (∀ w, Calls Tryd.prog 60 #[.string s, .string ⟨#[45, 45, 33]⟩] w fun e w' => e = .returned (.bool (Lib.hasSuffix s.data.toList [45, 45, 33])) ∧ w' = w) := fun w => suffix_any s [45, 45, 33] w hs
  have C5 : Hid (∀ w, Mx w → Calls Tryd.prog 61 #[.string s, .string ⟨#[45, 45, 62]⟩] w fun e w' => e = .returned (.bool (Lib.contains s.data.toList [45, 45, 62])) ∧ w' = w) := fun w h => contains_any s [45, 45, 62] w h hs
  have C6 : Hid (∀ w, Mx w → Calls Tryd.prog 61 #[.string s, .string ⟨#[45, 45, 33, 62]⟩] w fun e w' => e = .returned (.bool (Lib.contains s.data.toList [45, 45, 33, 62])) ∧ w' = w) := fun w h => contains_any s [45, 45, 33, 62] w h hs
  unfold early
  generalize [62].isPrefixOf s.data.toList = b1 at *
  generalize [45, 62].isPrefixOf s.data.toList = b2 at *
  generalize Lib.hasSuffix s.data.toList [45] = b3 at *
  generalize Lib.hasSuffix s.data.toList [45, 45, 33] = b4 at *
  generalize Lib.contains s.data.toList [45, 45, 62] = b5 at *
  generalize Lib.contains s.data.toList [45, 45, 33, 62] = b6 at *
  clear hm
  cases b1 with
  | true =>
    rw [Bool.true_or]
    go_enter Tryd.func45, Tryd.ntmps45
    go_wp2_with fail
    refine (unhide C1 _).mono ?_
    rintro e w1 ⟨rfl, rfl⟩
    go_wp2
    go_ret
    exact ⟨rfl, rfl⟩
  | false =>
    rw [Bool.false_or]
    cases b2 with
    | true =>
      rw [Bool.true_or]
      go_enter Tryd.func45, Tryd.ntmps45
      go_wp2_with fail
      refine (unhide C1 _).mono ?_
      rintro e w1 ⟨rfl, rfl⟩
      go_wp2_with fail
      refine (unhide C2 _).mono ?_
      rintro e w2 ⟨rfl, rfl⟩
      go_wp2
      go_ret
      exact ⟨rfl, rfl⟩
    | false =>
      rw [Bool.false_or]
      cases b3 with
      | true =>
        rw [Bool.true_or]
        go_enter Tryd.func45, Tryd.ntmps45
        go_wp2_with fail
        refine (unhide C1 _).mono ?_
        rintro e w1 ⟨rfl, rfl⟩
        go_wp2_with fail
        refine (unhide C2 _).mono ?_
        rintro e w2 ⟨rfl, rfl⟩
        go_wp2_with fail
        refine (unhide C3 _).mono ?_
        rintro e w3 ⟨rfl, rfl⟩
        go_wp2
        go_ret
        exact ⟨rfl, rfl⟩
      | false =>
        rw [Bool.false_or]
        cases b4 with
        | true =>
          rw [Bool.true_or]
          go_enter Tryd.func45, Tryd.ntmps45
          go_wp2_with fail
          refine (unhide C1 _).mono ?_
          rintro e w1 ⟨rfl, rfl⟩
          go_wp2_with fail
          refine (unhide C2 _).mono ?_
          rintro e w2 ⟨rfl, rfl⟩
          go_wp2_with fail
          refine (unhide C3 _).mono ?_
          rintro e w3 ⟨rfl, rfl⟩
          go_wp2_with fail
          refine (unhide C4 _).mono ?_
          rintro e w4 ⟨rfl, rfl⟩
          go_wp2
          go_ret
          exact ⟨rfl, rfl⟩
        | false =>
          rw [Bool.false_or]
          cases b5 with
          | true =>
            rw [Bool.true_or]
            go_enter Tryd.func45, Tryd.ntmps45
            go_wp2_with fail
            refine (unhide C1 _).mono ?_
            rintro e w1 ⟨rfl, rfl⟩
            go_wp2_with fail
            refine (unhide C2 _).mono ?_
            rintro e w2 ⟨rfl, rfl⟩
            go_wp2_with fail
            refine (unhide C3 _).mono ?_
            rintro e w3 ⟨rfl, rfl⟩
            go_wp2_with fail
            refine (unhide C4 _).mono ?_
            rintro e w4 ⟨rfl, rfl⟩
            go_wp2_with fail
            refine (unhide C5 _ (unhide HM)).mono ?_
            rintro e w5 ⟨rfl, rfl⟩
            go_wp2
            go_ret
            exact ⟨rfl, rfl⟩
          | false =>
            rw [Bool.false_or]
            go_enter Tryd.func45, Tryd.ntmps45
            go_wp2_with fail
            refine (unhide C1 _).mono ?_
            rintro e w1 ⟨rfl, rfl⟩
            go_wp2_with fail
            refine (unhide C2 _).mono ?_
            rintro e w2 ⟨rfl, rfl⟩
            go_wp2_with fail
            refine (unhide C3 _).mono ?_
            rintro e w3 ⟨rfl, rfl⟩
            go_wp2_with fail
            refine (unhide C4 _).mono ?_
            rintro e w4 ⟨rfl, rfl⟩
            go_wp2_with fail
            refine (unhide C5 _ (unhide HM)).mono ?_
            rintro e w5 ⟨rfl, rfl⟩
            go_wp2_with fail
            refine (unhide C6 _ (unhide HM)).mono ?_
            rintro e w6 ⟨rfl, rfl⟩
            go_wp2
            go_ret
            exact ⟨rfl, rfl⟩

set_option maxHeartbeats 1000000 in
theorem pnote_any (s : ByteArray) (w : World) (ht : Tabs w) (hm : Mx w) (hs : s.size ≤ 100000) :
    Calls Tryd.prog 22 #[.string s] w fun e w' => e = .returned (toldV (noteB s.data.toList) (bs (noteL s.data.toList))) ∧ Below w.heap.size w w' := by
  have HT := hide ht
  have HM := hide hm
  have CG := hide (fun w h => pgood_any s w h (by omega))
  have CE := hide (fun w h => early_any s w h hs)
  have hnl := note_bs s
  generalize bs (noteL s.data.toList) = y at *
  unfold toldV noteB
  generalize goodB s.data.toList = gb at *
  generalize early s.data.toList = eb at *
  clear ht hm
  cases gb with
  | false =>
    rw [Bool.false_and, if_neg (by decide), if_neg (by decide)]
    go_enter Tryd.func22, Tryd.ntmps22
    go_wp2_with fail
    refine (unhide CG _ (unhide HT)).mono ?_
    rintro e w1 ⟨rfl, hb1⟩
    go_wp2
    go_ret2
    exact ⟨rfl, hb1⟩
  | true =>
    rw [Bool.true_and]
    cases eb with
    | true =>
      rw [if_neg (by decide), if_neg (by decide)]
      go_enter Tryd.func22, Tryd.ntmps22
      go_wp2_with fail
      refine (unhide CG _ (unhide HT)).mono ?_
      rintro e w1 ⟨rfl, hb1⟩
      go_wp2_with fail
      refine (unhide CE _ ((unhide HM).below hb1)).mono ?_
      rintro e w2 ⟨rfl, rfl⟩
      go_wp2
      go_ret2
      exact ⟨rfl, hb1⟩
    | false =>
      rw [if_pos (by decide), if_pos (by decide)]
      go_enter Tryd.func22, Tryd.ntmps22
      go_wp2_with fail
      refine (unhide CG _ (unhide HT)).mono ?_
      rintro e w1 ⟨rfl, hb1⟩
      go_wp2_with fail
      refine (unhide CE _ ((unhide HM).below hb1)).mono ?_
      rintro e w2 ⟨rfl, rfl⟩
      go_wp2
      go_ret2
      exact ⟨rfl, hb1⟩

theorem early_ref (l : List UInt8) : early l = (at6 l [62] 0 || (at6 l [45, 62] 0 || (Lib.contains l [45, 45, 62] || (Lib.contains l [45, 45, 33, 62] || (at6 l [45] ((l.length : Int) - 1) || at6 l [45, 45, 33] ((l.length : Int) - 3)))))) := by
  have e1 := suffix_at l [45]
  have e2 := suffix_at l [45, 45, 33]
  have e3 : at6 l [45] ((l.length : Int) - 1) = Lib.hasSuffix l [45] := e1
  have e4 : at6 l [45, 45, 33] ((l.length : Int) - 3) = Lib.hasSuffix l [45, 45, 33] := e2
  rw [prefix_at, prefix_at, e3, e4]
  unfold early
  cases [62].isPrefixOf l <;> cases [45, 62].isPrefixOf l <;> cases Lib.hasSuffix l [45] <;> cases Lib.hasSuffix l [45, 45, 33] <;> cases Lib.contains l [45, 45, 62] <;> cases Lib.contains l [45, 45, 33, 62] <;> rfl

set_option maxHeartbeats 4000000 in
theorem rnote6_any (s : ByteArray) (w : World) (hs : s.size ≤ 100000) :
    Calls Tryd.prog 23 #[.string s] w fun e w' => e = .returned (toldV (noteB s.data.toList) (bs (noteL s.data.toList))) ∧ Below w.heap.size w w' := by
  have CG := hide (fun w => rgood6_any s w hs)
  have C1 : Hid (∀ w, Calls Tryd.prog 43 #[.string s, .int .i64 0, .string ⟨#[62]⟩] w fun e w' => e = .returned (.bool (at6 s.data.toList [62] 0)) ∧ w' = w) := fun w => at6_any s ⟨#[62]⟩ 0 w hs (by decide) (by omega) (by omega)
  have C2 : Hid (∀ w, Calls Tryd.prog 43 #[.string s, .int .i64 0, .string ⟨#[45, 62]⟩] w fun e w' => e = .returned (.bool (at6 s.data.toList [45, 62] 0)) ∧ w' = w) := fun w => at6_any s ⟨#[45, 62]⟩ 0 w hs (by decide) (by omega) (by omega)
  have C3 : Hid (∀ w, Calls Tryd.prog 46 #[.string s, .string ⟨#[45, 45, 62]⟩] w fun e w' => e = .returned (.bool (Lib.contains s.data.toList [45, 45, 62])) ∧ w' = w) := fun w => has6_any s ⟨#[45, 45, 62]⟩ w hs (by decide) (by decide)
  have C4 : Hid (∀ w, Calls Tryd.prog 46 #[.string s, .string ⟨#[45, 45, 33, 62]⟩] w fun e w' => e = .returned (.bool (Lib.contains s.data.toList [45, 45, 33, 62])) ∧ w' = w) := fun w => has6_any s ⟨#[45, 45, 33, 62]⟩ w hs (by decide) (by decide)
  have C5 : Hid (∀ w, Calls Tryd.prog 43 #[.string s, .int .i64 ((s.size : Int) - 1), .string ⟨#[45]⟩] w fun e w' => e = .returned (.bool (at6 s.data.toList [45] ((s.size : Int) - 1))) ∧ w' = w) := fun w => at6_any s ⟨#[45]⟩ _ w hs (by decide) (by omega) (by omega)
  have C6 : Hid (∀ w, Calls Tryd.prog 43 #[.string s, .int .i64 ((s.size : Int) - 3), .string ⟨#[45, 45, 33]⟩] w fun e w' => e = .returned (.bool (at6 s.data.toList [45, 45, 33] ((s.size : Int) - 3))) ∧ w' = w) := fun w => at6_any s ⟨#[45, 45, 33]⟩ _ w hs (by decide) (by omega) (by omega)
  have hnl := note_bs s
  generalize bs (noteL s.data.toList) = y at *
  unfold toldV noteB
  rw [early_ref, data_len]
  generalize goodB s.data.toList = gb at *
  generalize at6 s.data.toList [62] 0 = b1 at *
  generalize at6 s.data.toList [45, 62] 0 = b2 at *
  generalize Lib.contains s.data.toList [45, 45, 62] = b3 at *
  generalize Lib.contains s.data.toList [45, 45, 33, 62] = b4 at *
  generalize at6 s.data.toList [45] ((s.size : Int) - 1) = b5 at *
  generalize at6 s.data.toList [45, 45, 33] ((s.size : Int) - 3) = b6 at *
  cases gb with
  | false =>
    rw [Bool.false_and, if_neg (by decide), if_neg (by decide)]
    go_enter Tryd.func23, Tryd.ntmps23
    go_wp2_with fail
    refine (unhide CG _).mono ?_
    rintro e w1 ⟨rfl, hb1⟩
    go_wp2
    go_ret2
    exact ⟨rfl, hb1⟩
  | true =>
    rw [Bool.true_and]
    cases b1 with
    | true =>
      rw [Bool.true_or]
      rw [if_neg (by decide), if_neg (by decide)]
      go_enter Tryd.func23, Tryd.ntmps23
      go_wp2_with fail
      refine (unhide CG _).mono ?_
      rintro e v1 ⟨rfl, hb1⟩
      go_wp2_with fail
      refine (unhide C1 _).mono ?_
      rintro e w1 ⟨rfl, rfl⟩
      go_wp2
      go_ret2
      exact ⟨rfl, hb1⟩
    | false =>
      rw [Bool.false_or]
      cases b2 with
      | true =>
        rw [Bool.true_or]
        rw [if_neg (by decide), if_neg (by decide)]
        go_enter Tryd.func23, Tryd.ntmps23
        go_wp2_with fail
        refine (unhide CG _).mono ?_
        rintro e v1 ⟨rfl, hb1⟩
        go_wp2_with fail
        refine (unhide C1 _).mono ?_
        rintro e w1 ⟨rfl, rfl⟩
        go_wp2_with fail
        refine (unhide C2 _).mono ?_
        rintro e w2 ⟨rfl, rfl⟩
        go_wp2
        go_ret2
        exact ⟨rfl, hb1⟩
      | false =>
        rw [Bool.false_or]
        cases b3 with
        | true =>
          rw [Bool.true_or]
          rw [if_neg (by decide), if_neg (by decide)]
          go_enter Tryd.func23, Tryd.ntmps23
          go_wp2_with fail
          refine (unhide CG _).mono ?_
          rintro e v1 ⟨rfl, hb1⟩
          go_wp2_with fail
          refine (unhide C1 _).mono ?_
          rintro e w1 ⟨rfl, rfl⟩
          go_wp2_with fail
          refine (unhide C2 _).mono ?_
          rintro e w2 ⟨rfl, rfl⟩
          go_wp2_with fail
          refine (unhide C3 _).mono ?_
          rintro e w3 ⟨rfl, rfl⟩
          go_wp2
          go_ret2
          exact ⟨rfl, hb1⟩
        | false =>
          rw [Bool.false_or]
          cases b4 with
          | true =>
            rw [Bool.true_or]
            rw [if_neg (by decide), if_neg (by decide)]
            go_enter Tryd.func23, Tryd.ntmps23
            go_wp2_with fail
            refine (unhide CG _).mono ?_
            rintro e v1 ⟨rfl, hb1⟩
            go_wp2_with fail
            refine (unhide C1 _).mono ?_
            rintro e w1 ⟨rfl, rfl⟩
            go_wp2_with fail
            refine (unhide C2 _).mono ?_
            rintro e w2 ⟨rfl, rfl⟩
            go_wp2_with fail
            refine (unhide C3 _).mono ?_
            rintro e w3 ⟨rfl, rfl⟩
            go_wp2_with fail
            refine (unhide C4 _).mono ?_
            rintro e w4 ⟨rfl, rfl⟩
            go_wp2
            go_ret2
            exact ⟨rfl, hb1⟩
          | false =>
            rw [Bool.false_or]
            cases b5 with
            | true =>
              rw [Bool.true_or]
              rw [if_neg (by decide), if_neg (by decide)]
              go_enter Tryd.func23, Tryd.ntmps23
              go_wp2_with fail
              refine (unhide CG _).mono ?_
              rintro e v1 ⟨rfl, hb1⟩
              go_wp2_with fail
              refine (unhide C1 _).mono ?_
              rintro e w1 ⟨rfl, rfl⟩
              go_wp2_with fail
              refine (unhide C2 _).mono ?_
              rintro e w2 ⟨rfl, rfl⟩
              go_wp2_with fail
              refine (unhide C3 _).mono ?_
              rintro e w3 ⟨rfl, rfl⟩
              go_wp2_with fail
              refine (unhide C4 _).mono ?_
              rintro e w4 ⟨rfl, rfl⟩
              go_wp2_with fail
              refine (unhide C5 _).mono ?_
              rintro e w5 ⟨rfl, rfl⟩
              go_wp2
              go_ret2
              exact ⟨rfl, hb1⟩
            | false =>
              rw [Bool.false_or]
              cases b6 with
              | true =>
                rw [if_neg (by decide), if_neg (by decide)]
                go_enter Tryd.func23, Tryd.ntmps23
                go_wp2_with fail
                refine (unhide CG _).mono ?_
                rintro e v1 ⟨rfl, hb1⟩
                go_wp2_with fail
                refine (unhide C1 _).mono ?_
                rintro e w1 ⟨rfl, rfl⟩
                go_wp2_with fail
                refine (unhide C2 _).mono ?_
                rintro e w2 ⟨rfl, rfl⟩
                go_wp2_with fail
                refine (unhide C3 _).mono ?_
                rintro e w3 ⟨rfl, rfl⟩
                go_wp2_with fail
                refine (unhide C4 _).mono ?_
                rintro e w4 ⟨rfl, rfl⟩
                go_wp2_with fail
                refine (unhide C5 _).mono ?_
                rintro e w5 ⟨rfl, rfl⟩
                go_wp2_with fail
                refine (unhide C6 _).mono ?_
                rintro e w6 ⟨rfl, rfl⟩
                go_wp2
                go_ret2
                exact ⟨rfl, hb1⟩
              | false =>
                rw [if_pos (by decide), if_pos (by decide)]
                go_enter Tryd.func23, Tryd.ntmps23
                go_wp2_with fail
                refine (unhide CG _).mono ?_
                rintro e v1 ⟨rfl, hb1⟩
                go_wp2_with fail
                refine (unhide C1 _).mono ?_
                rintro e w1 ⟨rfl, rfl⟩
                go_wp2_with fail
                refine (unhide C2 _).mono ?_
                rintro e w2 ⟨rfl, rfl⟩
                go_wp2_with fail
                refine (unhide C3 _).mono ?_
                rintro e w3 ⟨rfl, rfl⟩
                go_wp2_with fail
                refine (unhide C4 _).mono ?_
                rintro e w4 ⟨rfl, rfl⟩
                go_wp2_with fail
                refine (unhide C5 _).mono ?_
                rintro e w5 ⟨rfl, rfl⟩
                go_wp2_with fail
                refine (unhide C6 _).mono ?_
                rintro e w6 ⟨rfl, rfl⟩
                go_wp2
                go_ret2
                exact ⟨rfl, hb1⟩
end Go.Proofs.YtmiehnknnkcdlacDoor
