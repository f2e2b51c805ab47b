/-
  Several texts in one: what the functions of the program and of the document's answer do.
-/
import Derived.Test.YtakjlolmmoladabGreatDoorCKs
import Derived.Test.YtakjlolmmoladabGreatDoorUPl
import Derived.Test.YtakjlolmmoladabGreatDoorMgA
import Derived.Laws.EntriesVeiled
import Derived.Test.YtakjlolmmoladabGreatDoorBd
import Derived.Shelf.Strings.BuilderK
import Derived.Test.YtakjlolmmoladabGreatDoorEAt
import Derived.Test.YtakjlolmmoladabGreatDoorTLb
import Derived.Test.YtakjlolmmoladabGreatDoorAv
import Derived.Maps.OwnSet
import Derived.Maps.Views
import Derived.Deep.RegionWith

/-
  What pen and its reference make of texts, as plain functions of lists of bytes.
-/
namespace Go.Proofs.YtakjlolmmoladabGreatDoor
open Go.RowKit
set_option linter.unusedVariables false

def smN (b : Nat) : Bool := decide (97 ≤ b ∧ b ≤ 122)
def okN (b : Nat) : Bool := smN b || (dgN b || (decide (b = 45) || decide (b = 58)))
def moreN (b : Nat) : Bool := decide ((48 ≤ b ∧ b ≤ 58) ∨ b = 45)
theorem ok_more (b : Nat) : okN b = (smN b || moreN b) := by
  unfold okN dgN moreN
  cases smN b with
  | true => rfl
  | false =>
    simp only [Bool.false_or]
    by_cases h : (48 ≤ b ∧ b ≤ 58) ∨ b = 45
    · rw [decide_eq_true h]
      by_cases h1 : 48 ≤ b ∧ b ≤ 57
      · simp [h1]
      · by_cases h2 : b = 45
        · simp [h2]
        · have : b = 58 := by omega
          simp [this]
    · rw [decide_eq_false h, decide_eq_false (by omega), decide_eq_false (by omega), decide_eq_false (by omega)]; rfl
def gdN (b : Nat) : Bool := decide (b ≠ 0 ∧ b ≠ 13)
def allN (p : Nat → Bool) (l : List UInt8) : Bool := l.all fun c => p c.toNat
theorem allN_nil (p : Nat → Bool) : allN p [] = true := rfl
theorem allN_step (p : Nat → Bool) {l : List UInt8} {k : Nat} (h : k < l.length) : allN p (l.drop k) = (p (dgt l k) && allN p (l.drop (k + 1))) := by
  obtain ⟨c, hc, hn⟩ := drop_at l k h
  rw [hc, ← hn]; rfl
theorem allN_end (p : Nat → Bool) {l : List UInt8} {k : Nat} (h : l.length ≤ k) : allN p (l.drop k) = true := by
  rw [List.drop_eq_nil_of_le h]; rfl
def nameB (l : List UInt8) : Bool := decide (0 < l.length ∧ l.length ≤ 24) && (smN (dgt l 0) && allN okN l)
def goodB (l : List UInt8) : Bool := rightB l && allN gdN l
theorem smN_yes {b : Nat} (h : 97 ≤ b ∧ b ≤ 122) : smN b = true := decide_eq_true h
theorem smN_no {b : Nat} (h : ¬ (97 ≤ b ∧ b ≤ 122)) : smN b = false := decide_eq_false h

theorem small_any : ByteIs 24 smN := by
  intro b w
  by_cases h1 : 97 ≤ b
  · have i1 : (97 : Int) ≤ (b : Int) := by omega
    by_cases h2 : b ≤ 122
    · have i2 : (b : Int) ≤ 122 := by omega
      rw [smN_yes ⟨h1, h2⟩]
      go_enter Tryz.func24, Tryz.ntmps24
      go_wp2
      go_ret
      exact ⟨rfl, rfl⟩
    · have i2 : decide ((b : Int) ≤ 122) = false := decide_eq_false (by omega)
      rw [smN_no (by omega)]
      clear h2
      go_enter Tryz.func24, Tryz.ntmps24
      go_wp2
      go_ret
      exact ⟨rfl, rfl⟩
  · have i1 : decide ((97 : Int) ≤ (b : Int)) = false := decide_eq_false (by omega)
    rw [smN_no (by omega)]
    clear h1
    go_enter Tryz.func24, Tryz.ntmps24
    go_wp2
    go_ret
    exact ⟨rfl, rfl⟩
theorem fine_any : ByteIs 29 gdN := by
  intro b w
  unfold gdN
  by_cases h1 : b = 0
  · subst h1
    rw [decide_eq_false (by omega)]
    go_enter Tryz.func29, Tryz.ntmps29
    go_wp2
    go_ret
    exact ⟨rfl, rfl⟩
  · have n0 : ((b : Int) == 0) = false := bneI (by omega)
    have m0 : ((b : Int) != 0) = true := by simp; omega
    by_cases h2 : b = 13
    · subst h2
      rw [decide_eq_false (by omega)]
      go_enter Tryz.func29, Tryz.ntmps29
      go_wp2
      go_ret
      exact ⟨rfl, rfl⟩
    · have n1 : ((b : Int) == 13) = false := bneI (by omega)
      have m1 : ((b : Int) != 13) = true := by simp; omega
      rw [decide_eq_true (by omega)]
      clear h1 h2
      go_enter Tryz.func29, Tryz.ntmps29
      go_wp2
      go_ret
      exact ⟨rfl, rfl⟩

/-- The variable that the test of names captures. -/
def Cap (g : Nat) (w : World) : Prop := w.cell? ⟨g, 0, none⟩ = some (.func (.func 24) #[] #[])
theorem sign_any (b g : Nat) (w : World) (hg : Cap g w) :
    Calls Tryz.prog 26 #[.int .u8 (b : Int), .pointer (some ⟨g, 0, none⟩)] w fun e w' => e = .returned (.bool (okN b)) ∧ w' = w := by
  unfold Cap at hg
  unfold okN
  have CS := hide (small_any b)
  have CD := hide (digit_any b)
  generalize smN b = sb at *
  generalize dgN b = db at *
  cases sb with
  | true =>
    rw [Bool.true_or]
    go_enter Tryz.func26, Tryz.ntmps26
    go_wp2_with (first
      | (go_at_call 24; refine (unhide CS _).mono ?_; rintro e w1 ⟨rfl, rfl⟩)
      | (go_at_call 27; refine (unhide CD _).mono ?_; rintro e w1 ⟨rfl, rfl⟩))
    go_ret
    exact ⟨rfl, rfl⟩
  | false =>
    rw [Bool.false_or]
    cases db with
    | true =>
      rw [Bool.true_or]
      go_enter Tryz.func26, Tryz.ntmps26
      go_wp2_with (first
        | (go_at_call 24; refine (unhide CS _).mono ?_; rintro e w1 ⟨rfl, rfl⟩)
        | (go_at_call 27; refine (unhide CD _).mono ?_; rintro e w1 ⟨rfl, rfl⟩))
      go_ret
      exact ⟨rfl, rfl⟩
    | false =>
      rw [Bool.false_or]
      by_cases h1 : b = 45
      · subst h1
        rw [decide_eq_true rfl, Bool.true_or]
        go_enter Tryz.func26, Tryz.ntmps26
        go_wp2_with (first
          | (go_at_call 24; refine (unhide CS _).mono ?_; rintro e w1 ⟨rfl, rfl⟩)
          | (go_at_call 27; refine (unhide CD _).mono ?_; rintro e w1 ⟨rfl, rfl⟩))
        go_ret
        exact ⟨rfl, rfl⟩
      · have n1 : ((b : Int) == 45) = false := bneI (by omega)
        rw [decide_eq_false h1, Bool.false_or]
        by_cases h2 : b = 58
        · subst h2
          rw [decide_eq_true rfl]
          go_enter Tryz.func26, Tryz.ntmps26
          go_wp2_with (first
            | (go_at_call 24; refine (unhide CS _).mono ?_; rintro e w1 ⟨rfl, rfl⟩)
            | (go_at_call 27; refine (unhide CD _).mono ?_; rintro e w1 ⟨rfl, rfl⟩))
          go_ret
          exact ⟨rfl, rfl⟩
        · have n2 : ((b : Int) == 58) = false := bneI (by omega)
          rw [decide_eq_false h2]
          clear h1 h2
          go_enter Tryz.func26, Tryz.ntmps26
          go_wp2_with (first
            | (go_at_call 24; refine (unhide CS _).mono ?_; rintro e w1 ⟨rfl, rfl⟩)
            | (go_at_call 27; refine (unhide CD _).mono ?_; rintro e w1 ⟨rfl, rfl⟩))
          go_ret
          exact ⟨rfl, rfl⟩

set_option maxHeartbeats 1000000 in
theorem every_good (s : ByteArray) (w : World) (hs : s.size ≤ 9223372036854775807) :
    Calls Tryz.prog 25 #[.string s, .func (.func 29) #[] #[]] w fun e w' => e = .returned (.bool (allN gdN s.data.toList)) ∧ w' = w := by
  go_enter Tryz.func25, Tryz.ntmps25
  go_wp2
  go_loopw [8] (fun i wr => ∃ k : Nat, k ≤ s.size ∧ i = .int .i64 k ∧ allN gdN s.data.toList = allN gdN (s.data.toList.drop k) ∧ wr = w) (fun i _ => s.size - (intOf i).toNat)
  case atStart => exact ⟨0, Nat.zero_le _, rfl, rfl, rfl⟩
  case round =>
    obtain ⟨k, hk, rfl, hr, rfl⟩ := hrel
    have HR := hide hr
    clear hr
    by_cases hp : k < s.size
    · have hpi : (k : Int) < (s.size : Int) := by omega
      have e := dgt_at s k hp
      have hst := allN_step gdN (l := s.data.toList) (k := k) (by rw [data_len]; exact hp)
      have C := hide (fine_any (dgt s.data.toList k))
      have HST := hide hst
      clear hst
      generalize dgt s.data.toList k = b at *
      cases hg : gdN b with
      | true =>
        rw [hg] at C HST
        clear hg
        go_wp2_with (go_at_call 29; refine (unhide C _).mono ?_; rintro e1 w1 ⟨rfl, rfl⟩)
        go_roundw
        case rel => exact ⟨k + 1, by omega, by go_num, by rw [unhide HR, unhide HST]; rfl, by first | exact rfl | trivial⟩
        case measure => simp [intOf]; omega
      | false =>
        rw [hg] at C HST
        clear hg
        go_wp2_with (go_at_call 29; refine (unhide C _).mono ?_; rintro e1 w1 ⟨rfl, rfl⟩)
        go_ret
        exact ⟨by rw [unhide HR, unhide HST]; rfl, rfl⟩
    · have he : allN gdN s.data.toList = true := by rw [unhide HR]; exact allN_end _ (by rw [data_len]; omega)
      have HE := hide he
      clear he
      go_wp2
      go_ret
      exact ⟨by rw [unhide HE]; rfl, rfl⟩

set_option maxHeartbeats 1000000 in
theorem every_name (s : ByteArray) (g : Nat) (w : World) (hg : Cap g w) (hs : s.size ≤ 9223372036854775807) :
    Calls Tryz.prog 25 #[.string s, .func (.func 26) #[] #[.pointer (some ⟨g, 0, none⟩)]] w fun e w' => e = .returned (.bool (allN okN s.data.toList)) ∧ w' = w := by
  have HG := hide hg
  clear hg
  go_enter Tryz.func25, Tryz.ntmps25
  go_wp2
  go_loopw [8] (fun i wr => ∃ k : Nat, k ≤ s.size ∧ i = .int .i64 k ∧ allN okN s.data.toList = allN okN (s.data.toList.drop k) ∧ wr = w) (fun i _ => s.size - (intOf i).toNat)
  case atStart => exact ⟨0, Nat.zero_le _, rfl, rfl, rfl⟩
  case round =>
    obtain ⟨k, hk, rfl, hr, rfl⟩ := hrel
    have HR := hide hr
    clear hr
    by_cases hp : k < s.size
    · have hpi : (k : Int) < (s.size : Int) := by omega
      have e := dgt_at s k hp
      have hst := allN_step okN (l := s.data.toList) (k := k) (by rw [data_len]; exact hp)
      have C := hide (fun w h => sign_any (dgt s.data.toList k) g w h)
      have HST := hide hst
      clear hst
      generalize dgt s.data.toList k = b at *
      cases ho : okN b with
      | true =>
        rw [ho] at C HST
        clear ho
        go_wp2_with (go_at_call 26; refine (unhide C _ (unhide HG)).mono ?_; rintro e1 w1 ⟨rfl, rfl⟩)
        go_roundw
        case rel => exact ⟨k + 1, by omega, by go_num, by rw [unhide HR, unhide HST]; rfl, by first | exact rfl | trivial⟩
        case measure => simp [intOf]; omega
      | false =>
        rw [ho] at C HST
        clear ho
        go_wp2_with (go_at_call 26; refine (unhide C _ (unhide HG)).mono ?_; rintro e1 w1 ⟨rfl, rfl⟩)
        go_ret
        exact ⟨by rw [unhide HR, unhide HST]; rfl, rfl⟩
    · have he : allN okN s.data.toList = true := by rw [unhide HR]; exact allN_end _ (by rw [data_len]; omega)
      have HE := hide he
      clear he
      go_wp2
      go_ret
      exact ⟨by rw [unhide HE]; rfl, rfl⟩
end Go.Proofs.YtakjlolmmoladabGreatDoor

/-
  What 'pen.Name' and 'pen.Good' do, and the reference's.
-/
namespace Go.Proofs.YtakjlolmmoladabGreatDoor
open Go.RowKit
set_option linter.unusedVariables false

theorem nameB_short {l : List UInt8} (h : ¬ (0 < l.length ∧ l.length ≤ 24)) : nameB l = false := by
  unfold nameB; rw [decide_eq_false h]; rfl
theorem nameB_ok {l : List UInt8} (h : 0 < l.length ∧ l.length ≤ 24) : nameB l = (smN (dgt l 0) && allN okN l) := by
  unfold nameB; rw [decide_eq_true h]; rfl

set_option maxHeartbeats 2000000 in
theorem pname_any (s : ByteArray) (w : World) (hs : s.size ≤ 9223372036854775807) :
    Calls Tryz.prog 9 #[.string s] w fun e w' => e = .returned (.bool (nameB s.data.toList)) ∧ Below w.heap.size w w' := by
  by_cases h0 : s.size = 0
  · have he := is_empty s h0
    rw [nameB_short (by rw [data_len]; omega)]
    go_enter Tryz.func9, Tryz.ntmps9
    go_wp2
    go_ret
    exact ⟨rfl, Below.refl _ _⟩
  have he := not_empty s (by omega)
  by_cases h1 : 24 < s.size
  · have hi : (24 : Int) < (s.size : Int) := by omega
    rw [nameB_short (by rw [data_len]; omega)]
    go_enter Tryz.func9, Tryz.ntmps9
    go_wp2
    go_ret
    exact ⟨rfl, Below.refl _ _⟩
  have hi : ¬ (24 : Int) < (s.size : Int) := by omega
  have hp0 : 0 < s.size := by omega
  have hp0i : (0 : Int) < (s.size : Int) := by omega
  rw [nameB_ok (by rw [data_len]; omega)]
  have e0 := dgt_at s 0 hp0
  have CS := hide (small_any (dgt s.data.toList 0))
  have hcap : Cap w.heap.size (w.alloc (.cells #[.func (.func 24) #[] #[]] 59)) := World.cell?_alloc_at _ _ _ _ rfl
  have CE := hide (fun w' h => every_name s w.heap.size w' h hs)
  generalize dgt s.data.toList 0 = b at *
  generalize allN okN s.data.toList = ev at *
  have hmf : ∀ (fn : Fn) (first cap : Array Value) (w : World), (Instr.makeFunc fn first cap).run Tryz.prog w = .ok (.func fn first cap) w := fun _ _ _ _ => rfl
  have HC := hide hcap
  clear hcap h0 h1
  cases hb : smN b with
  | true =>
    rw [hb] at CS
    clear hb
    go_enter Tryz.func9, Tryz.ntmps9
    go_wp2
    go_quiet ((first | (go_at_call 24; exact Calls.quiet_of_same (unhide CS _)) | (go_at_call 25; exact Calls.quiet_of_same (unhide CE _ (unhide HC)))))
    go_wp2
    go_ret
    exact ⟨rfl, _root_.Go.below_drewN ((Below.refl _ _).alloc (Nat.le_refl _) _) _⟩
  | false =>
    rw [hb] at CS
    clear hb
    go_enter Tryz.func9, Tryz.ntmps9
    go_wp2
    go_quiet ((go_at_call 24; exact Calls.quiet_of_same (unhide CS _)))
    go_wp2
    go_ret
    exact ⟨rfl, _root_.Go.below_drewN ((Below.refl _ _).alloc (Nat.le_refl _) _) _⟩

set_option maxHeartbeats 1000000 in
theorem pgood_any (s : ByteArray) (w : World) (ht : Tabs w) (hs : s.size ≤ 9223372036854775807) :
    Calls Tryz.prog 10 #[.string s] w fun e w' => e = .returned (.bool (goodB s.data.toList)) ∧ Below w.heap.size w w' := by
  have C1 := hide (right_any s w ht hs)
  have C2 := hide (fun w => every_good s w hs)
  unfold goodB
  generalize rightB s.data.toList = rb at *
  generalize allN gdN s.data.toList = ab at *
  cases rb with
  | true =>
    rw [Bool.true_and]
    go_enter Tryz.func10, Tryz.ntmps10
    go_wp2_with fail
    refine (unhide C1).mono ?_
    rintro e w1 ⟨rfl, hb1⟩
    go_wp2_with fail
    refine (unhide C2 _).mono ?_
    rintro e w2 ⟨rfl, rfl⟩
    go_wp2
    go_ret
    exact ⟨rfl, hb1⟩
  | false =>
    rw [Bool.false_and]
    go_enter Tryz.func10, Tryz.ntmps10
    go_wp2_with fail
    refine (unhide C1).mono ?_
    rintro e w1 ⟨rfl, hb1⟩
    go_wp2
    go_ret
    exact ⟨rfl, hb1⟩

/-! ### the reference's -/
end Go.Proofs.YtakjlolmmoladabGreatDoor

/-
  What the methods of strings.Builder do that the program calls, with the frame that reaches above the builder: the library's contracts, laid at this program.
-/
namespace Go.Proofs.YtakjlolmmoladabGreatDoor
open Go.RowKit
set_option linter.unusedVariables false

def BldF (B b : Nat) (l : List UInt8) (w : World) : Prop := Lib.IsBuilderF 53 5 B b (Lib.byteCells l) w
def Oth (b : Nat) (w w' : World) : Prop := Lib.OthersKept 5 (some b) w w'

theorem writeStringK (B b : Nat) (l : List UInt8) (s : ByteArray) (w : World) (h : BldF B b l w) (hlen : l.length + s.size ≤ 140737488355328) (hBw : B ≤ w.heap.size) :
    Calls Tryz.prog 21 #[.pointer (some ⟨b, 0, none⟩), .string s] w fun e w' => e = .returned (.tuple #[.int .i64 s.size, .nilIface]) ∧ BldF B b (l ++ s.data.toList) w' ∧ Below B w w' ∧ Oth b w w' := by
  refine (Any.Builder_WriteString_k Tryz.lays166 Tryz.extraB B b (Lib.byteCells l) s w h (by rw [Lib.byteCells_length]; exact hlen) hBw).mono ?_
  rintro e w' ⟨he, hb, hbl, ho⟩
  refine ⟨he, .inr ?_, hbl, ho⟩
  rw [Lib.byteCells_append, ← Lib.strCells_eq]
  exact hb

theorem stringK (B b : Nat) (l : List UInt8) (w : World) (h : BldF B b l w) (hBw : B ≤ w.heap.size) :
    Calls Tryz.prog 23 #[.pointer (some ⟨b, 0, none⟩)] w fun e w' => e = .returned (.string (bs l)) ∧ Below B w w' := by
  refine (Any.Builder_String_any_k Tryz.lays169 Tryz.extraB B b l w h hBw).mono ?_
  rintro e w' ⟨he, _, hbl, _⟩
  exact ⟨he, hbl⟩

theorem bldF_below {B b : Nat} {l : List UInt8} {w w1 : World} (h : BldF B b l w) (hb : Below w.heap.size w w1) : BldF B b l w1 := by
  have one : ∀ p, Lib.BuilderAtF 53 5 B b p (Lib.byteCells l) w → Lib.BuilderAtF 53 5 B b p (Lib.byteCells l) w1 := by
    intro p h
    have hlt := h.lt
    obtain ⟨hB, v, hbk, hown, hne⟩ := h
    refine ⟨hB, v, (hb.block b hlt).trans hbk, ?_, hne⟩
    obtain ⟨hl, h⟩ := hown
    refine ⟨hl, ?_⟩
    rcases h with h | ⟨g, cap, cur, fz, h1, h2, h3, h4⟩
    · exact .inl h
    · refine .inr ⟨g, cap, cur, fz, h1, h2, ?_, h4⟩
      have hg : g < w.heap.size := by
        rcases Nat.lt_or_ge g w.heap.size with h | h
        · exact h
        · rw [Array.getElem?_eq_none h] at h3; cases h3
      rw [hb.block g hg]; exact h3
  rcases h with h | h
  · exact .inl (one _ h)
  · exact .inr (one _ h)
theorem bldF_new (w : World) : BldF w.heap.size w.heap.size [] (w.alloc (.cells #[.pointer none, .slice none 0 0] 53)) := Lib.IsBuilderF.of (bld_new w)
theorem bldF_alloc {B b : Nat} {l : List UInt8} {w : World} (h : BldF B b l w) (o : Obj) : BldF B b l (w.alloc o) := Lib.IsBuilderF.alloc h o
theorem bldF_iter {B b : Nat} {l : List UInt8} {w : World} (h : BldF B b l w) {k : Nat} {s : ByteArray} {pos : Nat} (hk : w.heap[k]? = some (.stringIter s pos)) (pos' : Nat) : BldF B b l (w.iterAt k s pos') := Lib.IsBuilderF.iterAt h hk pos'
theorem oth_iter {b : Nat} {w w' : World} (h : Oth b w w') {k : Nat} {s : ByteArray} {pos : Nat} (hk : w.heap[k]? = some (.stringIter s pos)) (hkb : k ≠ b) : w'.heap[k]? = some (.stringIter s pos) := Lib.OthersKept.iter h hk hkb
theorem iter_keeps {w w' : World} (h : Below w.heap.size w w') {k : Nat} {s : ByteArray} {pos : Nat} (hk : w.heap[k]? = some (.stringIter s pos)) : w'.heap[k]? = some (.stringIter s pos) := by
  have hlt : k < w.heap.size := by
    rcases Nat.lt_or_ge k w.heap.size with h | h
    · exact h
    · rw [Array.getElem?_eq_none h] at hk; cases hk
  rw [h.block k hlt]; exact hk
end Go.Proofs.YtakjlolmmoladabGreatDoor

/-
  What 'refs.Escape' does: any text with references.
-/
namespace Go.Proofs.YtakjlolmmoladabGreatDoor
open Go.RowKit
set_option linter.unusedVariables false

theorem cut_cut (l : List UInt8) (a b n : Nat) (h : a ≤ b) : (l.drop a).take (b - a) ++ (l.drop b).take n = (l.drop a).take (b + n - a) := by
  have e : l.drop b = (l.drop a).drop (b - a) := by rw [List.drop_drop]; congr 1; omega
  rw [e, show b + n - a = (b - a) + n by omega, List.take_add]
theorem bs_ne {l : List UInt8} (h : l ≠ []) : ¬ bs l = ByteArray.empty := by
  intro e; apply h; have := congrArg (fun x : ByteArray => x.data.toList) e; simpa [bs_toList] using this
theorem amp_bs : (⟨#[38]⟩ : ByteArray) = bs [38] := rfl
theorem semi_bs : (⟨#[59]⟩ : ByteArray) = bs [59] := rfl

set_option maxHeartbeats 4000000 in
theorem escape_any (s : ByteArray) (v : Bool) (w : World) (ht : Tabs w) (hs : s.size ≤ 100000) :
    Calls Tryz.prog 22 #[.string s, .bool v] w fun e w' => e = .returned (.string (bs (escL v s.data.toList))) ∧ Below w.heap.size w w' := by
  have HT := hide ht
  have hI0 : BldF w.heap.size w.heap.size [] ((w.alloc (.cells #[.pointer none, .slice none 0 0] 53)).iter s 0) := bldF_alloc (bldF_new w) _
  have hk0 : ((w.alloc (.cells #[.pointer none, .slice none 0 0] 53)).iter s 0).heap[w.heap.size + 1]? = some (.stringIter s 0) := by
    have h5 := World.iter_heap (w.alloc (.cells #[.pointer none, .slice none 0 0] 53)) s 0
    simpa using h5
  have hb0 : Below w.heap.size w ((w.alloc (.cells #[.pointer none, .slice none 0 0] 53)).iter s 0) := ((Below.refl _ w).alloc (Nat.le_refl _) _).alloc (by simp) _
  clear ht
  go_enter Tryz.func22, Tryz.ntmps22
  go_wp2
  go_loopw [6] (fun i wr => ∃ (frm pos : Nat) (acc : List UInt8), frm ≤ pos ∧ pos ≤ s.size ∧ i = .int .i64 (frm : Int) ∧ acc.length ≤ 6 * frm ∧ escL v s.data.toList = acc ++ ((s.data.toList.drop frm).take (pos - frm) ++ escL v (s.data.toList.drop pos)) ∧ wr.heap[w.heap.size + 1]? = some (.stringIter s pos) ∧ BldF w.heap.size w.heap.size acc wr ∧ Below w.heap.size w wr) (fun _ wr => s.size - wr.iterPos (w.heap.size + 1))
  case atStart => exact ⟨0, 0, [], Nat.le_refl _, Nat.zero_le _, rfl, by simp, by simp, hk0, hI0, hb0⟩
  case round =>
    obtain ⟨frm, pos, acc, hfp, hps, rfl, hal, hr, hk, hB, hbw⟩ := hrel
    have HR := hide hr
    have hzw := hbw.size
    clear hr hI0 hk0 hb0
    have hmu : wr.iterPos (w.heap.size + 1) = pos := by simp [World.iterPos, hk]
    have HMU := hide hmu
    clear hmu
    by_cases hp : pos < s.size
    · have hat := esc_at v s pos hp
      have hnx := fun ty => Lib.run_next_any_at (P := Tryz.prog) wr (w.heap.size + 1) s pos ty hk hp
      have hB1 := bldF_iter hB hk (pos + (Utf8.decode s pos).2)
      have hk1 := Lib.iterAt_heap wr (w.heap.size + 1) s pos (pos + (Utf8.decode s pos).2) hk
      have hb1 : Below w.heap.size w (wr.iterAt (w.heap.size + 1) s (pos + (Utf8.decode s pos).2)) := Lib.below_iterAt hbw (by omega) s _
      have CN := hide (fun w => nameFor_any ((Utf8.decode s pos).1 : Int) v w)
      have CB := hide (fun w h hc => bytesC ((Utf8.decode s pos).1 : Int) w h hc)
      have hdl := decode_le s pos
      generalize wr.iterAt (w.heap.size + 1) s (pos + (Utf8.decode s pos).2) = w1 at *
      generalize (Utf8.decode s pos).1 = c at *
      generalize (Utf8.decode s pos).2 = n at *
      generalize forN (c : Int) v = nm at *
      have hz1 := hb1.size
      have hcu := cut_cut s.data.toList frm pos n hfp
      have HCU := hide hcu
      clear hcu
      rcases hat with ⟨hnm, hn1, hn2, he⟩ | ⟨hnm, hn4, hc, hul, hn1, hn2, he⟩
      · subst hnm
        have hem : (bs []).toList.isEmpty = true := is_empty _ rfl
        have HE := hide he
        clear he CB
        go_wp2_with fail
        refine (unhide CN _).mono ?_
        rintro e1 w2 ⟨rfl, rfl⟩
        go_wp2
        go_roundw
        case rel => exact ⟨frm, pos + n, acc, by omega, by omega, rfl, hal, by rw [unhide HR, unhide HE, ← List.append_assoc ((s.data.toList.drop frm).take _), unhide HCU], hk1, hB1, hb1⟩
        case measure =>
          rw [unhide HMU]
          simp [World.iterPos, hk1]; omega
      · have hem : (bs nm).toList.isEmpty = false := not_empty _ (by rw [bs_size]; exact List.length_pos_iff.2 hnm)
        have hns : (bs nm).size ≤ 4 := by rw [bs_size]; exact hn4
        have hcb := cut_ex s frm pos
        have hcz : (s.extract frm pos).size = pos - frm := by simp; omega
        have hx : (s.extract frm pos ++ ⟨#[38]⟩ ++ bs nm ++ ⟨#[59]⟩ : ByteArray).data.toList = (s.data.toList.drop frm).take (pos - frm) ++ ([38] ++ nm ++ [59]) := by
          rw [hcb, amp_bs, semi_bs, bs_bs, bs_bs, bs_bs, bs_toList]; simp
        have hxz : (s.extract frm pos ++ ⟨#[38]⟩ ++ bs nm ++ ⟨#[59]⟩ : ByteArray).size ≤ pos - frm + 6 := by
          rw [ByteArray.size_append, ByteArray.size_append, ByteArray.size_append, hcz]
          show _ + 1 + _ + 1 ≤ _
          omega
        have HX := hide hx
        have HXZ := hide hxz
        have HE := hide he
        have HC := hide (fun w h => unhide CB w h hc)
        have hus : (bs (ub (c : Int))).size = n := by rw [bs_size]; exact hul
        clear he hx hxz hcb CB hul
        go_wp2_with fail
        refine (unhide CN _).mono ?_
        rintro e1 w2 ⟨rfl, rfl⟩
        go_wp2_with fail
        refine (writeStringK _ _ _ _ _ hB1 (by have := unhide HXZ; omega) (by omega)).mono ?_
        rintro e1 w3 ⟨rfl, hB3, hb3, ho3⟩
        rw [unhide HX] at hB3
        have hk3 := oth_iter ho3 hk1 (by omega)
        have hb13 := hb1.trans hb3
        have hz3 := hb13.size
        go_wp2_with fail
        refine (unhide HC _ ((unhide HT).below hb13)).mono ?_
        rintro e1 w4 ⟨rfl, hb4⟩
        have hB4 := bldF_below hB3 hb4
        have hk4 := iter_keeps hb4 hk3
        go_wp2
        go_roundw
        case rel => exact ⟨pos + n, pos + n, _, Nat.le_refl _, by omega, by first | rfl | go_num, by simp; omega, by rw [unhide HR, unhide HE]; simp, hk4, hB4, hb13.trans (hb4.mono hz3)⟩
        case measure =>
          rw [unhide HMU]
          simp [World.iterPos, hk4]; omega
    · have hnx := fun ty => Lib.run_next_end_at (P := Tryz.prog) wr (w.heap.size + 1) s pos ty hk hp
      have hf : escL v s.data.toList = acc ++ (s.extract frm s.size).data.toList := by
        have hdn : s.data.toList.drop pos = [] := List.drop_eq_nil_of_le (by rw [data_len]; omega)
        rw [unhide HR, cut_ex, bs_toList, hdn]
        have : escL v [] = [] := by simp [escL, escS]
        rw [this, List.append_nil, show pos - frm = s.size - frm by omega]
      have hxz : (s.extract frm s.size).size ≤ s.size := by simp
      have HF := hide hf
      clear hf
      go_wp2_with fail
      refine (writeStringK _ _ _ _ _ hB (by omega) (by omega)).mono ?_
      rintro e1 w3 ⟨rfl, hB3, hb3, ho3⟩
      have hb13 := hbw.trans hb3
      have hz3 := hb13.size
      rw [← unhide HF] at hB3
      go_wp2_with fail
      refine (stringK _ _ _ _ hB3 (by omega)).mono ?_
      rintro e1 w4 ⟨rfl, hb4⟩
      go_wp2
      go_ret
      exact ⟨rfl, hb13.trans hb4⟩
end Go.Proofs.YtakjlolmmoladabGreatDoor

/-
  What 'pen.Close' and 'pen.Chars' do, and the reference's.
-/
namespace Go.Proofs.YtakjlolmmoladabGreatDoor
open Go.RowKit
set_option linter.unusedVariables false

/-- What is told: a text, or that its form is wrong. -/
def toldV (b : Bool) (x : ByteArray) : Value := .tuple #[.string (if b = true then x else ⟨#[]⟩), .int .i64 (if b = true then 0 else 4)]
def closeL (l : List UInt8) : List UInt8 := [60, 47] ++ (l ++ [62])
theorem close_bs (s : ByteArray) : (⟨#[60, 47]⟩ : ByteArray) ++ s ++ ⟨#[62]⟩ = bs (closeL s.data.toList) := by
  have h1 : (⟨#[60, 47]⟩ : ByteArray) = bs [60, 47] := rfl
  have h2 : (⟨#[62]⟩ : ByteArray) = bs [62] := rfl
  rw [h1, h2, bs_add, bs_bs]; unfold closeL; simp

def charsB (l : List UInt8) : Bool := decide (l ≠ []) && goodB l
theorem charsB_no {l : List UInt8} (h : l = []) : charsB l = false := by subst h; rfl
theorem charsB_ok {l : List UInt8} (h : l ≠ []) : charsB l = goodB l := by unfold charsB; rw [decide_eq_true h]; rfl
theorem ne_size {s : ByteArray} (h : 0 < s.size) : s.data.toList ≠ [] := by
  intro e; have := congrArg List.length e; rw [data_len] at this; simp only [List.length_nil] at this; omega
theorem nil_size {s : ByteArray} (h : s.size = 0) : s.data.toList = [] := List.eq_nil_of_length_eq_zero (by rw [data_len]; exact h)

end Go.Proofs.YtakjlolmmoladabGreatDoor

/-
  What 'pen.Note' does, and the reference's: a comment's text, or that there is none.
-/
namespace Go.Proofs.YtakjlolmmoladabGreatDoor
open Go.RowKit
set_option linter.unusedVariables false

/-- Does a text stand at a place? -/
def at6 (l x : List UInt8) (i : Int) : Bool := decide (0 ≤ i ∧ (x.length : Int) ≤ (l.length : Int) - i) && x.isPrefixOf (l.drop i.toNat)
theorem at6_short {l x : List UInt8} {i : Int} (h : ¬ (0 ≤ i ∧ (x.length : Int) ≤ (l.length : Int) - i)) : at6 l x i = false := by
  unfold at6; rw [decide_eq_false h]; rfl
theorem at6_long {l x : List UInt8} {i : Int} (h : 0 ≤ i ∧ (x.length : Int) ≤ (l.length : Int) - i) : at6 l x i = x.isPrefixOf (l.drop i.toNat) := by
  unfold at6; rw [decide_eq_true h]; rfl
theorem suffix_at (l p : List UInt8) : at6 l p ((l.length : Int) - (p.length : Int)) = Lib.hasSuffix l p := by
  unfold Lib.hasSuffix
  by_cases h : p.length ≤ l.length
  · rw [at6_long (by omega), show ((l.length : Int) - (p.length : Int)).toNat = l.length - p.length by omega]
    rw [Bool.eq_iff_iff, List.isPrefixOf_iff_prefix, List.isSuffixOf_iff_suffix]
    constructor
    · intro hp
      have e : p = l.drop (l.length - p.length) := List.IsPrefix.eq_of_length hp (by rw [List.length_drop]; omega)
      have : l.drop (l.length - p.length) <:+ l := List.drop_suffix _ _
      rw [← e] at this; exact this
    · intro hs
      have e := List.suffix_iff_eq_drop.1 hs
      rw [← e]; exact List.prefix_refl _
  · rw [at6_short (by omega)]
    cases e : p.isSuffixOf l with
    | false => rfl
    | true => have := (List.isSuffixOf_iff_suffix.1 e).length_le; omega
theorem prefix_at (l p : List UInt8) : at6 l p 0 = p.isPrefixOf l := by
  by_cases h : p.length ≤ l.length
  · rw [at6_long (by omega)]; rfl
  · rw [at6_short (by omega)]
    cases e : p.isPrefixOf l with
    | false => rfl
    | true => have := (List.isPrefixOf_iff_prefix.1 e).length_le; omega

def early (l : List UInt8) : Bool := [62].isPrefixOf l || ([45, 62].isPrefixOf l || (Lib.hasSuffix l [45] || (Lib.hasSuffix l [45, 45, 33] || (Lib.contains l [45, 45, 62] || Lib.contains l [45, 45, 33, 62]))))
def noteB (l : List UInt8) : Bool := goodB l && !early l
def noteL (l : List UInt8) : List UInt8 := [60, 33, 45, 45] ++ (l ++ [45, 45, 62])
theorem note_bs (s : ByteArray) : (⟨#[60, 33, 45, 45]⟩ : ByteArray) ++ s ++ ⟨#[45, 45, 62]⟩ = bs (noteL s.data.toList) := by
  have h1 : (⟨#[60, 33, 45, 45]⟩ : ByteArray) = bs [60, 33, 45, 45] := rfl
  have h2 : (⟨#[45, 45, 62]⟩ : ByteArray) = bs [45, 45, 62] := rfl
  rw [h1, h2, bs_add, bs_bs]; unfold noteL; simp

set_option maxHeartbeats 2000000 in
theorem early_any (s : ByteArray) (w : World) (hm : Mx w) (hs : s.size ≤ 100000) :
    Calls Tryz.prog 11 #[.string s] w fun e w' => e = .returned (.bool (early s.data.toList)) ∧ w' = w := by
  have HM := hide hm
  have C1 : Hid (∀ w, Calls Tryz.prog 30 #[.string s, .string ⟨#[62]⟩] w fun e w' => e = .returned (.bool ([62].isPrefixOf s.data.toList)) ∧ w' = w) := fun w => prefix_any s [62] w
  have C2 : Hid (∀ w, Calls Tryz.prog 30 #[.string s, .string ⟨#[45, 62]⟩] w fun e w' => e = .returned (.bool ([45, 62].isPrefixOf s.data.toList)) ∧ w' = w) := fun w => prefix_any s [45, 62] w
  have C3 : Hid (∀ w, Calls Tryz.prog 31 #[.string s, .string ⟨#[45]⟩] w fun e w' => e = .returned (.bool (Lib.hasSuffix s.data.toList [45])) ∧ w' = w) := fun w => suffix_any s [45] w hs
  have C4 : Hid (∀ w, Calls Tryz.prog 31 #[.string s, .string ⟨#[45, 45, 33]⟩] w fun e w' => e = .returned (.bool (Lib.hasSuffix s.data.toList [45, 45, 33])) ∧ w' = w) := fun w => suffix_any s [45, 45, 33] w hs
  have C5 : Hid (∀ w, Mx w → Calls Tryz.prog 32 #[.string s, .string ⟨#[45, 45, 62]⟩] w fun e w' => e = .returned (.bool (Lib.contains s.data.toList [45, 45, 62])) ∧ w' = w) := fun w h => contains_any s [45, 45, 62] w h hs
  have C6 : Hid (∀ w, Mx w → Calls Tryz.prog 32 #[.string s, .string ⟨#[45, 45, 33, 62]⟩] w fun e w' => e = .returned (.bool (Lib.contains s.data.toList [45, 45, 33, 62])) ∧ w' = w) := fun w h => contains_any s [45, 45, 33, 62] w h hs
  unfold early
  generalize [62].isPrefixOf s.data.toList = b1 at *
  generalize [45, 62].isPrefixOf s.data.toList = b2 at *
  generalize Lib.hasSuffix s.data.toList [45] = b3 at *
  generalize Lib.hasSuffix s.data.toList [45, 45, 33] = b4 at *
  generalize Lib.contains s.data.toList [45, 45, 62] = b5 at *
  generalize Lib.contains s.data.toList [45, 45, 33, 62] = b6 at *
  clear hm
  cases b1 with
  | true =>
    rw [Bool.true_or]
    go_enter Tryz.func11, Tryz.ntmps11
    go_wp2_with fail
    refine (unhide C1 _).mono ?_
    rintro e w1 ⟨rfl, rfl⟩
    go_wp2
    go_ret
    exact ⟨rfl, rfl⟩
  | false =>
    rw [Bool.false_or]
    cases b2 with
    | true =>
      rw [Bool.true_or]
      go_enter Tryz.func11, Tryz.ntmps11
      go_wp2_with fail
      refine (unhide C1 _).mono ?_
      rintro e w1 ⟨rfl, rfl⟩
      go_wp2_with fail
      refine (unhide C2 _).mono ?_
      rintro e w2 ⟨rfl, rfl⟩
      go_wp2
      go_ret
      exact ⟨rfl, rfl⟩
    | false =>
      rw [Bool.false_or]
      cases b3 with
      | true =>
        rw [Bool.true_or]
        go_enter Tryz.func11, Tryz.ntmps11
        go_wp2_with fail
        refine (unhide C1 _).mono ?_
        rintro e w1 ⟨rfl, rfl⟩
        go_wp2_with fail
        refine (unhide C2 _).mono ?_
        rintro e w2 ⟨rfl, rfl⟩
        go_wp2_with fail
        refine (unhide C3 _).mono ?_
        rintro e w3 ⟨rfl, rfl⟩
        go_wp2
        go_ret
        exact ⟨rfl, rfl⟩
      | false =>
        rw [Bool.false_or]
        cases b4 with
        | true =>
          rw [Bool.true_or]
          go_enter Tryz.func11, Tryz.ntmps11
          go_wp2_with fail
          refine (unhide C1 _).mono ?_
          rintro e w1 ⟨rfl, rfl⟩
          go_wp2_with fail
          refine (unhide C2 _).mono ?_
          rintro e w2 ⟨rfl, rfl⟩
          go_wp2_with fail
          refine (unhide C3 _).mono ?_
          rintro e w3 ⟨rfl, rfl⟩
          go_wp2_with fail
          refine (unhide C4 _).mono ?_
          rintro e w4 ⟨rfl, rfl⟩
          go_wp2
          go_ret
          exact ⟨rfl, rfl⟩
        | false =>
          rw [Bool.false_or]
          cases b5 with
          | true =>
            rw [Bool.true_or]
            go_enter Tryz.func11, Tryz.ntmps11
            go_wp2_with fail
            refine (unhide C1 _).mono ?_
            rintro e w1 ⟨rfl, rfl⟩
            go_wp2_with fail
            refine (unhide C2 _).mono ?_
            rintro e w2 ⟨rfl, rfl⟩
            go_wp2_with fail
            refine (unhide C3 _).mono ?_
            rintro e w3 ⟨rfl, rfl⟩
            go_wp2_with fail
            refine (unhide C4 _).mono ?_
            rintro e w4 ⟨rfl, rfl⟩
            go_wp2_with fail
            refine (unhide C5 _ (unhide HM)).mono ?_
            rintro e w5 ⟨rfl, rfl⟩
            go_wp2
            go_ret
            exact ⟨rfl, rfl⟩
          | false =>
            rw [Bool.false_or]
            go_enter Tryz.func11, Tryz.ntmps11
            go_wp2_with fail
            refine (unhide C1 _).mono ?_
            rintro e w1 ⟨rfl, rfl⟩
            go_wp2_with fail
            refine (unhide C2 _).mono ?_
            rintro e w2 ⟨rfl, rfl⟩
            go_wp2_with fail
            refine (unhide C3 _).mono ?_
            rintro e w3 ⟨rfl, rfl⟩
            go_wp2_with fail
            refine (unhide C4 _).mono ?_
            rintro e w4 ⟨rfl, rfl⟩
            go_wp2_with fail
            refine (unhide C5 _ (unhide HM)).mono ?_
            rintro e w5 ⟨rfl, rfl⟩
            go_wp2_with fail
            refine (unhide C6 _ (unhide HM)).mono ?_
            rintro e w6 ⟨rfl, rfl⟩
            go_wp2
            go_ret
            exact ⟨rfl, rfl⟩

set_option maxHeartbeats 1000000 in
theorem pnote_any (s : ByteArray) (w : World) (ht : Tabs w) (hm : Mx w) (hs : s.size ≤ 100000) :
    Calls Tryz.prog 5 #[.string s] w fun e w' => e = .returned (toldV (noteB s.data.toList) (bs (noteL s.data.toList))) ∧ Below w.heap.size w w' := by
  have HT := hide ht
  have HM := hide hm
  have CG := hide (fun w h => pgood_any s w h (by omega))
  have CE := hide (fun w h => early_any s w h hs)
  have hnl := note_bs s
  generalize bs (noteL s.data.toList) = y at *
  unfold toldV noteB
  generalize goodB s.data.toList = gb at *
  generalize early s.data.toList = eb at *
  clear ht hm
  cases gb with
  | false =>
    rw [Bool.false_and, if_neg (by decide), if_neg (by decide)]
    go_enter Tryz.func5, Tryz.ntmps5
    go_wp2_with fail
    refine (unhide CG _ (unhide HT)).mono ?_
    rintro e w1 ⟨rfl, hb1⟩
    go_wp2
    go_ret2
    exact ⟨rfl, hb1⟩
  | true =>
    rw [Bool.true_and]
    cases eb with
    | true =>
      rw [if_neg (by decide), if_neg (by decide)]
      go_enter Tryz.func5, Tryz.ntmps5
      go_wp2_with fail
      refine (unhide CG _ (unhide HT)).mono ?_
      rintro e w1 ⟨rfl, hb1⟩
      go_wp2_with fail
      refine (unhide CE _ ((unhide HM).below hb1)).mono ?_
      rintro e w2 ⟨rfl, rfl⟩
      go_wp2
      go_ret2
      exact ⟨rfl, hb1⟩
    | false =>
      rw [if_pos (by decide), if_pos (by decide)]
      go_enter Tryz.func5, Tryz.ntmps5
      go_wp2_with fail
      refine (unhide CG _ (unhide HT)).mono ?_
      rintro e w1 ⟨rfl, hb1⟩
      go_wp2_with fail
      refine (unhide CE _ ((unhide HM).below hb1)).mono ?_
      rintro e w2 ⟨rfl, rfl⟩
      go_wp2
      go_ret2
      exact ⟨rfl, hb1⟩

theorem early_ref (l : List UInt8) : early l = (at6 l [62] 0 || (at6 l [45, 62] 0 || (Lib.contains l [45, 45, 62] || (Lib.contains l [45, 45, 33, 62] || (at6 l [45] ((l.length : Int) - 1) || at6 l [45, 45, 33] ((l.length : Int) - 3)))))) := by
  have e1 := suffix_at l [45]
  have e2 := suffix_at l [45, 45, 33]
  have e3 : at6 l [45] ((l.length : Int) - 1) = Lib.hasSuffix l [45] := e1
  have e4 : at6 l [45, 45, 33] ((l.length : Int) - 3) = Lib.hasSuffix l [45, 45, 33] := e2
  rw [prefix_at, prefix_at, e3, e4]
  unfold early
  cases [62].isPrefixOf l <;> cases [45, 62].isPrefixOf l <;> cases Lib.hasSuffix l [45] <;> cases Lib.hasSuffix l [45, 45, 33] <;> cases Lib.contains l [45, 45, 62] <;> cases Lib.contains l [45, 45, 33, 62] <;> rfl

end Go.Proofs.YtakjlolmmoladabGreatDoor

/-
  What 'pen.allRight' and 'pen.hasTwice' do.
-/
namespace Go.Proofs.YtakjlolmmoladabGreatDoor
open Go.RowKit Go.Maps Go.WideMaps
set_option linter.unusedVariables false

/-- How long they may be. -/
def Fits (ats : List (ByteArray × ByteArray)) : Prop := ats.length ≤ 1000 ∧ ∀ k, k < ats.length → (an ats k).size ≤ 10000 ∧ (av ats k).size ≤ 10000
def rightAt (ats : List (ByteArray × ByteArray)) (k : Nat) : Bool := nameB (an ats k).data.toList && goodB (av ats k).data.toList
def rightF (ats : List (ByteArray × ByteArray)) : Nat → Bool
  | 0 => true
  | k + 1 => rightF ats k && rightAt ats k
def rightAs (ats : List (ByteArray × ByteArray)) : Bool := rightF ats ats.length
theorem rightF_no (ats : List (ByteArray × ByteArray)) {k : Nat} (h : rightAt ats k = false) : ∀ n, k < n → rightF ats n = false
  | 0, hn => by omega
  | n + 1, hn => by
    rw [rightF]
    by_cases e : k = n
    · subst e; rw [h]; simp
    · rw [rightF_no ats h n (by omega)]; rfl

set_option maxHeartbeats 2000000 in
theorem allRight_any (ats : List (ByteArray × ByteArray)) (g o cap : Nat) (w : World) (ht : Tabs w) (hc : Cells2 g o ats w) (hf : Fits ats) :
    Calls Tryz.prog 19 #[.slice (some ⟨g, o, none⟩) ats.length cap] w fun e w' => e = .returned (.bool (rightAs ats)) ∧ Below w.heap.size w w' := by
  have HT := hide ht
  have HC := hide hc
  have HF := hide hf
  have hlen : ats.length ≤ 1000 := hf.1
  have NO := hide (fun k h hk => rightF_no ats (k := k) h ats.length hk)
  clear ht hc hf
  go_enter Tryz.func19, Tryz.ntmps19
  go_wp2
  go_loopw [7] (fun i wr => ∃ k : Nat, k ≤ ats.length ∧ i = .int .i64 k ∧ rightF ats k = true ∧ Below w.heap.size w wr) (fun i _ => ats.length - (intOf i).toNat)
  case atStart => exact ⟨0, Nat.zero_le _, rfl, rfl, Below.refl _ _⟩
  case round =>
    obtain ⟨k, hk, rfl, hr, hbw⟩ := hrel
    have HR := hide hr
    have hzw := hbw.size
    clear hr
    by_cases hp : k < ats.length
    · have hpi : (k : Int) < (ats.length : Int) := by omega
      obtain ⟨c1, c2⟩ := (unhide HC).below hbw k hp
      have CN := hide (fun w => pname_any (an ats k) w (by have := (unhide HF).2 k hp; omega))
      have CG := hide (fun w h => pgood_any (av ats k) w h (by have := (unhide HF).2 k hp; omega))
      have hra : rightAt ats k = (nameB (an ats k).data.toList && goodB (av ats k).data.toList) := rfl
      have NK := hide (fun h => unhide NO k h hp)
      have HRA := hide hra
      clear hra
      generalize nameB (an ats k).data.toList = nb at *
      generalize goodB (av ats k).data.toList = gb at *
      generalize an ats k = a1 at *
      generalize av ats k = a2 at *
      have hbA : Below wr.heap.size wr (wr.alloc (.cells #[.string a1, .string a2] 41)) := (Below.refl _ _).alloc (Nat.le_refl _) _
      have hbA' := tr2 hbw hbA
      have f1 : (wr.alloc (.cells #[.string a1, .string a2] 41)).cell? ⟨wr.heap.size, 1, none⟩ = some (.string a2) := World.cell?_alloc_at _ _ _ _ rfl
      have F1 := hide f1
      clear f1
      cases nb with
      | false =>
        rw [Bool.false_and] at HRA
        have HV := hide (unhide NK (unhide HRA))
        go_wp2_with fail
        refine (unhide CN _).mono ?_
        rintro e w2 ⟨rfl, hb2⟩
        go_wp2
        go_ret
        exact ⟨by unfold rightAs; rw [unhide HV]; rfl, tr2 hbA' hb2⟩
      | true =>
        rw [Bool.true_and] at HRA
        cases gb with
        | false =>
          have HV := hide (unhide NK (unhide HRA))
          go_wp2_with fail
          refine (unhide CN _).mono ?_
          rintro e w2 ⟨rfl, hb2⟩
          have f1 := cell_later hb2 (unhide F1)
          have hb12 := tr2 hbA' hb2
          go_wp2_with fail
          refine (unhide CG _ ((unhide HT).below hb12)).mono ?_
          rintro e w3 ⟨rfl, hb3⟩
          go_wp2
          go_ret
          exact ⟨by unfold rightAs; rw [unhide HV]; rfl, tr2 hb12 hb3⟩
        | true =>
          go_wp2_with fail
          refine (unhide CN _).mono ?_
          rintro e w2 ⟨rfl, hb2⟩
          have f1 := cell_later hb2 (unhide F1)
          have hb12 := tr2 hbA' hb2
          go_wp2_with fail
          refine (unhide CG _ ((unhide HT).below hb12)).mono ?_
          rintro e w3 ⟨rfl, hb3⟩
          have hb13 := tr2 hb12 hb3
          go_wp2
          go_roundw
          case rel => exact ⟨k + 1, by omega, by go_num, by rw [rightF, unhide HR, unhide HRA]; rfl, hb13⟩
          case measure => simp [intOf]; omega
    · have hke : k = ats.length := by omega
      have hv : rightAs ats = true := by unfold rightAs; rw [← hke]; exact unhide HR
      have HV := hide hv
      clear hv
      go_wp2
      go_ret
      exact ⟨by rw [unhide HV]; rfl, hbw⟩

/-! ### whether two have one name -/
def keyA (ats : List (ByteArray × ByteArray)) (k : Nat) : Lit := .string (an ats k).data.toList
def putA {H : Type} (ats : List (ByteArray × ByteArray)) : Nat → DataW H
  | 0 => .map []
  | k + 1 => (putA ats k).put (keyA ats k) (.lit (.int .i64 k))
def diffN (ats : List (ByteArray × ByteArray)) : Nat := Maps.size (putA (H := Unit) ats ats.length)
theorem keyA_ok {ats : List (ByteArray × ByteArray)} (hf : Fits ats) {k : Nat} (hk : k < ats.length) : keyOf Tryz.prog 9 (.string (an ats k)) = some (keyA ats k) := by
  refine keyOf_string_mk Tryz.underlying9 ?_
  have := (hf.2 k hk).1
  unfold maxLen; omega

set_option maxHeartbeats 2000000 in
set_option maxRecDepth 100000 in
theorem hasTwice_any (ats : List (ByteArray × ByteArray)) (g o cap : Nat) (w : World) (hc : Cells2 g o ats w) (hf : Fits ats) :
    Calls Tryz.prog 20 #[.slice (some ⟨g, o, none⟩) ats.length cap] w fun e w' => e = .returned (.bool (decide (diffN ats < ats.length))) ∧ Below w.heap.size w w' := by
  have hmm := @run_makeMap Tryz.prog
  have HC := hide hc
  have HF := hide hf
  have hlen : ats.length ≤ 1000 := hf.1
  clear hc hf
  go_enter Tryz.func20, Tryz.ntmps20
  go_wp2
  go_loopw [9] (fun i wr => ∃ k : Nat, k ≤ ats.length ∧ i = .int .i64 k ∧ wr.ownsMap Tryz.prog 9 (plainElem Tryz.prog 3) w.heap.size k (putA (H := Unit) ats k) ∧ Below w.heap.size w wr) (fun i _ => ats.length - (intOf i).toNat)
  case atStart => exact ⟨0, Nat.zero_le _, rfl, World.ownsMap_made _ _ _ _, (Below.refl _ _).alloc (Nat.le_refl _) _⟩
  case round =>
    obtain ⟨k, hk, rfl, hown, hbw⟩ := hrel
    have hzw := hbw.size
    by_cases hp : k < ats.length
    · have hpi : (k : Int) < (ats.length : Int) := by omega
      obtain ⟨c1, c2⟩ := (unhide HC).below hbw k hp
      have hkey := keyA_ok (unhide HF) hp
      generalize an ats k = a1 at *
      generalize av ats k = a2 at *
      have hownA := hown.alloc (.cells #[.string a1, .string a2] 41)
      go_wp2_with (first
        | (at_mapUpdate; refine wpList_mapUpdate_own _ rfl _ _ _ 75 rfl 9 3 law9 Tryz.underlying75 (plainElem (H := Unit) Tryz.prog 3) w.heap.size k _ rfl hownA (by unfold maxLen; omega) _ _ _ rfl rfl hkey _ [] (plainElem_int Tryz.underlying3 (WalkArith.wf_i64 (by omega))) ?_; intro w1 hown1 hgrow1)
        | go_in)
      have hbA : Below w.heap.size w (wr.alloc (.cells #[.string a1, .string a2] 41)) := hbw.alloc hbw.size _
      have hbG := hbA.grown hgrow1 hbA.size (fun j hj => by cases hj; exact Nat.le_refl _)
      go_wp2
      go_roundw
      case rel => exact ⟨k + 1, by omega, by go_num, hown1, hbG⟩
      case measure => simp [intOf]; omega
    · have hke : k = ats.length := by omega
      subst hke
      go_wp2_with (first
        | (at_len; refine wpList_len_own _ rfl _ 75 rfl 9 3 Tryz.underlying75 _ w.heap.size ats.length _ rfl hown ?_)
        | go_in)
      go_ret
      exact ⟨rfl, hbw⟩
end Go.Proofs.YtakjlolmmoladabGreatDoor

/-
  What was escaped is, all of it, what it was, cleaned: of plain lists of bytes.
-/
namespace Go.Proofs.YtakjlolmmoladabGreatDoor
open Go.RowKit
set_option linter.unusedVariables false

/-! ### the five references, whatever stands behind them -/
theorem at_amp (v : Bool) (t : List UInt8) : atL (ampL ++ t) v = ([38], 5) := by cases v <;> kernel_rfl
theorem at_ltr (v : Bool) (t : List UInt8) : atL (ltL ++ t) v = ([60], 4) := by cases v <;> kernel_rfl
theorem at_gtr (v : Bool) (t : List UInt8) : atL (gtL ++ t) v = ([62], 4) := by cases v <;> kernel_rfl
theorem at_quot (v : Bool) (t : List UInt8) : atL (quotL ++ t) v = ([34], 6) := by cases v <;> kernel_rfl
theorem at_nbsp (v : Bool) (t : List UInt8) : atL (nbspL ++ t) v = ([194, 160], 6) := by cases v <;> kernel_rfl

theorem all_of {v : Bool} {a x t : List UInt8} {n : Nat} (h : atL (a ++ t) v = (x, (n : Int))) (hn : a.length = n) (h0 : a ≠ []) : allL v (a ++ t) = x ++ allL v t := by
  rw [allL_cons v (by simp [h0]), h]
  simp only [Int.toNat_natCast]
  rw [← hn, List.drop_left]

/-! ### a byte that begins no character begins none ahead of what was escaped -/
theorem cand_congr {l m : List UInt8} (h0 : dgt l 0 = dgt m 0) (h1 : tl l 1 = tl m 1 ∧ (tl l 1 = true → dgt l 1 = dgt m 1)) (h2 : tl l 1 = true → tl l 2 = tl m 2 ∧ (tl l 2 = true → dgt l 2 = dgt m 2))
    (h3 : tl l 1 = true → tl l 2 = true → tl l 3 = tl m 3 ∧ (tl l 3 = true → dgt l 3 = dgt m 3)) : cand l = cand m := by
  unfold cand
  rw [← h0]
  by_cases g1 : dgt l 0 < 128
  · rw [if_pos g1, if_pos g1]
  rw [if_neg g1, if_neg g1]
  by_cases g2 : dgt l 0 < 192
  · rw [if_pos g2, if_pos g2]
  rw [if_neg g2, if_neg g2]
  cases t1 : tl l 1 with
  | false =>
    have e1 : tl m 1 = false := by rw [← h1.1, t1]
    simp [e1]
  | true =>
    have e1 : tl m 1 = true := by rw [← h1.1, t1]
    have d1 := h1.2 t1
    have q2 := h2 t1
    cases t2 : tl l 2 with
    | false =>
      have e2 : tl m 2 = false := by rw [← q2.1, t2]
      simp [e1, e2, lo, d1]
    | true =>
      have e2 : tl m 2 = true := by rw [← q2.1, t2]
      have d2 := q2.2 t2
      have q3 := h3 t1 t2
      cases t3 : tl l 3 with
      | false =>
        have e3 : tl m 3 = false := by rw [← q3.1, t3]
        simp [e1, e2, e3, lo, d1, d2]
      | true =>
        have e3 : tl m 3 = true := by rw [← q3.1, t3]
        have d3 := q3.2 t3
        simp [e1, e2, e3, lo, d1, d2, d3]
theorem step_congr {l m : List UInt8} (h : cand l = cand m) : step l = step m := by
  unfold step dec; rw [h]

theorem tl_cons (c : UInt8) (l : List UInt8) (k : Nat) : tl (c :: l) (k + 1) = tl l k := by
  unfold tl; rw [dgt_succ]; simp
/-- Bytes that go on stay; what is no such byte stays none. -/
theorem esc_goes (v : Bool) (m : List UInt8) : tl m 0 = tl (escL v m) 0 ∧ (tl m 0 = true → dgt m 0 = dgt (escL v m) 0 ∧ ∃ c, m = c :: m.drop 1 ∧ escL v m = c :: escL v (m.drop 1)) := by
  cases m with
  | nil => exact ⟨rfl, fun h => by simp [tl] at h⟩
  | cons c r =>
    have hk : 0 < (c :: r).length := by simp
    by_cases g0 : c.toNat = 38
    · have e := esc_38 (v := v) hk g0
      simp only [List.drop_zero] at e
      refine ⟨?_, fun h => by simp [tl, dgt_cons, g0] at h⟩
      rw [e]; simp [tl, dgt_cons, g0, ampL]
    by_cases g1 : c.toNat = 60
    · have e := esc_60 (v := v) hk g1
      simp only [List.drop_zero] at e
      refine ⟨?_, fun h => by simp [tl, dgt_cons, g1] at h⟩
      rw [e]; simp [tl, dgt_cons, g1, ltL]
    by_cases g2 : c.toNat = 62
    · have e := esc_62 (v := v) hk g2
      simp only [List.drop_zero] at e
      refine ⟨?_, fun h => by simp [tl, dgt_cons, g2] at h⟩
      rw [e]; simp [tl, dgt_cons, g2, gtL]
    by_cases g3 : c.toNat = 34
    · have e := esc_34 (v := v) hk g3
      simp only [List.drop_zero] at e
      refine ⟨?_, fun h => by simp [tl, dgt_cons, g3] at h⟩
      rw [e]; cases v <;> simp [tl, dgt_cons, g3, quotL]
    by_cases g4 : c.toNat = 194 ∧ atB (c :: r) 1 = 160
    · have e := esc_160 (v := v) (k := 0) (l := c :: r) (at_lt g4.2) g4.1 g4.2
      simp only [List.drop_zero] at e
      refine ⟨?_, fun h => by simp [tl, dgt_cons, g4.1] at h⟩
      rw [e]; simp [tl, dgt_cons, g4.1, nbspL]
    · have e := esc_other (v := v) hk g0 g1 g2 g3 g4
      simp only [List.drop_zero, dgt_cons, byt_self] at e
      refine ⟨?_, fun h => ⟨?_, c, rfl, ?_⟩⟩
      · rw [e]; simp [tl, dgt_cons]
      · rw [e]; rfl
      · rw [e]
theorem step_esc (v : Bool) (c : UInt8) (m : List UInt8) : step (c :: m) = step (c :: escL v m) := by
  apply step_congr
  have a1 := esc_goes v m
  refine cand_congr rfl ?_ ?_ ?_
  · rw [tl_cons, tl_cons, dgt_succ, dgt_succ]; exact ⟨a1.1, fun h => (a1.2 h).1⟩
  · rw [tl_cons, tl_cons, tl_cons, dgt_succ, dgt_succ]
    intro h
    obtain ⟨_, d, hm, he⟩ := a1.2 h
    have a2 := esc_goes v (m.drop 1)
    rw [he]
    generalize m.drop 1 = r at *
    rw [hm, tl_cons, tl_cons, dgt_succ, dgt_succ]; exact ⟨a2.1, fun h => (a2.2 h).1⟩
  · rw [tl_cons, tl_cons, tl_cons, tl_cons, dgt_succ, dgt_succ]
    intro h h2
    obtain ⟨_, d, hm, he⟩ := a1.2 h
    have a2 := esc_goes v (m.drop 1)
    rw [he]
    generalize m.drop 1 = r at *
    rw [hm, tl_cons] at h2
    rw [hm, tl_cons, tl_cons, dgt_succ, dgt_succ]
    obtain ⟨_, d2, hm2, he2⟩ := a2.2 h2
    have a3 := esc_goes v (r.drop 1)
    rw [he2]
    generalize r.drop 1 = q at *
    rw [hm2, tl_cons, tl_cons, dgt_succ, dgt_succ]; exact ⟨a3.1, fun h => (a3.2 h).1⟩

/-! ### all of it -/
theorem esc_char (v : Bool) (c : Int) (r : List UInt8) (hc : isC c = true) (hf : forN c v = []) : escL v (ub c ++ r) = ub c ++ escL v r := by
  have hr := isC_true hc
  have hne : ub c ++ r ≠ [] := ub_ne c r
  have hn : c ≠ 38 ∧ c ≠ 160 ∧ c ≠ 60 ∧ c ≠ 62 ∧ ¬ (c = 34 ∧ v = true) := by
    refine ⟨fun h => ?_, fun h => ?_, fun h => ?_, fun h => ?_, fun h => ?_⟩
    · rw [h] at hf; cases v <;> cases hf
    · rw [h] at hf; cases v <;> cases hf
    · rw [h] at hf; cases v <;> cases hf
    · rw [h] at hf; cases v <;> cases hf
    · rw [h.1, h.2] at hf; cases hf
  by_cases hlow : c < 128
  · have e : ub c = [byt c] := by rw [ub, ubI_1 hlow]; rfl
    rw [e]
    have d0 : dgt ([byt c] ++ r) 0 = c.toNat := byt_n c (by omega) (by omega)
    by_cases h34 : c = 34
    · have hv : v = false := by cases v with | false => rfl | true => exact absurd ⟨h34, rfl⟩ hn.2.2.2.2
      subst hv
      have := esc_34 (v := false) (k := 0) (l := [byt c] ++ r) (by simp) (by rw [d0]; omega)
      simp only [List.drop_zero] at this
      rw [this]; subst h34; rfl
    · have := esc_other (v := v) (k := 0) (l := [byt c] ++ r) (by simp) (by rw [d0]; omega) (by rw [d0]; omega) (by rw [d0]; omega) (by rw [d0]; omega) (by rw [d0]; omega)
      simp only [List.drop_zero] at this
      rw [this, d0]
      have : ((c.toNat : Nat) : Int) = c := by omega
      rw [this]; rfl
  · have hcu := cand_ub c r (by omega) (by omega)
    have hsz := sz_cases c
    have hlen : (ub c).length = sz c := ub_len c
    have hrun := esc_run v (ub c ++ r) (sz c) 0 (by rw [List.length_append]; omega) (fun j hj => ?_)
    · simp only [List.drop_zero, Nat.zero_add] at hrun
      rw [hrun, ← hlen, List.take_left, List.drop_left]
    · rw [Nat.zero_add, atB_dgt]
      rcases hsz with ⟨h, e⟩ | ⟨hl, h, e⟩ | ⟨hl, h, e⟩ | ⟨h, e⟩
      · omega
      · rw [ub, ubI_2 hl h]
        simp only [List.map_cons, List.map_nil, List.cons_append, List.nil_append]
        have : j = 0 ∨ j = 1 := by omega
        rcases this with rfl | rfl
        · rw [dgt_cons, dgt_succ, dgt_cons, byt_n _ (by omega) (by omega), byt_n _ (by omega) (by omega)]
          omega
        · rw [dgt_succ, dgt_cons, byt_n _ (by omega) (by omega)]
          omega
      · rw [ub, ubI_3 hl h]
        simp only [List.map_cons, List.map_nil, List.cons_append, List.nil_append]
        have : j = 0 ∨ j = 1 ∨ j = 2 := by omega
        rcases this with rfl | rfl | rfl
        · rw [dgt_cons, byt_n _ (by omega) (by omega)]
          omega
        · rw [dgt_succ, dgt_cons, byt_n _ (by omega) (by omega)]
          omega
        · rw [dgt_succ, dgt_succ, dgt_cons, byt_n _ (by omega) (by omega)]
          omega
      · rw [ub, ubI_4 h]
        simp only [List.map_cons, List.map_nil, List.cons_append, List.nil_append]
        have : j = 0 ∨ j = 1 ∨ j = 2 ∨ j = 3 := by omega
        rcases this with rfl | rfl | rfl | rfl
        · rw [dgt_cons, byt_n _ (by omega) (by omega)]
          omega
        · rw [dgt_succ, dgt_cons, byt_n _ (by omega) (by omega)]
          omega
        · rw [dgt_succ, dgt_succ, dgt_cons, byt_n _ (by omega) (by omega)]
          omega
        · rw [dgt_succ, dgt_succ, dgt_succ, dgt_cons, byt_n _ (by omega) (by omega)]
          omega

theorem all_char (v : Bool) (c : Int) (t : List UInt8) (hc : isC c = true) (h38 : c ≠ 38) : allL v (ub c ++ t) = ub c ++ allL v t := by
  have hr := isC_true hc
  have hst := step_ub c t hc
  have h0 : ¬ dgt (ub c ++ t) 0 = 38 := by
    intro h
    have h1 := cand_1 (l := ub c ++ t) (by omega)
    rw [cand_ub c t (by omega) (by omega), h] at h1
    simp only [Option.some.injEq, Prod.mk.injEq] at h1
    exact h38 (by have := h1.1; omega)
  rw [allL_cons v (ub_ne c t), at_plain v h0, hst]
  simp only [Int.toNat_natCast]
  rw [← ub_len, List.drop_left]

theorem all_esc (v : Bool) : ∀ (f : Nat) (l : List UInt8), l.length ≤ f → allL v (escL v l) = cleanL l
  | 0, l, h => by
    have : l = [] := List.eq_nil_of_length_eq_zero (by omega)
    subst this; rfl
  | f + 1, l, h => by
    by_cases e : l = []
    · subst e; rfl
    have hl : 0 < l.length := List.length_pos_iff.2 e
    have hok := step_ok e
    rw [cleanL_cons e]
    have ih := all_esc v f (l.drop (step l).2.1) (by rw [List.length_drop]; omega)
    rw [← ih]
    cases hr : (step l).2.2 with
    | true =>
      have htk := step_take e hr
      have hc := hok.2.2.2
      have hsp : l = ub (step l).1 ++ l.drop (step l).2.1 := by rw [← htk.1, List.take_append_drop]
      generalize (step l).1 = c at *
      generalize (step l).2.1 = n at *
      generalize l.drop n = r at *
      rw [hsp]
      by_cases c38 : c = 38
      · subst c38
        have := esc_38 (v := v) (k := 0) (l := ub 38 ++ r) (by have := ub_ne 38 r; exact List.length_pos_iff.2 this) rfl
        simp only [List.drop_zero, Nat.zero_add] at this
        rw [this]; exact all_of (at_amp v _) rfl (by simp [ampL])
      by_cases c60 : c = 60
      · subst c60
        have := esc_60 (v := v) (k := 0) (l := ub 60 ++ r) (by have := ub_ne 60 r; exact List.length_pos_iff.2 this) rfl
        simp only [List.drop_zero, Nat.zero_add] at this
        rw [this]; exact all_of (at_ltr v _) rfl (by simp [ltL])
      by_cases c62 : c = 62
      · subst c62
        have := esc_62 (v := v) (k := 0) (l := ub 62 ++ r) (by have := ub_ne 62 r; exact List.length_pos_iff.2 this) rfl
        simp only [List.drop_zero, Nat.zero_add] at this
        rw [this]; exact all_of (at_gtr v _) rfl (by simp [gtL])
      by_cases c160 : c = 160
      · subst c160
        have := esc_160 (v := v) (k := 0) (l := ub 160 ++ r) (by show 1 < (194 :: 160 :: r).length; simp) rfl rfl
        simp only [List.drop_zero, Nat.zero_add] at this
        rw [this]; exact all_of (at_nbsp v _) rfl (by simp [nbspL])
      by_cases c34 : c = 34 ∧ v = true
      · obtain ⟨c34, hv⟩ := c34
        subst c34; subst hv
        have := esc_34 (v := true) (k := 0) (l := ub 34 ++ r) (by have := ub_ne 34 r; exact List.length_pos_iff.2 this) rfl
        simp only [List.drop_zero, Nat.zero_add] at this
        rw [this]; exact all_of (at_quot true _) rfl (by simp [quotL])
      have hf : forN c v = [] := by
        unfold forN
        rw [if_neg c38, if_neg c160, if_neg c60, if_neg c62, if_neg c34]
      rw [esc_char v c r hc hf, all_char v c _ hc c38]
    | false =>
      have hno := step_no hr
      obtain ⟨c, hc, hcn⟩ := drop_at l 0 hl
      rw [List.drop_zero, Nat.zero_add] at hc
      have hhigh : 128 ≤ dgt l 0 := by
        rcases Nat.lt_or_ge (dgt l 0) 128 with h1 | h1
        · have h2 := cand_1 h1
          have hcs : isC (dgt l 0 : Int) = true ∧ sz (dgt l 0 : Int) = 1 := by
            have : ∀ k : Nat, k < 128 → isC (k : Int) = true ∧ sz (k : Int) = 1 := by decide
            exact this _ h1
          have h3 := dec_yes h2 hcs.1 hcs.2
          simp only [step, h3] at hr; cases hr
        · exact h1
      have hnot : ¬ (dgt l 0 = 194 ∧ atB l 1 = 160) := by
        rintro ⟨q1, q2⟩
        have hlt := at_lt q2
        rw [atB_dgt] at q2
        have ht : tl l 1 = true := by rw [tl_iff]; exact ⟨hlt, by omega, by omega⟩
        have h2 := cand_2 (l := l) (by omega) (by omega)
        rw [if_pos ht, lo, q1, q2] at h2
        have h3 := dec_yes h2 (by decide) (by decide)
        simp only [step, h3] at hr; cases hr
      have heo := esc_other (v := v) (k := 0) (l := l) hl (by omega) (by omega) (by omega) (by omega) hnot
      rw [List.drop_zero, Nat.zero_add, ← hcn, byt_self] at heo
      have hst := step_esc v c (l.drop 1)
      rw [← hc] at hst
      rw [hno.1, hno.2, heo, allL_cons v (by simp), at_plain v (by rw [dgt_cons]; omega), ← hst, hno.1, hno.2]
      rfl

/-- What was escaped has neither < nor >, and in values no quotes. -/
def safeB (v : Bool) (c : UInt8) : Bool := !(decide (c.toNat = 60) || decide (c.toNat = 62) || (v && decide (c.toNat = 34)))
theorem esc_safe (v : Bool) : ∀ (l : List UInt8) (b : Bool), (escS v b l).all (safeB v) = true
  | [], b => by cases b <;> rfl
  | c :: l, true => by rw [escS]; exact esc_safe v l false
  | c :: l, false => by
    rw [escS]
    have i1 := esc_safe v l false
    have i2 := esc_safe v l true
    by_cases g0 : c.toNat = 38
    · rw [if_pos g0, List.all_append, i1]; cases v <;> rfl
    rw [if_neg g0]
    by_cases g1 : c.toNat = 60
    · rw [if_pos g1, List.all_append, i1]; cases v <;> rfl
    rw [if_neg g1]
    by_cases g2 : c.toNat = 62
    · rw [if_pos g2, List.all_append, i1]; cases v <;> rfl
    rw [if_neg g2]
    by_cases g3 : c.toNat = 34
    · rw [if_pos g3, List.all_append, i1]; cases v <;> rfl
    rw [if_neg g3]
    by_cases g4 : c.toNat = 194 ∧ hd160 l = true
    · rw [if_pos g4, List.all_append, i2]; cases v <;> rfl
    · rw [if_neg g4, List.all_cons, i1]
      simp [safeB, g1, g2, g3]
theorem esc_safe_at (v : Bool) (l : List UInt8) (k : Nat) (h : k < (escL v l).length) : ¬ dgt (escL v l) k = 60 ∧ ¬ dgt (escL v l) k = 62 ∧ (v = true → ¬ dgt (escL v l) k = 34) := by
  have hs := esc_safe v l false
  rw [List.all_eq_true] at hs
  have := hs _ (List.getElem_mem h)
  have e : dgt (escL v l) k = ((escL v l)[k]).toNat := by unfold dgt; rw [List.getD, List.getElem?_eq_getElem h]; rfl
  rw [e]
  unfold safeB at this
  simp at this
  exact ⟨this.1.1, this.1.2, fun hv => this.2.resolve_left (fun h => by rw [hv] at h; cases h)⟩
theorem esc_len (v : Bool) : ∀ (l : List UInt8) (b : Bool), (escS v b l).length ≤ 6 * l.length
  | [], b => by cases b <;> simp [escS]
  | c :: l, true => by rw [escS]; have := esc_len v l false; simp; omega
  | c :: l, false => by
    rw [escS]
    have i1 := esc_len v l false
    have i2 := esc_len v l true
    repeat' split
    all_goals simp [ampL, ltL, gtL, quotL, nbspL]
    all_goals omega
end Go.Proofs.YtakjlolmmoladabGreatDoor

/-
  What 'pen.Open' does: a tag's text, or why it has none.
-/
namespace Go.Proofs.YtakjlolmmoladabGreatDoor
open Go.RowKit
set_option linter.unusedVariables false

def attB (n v : List UInt8) : List UInt8 := [32] ++ (n ++ ([61, 34] ++ (escL true v ++ [34])))
def attL (ats : List (ByteArray × ByteArray)) : Nat → List UInt8
  | 0 => []
  | k + 1 => attL ats k ++ attB (an ats k).data.toList (av ats k).data.toList
def openL (n : List UInt8) (ats : List (ByteArray × ByteArray)) : List UInt8 := [60] ++ (n ++ (attL ats ats.length ++ [62]))
/-- What is wrong with a tag; 0: nothing. -/
def wrongN (n : List UInt8) (ats : List (ByteArray × ByteArray)) : Int :=
  if (nameB n && rightAs ats) = false then 4 else if diffN ats < ats.length then 8 else if 12 < ats.length then 2 else 0
def openV (n : List UInt8) (ats : List (ByteArray × ByteArray)) : Value := .tuple #[.string (if wrongN n ats = 0 then bs (openL n ats) else ⟨#[]⟩), .int .i64 (wrongN n ats)]
theorem att_bs (a e : ByteArray) : (⟨#[32]⟩ : ByteArray) ++ a ++ ⟨#[61, 34]⟩ ++ e ++ ⟨#[34]⟩ = bs ([32] ++ (a.data.toList ++ ([61, 34] ++ (e.data.toList ++ [34])))) := by
  have h1 : (⟨#[32]⟩ : ByteArray) = bs [32] := rfl
  have h2 : (⟨#[61, 34]⟩ : ByteArray) = bs [61, 34] := rfl
  have h3 : (⟨#[34]⟩ : ByteArray) = bs [34] := rfl
  rw [h1, h2, h3, bs_add, bs_bs, bs_add, bs_bs]; simp

set_option maxHeartbeats 4000000 in
theorem popen_ok (n : ByteArray) (ats : List (ByteArray × ByteArray)) (g o cap : Nat) (w : World) (ht : Tabs w) (hc : Cells2 g o ats w) (hf : Fits ats) (hn : n.size ≤ 10000)
    (h1 : nameB n.data.toList = true) (h2 : rightAs ats = true) (h3 : ¬ diffN ats < ats.length) (h4 : ¬ 12 < ats.length) :
    Calls Tryz.prog 8 #[.string n, .slice (some ⟨g, o, none⟩) ats.length cap] w fun e w' => e = .returned (.tuple #[.string (bs (openL n.data.toList ats)), .int .i64 0]) ∧ Below w.heap.size w w' := by
  have HT := hide ht
  have HC := hide hc
  have HF := hide hf
  have hlen : ats.length ≤ 12 := by omega
  have CN := hide (fun w => pname_any n w (by omega))
  have CR := hide (fun w ht hc => allRight_any ats g o cap w ht hc hf)
  have CT := hide (fun w hc => hasTwice_any ats g o cap w hc hf)
  rw [h1] at CN
  rw [h2] at CR
  rw [decide_eq_false h3] at CT
  have h4i : ¬ (12 : Int) < (ats.length : Int) := by omega
  clear ht hc hf h1 h2 h3 h4
  go_enter Tryz.func8, Tryz.ntmps8
  go_wp2_with fail
  refine (unhide CN _).mono ?_
  rintro e w1 ⟨rfl, hb1⟩
  go_wp2_with fail
  refine (unhide CR _ ((unhide HT).below hb1) ((unhide HC).below hb1)).mono ?_
  rintro e w2 ⟨rfl, hb2⟩
  have hb12 := tr2 hb1 hb2
  go_wp2_with fail
  refine (unhide CT _ ((unhide HC).below hb12)).mono ?_
  rintro e w3 ⟨rfl, hb3⟩
  have hb13 := tr2 hb12 hb3
  have hbB : Below w.heap.size w (w3.alloc (.cells #[.pointer none, .slice none 0 0] 53)) := tr2 hb13 ((Below.refl _ _).alloc (Nat.le_refl _) _)
  have BN := bld_new w3
  have hz3 := hb13.size
  clear hb1 hb2 hb12 hb3
  have hsz1 : (⟨#[60]⟩ ++ n : ByteArray).size = n.size + 1 := by rw [ByteArray.size_append]; show 1 + _ = _; omega
  have hdt1 : (⟨#[60]⟩ ++ n : ByteArray).data.toList = [60] ++ n.data.toList := by simp
  go_wp2_with fail
  refine (writeString_any _ _ _ _ _ BN (by rw [hsz1]; simp; omega) (by simp)).mono ?_
  rintro e w4 ⟨rfl, B4, hb4⟩
  rw [hdt1] at B4
  simp only [List.nil_append] at B4
  have hbW : Below w.heap.size w w4 := hbB.trans (hb4.mono (by omega))
  have hbz4 : w3.heap.size ≤ w4.heap.size := by have := hb4.size; simp at this; omega
  generalize w3.heap.size = b at *
  have HBZ4 := hide hbz4
  clear hbz4
  have HBW := hide hbW
  have HB4 := hide B4
  have HZ3 := hide hz3
  clear hbW B4 hb4 hbB BN hb13 hsz1 hdt1
  go_wp2
  go_loopw [27] (fun i wr => ∃ k : Nat, k ≤ ats.length ∧ i = .int .i64 k ∧ Bld b b ([60] ++ n.data.toList ++ attL ats k) wr ∧ (attL ats k).length ≤ 80000 * k ∧ Below w.heap.size w wr ∧ b ≤ wr.heap.size) (fun i _ => ats.length - (intOf i).toNat)
  case atStart => exact ⟨0, Nat.zero_le _, rfl, by rw [attL, List.append_nil]; exact unhide HB4, by simp [attL], unhide HBW, unhide HBZ4⟩
  case round =>
    obtain ⟨k, hk, rfl, hB, hal, hbw, hbz⟩ := hrel
    have hzw := hbw.size
    by_cases hp : k < ats.length
    · have hpi : (k : Int) < (ats.length : Int) := by omega
      obtain ⟨c1, c2⟩ := (unhide HC).below hbw k hp
      have hft := (unhide HF).2 k hp
      have CE := hide (fun w h => escape_any (av ats k) true w h (by omega))
      have hel := esc_len true (av ats k).data.toList false
      rw [data_len] at hel
      have hatt : attL ats (k + 1) = attL ats k ++ attB (an ats k).data.toList (av ats k).data.toList := rfl
      have hab : ∀ E, E = bs (escL true (av ats k).data.toList) → (⟨#[32]⟩ ++ an ats k ++ ⟨#[61, 34]⟩ ++ E ++ ⟨#[34]⟩ : ByteArray) = bs (attB (an ats k).data.toList (av ats k).data.toList) := fun E hE => by
        rw [att_bs, hE, bs_toList]; rfl
      have habz : (attB (an ats k).data.toList (av ats k).data.toList).length ≤ 80000 := by
        unfold attB
        have : (escL true (av ats k).data.toList).length ≤ 6 * (av ats k).size := hel
        simp; omega
      have hab' := hab _ rfl
      have HATT := hide hatt
      have esz : (bs (escL true (av ats k).data.toList)).size ≤ 60000 := by
        rw [bs_size]
        have : (escL true (av ats k).data.toList).length ≤ 6 * (av ats k).size := hel
        omega
      clear hab hatt hel
      generalize attB (an ats k).data.toList (av ats k).data.toList = ab at *
      generalize bs (escL true (av ats k).data.toList) = E at *
      generalize an ats k = a1 at *
      generalize av ats k = a2 at *
      have hbA : Below wr.heap.size wr (wr.alloc (.cells #[.string a1, .string a2] 41)) := (Below.refl _ _).alloc (Nat.le_refl _) _
      have hbX := tr2 hbw hbA
      have BX := bld_below hB hbA
      have k0 : (wr.alloc (.cells #[.string a1, .string a2] 41)).cell? ⟨wr.heap.size, 0, none⟩ = some (.string a1) := World.cell?_alloc_at _ _ _ _ rfl
      have k1 : (wr.alloc (.cells #[.string a1, .string a2] 41)).cell? ⟨wr.heap.size, 1, none⟩ = some (.string a2) := World.cell?_alloc_at _ _ _ _ rfl
      have hzX := hbA.size
      have hsz : (⟨#[32]⟩ ++ a1 ++ ⟨#[61, 34]⟩ ++ E ++ ⟨#[34]⟩ : ByteArray).size ≤ 80000 := by rw [hab', bs_size]; exact habz
      have hsz2 : (bs ab).size ≤ 80000 := by rw [bs_size]; exact habz
      have hl1 : ([60] ++ n.data.toList ++ attL ats k).length + (bs ab).size ≤ 140737488355328 := by
        rw [List.length_append, List.length_append, data_len]; simp; omega
      have HB := hide hB
      clear hB
      go_wp2_with fail
      generalize wr.alloc (.cells #[.string a1, .string a2] 41) = wx at *
      generalize wr.heap.size = ga at *
      have TX := hide (((unhide HT).below hbX).below (Below.drew (Below.refl _ wx)))
      have hb0X : Below wx.heap.size wx wx.drew := Below.drew (Below.refl _ wx)
      have BXd := bld_below BX hb0X
      have hbXd := tr2 hbX hb0X
      have hbzX : b ≤ wx.heap.size := by omega
      go_region_with (first
        | (go_at_call 22; refine (unhide CE _ (unhide TX)).mono ?_; rintro e1 w5 ⟨rfl, hb5⟩; have d0 := cell_later hb5 k0; have d1 := cell_later hb5 k1; have B5 := bld_below BXd hb5; have hbz5 : b ≤ w5.heap.size := (by have := hb5.size; simp at this; omega); have hb05 := tr2 hbXd hb5)
        | (go_at_call 21; refine (writeString_any _ _ _ _ _ B5 hl1 hbz5).mono ?_; rintro e1 w6 ⟨rfl, B6, hb6⟩))
      all_goals
        rw [bs_toList] at B6
        have hb06 := hb05.trans (hb6.mono (unhide HZ3))
        have hbz6 : b ≤ w6.heap.size := by have := hb6.size; omega
        go_wp2
        go_roundw
        case rel => exact ⟨k + 1, by omega, by go_num, by rw [unhide HATT, ← List.append_assoc]; exact B6, by rw [unhide HATT, List.length_append]; omega, hb06, hbz6⟩
        case measure => simp [intOf]; omega
    · have hke : k = ats.length := by omega
      have hl1 : ([60] ++ n.data.toList ++ attL ats k).length + (⟨#[62]⟩ : ByteArray).size ≤ 140737488355328 := by
        rw [List.length_append, List.length_append, data_len]
        have : (⟨#[62]⟩ : ByteArray).size = 1 := rfl
        rw [this]; simp; omega
      subst hke
      go_wp2_with fail
      refine (writeString_any _ _ _ _ _ hB hl1 hbz).mono ?_
      rintro e1 w5 ⟨rfl, B5, hb5⟩
      have hb05 := hbw.trans (hb5.mono (unhide HZ3))
      go_wp2_with fail
      refine (string_any _ _ _ _ B5 (by simp)).mono ?_
      rintro e1 w6 ⟨rfl, hb6⟩
      have hb06 := hb05.trans (hb6.mono (unhide HZ3))
      go_wp2
      go_ret2
      exact ⟨rfl, hb06⟩
end Go.Proofs.YtakjlolmmoladabGreatDoor

/-
  The small case that each law of layer 6 asks: a tag with an attribute.
-/
namespace Go.Proofs.YtakjlolmmoladabGreatDoor
open Go.RowKit
set_option linter.unusedVariables false

def hrefL : List (ByteArray × ByteArray) := [(⟨#[104, 114, 101, 102]⟩, ⟨#[120, 34, 121]⟩)]
theorem href_cells (w : World) : Cells2 w.heap.size 0 hrefL (w.alloc (.cells #[.string ⟨#[104, 114, 101, 102]⟩, .string ⟨#[120, 34, 121]⟩] 41)) := by
  intro k hk
  have : k = 0 := by simp [hrefL] at hk; exact hk
  subst this
  exact ⟨World.cell?_alloc_at _ _ _ _ rfl, World.cell?_alloc_at _ _ _ _ rfl⟩
theorem href_fits : Fits hrefL := by
  refine ⟨by decide, fun k hk => ?_⟩
  have : k = 0 := by simp [hrefL] at hk; exact hk
  subst this
  exact ⟨by decide, by decide⟩
theorem href_right : rightAs hrefL = true := by kernel_rfl
theorem href_one : ¬ diffN hrefL < hrefL.length := by
  have : diffN hrefL = 1 := by kernel_rfl
  rw [this]; decide

def Link : Prop := ∀ w, Tabs w → Mx w → Calls Tryz.prog 4 #[] w fun e w' => e = .returned (.bool true) ∧ Below w.heap.size w w'
set_option maxHeartbeats 2000000 in
set_option maxRecDepth 100000 in
theorem link_any : Link := by
  intro w ht hm
  have HT := hide ht
  have HM := hide hm
  have C1 : Hid (∀ w', Tabs w' → Cells2 w.heap.size 0 hrefL w' → Calls Tryz.prog 8 #[.string ⟨#[97]⟩, .slice (some ⟨w.heap.size, 0, none⟩) 1 1] w' fun e w'' => e = .returned (.tuple #[.string ⟨#[60, 97, 32, 104, 114, 101, 102, 61, 34, 120, 38, 113, 117, 111, 116, 59, 121, 34, 62]⟩, .int .i64 0]) ∧ Below w'.heap.size w' w'') :=
    fun w' h1 h2 => popen_ok ⟨#[97]⟩ hrefL w.heap.size 0 1 w' h1 h2 href_fits (by decide) (by kernel_rfl) href_right href_one (by decide)
  have C2 : Hid (∀ w, Tabs w → Mx w → Calls Tryz.prog 5 #[.string ⟨#[97, 45, 45]⟩] w fun e w' => e = .returned (.tuple #[.string ⟨#[]⟩, .int .i64 4]) ∧ Below w.heap.size w w') := fun w h1 h2 => by
    have := pnote_any ⟨#[97, 45, 45]⟩ w h1 h2 (by decide)
    have e : noteB (⟨#[97, 45, 45]⟩ : ByteArray).data.toList = false := by kernel_rfl
    rw [e] at this; exact this
  have C3 : Hid (∀ w, Tabs w → Mx w → Calls Tryz.prog 5 #[.string ⟨#[98]⟩] w fun e w' => e = .returned (.tuple #[.string ⟨#[60, 33, 45, 45, 98, 45, 45, 62]⟩, .int .i64 0]) ∧ Below w.heap.size w w') := fun w h1 h2 => by
    have := pnote_any ⟨#[98]⟩ w h1 h2 (by decide)
    have e : noteB (⟨#[98]⟩ : ByteArray).data.toList = true := by kernel_rfl
    rw [e] at this; exact this
  have C4 : Hid (∀ w, Calls Tryz.prog 9 #[.string ⟨#[104, 49]⟩] w fun e w' => e = .returned (.bool true) ∧ Below w.heap.size w w') := fun w => by
    have := pname_any ⟨#[104, 49]⟩ w (by decide)
    have e : nameB (⟨#[104, 49]⟩ : ByteArray).data.toList = true := by kernel_rfl
    rw [e] at this; exact this
  have C5 : Hid (∀ w, Tabs w → Calls Tryz.prog 10 #[.string ⟨#[195, 169]⟩] w fun e w' => e = .returned (.bool true) ∧ Below w.heap.size w w') := fun w h => by
    have := pgood_any ⟨#[195, 169]⟩ w h (by decide)
    have e : goodB (⟨#[195, 169]⟩ : ByteArray).data.toList = true := by kernel_rfl
    rw [e] at this; exact this
  have HR := hide (href_cells w)
  have hb0 : Below w.heap.size w (w.alloc (.cells #[.string ⟨#[104, 114, 101, 102]⟩, .string ⟨#[120, 34, 121]⟩] 41)) := (Below.refl _ _).alloc (Nat.le_refl _) _
  clear ht hm
  go_enter Tryz.func4, Tryz.ntmps4
  go_wp2_with fail
  refine (unhide C1 _ ((unhide HT).below hb0) (unhide HR)).mono ?_
  rintro e w1 ⟨rfl, hb1⟩
  have hb01 := tr2 hb0 hb1
  go_wp2_with fail
  refine (unhide C2 _ ((unhide HT).below hb01) ((unhide HM).below hb01)).mono ?_
  rintro e w2 ⟨rfl, hb2⟩
  have hb02 := tr2 hb01 hb2
  go_wp2_with fail
  refine (unhide C3 _ ((unhide HT).below hb02) ((unhide HM).below hb02)).mono ?_
  rintro e w3 ⟨rfl, hb3⟩
  have hb03 := tr2 hb02 hb3
  go_wp2_with fail
  refine (unhide C4 _).mono ?_
  rintro e w4 ⟨rfl, hb4⟩
  have hb04 := tr2 hb03 hb4
  go_wp2_with fail
  refine (unhide C5 _ ((unhide HT).below hb04)).mono ?_
  rintro e w5 ⟨rfl, hb5⟩
  go_wp2
  go_ret
  exact ⟨rfl, tr2 hb04 hb5⟩
end Go.Proofs.YtakjlolmmoladabGreatDoor
