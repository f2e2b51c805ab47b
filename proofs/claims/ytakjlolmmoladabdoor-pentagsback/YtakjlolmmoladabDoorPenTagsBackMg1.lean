/-
  What 'pen.Close' and 'pen.Chars' do, and the reference's.
-/
import Derived.Test.YtakjlolmmoladabDoorCKs
import Derived.Test.YtakjlolmmoladabDoorUPl
import Derived.Test.YtakjlolmmoladabDoorUFst
import Derived.Laws.EntriesVeiled
import Derived.Test.YtakjlolmmoladabDoorESm
import Derived.Laws.IdiomStrings
import Derived.Lib.DecodeN
import Derived.Test.YtakjlolmmoladabDoorBd
import Derived.Shelf.Strings.BuilderK
import Derived.Test.YtakjlolmmoladabDoorEAt

/-
  What pen and its reference make of texts, as plain functions of lists of bytes.
-/
namespace Go.Proofs.YtakjlolmmoladabDoor
open Go.RowKit
set_option linter.unusedVariables false

def smN (b : Nat) : Bool := decide (97 ≤ b ∧ b ≤ 122)
def okN (b : Nat) : Bool := smN b || (dgN b || (decide (b = 45) || decide (b = 58)))
def moreN (b : Nat) : Bool := decide ((48 ≤ b ∧ b ≤ 58) ∨ b = 45)
theorem ok_more (b : Nat) : okN b = (smN b || moreN b) := by
  unfold okN dgN moreN
  cases smN b with
  | true => rfl
  | false =>
    simp only [Bool.false_or]
    by_cases h : (48 ≤ b ∧ b ≤ 58) ∨ b = 45
    · rw [decide_eq_true h]
      by_cases h1 : 48 ≤ b ∧ b ≤ 57
      · simp [h1]
      · by_cases h2 : b = 45
        · simp [h2]
        · have : b = 58 := by omega
          simp [this]
    · rw [decide_eq_false h, decide_eq_false (by omega), decide_eq_false (by omega), decide_eq_false (by omega)]; rfl
def gdN (b : Nat) : Bool := decide (b ≠ 0 ∧ b ≠ 13)
def allN (p : Nat → Bool) (l : List UInt8) : Bool := l.all fun c => p c.toNat
theorem allN_nil (p : Nat → Bool) : allN p [] = true := rfl
theorem allN_step (p : Nat → Bool) {l : List UInt8} {k : Nat} (h : k < l.length) : allN p (l.drop k) = (p (dgt l k) && allN p (l.drop (k + 1))) := by
  obtain ⟨c, hc, hn⟩ := drop_at l k h
  rw [hc, ← hn]; rfl
theorem allN_end (p : Nat → Bool) {l : List UInt8} {k : Nat} (h : l.length ≤ k) : allN p (l.drop k) = true := by
  rw [List.drop_eq_nil_of_le h]; rfl
def nameB (l : List UInt8) : Bool := decide (0 < l.length ∧ l.length ≤ 24) && (smN (dgt l 0) && allN okN l)
def goodB (l : List UInt8) : Bool := rightB l && allN gdN l
theorem smN_yes {b : Nat} (h : 97 ≤ b ∧ b ≤ 122) : smN b = true := decide_eq_true h
theorem smN_no {b : Nat} (h : ¬ (97 ≤ b ∧ b ≤ 122)) : smN b = false := decide_eq_false h

theorem small_any : ByteIs 33 smN := by
  intro b w
  by_cases h1 : 97 ≤ b
  · have i1 : (97 : Int) ≤ (b : Int) := by omega
    by_cases h2 : b ≤ 122
    · have i2 : (b : Int) ≤ 122 := by omega
      rw [smN_yes ⟨h1, h2⟩]
      go_enter Tryd.func33, Tryd.ntmps33
      go_wp2
      go_ret
      exact ⟨rfl, rfl⟩
    · have i2 : decide ((b : Int) ≤ 122) = false := decide_eq_false (by omega)
      rw [smN_no (by omega)]
      clear h2
      go_enter Tryd.func33, Tryd.ntmps33
      go_wp2
      go_ret
      exact ⟨rfl, rfl⟩
  · have i1 : decide ((97 : Int) ≤ (b : Int)) = false := decide_eq_false (by omega)
    rw [smN_no (by omega)]
    clear h1
    go_enter Tryd.func33, Tryd.ntmps33
    go_wp2
    go_ret
    exact ⟨rfl, rfl⟩
theorem fine_any : ByteIs 38 gdN := by
  intro b w
  unfold gdN
  by_cases h1 : b = 0
  · subst h1
    rw [decide_eq_false (by omega)]
    go_enter Tryd.func38, Tryd.ntmps38
    go_wp2
    go_ret
    exact ⟨rfl, rfl⟩
  · have n0 : ((b : Int) == 0) = false := bneI (by omega)
    have m0 : ((b : Int) != 0) = true := by simp; omega
    by_cases h2 : b = 13
    · subst h2
      rw [decide_eq_false (by omega)]
      go_enter Tryd.func38, Tryd.ntmps38
      go_wp2
      go_ret
      exact ⟨rfl, rfl⟩
    · have n1 : ((b : Int) == 13) = false := bneI (by omega)
      have m1 : ((b : Int) != 13) = true := by simp; omega
      rw [decide_eq_true (by omega)]
      clear h1 h2
      go_enter Tryd.func38, Tryd.ntmps38
      go_wp2
      go_ret
      exact ⟨rfl, rfl⟩

/-- The variable that the test of names captures. -/
def Cap (g : Nat) (w : World) : Prop := w.cell? ⟨g, 0, none⟩ = some (.func (.func 33) #[] #[])
theorem sign_any (b g : Nat) (w : World) (hg : Cap g w) :
    Calls Tryd.prog 35 #[.int .u8 (b : Int), .pointer (some ⟨g, 0, none⟩)] w fun e w' => e = .returned (.bool (okN b)) ∧ w' = w := by
  unfold Cap at hg
  unfold okN
  have CS := hide (small_any b)
  have CD := hide (digit_any b)
  generalize smN b = sb at *
  generalize dgN b = db at *
  cases sb with
  | true =>
    rw [Bool.true_or]
    go_enter Tryd.func35, Tryd.ntmps35
    go_wp2_with (first
      | (go_at_call 33; refine (unhide CS _).mono ?_; rintro e w1 ⟨rfl, rfl⟩)
      | (go_at_call 36; refine (unhide CD _).mono ?_; rintro e w1 ⟨rfl, rfl⟩))
    go_ret
    exact ⟨rfl, rfl⟩
  | false =>
    rw [Bool.false_or]
    cases db with
    | true =>
      rw [Bool.true_or]
      go_enter Tryd.func35, Tryd.ntmps35
      go_wp2_with (first
        | (go_at_call 33; refine (unhide CS _).mono ?_; rintro e w1 ⟨rfl, rfl⟩)
        | (go_at_call 36; refine (unhide CD _).mono ?_; rintro e w1 ⟨rfl, rfl⟩))
      go_ret
      exact ⟨rfl, rfl⟩
    | false =>
      rw [Bool.false_or]
      by_cases h1 : b = 45
      · subst h1
        rw [decide_eq_true rfl, Bool.true_or]
        go_enter Tryd.func35, Tryd.ntmps35
        go_wp2_with (first
          | (go_at_call 33; refine (unhide CS _).mono ?_; rintro e w1 ⟨rfl, rfl⟩)
          | (go_at_call 36; refine (unhide CD _).mono ?_; rintro e w1 ⟨rfl, rfl⟩))
        go_ret
        exact ⟨rfl, rfl⟩
      · have n1 : ((b : Int) == 45) = false := bneI (by omega)
        rw [decide_eq_false h1, Bool.false_or]
        by_cases h2 : b = 58
        · subst h2
          rw [decide_eq_true rfl]
          go_enter Tryd.func35, Tryd.ntmps35
          go_wp2_with (first
            | (go_at_call 33; refine (unhide CS _).mono ?_; rintro e w1 ⟨rfl, rfl⟩)
            | (go_at_call 36; refine (unhide CD _).mono ?_; rintro e w1 ⟨rfl, rfl⟩))
          go_ret
          exact ⟨rfl, rfl⟩
        · have n2 : ((b : Int) == 58) = false := bneI (by omega)
          rw [decide_eq_false h2]
          clear h1 h2
          go_enter Tryd.func35, Tryd.ntmps35
          go_wp2_with (first
            | (go_at_call 33; refine (unhide CS _).mono ?_; rintro e w1 ⟨rfl, rfl⟩)
            | (go_at_call 36; refine (unhide CD _).mono ?_; rintro e w1 ⟨rfl, rfl⟩))
          go_ret
          exact ⟨rfl, rfl⟩

set_option maxHeartbeats 1000000 in
theorem every_good (s : ByteArray) (w : World) (hs : s.size ≤ 9223372036854775807) :
    Calls Tryd.prog 34 #[.string s, .func (.func 38) #[] #[]] w fun e w' => e = .returned (.bool (allN gdN s.data.toList)) ∧ w' = w := by
  go_enter Tryd.func34, Tryd.ntmps34
  go_wp2
  go_loopw [8] (fun i wr => ∃ k : Nat, k ≤ s.size ∧ i = .int .i64 k ∧ allN gdN s.data.toList = allN gdN (s.data.toList.drop k) ∧ wr = w) (fun i _ => s.size - (intOf i).toNat)
  case atStart => exact ⟨0, Nat.zero_le _, rfl, rfl, rfl⟩
  case round =>
    obtain ⟨k, hk, rfl, hr, rfl⟩ := hrel
    have HR := hide hr
    clear hr
    by_cases hp : k < s.size
    · have hpi : (k : Int) < (s.size : Int) := by omega
      have e := dgt_at s k hp
      have hst := allN_step gdN (l := s.data.toList) (k := k) (by rw [data_len]; exact hp)
      have C := hide (fine_any (dgt s.data.toList k))
      have HST := hide hst
      clear hst
      generalize dgt s.data.toList k = b at *
      cases hg : gdN b with
      | true =>
        rw [hg] at C HST
        clear hg
        go_wp2_with (go_at_call 38; refine (unhide C _).mono ?_; rintro e1 w1 ⟨rfl, rfl⟩)
        go_roundw
        case rel => exact ⟨k + 1, by omega, by go_num, by rw [unhide HR, unhide HST]; rfl, by first | exact rfl | trivial⟩
        case measure => simp [intOf]; omega
      | false =>
        rw [hg] at C HST
        clear hg
        go_wp2_with (go_at_call 38; refine (unhide C _).mono ?_; rintro e1 w1 ⟨rfl, rfl⟩)
        go_ret
        exact ⟨by rw [unhide HR, unhide HST]; rfl, rfl⟩
    · have he : allN gdN s.data.toList = true := by rw [unhide HR]; exact allN_end _ (by rw [data_len]; omega)
      have HE := hide he
      clear he
      go_wp2
      go_ret
      exact ⟨by rw [unhide HE]; rfl, rfl⟩

set_option maxHeartbeats 1000000 in
theorem every_name (s : ByteArray) (g : Nat) (w : World) (hg : Cap g w) (hs : s.size ≤ 9223372036854775807) :
    Calls Tryd.prog 34 #[.string s, .func (.func 35) #[] #[.pointer (some ⟨g, 0, none⟩)]] w fun e w' => e = .returned (.bool (allN okN s.data.toList)) ∧ w' = w := by
  have HG := hide hg
  clear hg
  go_enter Tryd.func34, Tryd.ntmps34
  go_wp2
  go_loopw [8] (fun i wr => ∃ k : Nat, k ≤ s.size ∧ i = .int .i64 k ∧ allN okN s.data.toList = allN okN (s.data.toList.drop k) ∧ wr = w) (fun i _ => s.size - (intOf i).toNat)
  case atStart => exact ⟨0, Nat.zero_le _, rfl, rfl, rfl⟩
  case round =>
    obtain ⟨k, hk, rfl, hr, rfl⟩ := hrel
    have HR := hide hr
    clear hr
    by_cases hp : k < s.size
    · have hpi : (k : Int) < (s.size : Int) := by omega
      have e := dgt_at s k hp
      have hst := allN_step okN (l := s.data.toList) (k := k) (by rw [data_len]; exact hp)
      have C := hide (fun w h => sign_any (dgt s.data.toList k) g w h)
      have HST := hide hst
      clear hst
      generalize dgt s.data.toList k = b at *
      cases ho : okN b with
      | true =>
        rw [ho] at C HST
        clear ho
        go_wp2_with (go_at_call 35; refine (unhide C _ (unhide HG)).mono ?_; rintro e1 w1 ⟨rfl, rfl⟩)
        go_roundw
        case rel => exact ⟨k + 1, by omega, by go_num, by rw [unhide HR, unhide HST]; rfl, by first | exact rfl | trivial⟩
        case measure => simp [intOf]; omega
      | false =>
        rw [ho] at C HST
        clear ho
        go_wp2_with (go_at_call 35; refine (unhide C _ (unhide HG)).mono ?_; rintro e1 w1 ⟨rfl, rfl⟩)
        go_ret
        exact ⟨by rw [unhide HR, unhide HST]; rfl, rfl⟩
    · have he : allN okN s.data.toList = true := by rw [unhide HR]; exact allN_end _ (by rw [data_len]; omega)
      have HE := hide he
      clear he
      go_wp2
      go_ret
      exact ⟨by rw [unhide HE]; rfl, rfl⟩
end Go.Proofs.YtakjlolmmoladabDoor

/-
  What 'utf.isWrong' and 'utf.Right' do.
-/
namespace Go.Proofs.YtakjlolmmoladabDoor
open Go.RowKit
set_option linter.unusedVariables false

theorem wrong_yes (w : World) : Calls Tryd.prog 53 #[.int .i64 65533, .int .i64 1] w fun e w' => e = .returned (.bool true) ∧ w' = w := by
  go_enter Tryd.func53, Tryd.ntmps53
  go_wp2
  go_ret
  exact ⟨rfl, rfl⟩
theorem wrong_no (c : Int) (n : Nat) (w : World) (h : sz c = n) : Calls Tryd.prog 53 #[.int .i64 c, .int .i64 n] w fun e w' => e = .returned (.bool false) ∧ w' = w := by
  by_cases hc : c = 65533
  · subst hc
    have hn : n = 3 := by rw [← h]; rfl
    subst hn
    clear h
    go_enter Tryd.func53, Tryd.ntmps53
    go_wp2
    go_ret
    exact ⟨rfl, rfl⟩
  · have hb : (c == 65533) = false := beq_eq_false_iff_ne.2 hc
    clear hc h
    go_enter Tryd.func53, Tryd.ntmps53
    go_wp2
    go_ret
    exact ⟨rfl, rfl⟩

def WrongIs (c : Int) (n : Nat) (b : Bool) : Prop := ∀ w, Calls Tryd.prog 53 #[.int .i64 c, .int .i64 n] w fun e w' => e = .returned (.bool b) ∧ w' = w
theorem wrongIs {l : List UInt8} (hl : l ≠ []) : WrongIs (step l).1 (step l).2.1 (!(step l).2.2) := by
  intro w
  cases h : (step l).2.2 with
  | false =>
    have := step_no h
    rw [this.1, this.2]; exact wrong_yes w
  | true => exact wrong_no _ _ w (step_take hl h).2

set_option maxHeartbeats 400000 in
theorem right_any (s : ByteArray) (w : World) (ht : Tabs w) (hs : s.size ≤ 9223372036854775807) :
    Calls Tryd.prog 37 #[.string s] w fun e w' => e = .returned (.bool (rightB s.data.toList)) ∧ Below w.heap.size w w' := by
  have HT := hide ht
  clear ht
  go_enter Tryd.func37, Tryd.ntmps37
  go_wp2
  go_loopw [0] (fun t wr => ∃ x : ByteArray, t = .string x ∧ x.size ≤ 9223372036854775807 ∧ rightB s.data.toList = rightB x.data.toList ∧ Below w.heap.size w wr) (fun t _ => match t with | .string x => x.size | _ => 0)
  case atStart => exact ⟨s, rfl, hs, rfl, Below.refl _ _⟩
  case round =>
    obtain ⟨x, rfl, hx, hr, hbw⟩ := hrel
    have HR := hide hr
    clear hr
    by_cases h0 : x.size = 0
    · have he := is_empty x h0
      have hf : rightB s.data.toList = true := by
        have : x.data.toList = [] := List.eq_nil_of_length_eq_zero (by rw [data_len]; exact h0)
        rw [unhide HR, this]; rfl
      have HF := hide hf
      clear hf
      go_wp2
      go_ret
      exact ⟨by rw [unhide HF]; rfl, hbw⟩
    · have hp : 0 < x.size := by omega
      have hne := ne_of_size hp
      have he := not_empty x hp
      have hok := step_ok hne
      rw [data_len] at hok
      have C1 := hide (firstIs x hx hp)
      have C2 := hide (wrongIs hne)
      have hcons := rightB_cons hne
      have HX := hide (rest_of x)
      generalize hstep : step x.data.toList = st at *
      obtain ⟨c, n, ok⟩ := st
      simp only at hok C1 C2 hcons
      have hn1 : (1 : Int) ≤ (n : Int) := by omega
      have hn2 : (n : Int) ≤ (x.size : Int) := by omega
      have hn0 : 1 ≤ n := by omega
      have hn3 : n ≤ x.size := by omega
      have HC := hide hcons
      clear hcons hstep hok hne
      cases ok with
      | false =>
        go_wp2_with fail
        refine (unhide C1 _ ((unhide HT).below hbw)).mono ?_
        rintro e w1 ⟨rfl, hb1⟩
        go_wp2_with fail
        refine (unhide C2 _).mono ?_
        rintro e w2 ⟨rfl, rfl⟩
        go_wp2
        go_ret
        exact ⟨by rw [unhide HR, unhide HC]; rfl, tr2 hbw hb1⟩
      | true =>
        go_wp2_with fail
        refine (unhide C1 _ ((unhide HT).below hbw)).mono ?_
        rintro e w1 ⟨rfl, hb1⟩
        go_wp2_with fail
        refine (unhide C2 _).mono ?_
        rintro e w2 ⟨rfl, rfl⟩
        go_wp2
        go_roundw
        case rel => exact ⟨x.extract n x.size, rfl, by simp; omega, by rw [unhide HR, unhide HC, unhide HX, bs_toList, Bool.true_and], tr2 hbw hb1⟩
        case measure => simp; omega
end Go.Proofs.YtakjlolmmoladabDoor

/-
  What 'rectoref02.Is' and 'rectoref02.Bytes' do.
-/
namespace Go.Proofs.YtakjlolmmoladabDoor
open Go.RowKit
set_option linter.unusedVariables false

theorem rIs_any (c : Int) (w : World) :
    Calls Tryd.prog 75 #[.int .i64 c] w fun e w' => e = .returned (.bool (isC c)) ∧ w' = w := by
  by_cases h1 : 0 ≤ c
  · by_cases h2 : c ≤ 1114111
    · by_cases h3 : c < 55296
      · rw [isC_mk (by omega)]
        have hd : decide (55296 ≤ c) = false := by simp; omega
        go_enter Tryd.func75, Tryd.ntmps75
        go_wp2
        go_ret
        exact ⟨rfl, rfl⟩
      · have h3' : 55296 ≤ c := by omega
        by_cases h4 : 57343 < c
        · rw [isC_mk (by omega)]
          have hd : decide (c ≤ 57343) = false := by simp; omega
          clear h3
          go_enter Tryd.func75, Tryd.ntmps75
          go_wp2
          go_ret
          exact ⟨rfl, rfl⟩
        · rw [isC_no (by omega)]
          have h4' : c ≤ 57343 := by omega
          clear h3 h4
          go_enter Tryd.func75, Tryd.ntmps75
          go_wp2
          go_ret
          exact ⟨rfl, rfl⟩
    · rw [isC_no (by omega)]
      have h2' : 1114111 < c := by omega
      have hd : decide (c ≤ 1114111) = false := by simp; omega
      clear h2
      go_enter Tryd.func75, Tryd.ntmps75
      go_wp2
      go_ret
      exact ⟨rfl, rfl⟩
  · rw [isC_no (by omega)]
    have h1' : c < 0 := by omega
    have hd : decide (0 ≤ c) = false := by simp; omega
    clear h1
    go_enter Tryd.func75, Tryd.ntmps75
    go_wp2
    go_ret
    exact ⟨rfl, rfl⟩

set_option maxHeartbeats 400000 in
set_option maxRecDepth 100000 in
theorem rbytes_1 (c : Int) (w : World) (hc : isC c = true) (h1 : c < 128) :
    Calls Tryd.prog 76 #[.int .i64 c] w fun e w' => e = .returned (.string (str (ubI c))) ∧ Below w.heap.size w w' := by
  have hr := isC_true hc
  have hp : 0 ≤ c := hr.1
  have hm : c ≤ 1114111 := hr.2.1
  have C0 := hide (rIs_any c)
  rw [hc] at C0
  rw [ubI_1 h1]
  have hcv : Sem.run Tryd.prog (convert 49 9 (Value.slice (some { block := w.heap.size, off := 0 }) 1 1)) (w.alloc (Obj.cells #[.int .u8 (c)] 5)) = .ok (.string (str [c])) (w.alloc (Obj.cells #[.int .u8 (c)] 5)) := convL w w.heap.size [c] rfl
  clear hr hc
  go_enter Tryd.func76, Tryd.ntmps76
  go_wp2_with fail
  refine (unhide C0 _).mono ?_
  rintro e w1 ⟨rfl, rfl⟩
  go_wp2
  go_ret
  exact ⟨rfl, (Below.refl _ _).alloc (Nat.le_refl _) _⟩

set_option maxHeartbeats 400000 in
set_option maxRecDepth 100000 in
theorem rbytes_2 (c : Int) (w : World) (hc : isC c = true) (h0 : 128 ≤ c) (h1 : c < 2048) :
    Calls Tryd.prog 76 #[.int .i64 c] w fun e w' => e = .returned (.string (str (ubI c))) ∧ Below w.heap.size w w' := by
  have hr := isC_true hc
  have hp : 0 ≤ c := hr.1
  have hm : c ≤ 1114111 := hr.2.1
  have C0 := hide (rIs_any c)
  rw [hc] at C0
  rw [ubI_2 h0 h1]
  have hcv : Sem.run Tryd.prog (convert 49 9 (Value.slice (some { block := w.heap.size, off := 0 }) 2 2)) (w.alloc (Obj.cells #[.int .u8 (192 + c / 64), .int .u8 (128 + c % 64)] 5)) = .ok (.string (str [192 + c / 64, 128 + c % 64])) (w.alloc (Obj.cells #[.int .u8 (192 + c / 64), .int .u8 (128 + c % 64)] 5)) := convL w w.heap.size [192 + c / 64, 128 + c % 64] rfl
  clear hr hc
  go_enter Tryd.func76, Tryd.ntmps76
  go_wp2_with fail
  refine (unhide C0 _).mono ?_
  rintro e w1 ⟨rfl, rfl⟩
  go_wp2
  go_ret
  exact ⟨rfl, (Below.refl _ _).alloc (Nat.le_refl _) _⟩

set_option maxHeartbeats 400000 in
set_option maxRecDepth 100000 in
theorem rbytes_3 (c : Int) (w : World) (hc : isC c = true) (h0 : 2048 ≤ c) (h1 : c < 65536) :
    Calls Tryd.prog 76 #[.int .i64 c] w fun e w' => e = .returned (.string (str (ubI c))) ∧ Below w.heap.size w w' := by
  have hr := isC_true hc
  have hp : 0 ≤ c := hr.1
  have hm : c ≤ 1114111 := hr.2.1
  have C0 := hide (rIs_any c)
  rw [hc] at C0
  rw [ubI_3 h0 h1]
  have hcv : Sem.run Tryd.prog (convert 49 9 (Value.slice (some { block := w.heap.size, off := 0 }) 3 3)) (w.alloc (Obj.cells #[.int .u8 (224 + c / 4096), .int .u8 (128 + c / 64 % 64), .int .u8 (128 + c % 64)] 5)) = .ok (.string (str [224 + c / 4096, 128 + c / 64 % 64, 128 + c % 64])) (w.alloc (Obj.cells #[.int .u8 (224 + c / 4096), .int .u8 (128 + c / 64 % 64), .int .u8 (128 + c % 64)] 5)) := convL w w.heap.size [224 + c / 4096, 128 + c / 64 % 64, 128 + c % 64] rfl
  clear hr hc
  go_enter Tryd.func76, Tryd.ntmps76
  go_wp2_with fail
  refine (unhide C0 _).mono ?_
  rintro e w1 ⟨rfl, rfl⟩
  go_wp2
  go_ret
  exact ⟨rfl, (Below.refl _ _).alloc (Nat.le_refl _) _⟩

set_option maxHeartbeats 400000 in
set_option maxRecDepth 100000 in
theorem rbytes_4 (c : Int) (w : World) (hc : isC c = true) (h0 : 65536 ≤ c) :
    Calls Tryd.prog 76 #[.int .i64 c] w fun e w' => e = .returned (.string (str (ubI c))) ∧ Below w.heap.size w w' := by
  have hr := isC_true hc
  have hp : 0 ≤ c := hr.1
  have hm : c ≤ 1114111 := hr.2.1
  have C0 := hide (rIs_any c)
  rw [hc] at C0
  rw [ubI_4 h0]
  have hcv : Sem.run Tryd.prog (convert 49 9 (Value.slice (some { block := w.heap.size, off := 0 }) 4 4)) (w.alloc (Obj.cells #[.int .u8 (240 + c / 262144), .int .u8 (128 + c / 4096 % 64), .int .u8 (128 + c / 64 % 64), .int .u8 (128 + c % 64)] 5)) = .ok (.string (str [240 + c / 262144, 128 + c / 4096 % 64, 128 + c / 64 % 64, 128 + c % 64])) (w.alloc (Obj.cells #[.int .u8 (240 + c / 262144), .int .u8 (128 + c / 4096 % 64), .int .u8 (128 + c / 64 % 64), .int .u8 (128 + c % 64)] 5)) := convL w w.heap.size [240 + c / 262144, 128 + c / 4096 % 64, 128 + c / 64 % 64, 128 + c % 64] rfl
  clear hr hc
  go_enter Tryd.func76, Tryd.ntmps76
  go_wp2_with fail
  refine (unhide C0 _).mono ?_
  rintro e w1 ⟨rfl, rfl⟩
  go_wp2
  go_ret
  exact ⟨rfl, (Below.refl _ _).alloc (Nat.le_refl _) _⟩

theorem rbytes_char (c : Int) (w : World) (hc : isC c = true) :
    Calls Tryd.prog 76 #[.int .i64 c] w fun e w' => e = .returned (.string (str (ubI c))) ∧ Below w.heap.size w w' := by
  rcases sz_cases c with ⟨h, _⟩ | ⟨hl, h, _⟩ | ⟨hl, h, _⟩ | ⟨hl, _⟩
  · exact rbytes_1 c w hc h
  · exact rbytes_2 c w hc hl h
  · exact rbytes_3 c w hc hl h
  · exact rbytes_4 c w hc hl

theorem rbytes_any (c : Int) (w : World) :
    Calls Tryd.prog 76 #[.int .i64 c] w fun e w' => e = .returned (.string (str (utfI c))) ∧ Below w.heap.size w w' := by
  cases hc : isC c with
  | true =>
    rw [utfI, hc, if_pos rfl]
    exact rbytes_char c w hc
  | false =>
    rw [utfI, hc, if_neg (by decide)]
    have C0 := hide (rIs_any c)
    rw [hc] at C0
    have C1 := hide (fun w => rbytes_char 65533 w (by decide))
    clear hc
    go_enter Tryd.func76, Tryd.ntmps76
    go_wp2_with fail
    refine (unhide C0 _).mono ?_
    rintro e w1 ⟨rfl, rfl⟩
    go_wp2_with fail
    refine (unhide C1 _).mono ?_
    rintro e w1 ⟨rfl, hb1⟩
    go_wp2
    go_ret
    exact ⟨rfl, hb1⟩
end Go.Proofs.YtakjlolmmoladabDoor

/-
  What 'rectoref02.low' does.
-/
namespace Go.Proofs.YtakjlolmmoladabDoor
open Go.RowKit
set_option linter.unusedVariables false

def lowI (l : List UInt8) (i : Nat) : Int := if tl l i = true then lo l i else -1
theorem lowI_yes {l : List UInt8} {i : Nat} (h : tl l i = true) : lowI l i = lo l i := if_pos h
theorem lowI_no {l : List UInt8} {i : Nat} (h : ¬ tl l i = true) : lowI l i = -1 := if_neg h
theorem lo_bd {l : List UInt8} {i : Nat} (h : tl l i = true) : 0 ≤ lo l i ∧ lo l i ≤ 63 := by
  have := (tl_iff _ _).1 h
  unfold lo; omega

theorem low_any (s : ByteArray) (k : Nat) (w : World) (hs : s.size ≤ 9223372036854775807) (hk : k ≤ 9223372036854775807) :
    Calls Tryd.prog 74 #[.string s, .int .i64 (k : Int)] w fun e w' => e = .returned (.int .i64 (lowI s.data.toList k)) ∧ w' = w := by
  have hl := data_len s
  by_cases h0 : s.size ≤ k
  · rw [lowI_no (by intro h; have := (tl_iff _ _).1 h; omega)]
    have hi : (s.size : Int) ≤ (k : Int) := by omega
    go_enter Tryd.func74, Tryd.ntmps74
    go_wp2
    go_ret
    exact ⟨rfl, rfl⟩
  have hlt : k < s.size := by omega
  have hi : (k : Int) < (s.size : Int) := by omega
  have hd : decide ((s.size : Int) ≤ (k : Int)) = false := by simp; omega
  have e := dgt_at s k hlt
  have hb := dgt_lt s.data.toList k
  have htl := tl_iff s.data.toList k
  rw [hl] at htl
  have hlo : lo s.data.toList k = (dgt s.data.toList k : Int) - 128 := rfl
  generalize dgt s.data.toList k = b at *
  clear hl h0
  by_cases h1 : b < 128
  · rw [lowI_no (by rw [htl]; omega)]
    clear htl hlo
    have h1i : (b : Int) < 128 := by omega
    go_enter Tryd.func74, Tryd.ntmps74
    go_wp2
    go_ret
    exact ⟨rfl, rfl⟩
  have h1i : (128 : Int) ≤ (b : Int) := by omega
  by_cases h2 : 191 < b
  · rw [lowI_no (by rw [htl]; omega)]
    clear htl hlo h1
    have h2i : (191 : Int) < (b : Int) := by omega
    go_enter Tryd.func74, Tryd.ntmps74
    go_wp2
    go_ret
    exact ⟨rfl, rfl⟩
  · rw [lowI_yes (htl.2 (by omega)), hlo]
    clear htl hlo h1
    have h2i : (b : Int) ≤ 191 := by omega
    clear h2
    go_enter Tryd.func74, Tryd.ntmps74
    go_wp2
    go_ret
    exact ⟨rfl, rfl⟩

def LowIs (s : ByteArray) (k : Int) (x : Int) : Prop := ∀ w, Calls Tryd.prog 74 #[.string s, .int .i64 k] w fun e w' => e = .returned (.int .i64 x) ∧ w' = w
def RIsIs (c : Int) (t : Bool) : Prop := ∀ w, Calls Tryd.prog 75 #[.int .i64 c] w fun e w' => e = .returned (.bool t) ∧ w' = w
def RBytesIs (c : Int) (x : ByteArray) : Prop := ∀ w, Calls Tryd.prog 76 #[.int .i64 c] w fun e w' => e = .returned (.string x) ∧ Below w.heap.size w w'
def got (c n : Int) (b : Bool) : Value := .agg #[.int .i64 c, .int .i64 n, .bool b]
end Go.Proofs.YtakjlolmmoladabDoor

/-
  What 'rectoref02.At' does where the bytes tell a number of one bytes.
-/
namespace Go.Proofs.YtakjlolmmoladabDoor
open Go.RowKit
set_option linter.unusedVariables false

set_option maxHeartbeats 1000000 in
set_option maxRecDepth 100000 in
theorem at_1_none (s : ByteArray) (i b : Nat) (x y z : Int) (w : World) (hs : s.size ≤ 9223372036854775807) (hi2 : i ≤ 9223372036854775000) (hi : i < s.size) (e0 : (s[i]).toNat = b) (u0 : b < 128)
    (L1 : LowIs s ((i : Int) + 1) x) (L2 : LowIs s ((i : Int) + 2) y) (L3 : LowIs s ((i : Int) + 3) z)  (CI : RIsIs ((b : Int)) false) :
    Calls Tryd.prog 54 #[.string s, .int .i64 (i : Int)] w fun e w' => e = .returned (got 65533 1 false) ∧ Below w.heap.size w w' := by
  have z0 : (i : Int) < (s.size : Int) := by omega
  go_enter Tryd.func54, Tryd.ntmps54
  go_wp2_with fail
  refine (L1 _).mono ?_
  rintro e w1 ⟨rfl, rfl⟩
  go_wp2_with fail
  refine (L2 _).mono ?_
  rintro e w1 ⟨rfl, rfl⟩
  go_wp2_with fail
  refine (L3 _).mono ?_
  rintro e w1 ⟨rfl, rfl⟩
  go_wp2_with fail
  refine (CI _).mono ?_
  rintro e w1 ⟨rfl, rfl⟩
  go_wp2
  exact bodyPost_ret (v := .agg #[.int .i64 65533, .int .i64 1, .bool false]) (by simp [results, Tryd.results54, go_sem]) rfl ⟨rfl, (Below.refl _ _).alloc (Nat.le_refl _) _⟩

set_option maxHeartbeats 1000000 in
set_option maxRecDepth 100000 in
theorem at_1_short (s : ByteArray) (i b : Nat) (x y z : Int) (w : World) (hs : s.size ≤ 9223372036854775807) (hi2 : i ≤ 9223372036854775000) (hi : i < s.size) (e0 : (s[i]).toNat = b) (u0 : b < 128)
    (L1 : LowIs s ((i : Int) + 1) x) (L2 : LowIs s ((i : Int) + 2) y) (L3 : LowIs s ((i : Int) + 3) z)  (CI : RIsIs ((b : Int)) true) (q : ByteArray) (CB : RBytesIs ((b : Int)) q) (hq : q.size ≤ 4) (hx : (s.size : Int) - (i : Int) < (q.size : Int)) :
    Calls Tryd.prog 54 #[.string s, .int .i64 (i : Int)] w fun e w' => e = .returned (got 65533 1 false) ∧ Below w.heap.size w w' := by
  have z0 : (i : Int) < (s.size : Int) := by omega
  go_enter Tryd.func54, Tryd.ntmps54
  go_wp2_with fail
  refine (L1 _).mono ?_
  rintro e w1 ⟨rfl, rfl⟩
  go_wp2_with fail
  refine (L2 _).mono ?_
  rintro e w1 ⟨rfl, rfl⟩
  go_wp2_with fail
  refine (L3 _).mono ?_
  rintro e w1 ⟨rfl, rfl⟩
  go_wp2_with fail
  refine (CI _).mono ?_
  rintro e w1 ⟨rfl, rfl⟩
  go_wp2_with fail
  refine (CB _).mono ?_
  rintro e w1 ⟨rfl, hb1⟩
  have hz : w.heap.size < w1.heap.size := by have := hb1.size; simp at this; omega
  obtain ⟨hc, hf⟩ := bcell hb1
  go_wp2
  exact bodyPost_ret (v := .agg #[.int .i64 65533, .int .i64 1, .bool false]) (by simp [results, Tryd.results54, go_sem, hc]) rfl
    ⟨rfl, (((bel_of hb1).setCell (by simp) _).setCell (by simp) _).setCell (by simp) _⟩

set_option maxHeartbeats 1000000 in
set_option maxRecDepth 100000 in
theorem at_1_other (s : ByteArray) (i b : Nat) (x y z : Int) (w : World) (hs : s.size ≤ 9223372036854775807) (hi2 : i ≤ 9223372036854775000) (hi : i < s.size) (e0 : (s[i]).toNat = b) (u0 : b < 128)
    (L1 : LowIs s ((i : Int) + 1) x) (L2 : LowIs s ((i : Int) + 2) y) (L3 : LowIs s ((i : Int) + 3) z)  (CI : RIsIs ((b : Int)) true) (q : ByteArray) (CB : RBytesIs ((b : Int)) q) (hq : q.size ≤ 4) (hx : (q.size : Int) ≤ (s.size : Int) - (i : Int)) (hx2 : i + q.size ≤ s.size) (hne : ((s.extract i (i + q.size)).toList == q.toList) = false) :
    Calls Tryd.prog 54 #[.string s, .int .i64 (i : Int)] w fun e w' => e = .returned (got 65533 1 false) ∧ Below w.heap.size w w' := by
  have z0 : (i : Int) < (s.size : Int) := by omega
  go_enter Tryd.func54, Tryd.ntmps54
  go_wp2_with fail
  refine (L1 _).mono ?_
  rintro e w1 ⟨rfl, rfl⟩
  go_wp2_with fail
  refine (L2 _).mono ?_
  rintro e w1 ⟨rfl, rfl⟩
  go_wp2_with fail
  refine (L3 _).mono ?_
  rintro e w1 ⟨rfl, rfl⟩
  go_wp2_with fail
  refine (CI _).mono ?_
  rintro e w1 ⟨rfl, rfl⟩
  go_wp2_with fail
  refine (CB _).mono ?_
  rintro e w1 ⟨rfl, hb1⟩
  have hz : w.heap.size < w1.heap.size := by have := hb1.size; simp at this; omega
  obtain ⟨hc, hf⟩ := bcell hb1
  go_wp2
  exact bodyPost_ret (v := .agg #[.int .i64 65533, .int .i64 1, .bool false]) (by simp [results, Tryd.results54, go_sem, hc]) rfl
    ⟨rfl, (((bel_of hb1).setCell (by simp) _).setCell (by simp) _).setCell (by simp) _⟩

set_option maxHeartbeats 1000000 in
set_option maxRecDepth 100000 in
theorem at_1_ok (s : ByteArray) (i b : Nat) (x y z : Int) (w : World) (hs : s.size ≤ 9223372036854775807) (hi2 : i ≤ 9223372036854775000) (hi : i < s.size) (e0 : (s[i]).toNat = b) (u0 : b < 128)
    (L1 : LowIs s ((i : Int) + 1) x) (L2 : LowIs s ((i : Int) + 2) y) (L3 : LowIs s ((i : Int) + 3) z)  (CI : RIsIs ((b : Int)) true) (q : ByteArray) (CB : RBytesIs ((b : Int)) q) (hq : q.size ≤ 4) (hx : (q.size : Int) ≤ (s.size : Int) - (i : Int)) (hx2 : i + q.size ≤ s.size) (hne : ((s.extract i (i + q.size)).toList == q.toList) = true) :
    Calls Tryd.prog 54 #[.string s, .int .i64 (i : Int)] w fun e w' => e = .returned (got ((b : Int)) (q.size : Int) true) ∧ Below w.heap.size w w' := by
  have z0 : (i : Int) < (s.size : Int) := by omega
  go_enter Tryd.func54, Tryd.ntmps54
  go_wp2_with fail
  refine (L1 _).mono ?_
  rintro e w1 ⟨rfl, rfl⟩
  go_wp2_with fail
  refine (L2 _).mono ?_
  rintro e w1 ⟨rfl, rfl⟩
  go_wp2_with fail
  refine (L3 _).mono ?_
  rintro e w1 ⟨rfl, rfl⟩
  go_wp2_with fail
  refine (CI _).mono ?_
  rintro e w1 ⟨rfl, rfl⟩
  go_wp2_with fail
  refine (CB _).mono ?_
  rintro e w1 ⟨rfl, hb1⟩
  have hz : w.heap.size < w1.heap.size := by have := hb1.size; simp at this; omega
  obtain ⟨hc, hf⟩ := bcell hb1
  go_wp2
  exact bodyPost_ret (v := .agg #[.int .i64 ((b : Int)), .int .i64 (q.size : Int), .bool true]) (by simp [results, Tryd.results54, go_sem, hc]) rfl
    ⟨rfl, (((bel_of hb1).setCell (by simp) _).setCell (by simp) _).setCell (by simp) _⟩
end Go.Proofs.YtakjlolmmoladabDoor

/-
  What 'rectoref02.At' does where the bytes tell a number of two bytes.
-/
namespace Go.Proofs.YtakjlolmmoladabDoor
open Go.RowKit
set_option linter.unusedVariables false

set_option maxHeartbeats 1000000 in
set_option maxRecDepth 100000 in
theorem at_2_none (s : ByteArray) (i b : Nat) (x y z : Int) (w : World) (hs : s.size ≤ 9223372036854775807) (hi2 : i ≤ 9223372036854775000) (hi : i < s.size) (e0 : (s[i]).toNat = b) (l0 : 192 ≤ b) (u0 : b < 224)
    (L1 : LowIs s ((i : Int) + 1) x) (L2 : LowIs s ((i : Int) + 2) y) (L3 : LowIs s ((i : Int) + 3) z) (gx : 0 ≤ x) (fx : x ≤ 63) (CI : RIsIs (64 * ((b : Int) - 192) + x) false) :
    Calls Tryd.prog 54 #[.string s, .int .i64 (i : Int)] w fun e w' => e = .returned (got 65533 1 false) ∧ Below w.heap.size w w' := by
  have z0 : (i : Int) < (s.size : Int) := by omega
  go_enter Tryd.func54, Tryd.ntmps54
  go_wp2_with fail
  refine (L1 _).mono ?_
  rintro e w1 ⟨rfl, rfl⟩
  go_wp2_with fail
  refine (L2 _).mono ?_
  rintro e w1 ⟨rfl, rfl⟩
  go_wp2_with fail
  refine (L3 _).mono ?_
  rintro e w1 ⟨rfl, rfl⟩
  go_wp2_with fail
  refine (CI _).mono ?_
  rintro e w1 ⟨rfl, rfl⟩
  go_wp2
  exact bodyPost_ret (v := .agg #[.int .i64 65533, .int .i64 1, .bool false]) (by simp [results, Tryd.results54, go_sem]) rfl ⟨rfl, (Below.refl _ _).alloc (Nat.le_refl _) _⟩

set_option maxHeartbeats 1000000 in
set_option maxRecDepth 100000 in
theorem at_2_short (s : ByteArray) (i b : Nat) (x y z : Int) (w : World) (hs : s.size ≤ 9223372036854775807) (hi2 : i ≤ 9223372036854775000) (hi : i < s.size) (e0 : (s[i]).toNat = b) (l0 : 192 ≤ b) (u0 : b < 224)
    (L1 : LowIs s ((i : Int) + 1) x) (L2 : LowIs s ((i : Int) + 2) y) (L3 : LowIs s ((i : Int) + 3) z) (gx : 0 ≤ x) (fx : x ≤ 63) (CI : RIsIs (64 * ((b : Int) - 192) + x) true) (q : ByteArray) (CB : RBytesIs (64 * ((b : Int) - 192) + x) q) (hq : q.size ≤ 4) (hx : (s.size : Int) - (i : Int) < (q.size : Int)) :
    Calls Tryd.prog 54 #[.string s, .int .i64 (i : Int)] w fun e w' => e = .returned (got 65533 1 false) ∧ Below w.heap.size w w' := by
  have z0 : (i : Int) < (s.size : Int) := by omega
  go_enter Tryd.func54, Tryd.ntmps54
  go_wp2_with fail
  refine (L1 _).mono ?_
  rintro e w1 ⟨rfl, rfl⟩
  go_wp2_with fail
  refine (L2 _).mono ?_
  rintro e w1 ⟨rfl, rfl⟩
  go_wp2_with fail
  refine (L3 _).mono ?_
  rintro e w1 ⟨rfl, rfl⟩
  go_wp2_with fail
  refine (CI _).mono ?_
  rintro e w1 ⟨rfl, rfl⟩
  go_wp2_with fail
  refine (CB _).mono ?_
  rintro e w1 ⟨rfl, hb1⟩
  have hz : w.heap.size < w1.heap.size := by have := hb1.size; simp at this; omega
  obtain ⟨hc, hf⟩ := bcell hb1
  go_wp2
  exact bodyPost_ret (v := .agg #[.int .i64 65533, .int .i64 1, .bool false]) (by simp [results, Tryd.results54, go_sem, hc]) rfl
    ⟨rfl, (((bel_of hb1).setCell (by simp) _).setCell (by simp) _).setCell (by simp) _⟩

set_option maxHeartbeats 1000000 in
set_option maxRecDepth 100000 in
theorem at_2_other (s : ByteArray) (i b : Nat) (x y z : Int) (w : World) (hs : s.size ≤ 9223372036854775807) (hi2 : i ≤ 9223372036854775000) (hi : i < s.size) (e0 : (s[i]).toNat = b) (l0 : 192 ≤ b) (u0 : b < 224)
    (L1 : LowIs s ((i : Int) + 1) x) (L2 : LowIs s ((i : Int) + 2) y) (L3 : LowIs s ((i : Int) + 3) z) (gx : 0 ≤ x) (fx : x ≤ 63) (CI : RIsIs (64 * ((b : Int) - 192) + x) true) (q : ByteArray) (CB : RBytesIs (64 * ((b : Int) - 192) + x) q) (hq : q.size ≤ 4) (hx : (q.size : Int) ≤ (s.size : Int) - (i : Int)) (hx2 : i + q.size ≤ s.size) (hne : ((s.extract i (i + q.size)).toList == q.toList) = false) :
    Calls Tryd.prog 54 #[.string s, .int .i64 (i : Int)] w fun e w' => e = .returned (got 65533 1 false) ∧ Below w.heap.size w w' := by
  have z0 : (i : Int) < (s.size : Int) := by omega
  go_enter Tryd.func54, Tryd.ntmps54
  go_wp2_with fail
  refine (L1 _).mono ?_
  rintro e w1 ⟨rfl, rfl⟩
  go_wp2_with fail
  refine (L2 _).mono ?_
  rintro e w1 ⟨rfl, rfl⟩
  go_wp2_with fail
  refine (L3 _).mono ?_
  rintro e w1 ⟨rfl, rfl⟩
  go_wp2_with fail
  refine (CI _).mono ?_
  rintro e w1 ⟨rfl, rfl⟩
  go_wp2_with fail
  refine (CB _).mono ?_
  rintro e w1 ⟨rfl, hb1⟩
  have hz : w.heap.size < w1.heap.size := by have := hb1.size; simp at this; omega
  obtain ⟨hc, hf⟩ := bcell hb1
  go_wp2
  exact bodyPost_ret (v := .agg #[.int .i64 65533, .int .i64 1, .bool false]) (by simp [results, Tryd.results54, go_sem, hc]) rfl
    ⟨rfl, (((bel_of hb1).setCell (by simp) _).setCell (by simp) _).setCell (by simp) _⟩

set_option maxHeartbeats 1000000 in
set_option maxRecDepth 100000 in
theorem at_2_ok (s : ByteArray) (i b : Nat) (x y z : Int) (w : World) (hs : s.size ≤ 9223372036854775807) (hi2 : i ≤ 9223372036854775000) (hi : i < s.size) (e0 : (s[i]).toNat = b) (l0 : 192 ≤ b) (u0 : b < 224)
    (L1 : LowIs s ((i : Int) + 1) x) (L2 : LowIs s ((i : Int) + 2) y) (L3 : LowIs s ((i : Int) + 3) z) (gx : 0 ≤ x) (fx : x ≤ 63) (CI : RIsIs (64 * ((b : Int) - 192) + x) true) (q : ByteArray) (CB : RBytesIs (64 * ((b : Int) - 192) + x) q) (hq : q.size ≤ 4) (hx : (q.size : Int) ≤ (s.size : Int) - (i : Int)) (hx2 : i + q.size ≤ s.size) (hne : ((s.extract i (i + q.size)).toList == q.toList) = true) :
    Calls Tryd.prog 54 #[.string s, .int .i64 (i : Int)] w fun e w' => e = .returned (got (64 * ((b : Int) - 192) + x) (q.size : Int) true) ∧ Below w.heap.size w w' := by
  have z0 : (i : Int) < (s.size : Int) := by omega
  go_enter Tryd.func54, Tryd.ntmps54
  go_wp2_with fail
  refine (L1 _).mono ?_
  rintro e w1 ⟨rfl, rfl⟩
  go_wp2_with fail
  refine (L2 _).mono ?_
  rintro e w1 ⟨rfl, rfl⟩
  go_wp2_with fail
  refine (L3 _).mono ?_
  rintro e w1 ⟨rfl, rfl⟩
  go_wp2_with fail
  refine (CI _).mono ?_
  rintro e w1 ⟨rfl, rfl⟩
  go_wp2_with fail
  refine (CB _).mono ?_
  rintro e w1 ⟨rfl, hb1⟩
  have hz : w.heap.size < w1.heap.size := by have := hb1.size; simp at this; omega
  obtain ⟨hc, hf⟩ := bcell hb1
  go_wp2
  exact bodyPost_ret (v := .agg #[.int .i64 (64 * ((b : Int) - 192) + x), .int .i64 (q.size : Int), .bool true]) (by simp [results, Tryd.results54, go_sem, hc]) rfl
    ⟨rfl, (((bel_of hb1).setCell (by simp) _).setCell (by simp) _).setCell (by simp) _⟩
end Go.Proofs.YtakjlolmmoladabDoor

/-
  What 'rectoref02.At' does where the bytes tell a number of three bytes.
-/
namespace Go.Proofs.YtakjlolmmoladabDoor
open Go.RowKit
set_option linter.unusedVariables false

set_option maxHeartbeats 1000000 in
set_option maxRecDepth 100000 in
theorem at_3_none (s : ByteArray) (i b : Nat) (x y z : Int) (w : World) (hs : s.size ≤ 9223372036854775807) (hi2 : i ≤ 9223372036854775000) (hi : i < s.size) (e0 : (s[i]).toNat = b) (l0 : 224 ≤ b) (u0 : b < 240)
    (L1 : LowIs s ((i : Int) + 1) x) (L2 : LowIs s ((i : Int) + 2) y) (L3 : LowIs s ((i : Int) + 3) z) (gx : 0 ≤ x) (fx : x ≤ 63) (gy : 0 ≤ y) (fy : y ≤ 63) (CI : RIsIs (4096 * ((b : Int) - 224) + 64 * x + y) false) :
    Calls Tryd.prog 54 #[.string s, .int .i64 (i : Int)] w fun e w' => e = .returned (got 65533 1 false) ∧ Below w.heap.size w w' := by
  have z0 : (i : Int) < (s.size : Int) := by omega
  go_enter Tryd.func54, Tryd.ntmps54
  go_wp2_with fail
  refine (L1 _).mono ?_
  rintro e w1 ⟨rfl, rfl⟩
  go_wp2_with fail
  refine (L2 _).mono ?_
  rintro e w1 ⟨rfl, rfl⟩
  go_wp2_with fail
  refine (L3 _).mono ?_
  rintro e w1 ⟨rfl, rfl⟩
  go_wp2_with fail
  refine (CI _).mono ?_
  rintro e w1 ⟨rfl, rfl⟩
  go_wp2
  exact bodyPost_ret (v := .agg #[.int .i64 65533, .int .i64 1, .bool false]) (by simp [results, Tryd.results54, go_sem]) rfl ⟨rfl, (Below.refl _ _).alloc (Nat.le_refl _) _⟩

set_option maxHeartbeats 1000000 in
set_option maxRecDepth 100000 in
theorem at_3_short (s : ByteArray) (i b : Nat) (x y z : Int) (w : World) (hs : s.size ≤ 9223372036854775807) (hi2 : i ≤ 9223372036854775000) (hi : i < s.size) (e0 : (s[i]).toNat = b) (l0 : 224 ≤ b) (u0 : b < 240)
    (L1 : LowIs s ((i : Int) + 1) x) (L2 : LowIs s ((i : Int) + 2) y) (L3 : LowIs s ((i : Int) + 3) z) (gx : 0 ≤ x) (fx : x ≤ 63) (gy : 0 ≤ y) (fy : y ≤ 63) (CI : RIsIs (4096 * ((b : Int) - 224) + 64 * x + y) true) (q : ByteArray) (CB : RBytesIs (4096 * ((b : Int) - 224) + 64 * x + y) q) (hq : q.size ≤ 4) (hx : (s.size : Int) - (i : Int) < (q.size : Int)) :
    Calls Tryd.prog 54 #[.string s, .int .i64 (i : Int)] w fun e w' => e = .returned (got 65533 1 false) ∧ Below w.heap.size w w' := by
  have z0 : (i : Int) < (s.size : Int) := by omega
  go_enter Tryd.func54, Tryd.ntmps54
  go_wp2_with fail
  refine (L1 _).mono ?_
  rintro e w1 ⟨rfl, rfl⟩
  go_wp2_with fail
  refine (L2 _).mono ?_
  rintro e w1 ⟨rfl, rfl⟩
  go_wp2_with fail
  refine (L3 _).mono ?_
  rintro e w1 ⟨rfl, rfl⟩
  go_wp2_with fail
  refine (CI _).mono ?_
  rintro e w1 ⟨rfl, rfl⟩
  go_wp2_with fail
  refine (CB _).mono ?_
  rintro e w1 ⟨rfl, hb1⟩
  have hz : w.heap.size < w1.heap.size := by have := hb1.size; simp at this; omega
  obtain ⟨hc, hf⟩ := bcell hb1
  go_wp2
  exact bodyPost_ret (v := .agg #[.int .i64 65533, .int .i64 1, .bool false]) (by simp [results, Tryd.results54, go_sem, hc]) rfl
    ⟨rfl, (((bel_of hb1).setCell (by simp) _).setCell (by simp) _).setCell (by simp) _⟩

set_option maxHeartbeats 1000000 in
set_option maxRecDepth 100000 in
theorem at_3_other (s : ByteArray) (i b : Nat) (x y z : Int) (w : World) (hs : s.size ≤ 9223372036854775807) (hi2 : i ≤ 9223372036854775000) (hi : i < s.size) (e0 : (s[i]).toNat = b) (l0 : 224 ≤ b) (u0 : b < 240)
    (L1 : LowIs s ((i : Int) + 1) x) (L2 : LowIs s ((i : Int) + 2) y) (L3 : LowIs s ((i : Int) + 3) z) (gx : 0 ≤ x) (fx : x ≤ 63) (gy : 0 ≤ y) (fy : y ≤ 63) (CI : RIsIs (4096 * ((b : Int) - 224) + 64 * x + y) true) (q : ByteArray) (CB : RBytesIs (4096 * ((b : Int) - 224) + 64 * x + y) q) (hq : q.size ≤ 4) (hx : (q.size : Int) ≤ (s.size : Int) - (i : Int)) (hx2 : i + q.size ≤ s.size) (hne : ((s.extract i (i + q.size)).toList == q.toList) = false) :
    Calls Tryd.prog 54 #[.string s, .int .i64 (i : Int)] w fun e w' => e = .returned (got 65533 1 false) ∧ Below w.heap.size w w' := by
  have z0 : (i : Int) < (s.size : Int) := by omega
  go_enter Tryd.func54, Tryd.ntmps54
  go_wp2_with fail
  refine (L1 _).mono ?_
  rintro e w1 ⟨rfl, rfl⟩
  go_wp2_with fail
  refine (L2 _).mono ?_
  rintro e w1 ⟨rfl, rfl⟩
  go_wp2_with fail
  refine (L3 _).mono ?_
  rintro e w1 ⟨rfl, rfl⟩
  go_wp2_with fail
  refine (CI _).mono ?_
  rintro e w1 ⟨rfl, rfl⟩
  go_wp2_with fail
  refine (CB _).mono ?_
  rintro e w1 ⟨rfl, hb1⟩
  have hz : w.heap.size < w1.heap.size := by have := hb1.size; simp at this; omega
  obtain ⟨hc, hf⟩ := bcell hb1
  go_wp2
  exact bodyPost_ret (v := .agg #[.int .i64 65533, .int .i64 1, .bool false]) (by simp [results, Tryd.results54, go_sem, hc]) rfl
    ⟨rfl, (((bel_of hb1).setCell (by simp) _).setCell (by simp) _).setCell (by simp) _⟩

set_option maxHeartbeats 1000000 in
set_option maxRecDepth 100000 in
theorem at_3_ok (s : ByteArray) (i b : Nat) (x y z : Int) (w : World) (hs : s.size ≤ 9223372036854775807) (hi2 : i ≤ 9223372036854775000) (hi : i < s.size) (e0 : (s[i]).toNat = b) (l0 : 224 ≤ b) (u0 : b < 240)
    (L1 : LowIs s ((i : Int) + 1) x) (L2 : LowIs s ((i : Int) + 2) y) (L3 : LowIs s ((i : Int) + 3) z) (gx : 0 ≤ x) (fx : x ≤ 63) (gy : 0 ≤ y) (fy : y ≤ 63) (CI : RIsIs (4096 * ((b : Int) - 224) + 64 * x + y) true) (q : ByteArray) (CB : RBytesIs (4096 * ((b : Int) - 224) + 64 * x + y) q) (hq : q.size ≤ 4) (hx : (q.size : Int) ≤ (s.size : Int) - (i : Int)) (hx2 : i + q.size ≤ s.size) (hne : ((s.extract i (i + q.size)).toList == q.toList) = true) :
    Calls Tryd.prog 54 #[.string s, .int .i64 (i : Int)] w fun e w' => e = .returned (got (4096 * ((b : Int) - 224) + 64 * x + y) (q.size : Int) true) ∧ Below w.heap.size w w' := by
  have z0 : (i : Int) < (s.size : Int) := by omega
  go_enter Tryd.func54, Tryd.ntmps54
  go_wp2_with fail
  refine (L1 _).mono ?_
  rintro e w1 ⟨rfl, rfl⟩
  go_wp2_with fail
  refine (L2 _).mono ?_
  rintro e w1 ⟨rfl, rfl⟩
  go_wp2_with fail
  refine (L3 _).mono ?_
  rintro e w1 ⟨rfl, rfl⟩
  go_wp2_with fail
  refine (CI _).mono ?_
  rintro e w1 ⟨rfl, rfl⟩
  go_wp2_with fail
  refine (CB _).mono ?_
  rintro e w1 ⟨rfl, hb1⟩
  have hz : w.heap.size < w1.heap.size := by have := hb1.size; simp at this; omega
  obtain ⟨hc, hf⟩ := bcell hb1
  go_wp2
  exact bodyPost_ret (v := .agg #[.int .i64 (4096 * ((b : Int) - 224) + 64 * x + y), .int .i64 (q.size : Int), .bool true]) (by simp [results, Tryd.results54, go_sem, hc]) rfl
    ⟨rfl, (((bel_of hb1).setCell (by simp) _).setCell (by simp) _).setCell (by simp) _⟩
end Go.Proofs.YtakjlolmmoladabDoor

/-
  What 'rectoref02.At' does where the bytes tell a number of four bytes.
-/
namespace Go.Proofs.YtakjlolmmoladabDoor
open Go.RowKit
set_option linter.unusedVariables false

set_option maxHeartbeats 1000000 in
set_option maxRecDepth 100000 in
theorem at_4_none (s : ByteArray) (i b : Nat) (x y z : Int) (w : World) (hs : s.size ≤ 9223372036854775807) (hi2 : i ≤ 9223372036854775000) (hi : i < s.size) (e0 : (s[i]).toNat = b) (l0 : 240 ≤ b) (u0 : b < 248)
    (L1 : LowIs s ((i : Int) + 1) x) (L2 : LowIs s ((i : Int) + 2) y) (L3 : LowIs s ((i : Int) + 3) z) (gx : 0 ≤ x) (fx : x ≤ 63) (gy : 0 ≤ y) (fy : y ≤ 63) (gz : 0 ≤ z) (fz : z ≤ 63) (CI : RIsIs (262144 * ((b : Int) - 240) + 4096 * x + 64 * y + z) false) :
    Calls Tryd.prog 54 #[.string s, .int .i64 (i : Int)] w fun e w' => e = .returned (got 65533 1 false) ∧ Below w.heap.size w w' := by
  have z0 : (i : Int) < (s.size : Int) := by omega
  go_enter Tryd.func54, Tryd.ntmps54
  go_wp2_with fail
  refine (L1 _).mono ?_
  rintro e w1 ⟨rfl, rfl⟩
  go_wp2_with fail
  refine (L2 _).mono ?_
  rintro e w1 ⟨rfl, rfl⟩
  go_wp2_with fail
  refine (L3 _).mono ?_
  rintro e w1 ⟨rfl, rfl⟩
  go_wp2_with fail
  refine (CI _).mono ?_
  rintro e w1 ⟨rfl, rfl⟩
  go_wp2
  exact bodyPost_ret (v := .agg #[.int .i64 65533, .int .i64 1, .bool false]) (by simp [results, Tryd.results54, go_sem]) rfl ⟨rfl, (Below.refl _ _).alloc (Nat.le_refl _) _⟩

set_option maxHeartbeats 1000000 in
set_option maxRecDepth 100000 in
theorem at_4_short (s : ByteArray) (i b : Nat) (x y z : Int) (w : World) (hs : s.size ≤ 9223372036854775807) (hi2 : i ≤ 9223372036854775000) (hi : i < s.size) (e0 : (s[i]).toNat = b) (l0 : 240 ≤ b) (u0 : b < 248)
    (L1 : LowIs s ((i : Int) + 1) x) (L2 : LowIs s ((i : Int) + 2) y) (L3 : LowIs s ((i : Int) + 3) z) (gx : 0 ≤ x) (fx : x ≤ 63) (gy : 0 ≤ y) (fy : y ≤ 63) (gz : 0 ≤ z) (fz : z ≤ 63) (CI : RIsIs (262144 * ((b : Int) - 240) + 4096 * x + 64 * y + z) true) (q : ByteArray) (CB : RBytesIs (262144 * ((b : Int) - 240) + 4096 * x + 64 * y + z) q) (hq : q.size ≤ 4) (hx : (s.size : Int) - (i : Int) < (q.size : Int)) :
    Calls Tryd.prog 54 #[.string s, .int .i64 (i : Int)] w fun e w' => e = .returned (got 65533 1 false) ∧ Below w.heap.size w w' := by
  have z0 : (i : Int) < (s.size : Int) := by omega
  go_enter Tryd.func54, Tryd.ntmps54
  go_wp2_with fail
  refine (L1 _).mono ?_
  rintro e w1 ⟨rfl, rfl⟩
  go_wp2_with fail
  refine (L2 _).mono ?_
  rintro e w1 ⟨rfl, rfl⟩
  go_wp2_with fail
  refine (L3 _).mono ?_
  rintro e w1 ⟨rfl, rfl⟩
  go_wp2_with fail
  refine (CI _).mono ?_
  rintro e w1 ⟨rfl, rfl⟩
  go_wp2_with fail
  refine (CB _).mono ?_
  rintro e w1 ⟨rfl, hb1⟩
  have hz : w.heap.size < w1.heap.size := by have := hb1.size; simp at this; omega
  obtain ⟨hc, hf⟩ := bcell hb1
  go_wp2
  exact bodyPost_ret (v := .agg #[.int .i64 65533, .int .i64 1, .bool false]) (by simp [results, Tryd.results54, go_sem, hc]) rfl
    ⟨rfl, (((bel_of hb1).setCell (by simp) _).setCell (by simp) _).setCell (by simp) _⟩

set_option maxHeartbeats 1000000 in
set_option maxRecDepth 100000 in
theorem at_4_other (s : ByteArray) (i b : Nat) (x y z : Int) (w : World) (hs : s.size ≤ 9223372036854775807) (hi2 : i ≤ 9223372036854775000) (hi : i < s.size) (e0 : (s[i]).toNat = b) (l0 : 240 ≤ b) (u0 : b < 248)
    (L1 : LowIs s ((i : Int) + 1) x) (L2 : LowIs s ((i : Int) + 2) y) (L3 : LowIs s ((i : Int) + 3) z) (gx : 0 ≤ x) (fx : x ≤ 63) (gy : 0 ≤ y) (fy : y ≤ 63) (gz : 0 ≤ z) (fz : z ≤ 63) (CI : RIsIs (262144 * ((b : Int) - 240) + 4096 * x + 64 * y + z) true) (q : ByteArray) (CB : RBytesIs (262144 * ((b : Int) - 240) + 4096 * x + 64 * y + z) q) (hq : q.size ≤ 4) (hx : (q.size : Int) ≤ (s.size : Int) - (i : Int)) (hx2 : i + q.size ≤ s.size) (hne : ((s.extract i (i + q.size)).toList == q.toList) = false) :
    Calls Tryd.prog 54 #[.string s, .int .i64 (i : Int)] w fun e w' => e = .returned (got 65533 1 false) ∧ Below w.heap.size w w' := by
  have z0 : (i : Int) < (s.size : Int) := by omega
  go_enter Tryd.func54, Tryd.ntmps54
  go_wp2_with fail
  refine (L1 _).mono ?_
  rintro e w1 ⟨rfl, rfl⟩
  go_wp2_with fail
  refine (L2 _).mono ?_
  rintro e w1 ⟨rfl, rfl⟩
  go_wp2_with fail
  refine (L3 _).mono ?_
  rintro e w1 ⟨rfl, rfl⟩
  go_wp2_with fail
  refine (CI _).mono ?_
  rintro e w1 ⟨rfl, rfl⟩
  go_wp2_with fail
  refine (CB _).mono ?_
  rintro e w1 ⟨rfl, hb1⟩
  have hz : w.heap.size < w1.heap.size := by have := hb1.size; simp at this; omega
  obtain ⟨hc, hf⟩ := bcell hb1
  go_wp2
  exact bodyPost_ret (v := .agg #[.int .i64 65533, .int .i64 1, .bool false]) (by simp [results, Tryd.results54, go_sem, hc]) rfl
    ⟨rfl, (((bel_of hb1).setCell (by simp) _).setCell (by simp) _).setCell (by simp) _⟩

set_option maxHeartbeats 1000000 in
set_option maxRecDepth 100000 in
theorem at_4_ok (s : ByteArray) (i b : Nat) (x y z : Int) (w : World) (hs : s.size ≤ 9223372036854775807) (hi2 : i ≤ 9223372036854775000) (hi : i < s.size) (e0 : (s[i]).toNat = b) (l0 : 240 ≤ b) (u0 : b < 248)
    (L1 : LowIs s ((i : Int) + 1) x) (L2 : LowIs s ((i : Int) + 2) y) (L3 : LowIs s ((i : Int) + 3) z) (gx : 0 ≤ x) (fx : x ≤ 63) (gy : 0 ≤ y) (fy : y ≤ 63) (gz : 0 ≤ z) (fz : z ≤ 63) (CI : RIsIs (262144 * ((b : Int) - 240) + 4096 * x + 64 * y + z) true) (q : ByteArray) (CB : RBytesIs (262144 * ((b : Int) - 240) + 4096 * x + 64 * y + z) q) (hq : q.size ≤ 4) (hx : (q.size : Int) ≤ (s.size : Int) - (i : Int)) (hx2 : i + q.size ≤ s.size) (hne : ((s.extract i (i + q.size)).toList == q.toList) = true) :
    Calls Tryd.prog 54 #[.string s, .int .i64 (i : Int)] w fun e w' => e = .returned (got (262144 * ((b : Int) - 240) + 4096 * x + 64 * y + z) (q.size : Int) true) ∧ Below w.heap.size w w' := by
  have z0 : (i : Int) < (s.size : Int) := by omega
  go_enter Tryd.func54, Tryd.ntmps54
  go_wp2_with fail
  refine (L1 _).mono ?_
  rintro e w1 ⟨rfl, rfl⟩
  go_wp2_with fail
  refine (L2 _).mono ?_
  rintro e w1 ⟨rfl, rfl⟩
  go_wp2_with fail
  refine (L3 _).mono ?_
  rintro e w1 ⟨rfl, rfl⟩
  go_wp2_with fail
  refine (CI _).mono ?_
  rintro e w1 ⟨rfl, rfl⟩
  go_wp2_with fail
  refine (CB _).mono ?_
  rintro e w1 ⟨rfl, hb1⟩
  have hz : w.heap.size < w1.heap.size := by have := hb1.size; simp at this; omega
  obtain ⟨hc, hf⟩ := bcell hb1
  go_wp2
  exact bodyPost_ret (v := .agg #[.int .i64 (262144 * ((b : Int) - 240) + 4096 * x + 64 * y + z), .int .i64 (q.size : Int), .bool true]) (by simp [results, Tryd.results54, go_sem, hc]) rfl
    ⟨rfl, (((bel_of hb1).setCell (by simp) _).setCell (by simp) _).setCell (by simp) _⟩
end Go.Proofs.YtakjlolmmoladabDoor

/-
  What 'rectoref02.At' does where the bytes tell no number.
-/
namespace Go.Proofs.YtakjlolmmoladabDoor
open Go.RowKit
set_option linter.unusedVariables false

set_option maxHeartbeats 1000000 in
set_option maxRecDepth 100000 in
theorem at_none1 (s : ByteArray) (i b : Nat) (x y z : Int) (w : World) (hs : s.size ≤ 9223372036854775807) (hi2 : i ≤ 9223372036854775000) (hi : i < s.size) (e0 : (s[i]).toNat = b) (l0 : 128 ≤ b) (u0 : b < 192)
    (L1 : LowIs s ((i : Int) + 1) x) (L2 : LowIs s ((i : Int) + 2) y) (L3 : LowIs s ((i : Int) + 3) z) (CI : RIsIs (-1) false) :
    Calls Tryd.prog 54 #[.string s, .int .i64 (i : Int)] w fun e w' => e = .returned (got 65533 1 false) ∧ Below w.heap.size w w' := by
  have z0 : (i : Int) < (s.size : Int) := by omega
  go_enter Tryd.func54, Tryd.ntmps54
  go_wp2_with fail
  refine (L1 _).mono ?_
  rintro e w1 ⟨rfl, rfl⟩
  go_wp2_with fail
  refine (L2 _).mono ?_
  rintro e w1 ⟨rfl, rfl⟩
  go_wp2_with fail
  refine (L3 _).mono ?_
  rintro e w1 ⟨rfl, rfl⟩
  go_wp2_with fail
  refine (CI _).mono ?_
  rintro e w1 ⟨rfl, rfl⟩
  go_wp2
  exact bodyPost_ret (v := .agg #[.int .i64 65533, .int .i64 1, .bool false]) (by simp [results, Tryd.results54, go_sem]) rfl ⟨rfl, (Below.refl _ _).alloc (Nat.le_refl _) _⟩

set_option maxHeartbeats 1000000 in
set_option maxRecDepth 100000 in
theorem at_none2 (s : ByteArray) (i b : Nat) (x y z : Int) (w : World) (hs : s.size ≤ 9223372036854775807) (hi2 : i ≤ 9223372036854775000) (hi : i < s.size) (e0 : (s[i]).toNat = b) (l0 : 192 ≤ b) (u0 : b < 224)
    (L1 : LowIs s ((i : Int) + 1) (-1)) (L2 : LowIs s ((i : Int) + 2) y) (L3 : LowIs s ((i : Int) + 3) z) (CI : RIsIs (-1) false) :
    Calls Tryd.prog 54 #[.string s, .int .i64 (i : Int)] w fun e w' => e = .returned (got 65533 1 false) ∧ Below w.heap.size w w' := by
  have z0 : (i : Int) < (s.size : Int) := by omega
  go_enter Tryd.func54, Tryd.ntmps54
  go_wp2_with fail
  refine (L1 _).mono ?_
  rintro e w1 ⟨rfl, rfl⟩
  go_wp2_with fail
  refine (L2 _).mono ?_
  rintro e w1 ⟨rfl, rfl⟩
  go_wp2_with fail
  refine (L3 _).mono ?_
  rintro e w1 ⟨rfl, rfl⟩
  go_wp2_with fail
  refine (CI _).mono ?_
  rintro e w1 ⟨rfl, rfl⟩
  go_wp2
  exact bodyPost_ret (v := .agg #[.int .i64 65533, .int .i64 1, .bool false]) (by simp [results, Tryd.results54, go_sem]) rfl ⟨rfl, (Below.refl _ _).alloc (Nat.le_refl _) _⟩

set_option maxHeartbeats 1000000 in
set_option maxRecDepth 100000 in
theorem at_none3a (s : ByteArray) (i b : Nat) (x y z : Int) (w : World) (hs : s.size ≤ 9223372036854775807) (hi2 : i ≤ 9223372036854775000) (hi : i < s.size) (e0 : (s[i]).toNat = b) (l0 : 224 ≤ b) (u0 : b < 240)
    (L1 : LowIs s ((i : Int) + 1) (-1)) (L2 : LowIs s ((i : Int) + 2) y) (L3 : LowIs s ((i : Int) + 3) z) (CI : RIsIs (-1) false) :
    Calls Tryd.prog 54 #[.string s, .int .i64 (i : Int)] w fun e w' => e = .returned (got 65533 1 false) ∧ Below w.heap.size w w' := by
  have z0 : (i : Int) < (s.size : Int) := by omega
  go_enter Tryd.func54, Tryd.ntmps54
  go_wp2_with fail
  refine (L1 _).mono ?_
  rintro e w1 ⟨rfl, rfl⟩
  go_wp2_with fail
  refine (L2 _).mono ?_
  rintro e w1 ⟨rfl, rfl⟩
  go_wp2_with fail
  refine (L3 _).mono ?_
  rintro e w1 ⟨rfl, rfl⟩
  go_wp2_with fail
  refine (CI _).mono ?_
  rintro e w1 ⟨rfl, rfl⟩
  go_wp2
  exact bodyPost_ret (v := .agg #[.int .i64 65533, .int .i64 1, .bool false]) (by simp [results, Tryd.results54, go_sem]) rfl ⟨rfl, (Below.refl _ _).alloc (Nat.le_refl _) _⟩

set_option maxHeartbeats 1000000 in
set_option maxRecDepth 100000 in
theorem at_none3b (s : ByteArray) (i b : Nat) (x y z : Int) (w : World) (hs : s.size ≤ 9223372036854775807) (hi2 : i ≤ 9223372036854775000) (hi : i < s.size) (e0 : (s[i]).toNat = b) (l0 : 224 ≤ b) (u0 : b < 240)
    (L1 : LowIs s ((i : Int) + 1) x) (L2 : LowIs s ((i : Int) + 2) (-1)) (L3 : LowIs s ((i : Int) + 3) z) (gx : 0 ≤ x) (fx : x ≤ 63) (CI : RIsIs (-1) false) :
    Calls Tryd.prog 54 #[.string s, .int .i64 (i : Int)] w fun e w' => e = .returned (got 65533 1 false) ∧ Below w.heap.size w w' := by
  have z0 : (i : Int) < (s.size : Int) := by omega
  go_enter Tryd.func54, Tryd.ntmps54
  go_wp2_with fail
  refine (L1 _).mono ?_
  rintro e w1 ⟨rfl, rfl⟩
  go_wp2_with fail
  refine (L2 _).mono ?_
  rintro e w1 ⟨rfl, rfl⟩
  go_wp2_with fail
  refine (L3 _).mono ?_
  rintro e w1 ⟨rfl, rfl⟩
  go_wp2_with fail
  refine (CI _).mono ?_
  rintro e w1 ⟨rfl, rfl⟩
  go_wp2
  exact bodyPost_ret (v := .agg #[.int .i64 65533, .int .i64 1, .bool false]) (by simp [results, Tryd.results54, go_sem]) rfl ⟨rfl, (Below.refl _ _).alloc (Nat.le_refl _) _⟩
end Go.Proofs.YtakjlolmmoladabDoor

/-
  What 'rectoref02.At' does where the bytes tell no number.
-/
namespace Go.Proofs.YtakjlolmmoladabDoor
open Go.RowKit
set_option linter.unusedVariables false

set_option maxHeartbeats 1000000 in
set_option maxRecDepth 100000 in
theorem at_none4a (s : ByteArray) (i b : Nat) (x y z : Int) (w : World) (hs : s.size ≤ 9223372036854775807) (hi2 : i ≤ 9223372036854775000) (hi : i < s.size) (e0 : (s[i]).toNat = b) (l0 : 240 ≤ b) (u0 : b < 248)
    (L1 : LowIs s ((i : Int) + 1) (-1)) (L2 : LowIs s ((i : Int) + 2) y) (L3 : LowIs s ((i : Int) + 3) z) (CI : RIsIs (-1) false) :
    Calls Tryd.prog 54 #[.string s, .int .i64 (i : Int)] w fun e w' => e = .returned (got 65533 1 false) ∧ Below w.heap.size w w' := by
  have z0 : (i : Int) < (s.size : Int) := by omega
  go_enter Tryd.func54, Tryd.ntmps54
  go_wp2_with fail
  refine (L1 _).mono ?_
  rintro e w1 ⟨rfl, rfl⟩
  go_wp2_with fail
  refine (L2 _).mono ?_
  rintro e w1 ⟨rfl, rfl⟩
  go_wp2_with fail
  refine (L3 _).mono ?_
  rintro e w1 ⟨rfl, rfl⟩
  go_wp2_with fail
  refine (CI _).mono ?_
  rintro e w1 ⟨rfl, rfl⟩
  go_wp2
  exact bodyPost_ret (v := .agg #[.int .i64 65533, .int .i64 1, .bool false]) (by simp [results, Tryd.results54, go_sem]) rfl ⟨rfl, (Below.refl _ _).alloc (Nat.le_refl _) _⟩

set_option maxHeartbeats 1000000 in
set_option maxRecDepth 100000 in
theorem at_none4b (s : ByteArray) (i b : Nat) (x y z : Int) (w : World) (hs : s.size ≤ 9223372036854775807) (hi2 : i ≤ 9223372036854775000) (hi : i < s.size) (e0 : (s[i]).toNat = b) (l0 : 240 ≤ b) (u0 : b < 248)
    (L1 : LowIs s ((i : Int) + 1) x) (L2 : LowIs s ((i : Int) + 2) (-1)) (L3 : LowIs s ((i : Int) + 3) z) (gx : 0 ≤ x) (fx : x ≤ 63) (CI : RIsIs (-1) false) :
    Calls Tryd.prog 54 #[.string s, .int .i64 (i : Int)] w fun e w' => e = .returned (got 65533 1 false) ∧ Below w.heap.size w w' := by
  have z0 : (i : Int) < (s.size : Int) := by omega
  go_enter Tryd.func54, Tryd.ntmps54
  go_wp2_with fail
  refine (L1 _).mono ?_
  rintro e w1 ⟨rfl, rfl⟩
  go_wp2_with fail
  refine (L2 _).mono ?_
  rintro e w1 ⟨rfl, rfl⟩
  go_wp2_with fail
  refine (L3 _).mono ?_
  rintro e w1 ⟨rfl, rfl⟩
  go_wp2_with fail
  refine (CI _).mono ?_
  rintro e w1 ⟨rfl, rfl⟩
  go_wp2
  exact bodyPost_ret (v := .agg #[.int .i64 65533, .int .i64 1, .bool false]) (by simp [results, Tryd.results54, go_sem]) rfl ⟨rfl, (Below.refl _ _).alloc (Nat.le_refl _) _⟩

set_option maxHeartbeats 1000000 in
set_option maxRecDepth 100000 in
theorem at_none4c (s : ByteArray) (i b : Nat) (x y z : Int) (w : World) (hs : s.size ≤ 9223372036854775807) (hi2 : i ≤ 9223372036854775000) (hi : i < s.size) (e0 : (s[i]).toNat = b) (l0 : 240 ≤ b) (u0 : b < 248)
    (L1 : LowIs s ((i : Int) + 1) x) (L2 : LowIs s ((i : Int) + 2) y) (L3 : LowIs s ((i : Int) + 3) (-1)) (gx : 0 ≤ x) (fx : x ≤ 63) (gy : 0 ≤ y) (fy : y ≤ 63) (CI : RIsIs (-1) false) :
    Calls Tryd.prog 54 #[.string s, .int .i64 (i : Int)] w fun e w' => e = .returned (got 65533 1 false) ∧ Below w.heap.size w w' := by
  have z0 : (i : Int) < (s.size : Int) := by omega
  go_enter Tryd.func54, Tryd.ntmps54
  go_wp2_with fail
  refine (L1 _).mono ?_
  rintro e w1 ⟨rfl, rfl⟩
  go_wp2_with fail
  refine (L2 _).mono ?_
  rintro e w1 ⟨rfl, rfl⟩
  go_wp2_with fail
  refine (L3 _).mono ?_
  rintro e w1 ⟨rfl, rfl⟩
  go_wp2_with fail
  refine (CI _).mono ?_
  rintro e w1 ⟨rfl, rfl⟩
  go_wp2
  exact bodyPost_ret (v := .agg #[.int .i64 65533, .int .i64 1, .bool false]) (by simp [results, Tryd.results54, go_sem]) rfl ⟨rfl, (Below.refl _ _).alloc (Nat.le_refl _) _⟩

set_option maxHeartbeats 1000000 in
set_option maxRecDepth 100000 in
theorem at_none5 (s : ByteArray) (i b : Nat) (x y z : Int) (w : World) (hs : s.size ≤ 9223372036854775807) (hi2 : i ≤ 9223372036854775000) (hi : i < s.size) (e0 : (s[i]).toNat = b) (l0 : 248 ≤ b) (u0 : b < 256)
    (L1 : LowIs s ((i : Int) + 1) x) (L2 : LowIs s ((i : Int) + 2) y) (L3 : LowIs s ((i : Int) + 3) z) (CI : RIsIs (-1) false) :
    Calls Tryd.prog 54 #[.string s, .int .i64 (i : Int)] w fun e w' => e = .returned (got 65533 1 false) ∧ Below w.heap.size w w' := by
  have z0 : (i : Int) < (s.size : Int) := by omega
  go_enter Tryd.func54, Tryd.ntmps54
  go_wp2_with fail
  refine (L1 _).mono ?_
  rintro e w1 ⟨rfl, rfl⟩
  go_wp2_with fail
  refine (L2 _).mono ?_
  rintro e w1 ⟨rfl, rfl⟩
  go_wp2_with fail
  refine (L3 _).mono ?_
  rintro e w1 ⟨rfl, rfl⟩
  go_wp2_with fail
  refine (CI _).mono ?_
  rintro e w1 ⟨rfl, rfl⟩
  go_wp2
  exact bodyPost_ret (v := .agg #[.int .i64 65533, .int .i64 1, .bool false]) (by simp [results, Tryd.results54, go_sem]) rfl ⟨rfl, (Below.refl _ _).alloc (Nat.le_refl _) _⟩
end Go.Proofs.YtakjlolmmoladabDoor

/-
  What 'rectoref02.At' does, told by the plain function.
-/
namespace Go.Proofs.YtakjlolmmoladabDoor
open Go.RowKit
set_option linter.unusedVariables false

def gotStep (l : List UInt8) : Value := got (step l).1 ((step l).2.1 : Int) (step l).2.2
theorem gotStep_none {l : List UInt8} (h : dec l = none) : gotStep l = got 65533 1 false := by simp only [gotStep, step, h]; rfl
theorem gotStep_some {l : List UInt8} {c : Int} {n : Nat} (h : dec l = some (c, n)) : gotStep l = got c n true := by simp only [gotStep, step, h]

def RAtIs (s : ByteArray) (i : Nat) (w : World) (v : Value) : Prop := Calls Tryd.prog 54 #[.string s, .int .i64 (i : Int)] w fun e w' => e = .returned v ∧ Below w.heap.size w w'

theorem at_close (s : ByteArray) (i : Nat) (w : World) (c : Int) (n : Nat) (hs : s.size ≤ 9223372036854775807) (hi2 : i ≤ 9223372036854775000) (hi : i < s.size) (hc : cand (s.data.toList.drop i) = some (c, n))
    (f0 : RIsIs c false → RAtIs s i w (got 65533 1 false))
    (f1 : RIsIs c true → ∀ q, RBytesIs c q → q.size ≤ 4 → (s.size : Int) - (i : Int) < (q.size : Int) → RAtIs s i w (got 65533 1 false))
    (f2 : RIsIs c true → ∀ q, RBytesIs c q → q.size ≤ 4 → (q.size : Int) ≤ (s.size : Int) - (i : Int) → i + q.size ≤ s.size → ((s.extract i (i + q.size)).toList == q.toList) = false → RAtIs s i w (got 65533 1 false))
    (f3 : RIsIs c true → ∀ q, RBytesIs c q → q.size ≤ 4 → (q.size : Int) ≤ (s.size : Int) - (i : Int) → i + q.size ≤ s.size → ((s.extract i (i + q.size)).toList == q.toList) = true → RAtIs s i w (got c (q.size : Int) true)) :
    RAtIs s i w (gotStep (s.data.toList.drop i)) := by
  have hl := data_len s
  have hlen : (s.data.toList.drop i).length = s.size - i := by rw [List.length_drop, hl]
  have hne : s.data.toList.drop i ≠ [] := by
    intro e; rw [e] at hlen; simp at hlen; omega
  cases h : isC c with
  | false =>
    rw [gotStep_none (dec_not hc h)]
    exact f0 (fun w => by have := rIs_any c w; rw [h] at this; exact this)
  | true =>
    have I : RIsIs c true := fun w => by have := rIs_any c w; rw [h] at this; exact this
    have B : RBytesIs c (str (ubI c)) := fun w => rbytes_char c w h
    have hq := str_len c
    have hq4 := sz_le c
    have key := dec_of_cand hne hc h
    rw [hlen] at key
    by_cases g1 : s.size - i < sz c
    · rw [gotStep_none (dec_other hc (fun e => by have := (key.1 e).1; omega))]
      exact f1 I _ B (by omega) (by omega)
    · by_cases g2 : (s.data.toList.drop i).take (sz c) = ub c
      · have e := key.2 ⟨by omega, g2⟩
        rw [gotStep_some (dec_yes hc h e)]
        have := f3 I _ B (by omega) (by omega) (by omega) (beq_yes (by rw [hq, extract_take, g2]; rfl))
        rw [hq, e] at this
        exact this
      · rw [gotStep_none (dec_other hc (fun e => g2 (key.1 e).2))]
        exact f2 I _ B (by omega) (by omega) (by omega) (beq_no (by
          rw [hq, extract_take]
          intro e
          exact g2 (bs_inj e)))

theorem tl_drop (l : List UInt8) (i k : Nat) (h : i ≤ l.length) : (tl (l.drop i) k = true) ↔ (tl l (i + k) = true) := by
  rw [tl_iff, tl_iff, dgt_drop, List.length_drop]
  omega
theorem lo_drop (l : List UInt8) (i k : Nat) : lo (l.drop i) k = lo l (i + k) := by unfold lo; rw [dgt_drop]
theorem lowIs (s : ByteArray) (i k : Nat) (hs : s.size ≤ 9223372036854775807) (hi : i ≤ 9223372036854775000) (hk : k ≤ 3) : LowIs s ((i : Int) + (k : Int)) (lowI s.data.toList (i + k)) := by
  intro w
  have := low_any s (i + k) w (by omega) (by omega)
  rw [Int.natCast_add] at this
  exact this

theorem rat_any (s : ByteArray) (i : Nat) (w : World) (hs : s.size ≤ 9223372036854775807) (hi2 : i ≤ 9223372036854775000) (hi : i < s.size) :
    Calls Tryd.prog 54 #[.string s, .int .i64 (i : Int)] w fun e w' => e = .returned (gotStep (s.data.toList.drop i)) ∧ Below w.heap.size w w' := by
  show RAtIs s i w _
  have hl := data_len s
  have e := dgt_at s i hi
  have b0 := dgt_lt s.data.toList i
  have N1 : RIsIs (-1) false := fun w => rIs_any (-1) w
  have L1 := lowIs s i 1 hs (by omega) (by omega)
  have L2 := lowIs s i 2 hs (by omega) (by omega)
  have L3 := lowIs s i 3 hs (by omega) (by omega)
  have d0 : dgt (s.data.toList.drop i) 0 = dgt s.data.toList i := by rw [dgt_drop]; rfl
  have T := fun k => tl_drop s.data.toList i k (by omega)
  by_cases g5 : 248 ≤ dgt s.data.toList i
  · rw [gotStep_none (dec_none (cand_5 (by omega)))]
    exact at_none5 s i _ _ _ _ w hs hi2 hi e g5 b0 L1 L2 L3 N1
  by_cases g4 : 240 ≤ dgt s.data.toList i
  · have hc := cand_4 (l := s.data.toList.drop i) (by omega) (by omega)
    by_cases t1 : tl s.data.toList (i + 1) = true
    · have q1 := lo_bd t1
      rw [lowI_yes t1] at L1
      by_cases t2 : tl s.data.toList (i + 2) = true
      · have q2 := lo_bd t2
        rw [lowI_yes t2] at L2
        by_cases t3 : tl s.data.toList (i + 3) = true
        · have q3 := lo_bd t3
          rw [lowI_yes t3] at L3
          rw [if_pos ⟨(T 1).2 t1, (T 2).2 t2, (T 3).2 t3⟩, d0, lo_drop, lo_drop, lo_drop] at hc
          exact at_close s i w _ 4 hs hi2 hi hc (fun I => at_4_none s i _ _ _ _ w hs hi2 hi e g4 (by omega) L1 L2 L3 q1.1 q1.2 q2.1 q2.2 q3.1 q3.2 I)
            (fun I q B h1 h2 => at_4_short s i _ _ _ _ w hs hi2 hi e g4 (by omega) L1 L2 L3 q1.1 q1.2 q2.1 q2.2 q3.1 q3.2 I q B h1 h2)
            (fun I q B h1 h2 h3 h4 => at_4_other s i _ _ _ _ w hs hi2 hi e g4 (by omega) L1 L2 L3 q1.1 q1.2 q2.1 q2.2 q3.1 q3.2 I q B h1 h2 h3 h4)
            (fun I q B h1 h2 h3 h4 => at_4_ok s i _ _ _ _ w hs hi2 hi e g4 (by omega) L1 L2 L3 q1.1 q1.2 q2.1 q2.2 q3.1 q3.2 I q B h1 h2 h3 h4)
        · rw [lowI_no t3] at L3
          rw [if_neg (fun h => t3 ((T 3).1 h.2.2))] at hc
          rw [gotStep_none (dec_none hc)]
          exact at_none4c s i _ _ _ 0 w hs hi2 hi e g4 (by omega) L1 L2 L3 q1.1 q1.2 q2.1 q2.2 N1
      · rw [lowI_no t2] at L2
        rw [if_neg (fun h => t2 ((T 2).1 h.2.1))] at hc
        rw [gotStep_none (dec_none hc)]
        exact at_none4b s i _ _ 0 _ w hs hi2 hi e g4 (by omega) L1 L2 L3 q1.1 q1.2 N1
    · rw [lowI_no t1] at L1
      rw [if_neg (fun h => t1 ((T 1).1 h.1))] at hc
      rw [gotStep_none (dec_none hc)]
      exact at_none4a s i _ 0 _ _ w hs hi2 hi e g4 (by omega) L1 L2 L3 N1
  by_cases g3 : 224 ≤ dgt s.data.toList i
  · have hc := cand_3 (l := s.data.toList.drop i) (by omega) (by omega)
    by_cases t1 : tl s.data.toList (i + 1) = true
    · have q1 := lo_bd t1
      rw [lowI_yes t1] at L1
      by_cases t2 : tl s.data.toList (i + 2) = true
      · have q2 := lo_bd t2
        rw [lowI_yes t2] at L2
        rw [if_pos ⟨(T 1).2 t1, (T 2).2 t2⟩, d0, lo_drop, lo_drop] at hc
        exact at_close s i w _ 3 hs hi2 hi hc (fun I => at_3_none s i _ _ _ _ w hs hi2 hi e g3 (by omega) L1 L2 L3 q1.1 q1.2 q2.1 q2.2 I)
          (fun I q B h1 h2 => at_3_short s i _ _ _ _ w hs hi2 hi e g3 (by omega) L1 L2 L3 q1.1 q1.2 q2.1 q2.2 I q B h1 h2)
          (fun I q B h1 h2 h3 h4 => at_3_other s i _ _ _ _ w hs hi2 hi e g3 (by omega) L1 L2 L3 q1.1 q1.2 q2.1 q2.2 I q B h1 h2 h3 h4)
          (fun I q B h1 h2 h3 h4 => at_3_ok s i _ _ _ _ w hs hi2 hi e g3 (by omega) L1 L2 L3 q1.1 q1.2 q2.1 q2.2 I q B h1 h2 h3 h4)
      · rw [lowI_no t2] at L2
        rw [if_neg (fun h => t2 ((T 2).1 h.2))] at hc
        rw [gotStep_none (dec_none hc)]
        exact at_none3b s i _ _ 0 _ w hs hi2 hi e g3 (by omega) L1 L2 L3 q1.1 q1.2 N1
    · rw [lowI_no t1] at L1
      rw [if_neg (fun h => t1 ((T 1).1 h.1))] at hc
      rw [gotStep_none (dec_none hc)]
      exact at_none3a s i _ 0 _ _ w hs hi2 hi e g3 (by omega) L1 L2 L3 N1
  by_cases g2 : 192 ≤ dgt s.data.toList i
  · have hc := cand_2 (l := s.data.toList.drop i) (by omega) (by omega)
    by_cases t1 : tl s.data.toList (i + 1) = true
    · have q1 := lo_bd t1
      rw [lowI_yes t1] at L1
      rw [if_pos ((T 1).2 t1), d0, lo_drop] at hc
      exact at_close s i w _ 2 hs hi2 hi hc (fun I => at_2_none s i _ _ _ _ w hs hi2 hi e g2 (by omega) L1 L2 L3 q1.1 q1.2 I)
        (fun I q B h1 h2 => at_2_short s i _ _ _ _ w hs hi2 hi e g2 (by omega) L1 L2 L3 q1.1 q1.2 I q B h1 h2)
        (fun I q B h1 h2 h3 h4 => at_2_other s i _ _ _ _ w hs hi2 hi e g2 (by omega) L1 L2 L3 q1.1 q1.2 I q B h1 h2 h3 h4)
        (fun I q B h1 h2 h3 h4 => at_2_ok s i _ _ _ _ w hs hi2 hi e g2 (by omega) L1 L2 L3 q1.1 q1.2 I q B h1 h2 h3 h4)
    · rw [lowI_no t1] at L1
      rw [if_neg (fun h => t1 ((T 1).1 h))] at hc
      rw [gotStep_none (dec_none hc)]
      exact at_none2 s i _ 0 _ _ w hs hi2 hi e g2 (by omega) L1 L2 L3 N1
  by_cases g1 : 128 ≤ dgt s.data.toList i
  · rw [gotStep_none (dec_none (cand_0 (by omega) (by omega)))]
    exact at_none1 s i _ _ _ _ w hs hi2 hi e g1 (by omega) L1 L2 L3 N1
  · have hc := cand_1 (l := s.data.toList.drop i) (by omega)
    rw [d0] at hc
    exact at_close s i w _ 1 hs hi2 hi hc (fun I => at_1_none s i _ _ _ _ w hs hi2 hi e (by omega) L1 L2 L3 I)
      (fun I q B h1 h2 => at_1_short s i _ _ _ _ w hs hi2 hi e (by omega) L1 L2 L3 I q B h1 h2)
      (fun I q B h1 h2 h3 h4 => at_1_other s i _ _ _ _ w hs hi2 hi e (by omega) L1 L2 L3 I q B h1 h2 h3 h4)
      (fun I q B h1 h2 h3 h4 => at_1_ok s i _ _ _ _ w hs hi2 hi e (by omega) L1 L2 L3 I q B h1 h2 h3 h4)
end Go.Proofs.YtakjlolmmoladabDoor

/-
  What 'rectoref02.Of' does: of every text that isn't too long all its characters, and whether it is right.
-/
namespace Go.Proofs.YtakjlolmmoladabDoor
open Go.RowKit
set_option linter.unusedVariables false

theorem Tryd.infoInt : (Tryd.prog.info? 3).map (fun i => (i.zero, i.size, i.bytes)) = some (some (.int .i64 0), 1, 8) := by kernel_rfl

def OInv (w : World) (cs : List Int) (r : Bool) (v : Value) (wr : World) : Prop :=
  wr.heap[w.heap.size]? = some (.cells #[.slice none 0 0, .bool false] 64 (0, 0)) ∧ wr.heap[w.heap.size + 1]? = some (.cells #[v, .bool r] 64 (0, 0)) ∧
  wr.ownsRow (w.heap.size + 2) 3 1 v cs.length (cs.map (Value.int .i64)) ∧ Below w.heap.size w wr ∧ w.heap.size + 2 ≤ wr.heap.size

theorem ostart (w : World) : OInv w [] true (.slice none 0 0) ((w.alloc (.cells #[.slice none 0 0, .bool false] 64)).alloc (.cells #[.slice none 0 0, .bool true] 64)) := by
  refine ⟨?_, ?_, World.ownsRow_nil _ _ _ _, ((Below.refl _ _).alloc (Nat.le_refl _) _).alloc (by simp) _, by simp⟩
  · rw [Below.heap_alloc _ _ _ (by simp)]; exact heap_alloc_new _ _
  · have := heap_alloc_new (w.alloc (.cells #[.slice none 0 0, .bool false] 64)) (.cells #[.slice none 0 0, .bool true] 64)
    rw [World.size_alloc] at this
    exact this

theorem ostep {w wr w2 w3 : World} {cs : List Int} {r r' : Bool} {v v' : Value} {T S : Obj} {c : Int}
    (hI : OInv w cs r v wr) (hb : Below wr.heap.size wr w2) (hown' : w3.ownsRow (w.heap.size + 2) 3 1 v' (cs.length + 1) (cs.map (Value.int .i64) ++ [.int .i64 c]))
    (hgrow : ((w2.alloc T).alloc S).grownBy w3 v.ownBlock) :
    OInv w (cs ++ [c]) r' v' ((w3.setCell ⟨w.heap.size + 1, 0, none⟩ v').setCell ⟨w.heap.size + 1, 1, none⟩ (.bool r')) := by
  obtain ⟨h1, h2, h4, h5, h6⟩ := hI
  have hs2 := hb.size
  have hrow : ∀ k, k < w.heap.size + 2 → some k ≠ v.ownBlock := by
    intro k hk e
    have := (h4.lt k e.symm).1
    omega
  have keep : ∀ k, k < w.heap.size + 2 → w3.heap[k]? = wr.heap[k]? := by
    intro k hk
    rw [hgrow.block k (by simp; omega) (hrow k hk), Below.heap_alloc _ _ _ (by simp; omega), Below.heap_alloc _ _ _ (by omega), hb.block k (by omega)]
  have hne : v'.ownBlock ≠ some (w.heap.size + 1) := by
    intro e
    have := (hown'.lt _ e).1
    omega
  have hs3 := hgrow.size
  simp only [World.size_alloc] at hs3
  refine ⟨?_, ?_, ?_, ?_, ?_⟩
  · rw [Below.heap_setCell _ _ _ _ (by simp), Below.heap_setCell _ _ _ _ (by simp), keep _ (by omega)]; exact h1
  · have e3 := (keep (w.heap.size + 1) (by omega)).trans h2
    exact Joins.block_setCell (Joins.block_setCell e3 v') (.bool r')
  · have := ownsRow_setCell_other (ownsRow_setCell_other hown' (a := ⟨w.heap.size + 1, 0, none⟩) hne v') (a := ⟨w.heap.size + 1, 1, none⟩) hne (.bool r')
    simpa using this
  · refine ((h5.trans ?_).setCell (by simp) _).setCell (by simp) _
    refine ⟨?_, ?_, ?_, ?_, fun k hk => keep k (by omega)⟩
    · rw [hgrow.os]; exact hb.os
    · rw [hgrow.tape]; exact hb.tape
    · rw [hgrow.output]; exact hb.output
    · omega
  · simp; omega

theorem ofacts {w wr w2 w3 : World} {cs : List Int} {r : Bool} {v : Value} {S : Obj} {xs : Array Value}
    (hI : OInv w cs r v wr) (hb : Below wr.heap.size wr w2) (hgrow : ((w2.alloc (.cells xs 77)).alloc S).grownBy w3 v.ownBlock) :
    w3.cell? ⟨w.heap.size + 1, 0, none⟩ = some v ∧ w3.cell? ⟨w.heap.size + 1, 1, none⟩ = some (.bool r) ∧ (∀ o, w3.frozen? ⟨w.heap.size + 1, o, none⟩ = false) ∧ (∀ o, w3.cell? ⟨w2.heap.size, o, none⟩ = xs[o]?) := by
  obtain ⟨h1, h2, h4, h5, h6⟩ := hI
  have hs2 := hb.size
  have hlt : ∀ j, v.ownBlock = some j → j < w2.heap.size := fun j e => ((ownsRow_below h4 hb).lt j e).2
  have e1 : w3.heap[w.heap.size + 1]? = some (.cells #[v, .bool r] 64 (0, 0)) := by
    rw [hgrow.block _ (by simp; omega) (fun e => by have := (h4.lt _ e.symm).1; omega), Below.heap_alloc _ _ _ (by simp; omega), Below.heap_alloc _ _ _ (by omega), hb.block _ (by omega)]
    exact h2
  have e2 : w3.heap[w2.heap.size]? = some (.cells xs 77 (0, 0)) := by
    rw [hgrow.block _ (by simp; omega) (fun e => by have := hlt _ e.symm; omega), Below.heap_alloc _ _ _ (by simp)]
    exact heap_alloc_new _ _
  exact ⟨Joins.cell_of_block e1 0, Joins.cell_of_block e1 1, Joins.unfrozen_of_block e1, Joins.cell_of_block e2⟩

def OfPost (w : World) (l : List UInt8) (e : Ending) (w' : World) : Prop :=
  ∃ v, e = .returned (.agg #[v, .bool (rightB l)]) ∧ w'.ownsRow w.heap.size 3 1 v (ch l).length (((ch l).map (·.1)).map (Value.int .i64)) ∧ Below w.heap.size w w'

set_option maxHeartbeats 1000000 in
theorem of_any (s : ByteArray) (w : World) (hs : s.size ≤ 100000) :
    Calls Tryd.prog 39 #[.string s] w fun e w' => OfPost w s.data.toList e w' := by
  obtain ⟨i0, hi, hz0, hz1, hz2⟩ := info_parts Tryd.infoInt
  have hl := data_len s
  have HL := hide hl
  have hcl := ch_len s.size s.data.toList (by omega)
  rw [hl] at hcl
  have HCL := hide hcl
  clear hl hcl
  go_enter Tryd.func39, Tryd.ntmps39
  go_wp2
  go_loopw [4, 5] (fun i t wr => ∃ (k : Nat) (cs : List Int) (r : Bool) (v : Value), k ≤ s.size ∧ i = .int .i64 k ∧ (ch s.data.toList).map (·.1) = cs ++ (ch (s.data.toList.drop k)).map (·.1) ∧ rightB s.data.toList = (r && rightB (s.data.toList.drop k)) ∧ OInv w cs r v wr) (fun i _ _ => s.size - (intOf i).toNat)
  case atStart => exact ⟨0, [], true, .slice none 0 0, Nat.zero_le _, rfl, by simp, by simp, ostart w⟩
  case round =>
    obtain ⟨k, cs, r, v, hk, rfl, hcs, hrr, hI⟩ := hrel
    obtain ⟨va, vn, vc, hvs⟩ := slice_of hI.2.2.1
    subst hvs
    have HCS := hide hcs
    have HRR := hide hrr
    clear hcs hrr
    have HI := hide hI
    obtain ⟨b1, b2, hown, hbw, hsz⟩ := hI
    have HW := hide hbw
    have cO0 := Joins.cell_of_block b2 0
    have cO1 := Joins.cell_of_block b2 1
    have fO := Joins.unfrozen_of_block b2
    have cB := Joins.cell_of_block b1
    have fB := Joins.unfrozen_of_block b1
    simp at cO0 cO1
    clear b1 b2 hbw
    by_cases hlt : k < s.size
    · have hlti : (k : Int) < (s.size : Int) := by omega
      have hne : s.data.toList.drop k ≠ [] := by
        intro e
        have := congrArg List.length e
        rw [List.length_drop, unhide HL] at this; simp at this; omega
      have hok := step_ok hne
      rw [List.length_drop, unhide HL] at hok
      have hc1 := congrArg (fun l => l.map (fun p : Int × Bool => p.1)) (ch_cons hne)
      have hc2 := rightB_cons hne
      have C := hide (fun w => rat_any s k w (by omega) (by omega) hlt)
      simp only [gotStep, got] at C
      rw [List.drop_drop] at hc1 hc2
      generalize hst : step (s.data.toList.drop k) = st at *
      obtain ⟨c, n, ok⟩ := st
      simp only [List.map_cons] at hok C hc1 hc2
      have hn0 : 1 ≤ n := by omega
      have hn3 : k + n ≤ s.size := by omega
      have hn4 : (n : Int) ≤ 4 := by omega
      have hlen : cs.length + 1 ≤ 100000 := by
        have h1 := congrArg List.length (unhide HCS)
        rw [hc1] at h1
        have h2 := unhide HCL
        simp at h1; omega
      have HLEN := hide hlen
      have HC1 := hide hc1
      have HC2 := hide hc2
      clear hc1 hc2 hst hok hne hlen
      go_wp2_with fail
      refine (unhide C _).mono ?_
      rintro e w2 ⟨rfl, hb2⟩
      have hown1 := ownsRow_below hown hb2
      have hz3' : w.heap.size + 1 < w2.heap.size := by have := hb2.size; omega
      have d0 := (hb2.cell (p := ⟨w.heap.size + 1, 0, none⟩) (by show w.heap.size + 1 < wr.heap.size; omega)).trans cO0
      have d1 := (hb2.cell (p := ⟨w.heap.size + 1, 1, none⟩) (by show w.heap.size + 1 < wr.heap.size; omega)).trans cO1
      have f2 := fun o => (hb2.frozen (p := ⟨w.heap.size + 1, o, none⟩) (by show w.heap.size + 1 < wr.heap.size; omega)).trans (fO o)
      go_wp2_with (at_builtin; refine wpList_append_own _ rfl _ _ 62 rfl (w.heap.size + 2) 3 i0 (.int .i64 0) 1 8 Tryd.underlying62 hi hz0 hz1 hz2 rfl (by decide) _ _ _ rfl ((hown1.alloc _).alloc _) ⟨w2.heap.size + 1, 0, none⟩ 1 1 [.int .i64 c] rfl rfl ?c1 ?c2 ?c3 ?c4 ?c5 ?_)
      case c1 =>
        intro j u hj
        match j, hj with
        | 0, hj =>
          simp at hj; subst hj
          simp [Addr.add]
      case c2 => intro u hu; simp at hu; subst hu; rfl
      case c3 => have := unhide HLEN; unfold maxLen; omega
      case c4 => have := unhide HLEN; omega
      case c5 => simp; omega
      intro v' w3 hown' hgrow _
      obtain ⟨g0, g1, gf, gt⟩ := ofacts (unhide HI) hb2 hgrow
      have q1 := gt 1
      have q2 := gt 2
      simp at q1 q2
      have R := fun (r' : Bool) => ostep (r' := r') (unhide HI) hb2 hown' hgrow
      have HR := hide R
      obtain ⟨va', vn', vc', hvs'⟩ := slice_of hown'
      subst hvs'
      clear gt hgrow hown1 d0 d1 f2 hown' R
      cases r with
      | true =>
        go_wp2
        go_roundw
        case rel => exact ⟨k + n, cs ++ [c], ok, _, by omega, by go_num, by rw [unhide HCS, unhide HC1]; simp, by rw [unhide HRR, unhide HC2]; simp, unhide HR ok⟩
        case measure => simp [intOf]; omega
      | false =>
        go_wp2
        go_roundw
        case rel => exact ⟨k + n, cs ++ [c], false, _, by omega, by go_num, by rw [unhide HCS, unhide HC1]; simp, by rw [unhide HRR, unhide HC2]; simp, unhide HR false⟩
        case measure => simp [intOf]; omega
    · have hkn : k = s.size := by omega
      have hd : s.data.toList.drop k = [] := by rw [hkn, ← unhide HL, List.drop_length]
      have e1 : (ch s.data.toList).map (·.1) = cs := by rw [unhide HCS, hd, ch_nil]; simp
      have e2 : rightB s.data.toList = r := by rw [unhide HRR, hd, rightB_nil, Bool.and_true]
      have E1 := hide e1
      have E2 := hide e2
      clear e1 e2 hd hkn
      go_wp2
      refine bodyPost_ret (v := .agg #[.slice va vn vc, .bool r]) (by simp [results, Tryd.results39, go_sem, cB]) rfl ⟨_, by rw [unhide E2], ?_, ?_⟩
      · have hlen : (ch s.data.toList).length = cs.length := by have := congrArg List.length (unhide E1); simpa using this
        rw [hlen, unhide E1]
        refine Joins.ownsRow_le ?_ (show w.heap.size ≤ w.heap.size + 2 by omega)
        exact ownsRow_setCell_below (ownsRow_setCell_below hown (by show w.heap.size < _; omega) _) (by show w.heap.size < _; omega) _
      · exact ((unhide HW).setCell (by simp) _).setCell (by simp) _

/-- A slice value that shows these numbers in a world. -/
def IView (w : World) (v : Value) (cs : List Int) : Prop :=
  ∃ a cap, v = .slice a cs.length cap ∧ (0 < cs.length → ∃ b off, a = some ⟨b, off, none⟩ ∧ ∀ i, i < cs.length → w.cell? ⟨b, off + i, none⟩ = some (.int .i64 (cs.getD i 0)))
theorem iview_of_owns {w : World} {base : Nat} {v : Value} {cs : List Int} {n : Nat} (hn : cs.length = n) (h : w.ownsRow base 3 1 v n (cs.map (Value.int .i64))) : IView w v cs := by
  subst hn
  obtain ⟨_, h⟩ := h
  rcases h with ⟨rfl, h0⟩ | ⟨g, cap, cur, rfl, h1, h2, h3, h4, h5, h6⟩
  · exact ⟨none, 0, by rw [h0], fun h => by omega⟩
  · refine ⟨some ⟨g, 0, none⟩, cap, rfl, fun _ => ⟨g, 0, rfl, fun i hi => ?_⟩⟩
    rw [Joins.cell_of_block h2]
    have e : cur.toList[i]? = some (.int .i64 (cs.getD i 0)) := by
      have : (cur.toList.take (cs.length * 1))[i]? = some (.int .i64 (cs.getD i 0)) := by
        rw [h6, List.getElem?_map, List.getD, List.getElem?_eq_getElem hi]; rfl
      rw [List.getElem?_take] at this
      rw [if_pos (by omega)] at this
      exact this
    simpa using e
theorem IView.below {w w1 : World} {v : Value} {cs : List Int} (h : IView w v cs) (hb : Below w.heap.size w w1) : IView w1 v cs := by
  obtain ⟨a, cap, rfl, hx⟩ := h
  refine ⟨a, cap, rfl, fun h0 => ?_⟩
  obtain ⟨b, off, rfl, hc⟩ := hx h0
  exact ⟨b, off, rfl, fun i hi => cell_later hb (hc i hi)⟩

def OfIs (s : ByteArray) (cs : List Int) (r : Bool) : Prop := ∀ w, Calls Tryd.prog 39 #[.string s] w fun e w' => ∃ v, e = .returned (.agg #[v, .bool r]) ∧ IView w' v cs ∧ Below w.heap.size w w'
theorem ofIs (s : ByteArray) (hs : s.size ≤ 100000) : OfIs s ((ch s.data.toList).map (·.1)) (rightB s.data.toList) := by
  intro w
  refine (of_any s w hs).mono fun e w' h => ?_
  obtain ⟨v, h1, h2, h3⟩ := h
  exact ⟨v, h1, iview_of_owns (by simp) h2, h3⟩
end Go.Proofs.YtakjlolmmoladabDoor

/-
  What 'pen.Name' and 'pen.Good' do, and the reference's.
-/
namespace Go.Proofs.YtakjlolmmoladabDoor
open Go.RowKit
set_option linter.unusedVariables false

theorem nameB_short {l : List UInt8} (h : ¬ (0 < l.length ∧ l.length ≤ 24)) : nameB l = false := by
  unfold nameB; rw [decide_eq_false h]; rfl
theorem nameB_ok {l : List UInt8} (h : 0 < l.length ∧ l.length ≤ 24) : nameB l = (smN (dgt l 0) && allN okN l) := by
  unfold nameB; rw [decide_eq_true h]; rfl

set_option maxHeartbeats 2000000 in
theorem pname_any (s : ByteArray) (w : World) (hs : s.size ≤ 9223372036854775807) :
    Calls Tryd.prog 14 #[.string s] w fun e w' => e = .returned (.bool (nameB s.data.toList)) ∧ Below w.heap.size w w' := by
  by_cases h0 : s.size = 0
  · have he := is_empty s h0
    rw [nameB_short (by rw [data_len]; omega)]
    go_enter Tryd.func14, Tryd.ntmps14
    go_wp2
    go_ret
    exact ⟨rfl, Below.refl _ _⟩
  have he := not_empty s (by omega)
  by_cases h1 : 24 < s.size
  · have hi : (24 : Int) < (s.size : Int) := by omega
    rw [nameB_short (by rw [data_len]; omega)]
    go_enter Tryd.func14, Tryd.ntmps14
    go_wp2
    go_ret
    exact ⟨rfl, Below.refl _ _⟩
  have hi : ¬ (24 : Int) < (s.size : Int) := by omega
  have hp0 : 0 < s.size := by omega
  have hp0i : (0 : Int) < (s.size : Int) := by omega
  rw [nameB_ok (by rw [data_len]; omega)]
  have e0 := dgt_at s 0 hp0
  have CS := hide (small_any (dgt s.data.toList 0))
  have hcap : Cap w.heap.size (w.alloc (.cells #[.func (.func 33) #[] #[]] 60)) := World.cell?_alloc_at _ _ _ _ rfl
  have CE := hide (fun w' h => every_name s w.heap.size w' h hs)
  generalize dgt s.data.toList 0 = b at *
  generalize allN okN s.data.toList = ev at *
  have hmf : ∀ (fn : Fn) (first cap : Array Value) (w : World), (Instr.makeFunc fn first cap).run Tryd.prog w = .ok (.func fn first cap) w := fun _ _ _ _ => rfl
  have HC := hide hcap
  clear hcap h0 h1
  cases hb : smN b with
  | true =>
    rw [hb] at CS
    clear hb
    go_enter Tryd.func14, Tryd.ntmps14
    go_wp2
    go_quiet ((first | (go_at_call 33; exact Calls.quiet_of_same (unhide CS _)) | (go_at_call 34; exact Calls.quiet_of_same (unhide CE _ (unhide HC)))))
    go_wp2
    go_ret
    exact ⟨rfl, below_drewN ((Below.refl _ _).alloc (Nat.le_refl _) _) _⟩
  | false =>
    rw [hb] at CS
    clear hb
    go_enter Tryd.func14, Tryd.ntmps14
    go_wp2
    go_quiet ((go_at_call 33; exact Calls.quiet_of_same (unhide CS _)))
    go_wp2
    go_ret
    exact ⟨rfl, below_drewN ((Below.refl _ _).alloc (Nat.le_refl _) _) _⟩

set_option maxHeartbeats 1000000 in
theorem pgood_any (s : ByteArray) (w : World) (ht : Tabs w) (hs : s.size ≤ 9223372036854775807) :
    Calls Tryd.prog 16 #[.string s] w fun e w' => e = .returned (.bool (goodB s.data.toList)) ∧ Below w.heap.size w w' := by
  have C1 := hide (right_any s w ht hs)
  have C2 := hide (fun w => every_good s w hs)
  unfold goodB
  generalize rightB s.data.toList = rb at *
  generalize allN gdN s.data.toList = ab at *
  cases rb with
  | true =>
    rw [Bool.true_and]
    go_enter Tryd.func16, Tryd.ntmps16
    go_wp2_with fail
    refine (unhide C1).mono ?_
    rintro e w1 ⟨rfl, hb1⟩
    go_wp2_with fail
    refine (unhide C2 _).mono ?_
    rintro e w2 ⟨rfl, rfl⟩
    go_wp2
    go_ret
    exact ⟨rfl, hb1⟩
  | false =>
    rw [Bool.false_and]
    go_enter Tryd.func16, Tryd.ntmps16
    go_wp2_with fail
    refine (unhide C1).mono ?_
    rintro e w1 ⟨rfl, hb1⟩
    go_wp2
    go_ret
    exact ⟨rfl, hb1⟩

/-! ### the reference's -/
set_option maxHeartbeats 2000000 in
theorem rname6_any (s : ByteArray) (w : World) (hs : s.size ≤ 9223372036854775807) :
    Calls Tryd.prog 15 #[.string s] w fun e w' => e = .returned (.bool (nameB s.data.toList)) ∧ w' = w := by
  go_enter Tryd.func15, Tryd.ntmps15
  go_wp2
  go_loopw [3] (fun i wr => ∃ k : Nat, k ≤ s.size ∧ i = .int .i64 k ∧ allN okN s.data.toList = allN okN (s.data.toList.drop k) ∧ (0 < k → smN (dgt s.data.toList 0) = true) ∧ wr = w) (fun i _ => s.size - (intOf i).toNat)
  case atStart => exact ⟨0, Nat.zero_le _, rfl, rfl, fun h => by omega, rfl⟩
  case round =>
    obtain ⟨k, hk, rfl, hr, h0, rfl⟩ := hrel
    have HR := hide hr
    have H0 := hide h0
    clear hr h0
    by_cases hp : k < s.size
    · have hpi : (k : Int) < (s.size : Int) := by omega
      have e := dgt_at s k hp
      have hst := allN_step okN (l := s.data.toList) (k := k) (by rw [data_len]; exact hp)
      rw [ok_more] at hst
      have hz : k = 0 → smN (dgt s.data.toList 0) = smN (dgt s.data.toList k) := fun h => by rw [h]
      have hno1 : k = 0 → smN (dgt s.data.toList k) = false → nameB s.data.toList = false := fun h1 h2 => by
        unfold nameB; rw [hz h1, h2]; simp
      have hno2 : (smN (dgt s.data.toList k) || moreN (dgt s.data.toList k)) = false → nameB s.data.toList = false := fun h => by
        unfold nameB; rw [unhide HR, hst, h]; simp
      have HST := hide hst
      have HZ := hide hz
      have N1 := hide hno1
      have N2 := hide hno2
      clear hst hz hno1 hno2
      have hbl := dgt_lt s.data.toList k
      generalize dgt s.data.toList k = b at *
      by_cases g1 : 97 ≤ b ∧ b ≤ 122
      · have i1 : (97 : Int) ≤ (b : Int) := by omega
        have i2 : (b : Int) ≤ 122 := by omega
        have i3 : (48 : Int) ≤ (b : Int) := by omega
        have i4 : decide ((b : Int) ≤ 58) = false := decide_eq_false (by omega)
        have i5 : ((b : Int) == 45) = false := bneI (by omega)
        rw [smN_yes g1] at HST HZ
        clear g1 N1 N2
        go_wp2
        go_roundw
        case rel => exact ⟨k + 1, by omega, by go_num, by rw [unhide HR, unhide HST]; rfl, fun _ => by
          by_cases hk0 : k = 0
          · exact unhide HZ hk0
          · exact unhide H0 (by omega), by first | exact rfl | trivial⟩
        case measure => simp [intOf]; omega
      · rw [smN_no g1] at HST HZ N1 N2
        by_cases gk : k = 0
        · subst gk
          have HN := hide (unhide N1 rfl rfl)
          by_cases g2 : 97 ≤ b
          · have i1 : (97 : Int) ≤ (b : Int) := by omega
            have i2 : decide ((b : Int) ≤ 122) = false := decide_eq_false (by omega)
            have i3 : (48 : Int) ≤ (b : Int) := by omega
            have i4 : decide ((b : Int) ≤ 58) = false := decide_eq_false (by omega)
            have i5 : ((b : Int) == 45) = false := bneI (by omega)
            clear g1 N1 N2
            go_wp2
            go_ret
            exact ⟨by rw [unhide HN]; rfl, rfl⟩
          · have i1 : decide ((97 : Int) ≤ (b : Int)) = false := decide_eq_false (by omega)
            clear g1 g2 N1 N2
            by_cases g3 : 48 ≤ b
            · have i3 : (48 : Int) ≤ (b : Int) := by omega
              by_cases g4 : b ≤ 58
              · have i4 : (b : Int) ≤ 58 := by omega
                go_wp2
                go_ret
                exact ⟨by rw [unhide HN]; rfl, rfl⟩
              · have i4 : decide ((b : Int) ≤ 58) = false := decide_eq_false (by omega)
                have i5 : ((b : Int) == 45) = false := bneI (by omega)
                clear g4
                go_wp2
                go_ret
                exact ⟨by rw [unhide HN]; rfl, rfl⟩
            · have i3 : decide ((48 : Int) ≤ (b : Int)) = false := decide_eq_false (by omega)
              clear g3
              by_cases g5 : b = 45
              · subst g5
                go_wp2
                go_ret
                exact ⟨by rw [unhide HN]; rfl, rfl⟩
              · have i5 : ((b : Int) == 45) = false := bneI (by omega)
                clear g5
                go_wp2
                go_ret
                exact ⟨by rw [unhide HN]; rfl, rfl⟩
        · have ik : ((k : Int) == 0) = false := bneI (by omega)
          have hk0 : 0 < k := by omega
          rw [Bool.false_or] at HST N2
          by_cases gm : (48 ≤ b ∧ b ≤ 58) ∨ b = 45
          · have em : moreN b = true := decide_eq_true gm
            rw [em] at HST
            clear N1 N2 em
            by_cases g3 : 48 ≤ b
            · have i3 : (48 : Int) ≤ (b : Int) := by omega
              have i4 : (b : Int) ≤ 58 := by omega
              have i1 : decide ((97 : Int) ≤ (b : Int)) = false := decide_eq_false (by omega)
              clear g1 gm g3 gk
              go_wp2
              go_roundw
              case rel => exact ⟨k + 1, by omega, by go_num, by rw [unhide HR, unhide HST]; rfl, fun _ => unhide H0 hk0, by first | exact rfl | trivial⟩
              case measure => simp [intOf]; omega
            · have hb45 : b = 45 := by omega
              subst hb45
              clear g1 gm g3 gk
              go_wp2
              go_roundw
              case rel => exact ⟨k + 1, by omega, by go_num, by rw [unhide HR, unhide HST]; rfl, fun _ => unhide H0 hk0, by first | exact rfl | trivial⟩
              case measure => simp [intOf]; omega
          · have em : moreN b = false := decide_eq_false gm
            have HN := hide (unhide N2 em)
            have i5 : ((b : Int) == 45) = false := bneI (by omega)
            clear N1 N2 em
            by_cases g3 : 48 ≤ b
            · have i3 : (48 : Int) ≤ (b : Int) := by omega
              have i4 : decide ((b : Int) ≤ 58) = false := decide_eq_false (by omega)
              by_cases g2 : 97 ≤ b
              · have i1 : (97 : Int) ≤ (b : Int) := by omega
                have i2 : decide ((b : Int) ≤ 122) = false := decide_eq_false (by omega)
                clear g1 gm g3 gk
                go_wp2
                go_ret
                exact ⟨by rw [unhide HN]; rfl, rfl⟩
              · have i1 : decide ((97 : Int) ≤ (b : Int)) = false := decide_eq_false (by omega)
                clear g1 gm g3 gk g2
                go_wp2
                go_ret
                exact ⟨by rw [unhide HN]; rfl, rfl⟩
            · have i3 : decide ((48 : Int) ≤ (b : Int)) = false := decide_eq_false (by omega)
              have i1 : decide ((97 : Int) ≤ (b : Int)) = false := decide_eq_false (by omega)
              clear g1 gm g3 gk
              go_wp2
              go_ret
              exact ⟨by rw [unhide HN]; rfl, rfl⟩
    · have he : allN okN s.data.toList = true := by rw [unhide HR]; exact allN_end _ (by rw [data_len]; omega)
      have hks : k = s.size := by omega
      have hv : nameB s.data.toList = (decide ((0 : Int) < (s.size : Int)) && decide ((s.size : Int) < 25)) := by
        unfold nameB
        rw [he, data_len]
        by_cases hz : 0 < s.size
        · rw [unhide H0 (by omega), decide_eq_true (show (0 : Int) < (s.size : Int) by omega)]
          by_cases h25 : s.size ≤ 24
          · rw [decide_eq_true ⟨hz, h25⟩, decide_eq_true (show (s.size : Int) < 25 by omega)]; rfl
          · rw [decide_eq_false (by omega), decide_eq_false (show ¬ (s.size : Int) < 25 by omega)]; rfl
        · rw [decide_eq_false (by omega), decide_eq_false (show ¬ (0 : Int) < (s.size : Int) by omega)]; rfl
      have HV := hide hv
      clear hv he
      by_cases hz : 0 < s.size
      · have j1 : (0 : Int) < (s.size : Int) := by omega
        by_cases h25 : s.size < 25
        · have j2 : (s.size : Int) < 25 := by omega
          rw [decide_eq_true j1, decide_eq_true j2] at HV
          go_wp2
          go_ret
          exact ⟨by rw [unhide HV]; rfl, rfl⟩
        · have j2 : decide ((s.size : Int) < 25) = false := decide_eq_false (by omega)
          rw [decide_eq_true j1, j2] at HV
          clear h25
          go_wp2
          go_ret
          exact ⟨by rw [unhide HV]; rfl, rfl⟩
      · have j1 : decide ((0 : Int) < (s.size : Int)) = false := decide_eq_false (by omega)
        rw [j1, Bool.false_and] at HV
        have j0 : s.size = 0 := by omega
        clear hz j1
        go_wp2
        go_ret
        exact ⟨by rw [unhide HV]; rfl, rfl⟩

theorem field_right (a : Option Addr) (n cap : Nat) (r : Bool) (w : World) : (Instr.field 64 (.agg #[.slice a n cap, .bool r]) 1).run Tryd.prog w = .ok (.bool r) w := by kernel_rfl
set_option maxHeartbeats 1000000 in
theorem rgood6_any (s : ByteArray) (w : World) (hs : s.size ≤ 100000) :
    Calls Tryd.prog 17 #[.string s] w fun e w' => e = .returned (.bool (goodB s.data.toList)) ∧ Below w.heap.size w w' := by
  have CO := hide (ofIs s hs)
  have hfl := field_right
  go_enter Tryd.func17, Tryd.ntmps17
  go_wp2
  go_loopw [3] (fun i wr => ∃ k : Nat, k ≤ s.size ∧ i = .int .i64 k ∧ allN gdN s.data.toList = allN gdN (s.data.toList.drop k) ∧ wr = w) (fun i _ => s.size - (intOf i).toNat)
  case atStart => exact ⟨0, Nat.zero_le _, rfl, rfl, rfl⟩
  case round =>
    obtain ⟨k, hk, rfl, hr, rfl⟩ := hrel
    have HR := hide hr
    clear hr
    by_cases hp : k < s.size
    · have hpi : (k : Int) < (s.size : Int) := by omega
      have e := dgt_at s k hp
      have hst := allN_step gdN (l := s.data.toList) (k := k) (by rw [data_len]; exact hp)
      have hno : gdN (dgt s.data.toList k) = false → goodB s.data.toList = false := fun h => by
        unfold goodB; rw [unhide HR, hst, h]; simp
      have HST := hide hst
      have HN := hide hno
      clear hst hno
      generalize dgt s.data.toList k = b at *
      by_cases h1 : b = 0
      · subst h1
        have HF := hide (unhide HN (by decide))
        go_wp2
        go_ret
        exact ⟨by rw [unhide HF]; rfl, Below.refl _ _⟩
      have n0 : ((b : Int) == 0) = false := bneI (by omega)
      by_cases h2 : b = 13
      · subst h2
        have HF := hide (unhide HN (by decide))
        go_wp2
        go_ret
        exact ⟨by rw [unhide HF]; rfl, Below.refl _ _⟩
      have n1 : ((b : Int) == 13) = false := bneI (by omega)
      have hg : gdN b = true := decide_eq_true ⟨h1, h2⟩
      rw [hg] at HST
      clear h1 h2 hg HN
      go_wp2
      go_roundw
      case rel => exact ⟨k + 1, by omega, by go_num, by rw [unhide HR, unhide HST]; rfl, by first | exact rfl | trivial⟩
      case measure => simp [intOf]; omega
    · have he : goodB s.data.toList = rightB s.data.toList := by
        unfold goodB; rw [unhide HR, allN_end _ (by rw [data_len]; omega)]; simp
      have HE := hide he
      clear he
      generalize rightB s.data.toList = rb at *
      go_wp2_with fail
      refine (unhide CO _).mono ?_
      rintro e1 w2 ⟨v, rfl, hv, hb2⟩
      obtain ⟨a, cap, rfl, _⟩ := hv
      go_wp2
      go_ret
      exact ⟨by rw [unhide HE]; rfl, hb2⟩
end Go.Proofs.YtakjlolmmoladabDoor

/-
  What small functions of the reference of layer 4 do: 'at', 'value'; and 'refs.nameFor'.
-/
namespace Go.Proofs.YtakjlolmmoladabDoor
open Go.RowKit
set_option linter.unusedVariables false

/-- The byte at a place; 0 where there is none. -/
def atB (l : List UInt8) (k : Nat) : Nat := if k < l.length then dgt l k else 0
theorem rat_at (s : ByteArray) (k : Nat) (w : World) (hk : k ≤ 9223372036854775807) (hs : s.size ≤ 9223372036854775807) :
    Calls Tryd.prog 55 #[.string s, .int .i64 (k : Int)] w fun e w' => e = .returned (.int .u8 (atB s.data.toList k : Int)) ∧ w' = w := by
  have i0 : ¬ (k : Int) < 0 := by omega
  unfold atB
  rw [data_len]
  by_cases h : k < s.size
  · rw [if_pos h]
    have i1 : (k : Int) < (s.size : Int) := by omega
    have i2 : ¬ (s.size : Int) ≤ (k : Int) := by omega
    have e := dgt_at s k h
    generalize dgt s.data.toList k = b at *
    go_enter Tryd.func55, Tryd.ntmps55
    go_wp2
    go_ret
    exact ⟨rfl, rfl⟩
  · rw [if_neg h]
    have i2 : (s.size : Int) ≤ (k : Int) := by omega
    go_enter Tryd.func55, Tryd.ntmps55
    go_wp2
    go_ret
    exact ⟨rfl, rfl⟩

def valN (b : Nat) : Int := if 48 ≤ b ∧ b ≤ 57 then (b : Int) - 48 else if 97 ≤ b ∧ b ≤ 102 then (b : Int) - 87 else if 65 ≤ b ∧ b ≤ 70 then (b : Int) - 55 else 99
theorem val_dig (b : Nat) : (0 ≤ digV b → valN b = digV b) ∧ (digV b < 0 → valN b = 99) := by
  unfold valN digV
  repeat' split
  all_goals omega
/-- The name that is written for a character. -/
def forN (c : Int) (v : Bool) : List UInt8 :=
  if c = 38 then [97, 109, 112] else if c = 160 then [110, 98, 115, 112] else if c = 60 then [108, 116] else if c = 62 then [103, 116] else if c = 34 ∧ v = true then [113, 117, 111, 116] else []
theorem nameFor_any (c : Int) (v : Bool) (w : World) :
    Calls Tryd.prog 50 #[.int .i32 c, .bool v] w fun e w' => e = .returned (.string (bs (forN c v))) ∧ w' = w := by
  unfold forN
  by_cases h0 : c = 38
  · subst h0
    rw [if_pos rfl]
    go_enter Tryd.func50, Tryd.ntmps50
    go_wp2
    go_ret
    exact ⟨rfl, rfl⟩
  have n0 : (c == 38) = false := beq_eq_false_iff_ne.2 h0
  by_cases h1 : c = 160
  · subst h1
    rw [if_neg (by decide), if_pos rfl]
    go_enter Tryd.func50, Tryd.ntmps50
    go_wp2
    go_ret
    exact ⟨rfl, rfl⟩
  have n1 : (c == 160) = false := beq_eq_false_iff_ne.2 h1
  by_cases h2 : c = 60
  · subst h2
    rw [if_neg (by decide), if_neg (by decide), if_pos rfl]
    go_enter Tryd.func50, Tryd.ntmps50
    go_wp2
    go_ret
    exact ⟨rfl, rfl⟩
  have n2 : (c == 60) = false := beq_eq_false_iff_ne.2 h2
  by_cases h3 : c = 62
  · subst h3
    rw [if_neg (by decide), if_neg (by decide), if_neg (by decide), if_pos rfl]
    go_enter Tryd.func50, Tryd.ntmps50
    go_wp2
    go_ret
    exact ⟨rfl, rfl⟩
  have n3 : (c == 62) = false := beq_eq_false_iff_ne.2 h3
  rw [if_neg h0, if_neg h1, if_neg h2, if_neg h3]
  by_cases h4 : c = 34
  · subst h4
    cases v with
    | true =>
      rw [if_pos ⟨rfl, rfl⟩]
      go_enter Tryd.func50, Tryd.ntmps50
      go_wp2
      go_ret
      exact ⟨rfl, rfl⟩
    | false =>
      rw [if_neg (by simp)]
      go_enter Tryd.func50, Tryd.ntmps50
      go_wp2
      go_ret
      exact ⟨rfl, rfl⟩
  · have n4 : (c == 34) = false := beq_eq_false_iff_ne.2 h4
    rw [if_neg (fun h => h4 h.1)]
    clear h0 h1 h2 h3 h4
    go_enter Tryd.func50, Tryd.ntmps50
    go_wp2
    go_ret
    exact ⟨rfl, rfl⟩
end Go.Proofs.YtakjlolmmoladabDoor

/-
  What the reference's Escape does: any text with references.
-/
namespace Go.Proofs.YtakjlolmmoladabDoor
open Go.RowKit
set_option linter.unusedVariables false

def ampL : List UInt8 := [38, 97, 109, 112, 59]
def ltL : List UInt8 := [38, 108, 116, 59]
def gtL : List UInt8 := [38, 103, 116, 59]
def quotL : List UInt8 := [38, 113, 117, 111, 116, 59]
def nbspL : List UInt8 := [38, 110, 98, 115, 112, 59]
def hd160 : List UInt8 → Bool
  | [] => false
  | c :: _ => decide (c.toNat = 160)
/-- The text with references; the flag: the first byte is passed over. -/
def escS (v : Bool) : Bool → List UInt8 → List UInt8
  | _, [] => []
  | true, _ :: l => escS v false l
  | false, c :: l =>
    if c.toNat = 38 then ampL ++ escS v false l else if c.toNat = 60 then ltL ++ escS v false l else if c.toNat = 62 then gtL ++ escS v false l
    else if c.toNat = 34 then (if v = true then quotL else [34]) ++ escS v false l
    else if c.toNat = 194 ∧ hd160 l = true then nbspL ++ escS v true l else c :: escS v false l
def escL (v : Bool) (l : List UInt8) : List UInt8 := escS v false l
theorem hd160_at (l : List UInt8) (k : Nat) : hd160 (l.drop k) = decide (atB l k = 160) := by
  unfold atB
  by_cases h : k < l.length
  · obtain ⟨c, hc, hn⟩ := drop_at l k h
    rw [if_pos h, hc, hd160, hn]
  · rw [if_neg h, List.drop_eq_nil_of_le (by omega)]; rfl
theorem esc_38 {v : Bool} {l : List UInt8} {k : Nat} (hk : k < l.length) (h : dgt l k = 38) : escL v (l.drop k) = ampL ++ escL v (l.drop (k + 1)) := by
  obtain ⟨c, hc, hn⟩ := drop_at l k hk
  rw [escL, hc, escS, if_pos (by omega)]; rfl
theorem esc_60 {v : Bool} {l : List UInt8} {k : Nat} (hk : k < l.length) (h : dgt l k = 60) : escL v (l.drop k) = ltL ++ escL v (l.drop (k + 1)) := by
  obtain ⟨c, hc, hn⟩ := drop_at l k hk
  rw [escL, hc, escS, if_neg (by omega), if_pos (by omega)]; rfl
theorem esc_62 {v : Bool} {l : List UInt8} {k : Nat} (hk : k < l.length) (h : dgt l k = 62) : escL v (l.drop k) = gtL ++ escL v (l.drop (k + 1)) := by
  obtain ⟨c, hc, hn⟩ := drop_at l k hk
  rw [escL, hc, escS, if_neg (by omega), if_neg (by omega), if_pos (by omega)]; rfl
theorem esc_34 {v : Bool} {l : List UInt8} {k : Nat} (hk : k < l.length) (h : dgt l k = 34) : escL v (l.drop k) = (if v = true then quotL else [34]) ++ escL v (l.drop (k + 1)) := by
  obtain ⟨c, hc, hn⟩ := drop_at l k hk
  rw [escL, hc, escS, if_neg (by omega), if_neg (by omega), if_neg (by omega), if_pos (by omega)]; rfl
theorem esc_160 {v : Bool} {l : List UInt8} {k : Nat} (hk : k + 1 < l.length) (h : dgt l k = 194) (h2 : atB l (k + 1) = 160) : escL v (l.drop k) = nbspL ++ escL v (l.drop (k + 2)) := by
  obtain ⟨c, hc, hn⟩ := drop_at l k (by omega)
  obtain ⟨c2, hc2, _⟩ := drop_at l (k + 1) hk
  have h3 : hd160 (l.drop (k + 1)) = true := by rw [hd160_at, h2]; rfl
  rw [escL, hc, escS, if_neg (by omega), if_neg (by omega), if_neg (by omega), if_neg (by omega), if_pos ⟨by omega, h3⟩, hc2, escS]; rfl
theorem esc_other {v : Bool} {l : List UInt8} {k : Nat} (hk : k < l.length) (h0 : ¬ dgt l k = 38) (h1 : ¬ dgt l k = 60) (h2 : ¬ dgt l k = 62) (h3 : ¬ dgt l k = 34) (h4 : ¬ (dgt l k = 194 ∧ atB l (k + 1) = 160)) :
    escL v (l.drop k) = byt (dgt l k : Int) :: escL v (l.drop (k + 1)) := by
  obtain ⟨c, hc, hn⟩ := drop_at l k hk
  have h5 : ¬ (c.toNat = 194 ∧ hd160 (l.drop (k + 1)) = true) := by rw [hd160_at]; simp; omega
  rw [escL, hc, escS, if_neg (by omega), if_neg (by omega), if_neg (by omega), if_neg (by omega), if_neg h5, ← hn, byt_self]; rfl
theorem at_lt {l : List UInt8} {k : Nat} (h : atB l k = 160) : k < l.length := by
  unfold atB at h; split at h
  · assumption
  · omega
theorem one_atE (s : ByteArray) (k : Nat) (h : k < s.size) : s.extract k (k + 1) = bs [byt (dgt s.data.toList k)] := by
  obtain ⟨c, hc, hn⟩ := drop_at s.data.toList k (by rw [data_len]; exact h)
  rw [extract_take, hc, ← hn, byt_self]; rfl
theorem bsArr (l : List UInt8) : (⟨l.toArray⟩ : ByteArray) = bs l := rfl

set_option maxHeartbeats 4000000 in
theorem rescape_any (s : ByteArray) (v : Bool) (w : World) (hs : s.size ≤ 100000) :
    Calls Tryd.prog 40 #[.string s, .bool v] w fun e w' => e = .returned (.string (bs (escL v s.data.toList))) ∧ w' = w := by
  go_enter Tryd.func40, Tryd.ntmps40
  go_wp2
  go_loopw [5, 6] (fun o i wr => ∃ (k : Nat) (acc : List UInt8), k ≤ s.size ∧ i = .int .i64 k ∧ o = .string (bs acc) ∧ acc.length ≤ 6 * k ∧ escL v s.data.toList = acc ++ escL v (s.data.toList.drop k) ∧ wr = w) (fun _ i _ => s.size - (intOf i).toNat)
  case atStart => exact ⟨0, [], Nat.zero_le _, rfl, rfl, by simp, rfl, rfl⟩
  case round =>
    obtain ⟨k, acc, hk, rfl, rfl, hal, hr, rfl⟩ := hrel
    have HR := hide hr
    have HAL := hide hal
    clear hr
    rw [← bs_size] at hal
    by_cases hp : k < s.size
    · have hpi : (k : Int) < (s.size : Int) := by omega
      have hkl : k < s.data.toList.length := by rw [data_len]; exact hp
      have e := dgt_at s k hp
      have hone := one_atE s k hp
      have hone' := congrArg ByteArray.size hone
      rw [bs_size] at hone'
      have s1 := esc_38 (v := v) hkl
      have s2 := esc_60 (v := v) hkl
      have s3 := esc_62 (v := v) hkl
      have s4 := esc_34 (v := v) hkl
      have s5 := fun h => esc_160 (v := v) (k := k) (l := s.data.toList) h
      have s6 := esc_other (v := v) hkl
      have CA := hide (fun w => rat_at s (k + 1) w (by omega) (by omega))
      rw [Int.natCast_add] at CA
      have hatl := @at_lt s.data.toList (k + 1)
      rw [data_len] at s5 hatl
      generalize dgt s.data.toList k = b at *
      generalize atB s.data.toList (k + 1) = b2 at *
      generalize hx : bs acc = x at *
      have HX := hide hx
      have HO := hide hone
      clear hx hone
      by_cases g38 : b = 38
      · subst g38
        have S := hide (s1 rfl)
        clear s1 s2 s3 s4 s5 s6 hatl
        go_wp2
        go_roundw
        case rel => exact ⟨k + 1, acc ++ ampL, by omega, by go_num, by rw [← unhide HX, ← bs_bs]; rfl, by have := unhide HAL; rw [List.length_append]; show _ + 5 ≤ _; omega, by rw [unhide HR, unhide S, List.append_assoc], by first | exact rfl | trivial⟩
        case measure => simp [intOf]; omega
      have n38 : ((b : Int) == 38) = false := bneI (by omega)
      by_cases g60 : b = 60
      · subst g60
        have S := hide (s2 rfl)
        clear s1 s2 s3 s4 s5 s6 hatl
        go_wp2
        go_roundw
        case rel => exact ⟨k + 1, acc ++ ltL, by omega, by go_num, by rw [← unhide HX, ← bs_bs]; rfl, by have := unhide HAL; rw [List.length_append]; show _ + 4 ≤ _; omega, by rw [unhide HR, unhide S, List.append_assoc], by first | exact rfl | trivial⟩
        case measure => simp [intOf]; omega
      have n60 : ((b : Int) == 60) = false := bneI (by omega)
      by_cases g62 : b = 62
      · subst g62
        have S := hide (s3 rfl)
        clear s1 s2 s3 s4 s5 s6 hatl
        go_wp2
        go_roundw
        case rel => exact ⟨k + 1, acc ++ gtL, by omega, by go_num, by rw [← unhide HX, ← bs_bs]; rfl, by have := unhide HAL; rw [List.length_append]; show _ + 4 ≤ _; omega, by rw [unhide HR, unhide S, List.append_assoc], by first | exact rfl | trivial⟩
        case measure => simp [intOf]; omega
      have n62 : ((b : Int) == 62) = false := bneI (by omega)
      by_cases g34 : b = 34
      · subst g34
        cases v with
        | true =>
          have S := hide (s4 rfl)
          rw [if_pos rfl] at S
          clear s1 s2 s3 s4 s5 s6 hatl
          go_wp2
          go_roundw
          case rel => exact ⟨k + 1, acc ++ quotL, by omega, by go_num, by rw [← unhide HX, ← bs_bs]; rfl, by have := unhide HAL; rw [List.length_append]; show _ + 6 ≤ _; omega, by rw [unhide HR, unhide S, List.append_assoc], by first | exact rfl | trivial⟩
          case measure => simp [intOf]; omega
        | false =>
          have S := hide (s4 rfl)
          rw [if_neg (by decide)] at S
          clear s1 s2 s3 s4 s5 s6 hatl
          go_wp2
          go_roundw
          case rel => exact ⟨k + 1, acc ++ [34], by omega, by go_num, by rw [← unhide HX, ← bs_bs]; rfl, by have := unhide HAL; rw [List.length_append]; show _ + 1 ≤ _; omega, by rw [unhide HR, unhide S, List.append_assoc], by first | exact rfl | trivial⟩
          case measure => simp [intOf]; omega
      have n34 : ((b : Int) == 34) = false := bneI (by omega)
      by_cases h4 : b = 194
      · subst h4
        by_cases h5 : b2 = 160
        · subst h5
          have hk2 := hatl rfl
          have S := hide (s5 hk2 rfl rfl)
          clear s1 s2 s3 s4 s5 s6 hatl
          go_wp2_with fail
          refine (unhide CA _).mono ?_
          rintro e1 w1 ⟨rfl, rfl⟩
          go_wp2
          go_roundw
          case rel => exact ⟨k + 2, acc ++ nbspL, by omega, by go_num, by rw [← unhide HX, ← bs_bs]; rfl, by have := unhide HAL; rw [List.length_append]; show _ + 6 ≤ _; omega, by rw [unhide HR, unhide S, List.append_assoc], by first | exact rfl | trivial⟩
          case measure => simp [intOf]; omega
        · have n5 : ((b2 : Int) == 160) = false := bneI (by omega)
          have S := hide (s6 (by omega) (by omega) (by omega) (by omega) (by omega))
          clear s1 s2 s3 s4 s5 s6 hatl h5
          go_wp2_with fail
          refine (unhide CA _).mono ?_
          rintro e1 w1 ⟨rfl, rfl⟩
          go_wp2
          go_roundw
          case rel => exact ⟨k + 1, acc ++ [byt ((194 : Nat) : Int)], by omega, by go_num, by rw [← unhide HX, unhide HO, bs_bs], by have := unhide HAL; simp; omega, by rw [unhide HR, unhide S, List.append_assoc]; rfl, by first | exact rfl | trivial⟩
          case measure => simp [intOf]; omega
      · have n4 : ((b : Int) == 194) = false := bneI (by omega)
        have S := hide (s6 (by omega) (by omega) (by omega) (by omega) (by omega))
        clear s1 s2 s3 s4 s5 s6 hatl h4 g38 g60 g62 g34
        go_wp2
        go_roundw
        case rel => exact ⟨k + 1, acc ++ [byt (b : Int)], by omega, by go_num, by rw [← unhide HX, unhide HO, bs_bs], by have := unhide HAL; simp; omega, by rw [unhide HR, unhide S, List.append_assoc]; rfl, by first | exact rfl | trivial⟩
        case measure => simp [intOf]; omega
    · have hf : escL v s.data.toList = acc := by rw [unhide HR, List.drop_eq_nil_of_le (by rw [data_len]; omega)]; simp [escL, escS]
      have HF := hide hf
      clear hf
      go_wp2
      go_ret
      exact ⟨by rw [unhide HF]; rfl, rfl⟩
end Go.Proofs.YtakjlolmmoladabDoor

/-
  A text with references: how its bytes and the characters that a range over it meets hang together.
-/
namespace Go.Proofs.YtakjlolmmoladabDoor
open Go.RowKit
set_option linter.unusedVariables false

theorem cut_ex (s : ByteArray) (a b : Nat) : s.extract a b = bs ((s.data.toList.drop a).take (b - a)) := by
  rw [Lib.extract_eq]; rfl
theorem get_dgt (s : ByteArray) (k : Nat) : (s.get! k).toNat = dgt s.data.toList k := by
  unfold dgt
  by_cases h : k < s.size
  · have h' : k < s.data.toList.length := by simpa using h
    rw [List.getD, List.getElem?_eq_getElem h']
    simp [ByteArray.get!, getElem!_pos, h]
  · have h' : ¬ k < s.data.toList.length := by simpa using h
    rw [List.getD, List.getElem?_eq_none (by omega)]
    simp only [ByteArray.get!]
    rw [getElem!_neg _ _ (by simpa using h)]
    rfl
theorem atB_dgt (l : List UInt8) (k : Nat) : atB l k = dgt l k := by
  unfold atB
  split
  · rfl
  · rename_i h
    unfold dgt
    rw [List.getD, List.getElem?_eq_none (by omega)]; rfl

theorem decN_low {n b0 b1 b2 b3 : Nat} (h : b0 < 128) : Lib.decodeN n b0 b1 b2 b3 = (b0, 1) := by
  unfold Lib.decodeN; rw [if_pos h]
theorem decN_nb {n b0 b1 b2 b3 : Nat} (h0 : b0 = 194) (h1 : b1 = 160) (hn : 1 < n) : Lib.decodeN n b0 b1 b2 b3 = (160, 2) := by
  subst h0; subst h1
  unfold Lib.decodeN
  rw [if_neg (by omega), if_pos (by omega), if_pos (by omega)]
theorem decN_high {n b0 b1 b2 b3 : Nat} (h : 128 ≤ b0) (h' : b0 < 256) (hn : 1 ≤ n) :
    128 ≤ (Lib.decodeN n b0 b1 b2 b3).1 ∧ 1 ≤ (Lib.decodeN n b0 b1 b2 b3).2 ∧ (Lib.decodeN n b0 b1 b2 b3).2 ≤ n ∧ (Lib.decodeN n b0 b1 b2 b3).2 ≤ 4
    ∧ ((Lib.decodeN n b0 b1 b2 b3).1 = 160 → b0 = 194 ∧ b1 = 160 ∧ 1 < n ∧ (Lib.decodeN n b0 b1 b2 b3).2 = 2)
    ∧ (1 < (Lib.decodeN n b0 b1 b2 b3).2 → 128 ≤ b1 ∧ b1 < 192) ∧ (2 < (Lib.decodeN n b0 b1 b2 b3).2 → 128 ≤ b2 ∧ b2 < 192) ∧ (3 < (Lib.decodeN n b0 b1 b2 b3).2 → 128 ≤ b3 ∧ b3 < 192) := by
  unfold Lib.decodeN
  repeat' split
  all_goals simp only []
  all_goals first | omega | (simp only [and_true]; omega)

theorem esc_run (v : Bool) (l : List UInt8) : ∀ (n k : Nat), k + n ≤ l.length → (∀ j, j < n → 128 ≤ dgt l (k + j) ∧ ¬ (dgt l (k + j) = 194 ∧ atB l (k + j + 1) = 160)) →
    escL v (l.drop k) = (l.drop k).take n ++ escL v (l.drop (k + n))
  | 0, k, _, _ => by simp
  | n + 1, k, hl, h => by
    have h0 := h 0 (by omega)
    rw [Nat.add_zero] at h0
    have hk : k < l.length := by omega
    obtain ⟨c, hc, hn⟩ := drop_at l k hk
    rw [esc_other hk (by omega) (by omega) (by omega) (by omega) h0.2, ← hn, byt_self, hc, List.take_succ_cons, List.cons_append]
    have := esc_run v l n (k + 1) (by omega) (fun j hj => by have := h (j + 1) (by omega); rw [show k + (j + 1) = k + 1 + j by omega] at this; exact this)
    rw [this, show k + 1 + n = k + (n + 1) by omega]

/-- What the range meets at a place, and what is made of it. -/
theorem esc_at (v : Bool) (s : ByteArray) (k : Nat) (hk : k < s.size) :
    (forN ((Utf8.decode s k).1 : Int) v = [] ∧ 1 ≤ (Utf8.decode s k).2 ∧ k + (Utf8.decode s k).2 ≤ s.size ∧ escL v (s.data.toList.drop k) = (s.data.toList.drop k).take (Utf8.decode s k).2 ++ escL v (s.data.toList.drop (k + (Utf8.decode s k).2)))
    ∨ (forN ((Utf8.decode s k).1 : Int) v ≠ [] ∧ (forN ((Utf8.decode s k).1 : Int) v).length ≤ 4 ∧ isC ((Utf8.decode s k).1 : Int) = true ∧ (ub ((Utf8.decode s k).1 : Int)).length = (Utf8.decode s k).2 ∧ 1 ≤ (Utf8.decode s k).2 ∧ k + (Utf8.decode s k).2 ≤ s.size
      ∧ escL v (s.data.toList.drop k) = ([38] ++ forN ((Utf8.decode s k).1 : Int) v ++ [59]) ++ escL v (s.data.toList.drop (k + (Utf8.decode s k).2))) := by
  have hkl : k < s.data.toList.length := by rw [data_len]; exact hk
  have e := Lib.decode_at s k
  rw [get_dgt, get_dgt, get_dgt, get_dgt] at e
  by_cases hlow : dgt s.data.toList k < 128
  · rw [decN_low hlow] at e
    rw [e]
    have hkl2 : k + 1 ≤ s.size := by omega
    simp only
    by_cases h38 : dgt s.data.toList k = 38
    · rw [h38, esc_38 hkl h38]
      exact .inr ⟨by decide +revert, by decide +revert, by decide, by decide, by omega, by omega, by cases v <;> rfl⟩
    by_cases h60 : dgt s.data.toList k = 60
    · rw [h60, esc_60 hkl h60]
      exact .inr ⟨by decide +revert, by decide +revert, by decide, by decide, by omega, by omega, by cases v <;> rfl⟩
    by_cases h62 : dgt s.data.toList k = 62
    · rw [h62, esc_62 hkl h62]
      exact .inr ⟨by decide +revert, by decide +revert, by decide, by decide, by omega, by omega, by cases v <;> rfl⟩
    have hone : (s.data.toList.drop k).take 1 = [byt (dgt s.data.toList k : Int)] := by
      obtain ⟨c, hc, hn⟩ := drop_at s.data.toList k hkl
      rw [hc, ← hn, byt_self]; rfl
    by_cases h34 : dgt s.data.toList k = 34
    · cases v with
      | true =>
        rw [h34, esc_34 hkl h34]
        exact .inr ⟨by decide, by decide, by decide, by decide, by omega, by omega, rfl⟩
      | false =>
        rw [hone, h34, esc_34 hkl h34]
        exact .inl ⟨by decide, by omega, by omega, rfl⟩
    · rw [hone, esc_other hkl h38 h60 h62 h34 (by omega)]
      refine .inl ⟨?_, by omega, by omega, rfl⟩
      unfold forN
      rw [if_neg (by omega), if_neg (by omega), if_neg (by omega), if_neg (by omega), if_neg (by omega)]
  · have hd := decN_high (n := s.size - k) (b0 := dgt s.data.toList k) (b1 := dgt s.data.toList (k + 1)) (b2 := dgt s.data.toList (k + 2)) (b3 := dgt s.data.toList (k + 3)) (by omega) (dgt_lt _ _) (by omega)
    have hnb := decN_nb (n := s.size - k) (b0 := dgt s.data.toList k) (b1 := dgt s.data.toList (k + 1)) (b2 := dgt s.data.toList (k + 2)) (b3 := dgt s.data.toList (k + 3))
    rw [← e] at hd hnb
    obtain ⟨d1, d2, d3, d4, d5, d6, d7, d8⟩ := hd
    by_cases h160 : (Utf8.decode s k).1 = 160
    · obtain ⟨q1, q2, q3, q4⟩ := d5 h160
      rw [h160, q4, esc_160 (by rw [data_len]; omega) q1 (by rw [atB_dgt]; exact q2)]
      exact .inr ⟨by decide +revert, by decide +revert, by decide, by decide, by omega, by omega, by cases v <;> rfl⟩
    · have hf : forN ((Utf8.decode s k).1 : Int) v = [] := by
        unfold forN
        rw [if_neg (by omega), if_neg (by omega), if_neg (by omega), if_neg (by omega), if_neg (by omega)]
      refine .inl ⟨hf, d2, by omega, esc_run v s.data.toList _ k (by rw [data_len]; omega) (fun j hj => ?_)⟩
      rw [atB_dgt]
      have hj4 : j = 0 ∨ j = 1 ∨ j = 2 ∨ j = 3 := by omega
      rcases hj4 with rfl | rfl | rfl | rfl
      · refine ⟨by rw [Nat.add_zero]; omega, fun h => ?_⟩
        rw [Nat.add_zero] at h
        by_cases hn : 1 < s.size - k
        · exact h160 (by rw [hnb h.1 h.2 hn])
        · have : dgt s.data.toList (k + 1) = 0 := by
            unfold dgt; rw [List.getD, List.getElem?_eq_none (by rw [data_len]; omega)]; rfl
          omega
      · have := d6 hj; exact ⟨by omega, by omega⟩
      · have := d7 hj; exact ⟨by omega, by omega⟩
      · have := d8 hj; exact ⟨by omega, by omega⟩
end Go.Proofs.YtakjlolmmoladabDoor

/-
  What the methods of strings.Builder do that the program calls, with the frame that reaches above the builder: the library's contracts, laid at this program.
-/
namespace Go.Proofs.YtakjlolmmoladabDoor
open Go.RowKit
set_option linter.unusedVariables false

def BldF (B b : Nat) (l : List UInt8) (w : World) : Prop := Lib.IsBuilderF 51 5 B b (Lib.byteCells l) w
def Oth (b : Nat) (w w' : World) : Prop := Lib.OthersKept 5 (some b) w w'

theorem writeStringK (B b : Nat) (l : List UInt8) (s : ByteArray) (w : World) (h : BldF B b l w) (hlen : l.length + s.size ≤ 140737488355328) (hBw : B ≤ w.heap.size) :
    Calls Tryd.prog 28 #[.pointer (some ⟨b, 0, none⟩), .string s] w fun e w' => e = .returned (.tuple #[.int .i64 s.size, .nilIface]) ∧ BldF B b (l ++ s.data.toList) w' ∧ Below B w w' ∧ Oth b w w' := by
  refine (Any.Builder_WriteString_k Tryd.lays166 Tryd.extraB B b (Lib.byteCells l) s w h (by rw [Lib.byteCells_length]; exact hlen) hBw).mono ?_
  rintro e w' ⟨he, hb, hbl, ho⟩
  refine ⟨he, .inr ?_, hbl, ho⟩
  rw [Lib.byteCells_append, ← Lib.strCells_eq]
  exact hb

theorem stringK (B b : Nat) (l : List UInt8) (w : World) (h : BldF B b l w) (hBw : B ≤ w.heap.size) :
    Calls Tryd.prog 30 #[.pointer (some ⟨b, 0, none⟩)] w fun e w' => e = .returned (.string (bs l)) ∧ Below B w w' := by
  refine (Any.Builder_String_any_k Tryd.lays169 Tryd.extraB B b l w h hBw).mono ?_
  rintro e w' ⟨he, _, hbl, _⟩
  exact ⟨he, hbl⟩

theorem bldF_below {B b : Nat} {l : List UInt8} {w w1 : World} (h : BldF B b l w) (hb : Below w.heap.size w w1) : BldF B b l w1 := by
  have one : ∀ p, Lib.BuilderAtF 51 5 B b p (Lib.byteCells l) w → Lib.BuilderAtF 51 5 B b p (Lib.byteCells l) w1 := by
    intro p h
    have hlt := h.lt
    obtain ⟨hB, v, hbk, hown, hne⟩ := h
    refine ⟨hB, v, (hb.block b hlt).trans hbk, ?_, hne⟩
    obtain ⟨hl, h⟩ := hown
    refine ⟨hl, ?_⟩
    rcases h with h | ⟨g, cap, cur, fz, h1, h2, h3, h4⟩
    · exact .inl h
    · refine .inr ⟨g, cap, cur, fz, h1, h2, ?_, h4⟩
      have hg : g < w.heap.size := by
        rcases Nat.lt_or_ge g w.heap.size with h | h
        · exact h
        · rw [Array.getElem?_eq_none h] at h3; cases h3
      rw [hb.block g hg]; exact h3
  rcases h with h | h
  · exact .inl (one _ h)
  · exact .inr (one _ h)
theorem bldF_new (w : World) : BldF w.heap.size w.heap.size [] (w.alloc (.cells #[.pointer none, .slice none 0 0] 51)) := Lib.IsBuilderF.of (bld_new w)
theorem bldF_alloc {B b : Nat} {l : List UInt8} {w : World} (h : BldF B b l w) (o : Obj) : BldF B b l (w.alloc o) := Lib.IsBuilderF.alloc h o
theorem bldF_iter {B b : Nat} {l : List UInt8} {w : World} (h : BldF B b l w) {k : Nat} {s : ByteArray} {pos : Nat} (hk : w.heap[k]? = some (.stringIter s pos)) (pos' : Nat) : BldF B b l (w.iterAt k s pos') := Lib.IsBuilderF.iterAt h hk pos'
theorem oth_iter {b : Nat} {w w' : World} (h : Oth b w w') {k : Nat} {s : ByteArray} {pos : Nat} (hk : w.heap[k]? = some (.stringIter s pos)) (hkb : k ≠ b) : w'.heap[k]? = some (.stringIter s pos) := Lib.OthersKept.iter h hk hkb
theorem iter_keeps {w w' : World} (h : Below w.heap.size w w') {k : Nat} {s : ByteArray} {pos : Nat} (hk : w.heap[k]? = some (.stringIter s pos)) : w'.heap[k]? = some (.stringIter s pos) := by
  have hlt : k < w.heap.size := by
    rcases Nat.lt_or_ge k w.heap.size with h | h
    · exact h
    · rw [Array.getElem?_eq_none h] at hk; cases hk
  rw [h.block k hlt]; exact hk
end Go.Proofs.YtakjlolmmoladabDoor

/-
  What 'refs.Escape' does: any text with references.
-/
namespace Go.Proofs.YtakjlolmmoladabDoor
open Go.RowKit
set_option linter.unusedVariables false

theorem cut_cut (l : List UInt8) (a b n : Nat) (h : a ≤ b) : (l.drop a).take (b - a) ++ (l.drop b).take n = (l.drop a).take (b + n - a) := by
  have e : l.drop b = (l.drop a).drop (b - a) := by rw [List.drop_drop]; congr 1; omega
  rw [e, show b + n - a = (b - a) + n by omega, List.take_add]
theorem bs_ne {l : List UInt8} (h : l ≠ []) : ¬ bs l = ByteArray.empty := by
  intro e; apply h; have := congrArg (fun x : ByteArray => x.data.toList) e; simpa [bs_toList] using this
theorem amp_bs : (⟨#[38]⟩ : ByteArray) = bs [38] := rfl
theorem semi_bs : (⟨#[59]⟩ : ByteArray) = bs [59] := rfl

set_option maxHeartbeats 4000000 in
theorem escape_any (s : ByteArray) (v : Bool) (w : World) (ht : Tabs w) (hs : s.size ≤ 100000) :
    Calls Tryd.prog 29 #[.string s, .bool v] w fun e w' => e = .returned (.string (bs (escL v s.data.toList))) ∧ Below w.heap.size w w' := by
  have HT := hide ht
  have hI0 : BldF w.heap.size w.heap.size [] ((w.alloc (.cells #[.pointer none, .slice none 0 0] 51)).iter s 0) := bldF_alloc (bldF_new w) _
  have hk0 : ((w.alloc (.cells #[.pointer none, .slice none 0 0] 51)).iter s 0).heap[w.heap.size + 1]? = some (.stringIter s 0) := by
    have h5 := World.iter_heap (w.alloc (.cells #[.pointer none, .slice none 0 0] 51)) s 0
    simpa using h5
  have hb0 : Below w.heap.size w ((w.alloc (.cells #[.pointer none, .slice none 0 0] 51)).iter s 0) := ((Below.refl _ w).alloc (Nat.le_refl _) _).alloc (by simp) _
  clear ht
  go_enter Tryd.func29, Tryd.ntmps29
  go_wp2
  go_loopw [6] (fun i wr => ∃ (frm pos : Nat) (acc : List UInt8), frm ≤ pos ∧ pos ≤ s.size ∧ i = .int .i64 (frm : Int) ∧ acc.length ≤ 6 * frm ∧ escL v s.data.toList = acc ++ ((s.data.toList.drop frm).take (pos - frm) ++ escL v (s.data.toList.drop pos)) ∧ wr.heap[w.heap.size + 1]? = some (.stringIter s pos) ∧ BldF w.heap.size w.heap.size acc wr ∧ Below w.heap.size w wr) (fun _ wr => s.size - wr.iterPos (w.heap.size + 1))
  case atStart => exact ⟨0, 0, [], Nat.le_refl _, Nat.zero_le _, rfl, by simp, by simp, hk0, hI0, hb0⟩
  case round =>
    obtain ⟨frm, pos, acc, hfp, hps, rfl, hal, hr, hk, hB, hbw⟩ := hrel
    have HR := hide hr
    have hzw := hbw.size
    clear hr hI0 hk0 hb0
    have hmu : wr.iterPos (w.heap.size + 1) = pos := by simp [World.iterPos, hk]
    have HMU := hide hmu
    clear hmu
    by_cases hp : pos < s.size
    · have hat := esc_at v s pos hp
      have hnx := fun ty => Lib.run_next_any_at (P := Tryd.prog) wr (w.heap.size + 1) s pos ty hk hp
      have hB1 := bldF_iter hB hk (pos + (Utf8.decode s pos).2)
      have hk1 := Lib.iterAt_heap wr (w.heap.size + 1) s pos (pos + (Utf8.decode s pos).2) hk
      have hb1 : Below w.heap.size w (wr.iterAt (w.heap.size + 1) s (pos + (Utf8.decode s pos).2)) := Lib.below_iterAt hbw (by omega) s _
      have CN := hide (fun w => nameFor_any ((Utf8.decode s pos).1 : Int) v w)
      have CB := hide (fun w h hc => bytesC ((Utf8.decode s pos).1 : Int) w h hc)
      have hdl := decode_le s pos
      generalize wr.iterAt (w.heap.size + 1) s (pos + (Utf8.decode s pos).2) = w1 at *
      generalize (Utf8.decode s pos).1 = c at *
      generalize (Utf8.decode s pos).2 = n at *
      generalize forN (c : Int) v = nm at *
      have hz1 := hb1.size
      have hcu := cut_cut s.data.toList frm pos n hfp
      have HCU := hide hcu
      clear hcu
      rcases hat with ⟨hnm, hn1, hn2, he⟩ | ⟨hnm, hn4, hc, hul, hn1, hn2, he⟩
      · subst hnm
        have hem : (bs []).toList.isEmpty = true := is_empty _ rfl
        have HE := hide he
        clear he CB
        go_wp2_with fail
        refine (unhide CN _).mono ?_
        rintro e1 w2 ⟨rfl, rfl⟩
        go_wp2
        go_roundw
        case rel => exact ⟨frm, pos + n, acc, by omega, by omega, rfl, hal, by rw [unhide HR, unhide HE, ← List.append_assoc ((s.data.toList.drop frm).take _), unhide HCU], hk1, hB1, hb1⟩
        case measure =>
          rw [unhide HMU]
          simp [World.iterPos, hk1]; omega
      · have hem : (bs nm).toList.isEmpty = false := not_empty _ (by rw [bs_size]; exact List.length_pos_iff.2 hnm)
        have hns : (bs nm).size ≤ 4 := by rw [bs_size]; exact hn4
        have hcb := cut_ex s frm pos
        have hcz : (s.extract frm pos).size = pos - frm := by simp; omega
        have hx : (s.extract frm pos ++ ⟨#[38]⟩ ++ bs nm ++ ⟨#[59]⟩ : ByteArray).data.toList = (s.data.toList.drop frm).take (pos - frm) ++ ([38] ++ nm ++ [59]) := by
          rw [hcb, amp_bs, semi_bs, bs_bs, bs_bs, bs_bs, bs_toList]; simp
        have hxz : (s.extract frm pos ++ ⟨#[38]⟩ ++ bs nm ++ ⟨#[59]⟩ : ByteArray).size ≤ pos - frm + 6 := by
          rw [ByteArray.size_append, ByteArray.size_append, ByteArray.size_append, hcz]
          show _ + 1 + _ + 1 ≤ _
          omega
        have HX := hide hx
        have HXZ := hide hxz
        have HE := hide he
        have HC := hide (fun w h => unhide CB w h hc)
        have hus : (bs (ub (c : Int))).size = n := by rw [bs_size]; exact hul
        clear he hx hxz hcb CB hul
        go_wp2_with fail
        refine (unhide CN _).mono ?_
        rintro e1 w2 ⟨rfl, rfl⟩
        go_wp2_with fail
        refine (writeStringK _ _ _ _ _ hB1 (by have := unhide HXZ; omega) (by omega)).mono ?_
        rintro e1 w3 ⟨rfl, hB3, hb3, ho3⟩
        rw [unhide HX] at hB3
        have hk3 := oth_iter ho3 hk1 (by omega)
        have hb13 := hb1.trans hb3
        have hz3 := hb13.size
        go_wp2_with fail
        refine (unhide HC _ ((unhide HT).below hb13)).mono ?_
        rintro e1 w4 ⟨rfl, hb4⟩
        have hB4 := bldF_below hB3 hb4
        have hk4 := iter_keeps hb4 hk3
        go_wp2
        go_roundw
        case rel => exact ⟨pos + n, pos + n, _, Nat.le_refl _, by omega, by first | rfl | go_num, by simp; omega, by rw [unhide HR, unhide HE]; simp, hk4, hB4, hb13.trans (hb4.mono hz3)⟩
        case measure =>
          rw [unhide HMU]
          simp [World.iterPos, hk4]; omega
    · have hnx := fun ty => Lib.run_next_end_at (P := Tryd.prog) wr (w.heap.size + 1) s pos ty hk hp
      have hf : escL v s.data.toList = acc ++ (s.extract frm s.size).data.toList := by
        have hdn : s.data.toList.drop pos = [] := List.drop_eq_nil_of_le (by rw [data_len]; omega)
        rw [unhide HR, cut_ex, bs_toList, hdn]
        have : escL v [] = [] := by simp [escL, escS]
        rw [this, List.append_nil, show pos - frm = s.size - frm by omega]
      have hxz : (s.extract frm s.size).size ≤ s.size := by simp
      have HF := hide hf
      clear hf
      go_wp2_with fail
      refine (writeStringK _ _ _ _ _ hB (by omega) (by omega)).mono ?_
      rintro e1 w3 ⟨rfl, hB3, hb3, ho3⟩
      have hb13 := hbw.trans hb3
      have hz3 := hb13.size
      rw [← unhide HF] at hB3
      go_wp2_with fail
      refine (stringK _ _ _ _ hB3 (by omega)).mono ?_
      rintro e1 w4 ⟨rfl, hb4⟩
      go_wp2
      go_ret
      exact ⟨rfl, hb13.trans hb4⟩
end Go.Proofs.YtakjlolmmoladabDoor

namespace Go.Proofs.YtakjlolmmoladabDoor
open Go.RowKit
set_option linter.unusedVariables false

/-- What is told: a text, or that its form is wrong. -/
def toldV (b : Bool) (x : ByteArray) : Value := .tuple #[.string (if b = true then x else ⟨#[]⟩), .int .i64 (if b = true then 0 else 4)]
def closeL (l : List UInt8) : List UInt8 := [60, 47] ++ (l ++ [62])
theorem close_bs (s : ByteArray) : (⟨#[60, 47]⟩ : ByteArray) ++ s ++ ⟨#[62]⟩ = bs (closeL s.data.toList) := by
  have h1 : (⟨#[60, 47]⟩ : ByteArray) = bs [60, 47] := rfl
  have h2 : (⟨#[62]⟩ : ByteArray) = bs [62] := rfl
  rw [h1, h2, bs_add, bs_bs]; unfold closeL; simp

set_option maxHeartbeats 1000000 in
theorem pclose_any (s : ByteArray) (w : World) (hs : s.size ≤ 100000) :
    Calls Tryd.prog 12 #[.string s] w fun e w' => e = .returned (toldV (nameB s.data.toList) (bs (closeL s.data.toList))) ∧ Below w.heap.size w w' := by
  have C := hide (fun w => pname_any s w (by omega))
  have hcl := close_bs s
  generalize bs (closeL s.data.toList) = y at *
  unfold toldV
  cases hb : nameB s.data.toList with
  | true =>
    rw [hb] at C
    rw [if_pos rfl, if_pos rfl]
    clear hb
    go_enter Tryd.func12, Tryd.ntmps12
    go_wp2_with fail
    refine (unhide C _).mono ?_
    rintro e w1 ⟨rfl, hb1⟩
    go_wp2
    go_ret2
    exact ⟨rfl, hb1⟩
  | false =>
    rw [hb] at C
    rw [if_neg (by decide), if_neg (by decide)]
    clear hb
    go_enter Tryd.func12, Tryd.ntmps12
    go_wp2_with fail
    refine (unhide C _).mono ?_
    rintro e w1 ⟨rfl, hb1⟩
    go_wp2
    go_ret2
    exact ⟨rfl, hb1⟩
set_option maxHeartbeats 1000000 in
theorem rclose6_any (s : ByteArray) (w : World) (hs : s.size ≤ 100000) :
    Calls Tryd.prog 13 #[.string s] w fun e w' => e = .returned (toldV (nameB s.data.toList) (bs (closeL s.data.toList))) ∧ w' = w := by
  have C := hide (fun w => rname6_any s w (by omega))
  have hcl := close_bs s
  generalize bs (closeL s.data.toList) = y at *
  unfold toldV
  cases hb : nameB s.data.toList with
  | true =>
    rw [hb] at C
    rw [if_pos rfl, if_pos rfl]
    clear hb
    go_enter Tryd.func13, Tryd.ntmps13
    go_wp2_with fail
    refine (unhide C _).mono ?_
    rintro e w1 ⟨rfl, rfl⟩
    go_wp2
    go_ret2
    exact ⟨rfl, rfl⟩
  | false =>
    rw [hb] at C
    rw [if_neg (by decide), if_neg (by decide)]
    clear hb
    go_enter Tryd.func13, Tryd.ntmps13
    go_wp2_with fail
    refine (unhide C _).mono ?_
    rintro e w1 ⟨rfl, rfl⟩
    go_wp2
    go_ret2
    exact ⟨rfl, rfl⟩

def charsB (l : List UInt8) : Bool := decide (l ≠ []) && goodB l
theorem charsB_no {l : List UInt8} (h : l = []) : charsB l = false := by subst h; rfl
theorem charsB_ok {l : List UInt8} (h : l ≠ []) : charsB l = goodB l := by unfold charsB; rw [decide_eq_true h]; rfl
theorem ne_size {s : ByteArray} (h : 0 < s.size) : s.data.toList ≠ [] := by
  intro e; have := congrArg List.length e; rw [data_len] at this; simp only [List.length_nil] at this; omega
theorem nil_size {s : ByteArray} (h : s.size = 0) : s.data.toList = [] := List.eq_nil_of_length_eq_zero (by rw [data_len]; exact h)

set_option maxHeartbeats 1000000 in
theorem pchars_any (s : ByteArray) (w : World) (ht : Tabs w) (hs : s.size ≤ 100000) :
    Calls Tryd.prog 18 #[.string s] w fun e w' => e = .returned (toldV (charsB s.data.toList) (bs (escL false s.data.toList))) ∧ Below w.heap.size w w' := by
  have HT := hide ht
  have C := hide (fun w h => pgood_any s w h (by omega))
  have CE := hide (fun w h => escape_any s false w h hs)
  generalize bs (escL false s.data.toList) = y at *
  unfold toldV
  clear ht
  by_cases h0 : s.size = 0
  · have he := is_empty s h0
    rw [charsB_no (nil_size h0), if_neg (by decide), if_neg (by decide)]
    go_enter Tryd.func18, Tryd.ntmps18
    go_wp2
    go_ret2
    exact ⟨rfl, Below.refl _ _⟩
  have he := not_empty s (by omega)
  rw [charsB_ok (ne_size (by omega))]
  clear h0
  cases hb : goodB s.data.toList with
  | true =>
    rw [hb] at C
    rw [if_pos rfl, if_pos rfl]
    clear hb
    go_enter Tryd.func18, Tryd.ntmps18
    go_wp2_with fail
    refine (unhide C _ (unhide HT)).mono ?_
    rintro e w1 ⟨rfl, hb1⟩
    go_wp2_with fail
    refine (unhide CE _ ((unhide HT).below hb1)).mono ?_
    rintro e w2 ⟨rfl, hb2⟩
    go_wp2
    go_ret2
    exact ⟨rfl, tr2 hb1 hb2⟩
  | false =>
    rw [hb] at C
    rw [if_neg (by decide), if_neg (by decide)]
    clear hb
    go_enter Tryd.func18, Tryd.ntmps18
    go_wp2_with fail
    refine (unhide C _ (unhide HT)).mono ?_
    rintro e w1 ⟨rfl, hb1⟩
    go_wp2
    go_ret2
    exact ⟨rfl, hb1⟩
set_option maxHeartbeats 1000000 in
theorem rchars6_any (s : ByteArray) (w : World) (hs : s.size ≤ 100000) :
    Calls Tryd.prog 19 #[.string s] w fun e w' => e = .returned (toldV (charsB s.data.toList) (bs (escL false s.data.toList))) ∧ Below w.heap.size w w' := by
  have C := hide (fun w => rgood6_any s w hs)
  have CE := hide (fun w => rescape_any s false w hs)
  generalize bs (escL false s.data.toList) = y at *
  unfold toldV
  by_cases h0 : s.size = 0
  · have he := is_empty s h0
    rw [charsB_no (nil_size h0), if_neg (by decide), if_neg (by decide)]
    go_enter Tryd.func19, Tryd.ntmps19
    go_wp2
    go_ret2
    exact ⟨rfl, Below.refl _ _⟩
  have he := not_empty s (by omega)
  rw [charsB_ok (ne_size (by omega))]
  clear h0
  cases hb : goodB s.data.toList with
  | true =>
    rw [hb] at C
    rw [if_pos rfl, if_pos rfl]
    clear hb
    go_enter Tryd.func19, Tryd.ntmps19
    go_wp2_with fail
    refine (unhide C _).mono ?_
    rintro e w1 ⟨rfl, hb1⟩
    go_wp2_with fail
    refine (unhide CE _).mono ?_
    rintro e w2 ⟨rfl, rfl⟩
    go_wp2
    go_ret2
    exact ⟨rfl, hb1⟩
  | false =>
    rw [hb] at C
    rw [if_neg (by decide), if_neg (by decide)]
    clear hb
    go_enter Tryd.func19, Tryd.ntmps19
    go_wp2_with fail
    refine (unhide C _).mono ?_
    rintro e w1 ⟨rfl, hb1⟩
    go_wp2
    go_ret2
    exact ⟨rfl, hb1⟩
end Go.Proofs.YtakjlolmmoladabDoor
