/-
  Several texts in one: what the functions of the program and of the document's answer do.
-/
import Derived.Test.YtbabmkilbbbmoaaDoorUPl
import Derived.Laws.EntriesVeiled
import Derived.Test.YtbabmkilbbbmoaaDoorMgAA
import Derived.Shelf.Small.Wraps
import Derived.Shelf.Strings.Prefix

/-
  Kinds of bytes, and what 'chars' and its reference make of texts, as plain functions of lists of bytes.
-/
namespace Go.Proofs.YtbabmkilbbbmoaaDoor
open Go.RowKit
set_option linter.unusedVariables false
set_option linter.unusedSimpArgs false

def spN (b : Nat) : Bool := decide (b = 9 ∨ b = 10 ∨ b = 12 ∨ b = 32)
def upN (b : Nat) : Bool := decide (65 ≤ b ∧ b ≤ 90)
def ltN (b : Nat) : Bool := decide ((65 ≤ b ∧ b ≤ 90) ∨ (97 ≤ b ∧ b ≤ 122))
def dgN (b : Nat) : Bool := decide (48 ≤ b ∧ b ≤ 57)
theorem spN_yes {b : Nat} (h : b = 9 ∨ b = 10 ∨ b = 12 ∨ b = 32) : spN b = true := by simpa [spN] using h
theorem spN_no {b : Nat} (h : ¬ (b = 9 ∨ b = 10 ∨ b = 12 ∨ b = 32)) : spN b = false := by simpa [spN] using h
theorem spN_true {b : Nat} (h : spN b = true) : b = 9 ∨ b = 10 ∨ b = 12 ∨ b = 32 := by simpa [spN] using h
theorem spN_false {b : Nat} (h : spN b = false) : ¬ (b = 9 ∨ b = 10 ∨ b = 12 ∨ b = 32) := by simpa [spN] using h
theorem upN_yes {b : Nat} (h : 65 ≤ b ∧ b ≤ 90) : upN b = true := by simpa [upN] using h
theorem upN_no {b : Nat} (h : ¬ (65 ≤ b ∧ b ≤ 90)) : upN b = false := by simpa [upN] using h
theorem upN_true {b : Nat} (h : upN b = true) : 65 ≤ b ∧ b ≤ 90 := by simpa [upN] using h
theorem upN_false {b : Nat} (h : upN b = false) : ¬ (65 ≤ b ∧ b ≤ 90) := by simpa [upN] using h
theorem ltN_yes {b : Nat} (h : (65 ≤ b ∧ b ≤ 90) ∨ (97 ≤ b ∧ b ≤ 122)) : ltN b = true := by simpa [ltN] using h
theorem ltN_no {b : Nat} (h : ¬ ((65 ≤ b ∧ b ≤ 90) ∨ (97 ≤ b ∧ b ≤ 122))) : ltN b = false := by simpa [ltN] using h
theorem ltN_true {b : Nat} (h : ltN b = true) : (65 ≤ b ∧ b ≤ 90) ∨ (97 ≤ b ∧ b ≤ 122) := by simpa [ltN] using h
theorem ltN_false {b : Nat} (h : ltN b = false) : ¬ ((65 ≤ b ∧ b ≤ 90) ∨ (97 ≤ b ∧ b ≤ 122)) := by simpa [ltN] using h
theorem dgN_yes {b : Nat} (h : 48 ≤ b ∧ b ≤ 57) : dgN b = true := by simpa [dgN] using h
theorem dgN_no {b : Nat} (h : ¬ (48 ≤ b ∧ b ≤ 57)) : dgN b = false := by simpa [dgN] using h

/-- The byte at a place, and what is behind it. -/
theorem drop_at (l : List UInt8) (k : Nat) (h : k < l.length) : ∃ c, l.drop k = c :: l.drop (k + 1) ∧ c.toNat = dgt l k := by
  refine ⟨l[k], List.drop_eq_getElem_cons h, ?_⟩
  unfold dgt
  rw [List.getD, List.getElem?_eq_getElem h]; rfl

/-! ### blank -/
def sp (c : UInt8) : Bool := spN c.toNat
def blankL (l : List UInt8) : Bool := l.all sp
theorem blankL_nil : blankL [] = true := rfl
theorem blankL_cons (c : UInt8) (l : List UInt8) : blankL (c :: l) = (sp c && blankL l) := rfl

/-! ### the small form -/
def lowB (c : UInt8) : UInt8 := if upN c.toNat = true then c + 32 else c
def lowL (l : List UInt8) : List UInt8 := l.map lowB
theorem lowL_len (l : List UInt8) : (lowL l).length = l.length := by simp [lowL]
theorem u8add (c : UInt8) (h : c.toNat ≤ 200) : (c + 32).toNat = c.toNat + 32 := by
  rw [UInt8.toNat_add]
  have : (32 : UInt8).toNat = 32 := rfl
  omega
theorem lowB_nat (c : UInt8) : (lowB c).toNat = if upN c.toNat = true then c.toNat + 32 else c.toNat := by
  unfold lowB
  split
  · rename_i h; have := upN_true h; rw [u8add c (by omega)]
  · rfl
theorem lowB_low (c : UInt8) : lowB (lowB c) = lowB c := by
  apply UInt8.toNat.inj
  rw [lowB_nat, lowB_nat]
  cases h : upN c.toNat with
  | true =>
    have := upN_true h
    have h2 : upN (c.toNat + 32) = false := upN_no (by omega)
    simp [h2]
  | false => simp [h]
theorem lowL_low (l : List UInt8) : lowL (lowL l) = lowL l := by
  unfold lowL
  rw [List.map_map]
  apply List.map_congr_left
  intro c _
  exact lowB_low c

/-! ### without spaces at the ends -/
def ltrim (l : List UInt8) : List UInt8 := l.dropWhile sp
def rtrim (l : List UInt8) : List UInt8 := (l.reverse.dropWhile sp).reverse
def trimL (l : List UInt8) : List UInt8 := rtrim (ltrim l)
theorem ltrim_nil : ltrim [] = [] := rfl
theorem ltrim_sp {c : UInt8} {l : List UInt8} (h : sp c = true) : ltrim (c :: l) = ltrim l := by simp [ltrim, List.dropWhile_cons, h]
theorem ltrim_no {c : UInt8} {l : List UInt8} (h : sp c = false) : ltrim (c :: l) = c :: l := by simp [ltrim, List.dropWhile_cons, h]
theorem rtrim_nil : rtrim [] = [] := rfl
theorem rtrim_sp {c : UInt8} {l : List UInt8} (h : sp c = true) : rtrim (l ++ [c]) = rtrim l := by simp [rtrim, List.dropWhile_cons, h]
theorem rtrim_no {c : UInt8} {l : List UInt8} (h : sp c = false) : rtrim (l ++ [c]) = l ++ [c] := by simp [rtrim, List.dropWhile_cons, h]

/-! ### words -/
def wordsG : List UInt8 → List UInt8 → List (List UInt8)
  | cur, [] => if cur = [] then [] else [cur]
  | cur, c :: l => if sp c = true then (if cur = [] then wordsG [] l else cur :: wordsG [] l) else wordsG (cur ++ [c]) l
def wordsL (l : List UInt8) : List (List UInt8) := wordsG [] l
theorem wordsG_sp0 {c : UInt8} {l : List UInt8} (h : sp c = true) : wordsG [] (c :: l) = wordsG [] l := by simp [wordsG, h]
theorem wordsG_sp1 {c : UInt8} {cur l : List UInt8} (h : sp c = true) (hc : cur ≠ []) : wordsG cur (c :: l) = cur :: wordsG [] l := by simp [wordsG, h, hc]
theorem wordsG_no {c : UInt8} {cur l : List UInt8} (h : sp c = false) : wordsG cur (c :: l) = wordsG (cur ++ [c]) l := by simp [wordsG, h]
theorem wordsG_nil0 : wordsG [] [] = [] := rfl
theorem wordsG_nil1 {cur : List UInt8} (hc : cur ≠ []) : wordsG cur [] = [cur] := by simp [wordsG, hc]
def nsp (c : UInt8) : Bool := !sp c
theorem wordsG_run : ∀ (l cur : List UInt8), cur ++ l.takeWhile nsp ≠ [] → wordsG cur l = (cur ++ l.takeWhile nsp) :: wordsG [] (l.dropWhile nsp)
  | [], cur, h => by
    simp at h
    rw [wordsG_nil1 h]; simp [wordsG]
  | c :: l, cur, h => by
    cases hs : sp c with
    | true =>
      have hn : nsp c = false := by simp [nsp, hs]
      rw [List.takeWhile_cons, hn] at h
      simp at h
      rw [wordsG_sp1 hs h, List.takeWhile_cons, List.dropWhile_cons, hn]
      simp [wordsG_sp0 hs]
    | false =>
      have hn : nsp c = true := by simp [nsp, hs]
      rw [wordsG_no hs, wordsG_run l (cur ++ [c]) (by simp), List.takeWhile_cons, List.dropWhile_cons, hn]
      simp

/-! ### what comes in, made ready -/
def rdP : Bool → List UInt8 → List UInt8
  | _, [] => []
  | p, c :: l => if c.toNat = 13 then 10 :: rdP true l else if c.toNat = 10 ∧ p = true then rdP false l else if c.toNat = 0 then ub 65533 ++ rdP false l else c :: rdP false l
def hd10 : List UInt8 → Bool
  | [] => false
  | c :: _ => decide (c.toNat = 10)
def rdR : List UInt8 → List UInt8
  | [] => []
  | c :: l => if c.toNat = 0 then ub 65533 ++ rdR l else if ¬ c.toNat = 13 then c :: rdR l else if hd10 l = true then rdR l else 10 :: rdR l
theorem rd_tail : ∀ (l : List UInt8), rdP false l = rdR l ∧ 10 :: rdP true l = (if hd10 l = true then rdR l else 10 :: rdR l)
  | [] => ⟨rfl, rfl⟩
  | c :: l => by
    obtain ⟨h1, h2⟩ := rd_tail l
    constructor
    · by_cases e13 : c.toNat = 13
      · rw [rdP, if_pos e13, rdR, if_neg (by omega), if_neg (by omega), h2]
      · rw [rdP, if_neg e13, if_neg (by simp), rdR]
        by_cases e0 : c.toNat = 0
        · rw [if_pos e0, if_pos e0, h1]
        · rw [if_neg e0, if_neg e0, if_pos e13, h1]
    · by_cases e13 : c.toNat = 13
      · have : hd10 (c :: l) = false := by simp [hd10]; omega
        rw [rdP, if_pos e13, this, if_neg (by decide), rdR, if_neg (by omega), if_neg (by omega), h2]
      · by_cases e10 : c.toNat = 10
        · have : hd10 (c :: l) = true := by simp [hd10]; omega
          rw [rdP, if_neg e13, if_pos ⟨e10, rfl⟩, this, if_pos rfl, rdR, if_neg (by omega), if_pos e13, h1]
          have : c = 10 := by apply UInt8.toNat.inj; rw [e10]; rfl
          rw [this]
        · have : hd10 (c :: l) = false := by simp [hd10]; omega
          by_cases e0 : c.toNat = 0
          · simp [rdP, rdR, this, e0, h1]
          · simp [rdP, rdR, this, e0, e13, e10, h1]
theorem rd_same (l : List UInt8) : rdP false l = rdR l := (rd_tail l).1
def readyL (l : List UInt8) : List UInt8 := cleanL (rdR l)
end Go.Proofs.YtbabmkilbbbmoaaDoor

/-
  What 'chars.Space', 'Letter', 'Digit' and the reference's do: of every byte, whether it is one.
-/
namespace Go.Proofs.YtbabmkilbbbmoaaDoor
open Go.RowKit
set_option linter.unusedVariables false

theorem bneI {b : Nat} {k : Int} (h : ¬ (b : Int) = k) : ((b : Int) == k) = false := beq_eq_false_iff_ne.2 h

def ByteIs (f : Nat) (t : Nat → Bool) : Prop := ∀ (b : Nat) (w : World), Calls Tryd.prog f #[.int .u8 (b : Int)] w fun e w' => e = .returned (.bool (t b)) ∧ w' = w

end Go.Proofs.YtbabmkilbbbmoaaDoor

/-
  What 'chars.Space' and the reference's do: of each byte, whether it is a space.
-/
namespace Go.Proofs.YtbabmkilbbbmoaaDoor
open Go.RowKit
set_option linter.unusedVariables false

end Go.Proofs.YtbabmkilbbbmoaaDoor

/-
  What pen and its reference make of texts, as plain functions of lists of bytes.
-/
namespace Go.Proofs.YtbabmkilbbbmoaaDoor
open Go.RowKit
set_option linter.unusedVariables false

def smN (b : Nat) : Bool := decide (97 ≤ b ∧ b ≤ 122)
def okN (b : Nat) : Bool := smN b || (dgN b || (decide (b = 45) || decide (b = 58)))
def moreN (b : Nat) : Bool := decide ((48 ≤ b ∧ b ≤ 58) ∨ b = 45)
theorem ok_more (b : Nat) : okN b = (smN b || moreN b) := by
  unfold okN dgN moreN
  cases smN b with
  | true => rfl
  | false =>
    simp only [Bool.false_or]
    by_cases h : (48 ≤ b ∧ b ≤ 58) ∨ b = 45
    · rw [decide_eq_true h]
      by_cases h1 : 48 ≤ b ∧ b ≤ 57
      · simp [h1]
      · by_cases h2 : b = 45
        · simp [h2]
        · have : b = 58 := by omega
          simp [this]
    · rw [decide_eq_false h, decide_eq_false (by omega), decide_eq_false (by omega), decide_eq_false (by omega)]; rfl
def gdN (b : Nat) : Bool := decide (b ≠ 0 ∧ b ≠ 13)
def allN (p : Nat → Bool) (l : List UInt8) : Bool := l.all fun c => p c.toNat
theorem allN_nil (p : Nat → Bool) : allN p [] = true := rfl
theorem allN_step (p : Nat → Bool) {l : List UInt8} {k : Nat} (h : k < l.length) : allN p (l.drop k) = (p (dgt l k) && allN p (l.drop (k + 1))) := by
  obtain ⟨c, hc, hn⟩ := drop_at l k h
  rw [hc, ← hn]; rfl
theorem allN_end (p : Nat → Bool) {l : List UInt8} {k : Nat} (h : l.length ≤ k) : allN p (l.drop k) = true := by
  rw [List.drop_eq_nil_of_le h]; rfl
def nameB (l : List UInt8) : Bool := decide (0 < l.length ∧ l.length ≤ 24) && (smN (dgt l 0) && allN okN l)
def goodB (l : List UInt8) : Bool := rightB l && allN gdN l
theorem smN_yes {b : Nat} (h : 97 ≤ b ∧ b ≤ 122) : smN b = true := decide_eq_true h
theorem smN_no {b : Nat} (h : ¬ (97 ≤ b ∧ b ≤ 122)) : smN b = false := decide_eq_false h

end Go.Proofs.YtbabmkilbbbmoaaDoor

/-
  The two tables of package utf, and what 'utf.isCharacter' and 'utf.size' do.
-/
namespace Go.Proofs.YtbabmkilbbbmoaaDoor
open Go.RowKit
set_option linter.unusedVariables false

end Go.Proofs.YtbabmkilbbbmoaaDoor

/-
  What 'utf.First' does: of every text its first character and how many bytes it has, as the plain function says it.
-/
namespace Go.Proofs.YtbabmkilbbbmoaaDoor
open Go.RowKit
set_option linter.unusedVariables false

def tld (b : Nat) : Nat := if 240 ≤ b then 4 else if 224 ≤ b then 3 else if 192 ≤ b then 2 else 1

/-- The answer where no character begins. -/
def bad : Value := .tuple #[.int .i64 65533, .int .i64 1]

def firstV (l : List UInt8) : Value := .tuple #[.int .i64 (step l).1, .int .i64 ((step l).2.1 : Int)]
theorem firstV_none {l : List UInt8} (h : dec l = none) : firstV l = bad := by simp only [firstV, step, h]; rfl
theorem firstV_some {l : List UInt8} {c : Int} {n : Nat} (h : dec l = some (c, n)) : firstV l = .tuple #[.int .i64 c, .int .i64 (n : Int)] := by simp only [firstV, step, h]

end Go.Proofs.YtbabmkilbbbmoaaDoor

/-
  What 'utf.isWrong' and 'utf.Right' do.
-/
namespace Go.Proofs.YtbabmkilbbbmoaaDoor
open Go.RowKit
set_option linter.unusedVariables false

end Go.Proofs.YtbabmkilbbbmoaaDoor

/-
  What 'rectoref02.Is' and 'rectoref02.Bytes' do.
-/
namespace Go.Proofs.YtbabmkilbbbmoaaDoor
open Go.RowKit
set_option linter.unusedVariables false

end Go.Proofs.YtbabmkilbbbmoaaDoor

/-
  What 'rectoref02.low' does.
-/
namespace Go.Proofs.YtbabmkilbbbmoaaDoor
open Go.RowKit
set_option linter.unusedVariables false

def lowI (l : List UInt8) (i : Nat) : Int := if tl l i = true then lo l i else -1
theorem lowI_yes {l : List UInt8} {i : Nat} (h : tl l i = true) : lowI l i = lo l i := if_pos h
theorem lowI_no {l : List UInt8} {i : Nat} (h : ¬ tl l i = true) : lowI l i = -1 := if_neg h
theorem lo_bd {l : List UInt8} {i : Nat} (h : tl l i = true) : 0 ≤ lo l i ∧ lo l i ≤ 63 := by
  have := (tl_iff _ _).1 h
  unfold lo; omega

def got (c n : Int) (b : Bool) : Value := .agg #[.int .i64 c, .int .i64 n, .bool b]
end Go.Proofs.YtbabmkilbbbmoaaDoor

/-
  What 'rectoref02.At' does where the bytes tell a number of one bytes.
-/
namespace Go.Proofs.YtbabmkilbbbmoaaDoor
open Go.RowKit
set_option linter.unusedVariables false

end Go.Proofs.YtbabmkilbbbmoaaDoor

/-
  What 'rectoref02.At' does where the bytes tell a number of two bytes.
-/
namespace Go.Proofs.YtbabmkilbbbmoaaDoor
open Go.RowKit
set_option linter.unusedVariables false

end Go.Proofs.YtbabmkilbbbmoaaDoor

/-
  What 'rectoref02.At' does where the bytes tell a number of three bytes.
-/
namespace Go.Proofs.YtbabmkilbbbmoaaDoor
open Go.RowKit
set_option linter.unusedVariables false

end Go.Proofs.YtbabmkilbbbmoaaDoor

/-
  What 'rectoref02.At' does where the bytes tell a number of four bytes.
-/
namespace Go.Proofs.YtbabmkilbbbmoaaDoor
open Go.RowKit
set_option linter.unusedVariables false

end Go.Proofs.YtbabmkilbbbmoaaDoor

/-
  What 'rectoref02.At' does where the bytes tell no number.
-/
namespace Go.Proofs.YtbabmkilbbbmoaaDoor
open Go.RowKit
set_option linter.unusedVariables false

end Go.Proofs.YtbabmkilbbbmoaaDoor

/-
  What 'rectoref02.At' does where the bytes tell no number.
-/
namespace Go.Proofs.YtbabmkilbbbmoaaDoor
open Go.RowKit
set_option linter.unusedVariables false

end Go.Proofs.YtbabmkilbbbmoaaDoor

/-
  What 'rectoref02.At' does, told by the plain function.
-/
namespace Go.Proofs.YtbabmkilbbbmoaaDoor
open Go.RowKit
set_option linter.unusedVariables false

def gotStep (l : List UInt8) : Value := got (step l).1 ((step l).2.1 : Int) (step l).2.2
theorem gotStep_none {l : List UInt8} (h : dec l = none) : gotStep l = got 65533 1 false := by simp only [gotStep, step, h]; rfl
theorem gotStep_some {l : List UInt8} {c : Int} {n : Nat} (h : dec l = some (c, n)) : gotStep l = got c n true := by simp only [gotStep, step, h]

theorem tl_drop (l : List UInt8) (i k : Nat) (h : i ≤ l.length) : (tl (l.drop i) k = true) ↔ (tl l (i + k) = true) := by
  rw [tl_iff, tl_iff, dgt_drop, List.length_drop]
  omega
theorem lo_drop (l : List UInt8) (i k : Nat) : lo (l.drop i) k = lo l (i + k) := by unfold lo; rw [dgt_drop]
end Go.Proofs.YtbabmkilbbbmoaaDoor

/-
  What 'rectoref02.Of' does: of every text that isn't too long all its characters, and whether it is right.
-/
namespace Go.Proofs.YtbabmkilbbbmoaaDoor
open Go.RowKit
set_option linter.unusedVariables false

theorem Tryd.infoInt : (Tryd.prog.info? 3).map (fun i => (i.zero, i.size, i.bytes)) = some (some (.int .i64 0), 1, 8) := by kernel_rfl

def OfPost (w : World) (l : List UInt8) (e : Ending) (w' : World) : Prop :=
  ∃ v, e = .returned (.agg #[v, .bool (rightB l)]) ∧ w'.ownsRow w.heap.size 3 1 v (ch l).length (((ch l).map (·.1)).map (Value.int .i64)) ∧ Below w.heap.size w w'

/-- A slice value that shows these numbers in a world. -/
def IView (w : World) (v : Value) (cs : List Int) : Prop :=
  ∃ a cap, v = .slice a cs.length cap ∧ (0 < cs.length → ∃ b off, a = some ⟨b, off, none⟩ ∧ ∀ i, i < cs.length → w.cell? ⟨b, off + i, none⟩ = some (.int .i64 (cs.getD i 0)))
theorem iview_of_owns {w : World} {base : Nat} {v : Value} {cs : List Int} {n : Nat} (hn : cs.length = n) (h : w.ownsRow base 3 1 v n (cs.map (Value.int .i64))) : IView w v cs := by
  subst hn
  obtain ⟨_, h⟩ := h
  rcases h with ⟨rfl, h0⟩ | ⟨g, cap, cur, rfl, h1, h2, h3, h4, h5, h6⟩
  · exact ⟨none, 0, by rw [h0], fun h => by omega⟩
  · refine ⟨some ⟨g, 0, none⟩, cap, rfl, fun _ => ⟨g, 0, rfl, fun i hi => ?_⟩⟩
    rw [Joins.cell_of_block h2]
    have e : cur.toList[i]? = some (.int .i64 (cs.getD i 0)) := by
      have : (cur.toList.take (cs.length * 1))[i]? = some (.int .i64 (cs.getD i 0)) := by
        rw [h6, List.getElem?_map, List.getD, List.getElem?_eq_getElem hi]; rfl
      rw [List.getElem?_take] at this
      rw [if_pos (by omega)] at this
      exact this
    simpa using e
theorem IView.below {w w1 : World} {v : Value} {cs : List Int} (h : IView w v cs) (hb : Below w.heap.size w w1) : IView w1 v cs := by
  obtain ⟨a, cap, rfl, hx⟩ := h
  refine ⟨a, cap, rfl, fun h0 => ?_⟩
  obtain ⟨b, off, rfl, hc⟩ := hx h0
  exact ⟨b, off, rfl, fun i hi => cell_later hb (hc i hi)⟩

end Go.Proofs.YtbabmkilbbbmoaaDoor

/-
  What 'pen.Name' and 'pen.Good' do, and the reference's.
-/
namespace Go.Proofs.YtbabmkilbbbmoaaDoor
open Go.RowKit
set_option linter.unusedVariables false

theorem nameB_short {l : List UInt8} (h : ¬ (0 < l.length ∧ l.length ≤ 24)) : nameB l = false := by
  unfold nameB; rw [decide_eq_false h]; rfl
theorem nameB_ok {l : List UInt8} (h : 0 < l.length ∧ l.length ≤ 24) : nameB l = (smN (dgt l 0) && allN okN l) := by
  unfold nameB; rw [decide_eq_true h]; rfl

/-! ### the reference's -/
end Go.Proofs.YtbabmkilbbbmoaaDoor

/-
  The tables of package refs, and what refs and its reference make of texts, as plain functions of lists of bytes.
-/
namespace Go.Proofs.YtbabmkilbbbmoaaDoor
open Go.RowKit
set_option linter.unusedVariables false
set_option linter.unusedSimpArgs false

def nmT : List (List UInt8 × Int × Bool) := [([97, 109, 112], 38, true), ([108, 116], 60, true), ([103, 116], 62, true), ([113, 117, 111, 116], 34, true), ([110, 98, 115, 112], 160, true), ([99, 111, 112, 121], 169, true), ([114, 101, 103], 174, true), ([110, 111, 116], 172, true), ([110, 111, 116, 105, 110], 8713, false), ([116, 105, 109, 101, 115], 215, true), ([112, 97, 114, 97], 182, true), ([115, 101, 99, 116], 167, true), ([101, 97, 99, 117, 116, 101], 233, true), ([69, 97, 99, 117, 116, 101], 201, true), ([97, 117, 109, 108], 228, true), ([65, 117, 109, 108], 196, true), ([115, 122, 108, 105, 103], 223, true), ([101, 117, 114, 111], 8364, false), ([104, 101, 108, 108, 105, 112], 8230, false), ([109, 100, 97, 115, 104], 8212, false), ([110, 100, 97, 115, 104], 8211, false), ([97, 108, 112, 104, 97], 945, false), ([98, 101, 116, 97], 946, false), ([114, 97, 114, 114], 8594, false), ([108, 97, 114, 114], 8592, false), ([97, 112, 111, 115], 39, false), ([121, 101, 110], 165, true), ([109, 105, 99, 114, 111], 181, true)]
def nmName (k : Nat) : List UInt8 := (nmT.getD k ([], 0, false)).1
def nmChar (k : Nat) : Int := (nmT.getD k ([], 0, false)).2.1
def nmBare (k : Nat) : Bool := (nmT.getD k ([], 0, false)).2.2
def oldT : List Int := [8364, 0, 8218, 402, 8222, 8230, 8224, 8225, 710, 8240, 352, 8249, 338, 0, 381, 0, 0, 8216, 8217, 8220, 8221, 8226, 8211, 8212, 732, 8482, 353, 8250, 339, 0, 382, 376]
def oldAt (k : Nat) : Int := oldT.getD k 0

theorem nm_facts : ∀ k, k < 28 → 2 ≤ (nmName k).length ∧ (nmName k).length ≤ 6 ∧ 0 < nmChar k ∧ nmChar k ≤ 8713 ∧ isC (nmChar k) = true := by decide
theorem nm_inj : ∀ k, k < 28 → ∀ j, j < 28 → nmName k = nmName j → k = j := by decide
theorem nm_plain : ∀ k, k < 28 → ∀ c ∈ nmName k, ltN c.toNat = true := by decide

/-! ### the character of a name, of a number -/
def findF : Nat → List UInt8 → Option Nat
  | 0, _ => none
  | f + 1, l => if nmName (27 - f) = l then some (27 - f) else findF f l
def nameI (l : List UInt8) : Option Nat := findF 28 l
theorem findF_some : ∀ (f : Nat) (l : List UInt8) (k : Nat), f ≤ 28 → findF f l = some k → k < 28 ∧ nmName k = l
  | 0, l, k, _, h => by cases h
  | f + 1, l, k, hf, h => by
    rw [findF] at h
    split at h
    · rename_i e; cases h; exact ⟨by omega, e⟩
    · exact findF_some f l k (by omega) h
theorem findF_none : ∀ (f : Nat) (l : List UInt8), f ≤ 28 → findF f l = none → ∀ k, 28 - f ≤ k → k < 28 → ¬ nmName k = l
  | 0, l, _, _, k, h1, h2 => by omega
  | f + 1, l, hf, h, k, h1, h2 => by
    rw [findF] at h
    split at h
    · cases h
    · rename_i e
      by_cases hk : k = 27 - f
      · subst hk; exact e
      · exact findF_none f l (by omega) h k (by omega) h2
theorem nameI_some {l : List UInt8} {k : Nat} (h : nameI l = some k) : k < 28 ∧ nmName k = l := findF_some 28 l k (Nat.le_refl _) h
theorem nameI_none {l : List UInt8} (h : nameI l = none) : ∀ k, k < 28 → ¬ nmName k = l := fun k hk => findF_none 28 l (Nat.le_refl _) h k (by omega) hk
theorem nameI_is {k : Nat} (h : k < 28) : nameI (nmName k) = some k := by
  cases e : nameI (nmName k) with
  | none => exact absurd rfl (nameI_none e k h)
  | some j => have := nameI_some e; rw [nm_inj j this.1 k h this.2]
def nameC (l : List UInt8) : Int := match nameI l with | none => 0 | some k => nmChar k
theorem nameC_none {l : List UInt8} (h : nameI l = none) : nameC l = 0 := by simp only [nameC, h]
theorem nameC_some {l : List UInt8} {k : Nat} (h : nameI l = some k) : nameC l = nmChar k := by simp only [nameC, h]

def numC (n : Int) : Int := if n ≤ 0 ∨ isC n = false then 65533 else if 128 ≤ n ∧ n < 160 ∧ oldAt (n - 128).toNat ≠ 0 then oldAt (n - 128).toNat else n
theorem old_isC : ∀ k, k < 32 → oldAt k ≠ 0 → isC (oldAt k) = true := by decide
theorem numC_isC (n : Int) : isC (numC n) = true := by
  unfold numC
  split
  · decide
  · rename_i h1
    split
    · rename_i h2; exact old_isC _ (by omega) h2.2.2
    · cases h : isC n with
      | true => rfl
      | false => exact absurd (.inr h) h1
theorem numC_big {n m : Int} (h : 1114112 ≤ n) (h2 : 1114112 ≤ m) : numC n = numC m := by
  rw [numC, numC, if_pos (.inr (isC_no (by omega))), if_pos (.inr (isC_no (by omega)))]
end Go.Proofs.YtbabmkilbbbmoaaDoor

/-
  What 'refs.Name' and 'refs.Number' do: of every name its character, of every number its character.
-/
namespace Go.Proofs.YtbabmkilbbbmoaaDoor
open Go.RowKit
set_option linter.unusedVariables false

theorem numC_no {n : Int} (h : n ≤ 0 ∨ isC n = false) : numC n = 65533 := by rw [numC, if_pos h]
theorem numC_old {n : Int} (h0 : 128 ≤ n) (h1 : n < 160) (h2 : ¬ oldAt (n - 128).toNat = 0) : numC n = oldAt (n - 128).toNat := by
  rw [numC, if_neg (by rw [isC_mk (by omega)]; simp; omega), if_pos ⟨h0, h1, h2⟩]
theorem numC_self {n : Int} (h0 : 0 < n) (hc : isC n = true) (h2 : ¬ (128 ≤ n ∧ n < 160 ∧ oldAt (n - 128).toNat ≠ 0)) : numC n = n := by
  rw [numC, if_neg (by rw [hc]; simp; omega), if_neg h2]

end Go.Proofs.YtbabmkilbbbmoaaDoor

/-
  What strings.HasPrefix and strings.CutPrefix do: the library's contracts, laid at this program.
-/
namespace Go.Proofs.YtbabmkilbbbmoaaDoor
open Go.RowKit
set_option linter.unusedVariables false

end Go.Proofs.YtbabmkilbbbmoaaDoor

/-
  What the small functions of refs do: 'semicolonAt', 'goesOn', 'digitOf', 'bytesOf'.
-/
namespace Go.Proofs.YtbabmkilbbbmoaaDoor
open Go.RowKit
set_option linter.unusedVariables false

def semiN (l : List UInt8) : Nat := if [59].isPrefixOf l = true then 1 else 0
def onB (l : List UInt8) : Bool := decide (0 < l.length) && (ltN (dgt l 0) || dgN (dgt l 0) || decide (dgt l 0 = 61))
def candN (k : Nat) (m : List UInt8) (v : Bool) : Nat :=
  if (nmName k).isPrefixOf m = true then
    (if semiN (m.drop (nmName k).length) = 1 then (nmName k).length + 2
     else if nmBare k = false ∨ (v = true ∧ onB (m.drop (nmName k).length) = true) then 0 else (nmName k).length + 1)
  else 0
theorem semi_le (l : List UInt8) : semiN l ≤ 1 := by unfold semiN; split <;> omega

def digV (b : Nat) : Int := if 48 ≤ b ∧ b ≤ 57 then (b : Int) - 48 else if 97 ≤ b ∧ b ≤ 102 then (b : Int) - 87 else if 65 ≤ b ∧ b ≤ 70 then (b : Int) - 55 else -1
theorem digV_le (b : Nat) : -1 ≤ digV b ∧ digV b ≤ 15 := by
  unfold digV
  repeat' split
  all_goals omega
end Go.Proofs.YtbabmkilbbbmoaaDoor

/-
  What small functions of the reference of layer 4 do: 'at', 'value'; and 'refs.nameFor'.
-/
namespace Go.Proofs.YtbabmkilbbbmoaaDoor
open Go.RowKit
set_option linter.unusedVariables false

/-- The byte at a place; 0 where there is none. -/
def atB (l : List UInt8) (k : Nat) : Nat := if k < l.length then dgt l k else 0
def valN (b : Nat) : Int := if 48 ≤ b ∧ b ≤ 57 then (b : Int) - 48 else if 97 ≤ b ∧ b ≤ 102 then (b : Int) - 87 else if 65 ≤ b ∧ b ≤ 70 then (b : Int) - 55 else 99
theorem val_dig (b : Nat) : (0 ≤ digV b → valN b = digV b) ∧ (digV b < 0 → valN b = 99) := by
  unfold valN digV
  repeat' split
  all_goals omega
/-- The name that is written for a character. -/
def forN (c : Int) (v : Bool) : List UInt8 :=
  if c = 38 then [97, 109, 112] else if c = 160 then [110, 98, 115, 112] else if c = 60 then [108, 116] else if c = 62 then [103, 116] else if c = 34 ∧ v = true then [113, 117, 111, 116] else []
end Go.Proofs.YtbabmkilbbbmoaaDoor
