/-
  Several texts in one: what the functions of the program and of the document's answer do.
-/
import Derived.Test.YtbabmkilbbbmoaaDoorMgAG
import Derived.Laws.EntriesVeiled
import Derived.Test.YtbabmkilbbbmoaaDoorMgAA
import Derived.Shelf.Small.Wraps
import Derived.Shelf.Strings.Prefix
import Derived.Laws.IdiomStrings
import Derived.Lib.DecodeN

/-
  What 'chars.Space', 'Letter', 'Digit' and the reference's do: of every byte, whether it is one.
-/
namespace Go.Proofs.YtbabmkilbbbmoaaDoor
open Go.RowKit
set_option linter.unusedVariables false

theorem bneI {b : Nat} {k : Int} (h : ¬ (b : Int) = k) : ((b : Int) == k) = false := beq_eq_false_iff_ne.2 h

def ByteIs (f : Nat) (t : Nat → Bool) : Prop := ∀ (b : Nat) (w : World), Calls Tryd.prog f #[.int .u8 (b : Int)] w fun e w' => e = .returned (.bool (t b)) ∧ w' = w

end Go.Proofs.YtbabmkilbbbmoaaDoor

/-
  What 'chars.Space' and the reference's do: of each byte, whether it is a space.
-/
namespace Go.Proofs.YtbabmkilbbbmoaaDoor
open Go.RowKit
set_option linter.unusedVariables false

end Go.Proofs.YtbabmkilbbbmoaaDoor

/-
  What pen and its reference make of texts, as plain functions of lists of bytes.
-/
namespace Go.Proofs.YtbabmkilbbbmoaaDoor
open Go.RowKit
set_option linter.unusedVariables false

def smN (b : Nat) : Bool := decide (97 ≤ b ∧ b ≤ 122)
def okN (b : Nat) : Bool := smN b || (dgN b || (decide (b = 45) || decide (b = 58)))
def moreN (b : Nat) : Bool := decide ((48 ≤ b ∧ b ≤ 58) ∨ b = 45)
theorem ok_more (b : Nat) : okN b = (smN b || moreN b) := by
  unfold okN dgN moreN
  cases smN b with
  | true => rfl
  | false =>
    simp only [Bool.false_or]
    by_cases h : (48 ≤ b ∧ b ≤ 58) ∨ b = 45
    · rw [decide_eq_true h]
      by_cases h1 : 48 ≤ b ∧ b ≤ 57
      · simp [h1]
      · by_cases h2 : b = 45
        · simp [h2]
        · have : b = 58 := by omega
          simp [this]
    · rw [decide_eq_false h, decide_eq_false (by omega), decide_eq_false (by omega), decide_eq_false (by omega)]; rfl
def gdN (b : Nat) : Bool := decide (b ≠ 0 ∧ b ≠ 13)
def allN (p : Nat → Bool) (l : List UInt8) : Bool := l.all fun c => p c.toNat
theorem allN_nil (p : Nat → Bool) : allN p [] = true := rfl
theorem allN_step (p : Nat → Bool) {l : List UInt8} {k : Nat} (h : k < l.length) : allN p (l.drop k) = (p (dgt l k) && allN p (l.drop (k + 1))) := by
  obtain ⟨c, hc, hn⟩ := drop_at l k h
  rw [hc, ← hn]; rfl
theorem allN_end (p : Nat → Bool) {l : List UInt8} {k : Nat} (h : l.length ≤ k) : allN p (l.drop k) = true := by
  rw [List.drop_eq_nil_of_le h]; rfl
def nameB (l : List UInt8) : Bool := decide (0 < l.length ∧ l.length ≤ 24) && (smN (dgt l 0) && allN okN l)
def goodB (l : List UInt8) : Bool := rightB l && allN gdN l
theorem smN_yes {b : Nat} (h : 97 ≤ b ∧ b ≤ 122) : smN b = true := decide_eq_true h
theorem smN_no {b : Nat} (h : ¬ (97 ≤ b ∧ b ≤ 122)) : smN b = false := decide_eq_false h

end Go.Proofs.YtbabmkilbbbmoaaDoor

/-
  The two tables of package utf, and what 'utf.isCharacter' and 'utf.size' do.
-/
namespace Go.Proofs.YtbabmkilbbbmoaaDoor
open Go.RowKit
set_option linter.unusedVariables false

end Go.Proofs.YtbabmkilbbbmoaaDoor

/-
  What 'utf.First' does: of every text its first character and how many bytes it has, as the plain function says it.
-/
namespace Go.Proofs.YtbabmkilbbbmoaaDoor
open Go.RowKit
set_option linter.unusedVariables false

def tld (b : Nat) : Nat := if 240 ≤ b then 4 else if 224 ≤ b then 3 else if 192 ≤ b then 2 else 1

/-- The answer where no character begins. -/
def bad : Value := .tuple #[.int .i64 65533, .int .i64 1]

def firstV (l : List UInt8) : Value := .tuple #[.int .i64 (step l).1, .int .i64 ((step l).2.1 : Int)]
theorem firstV_none {l : List UInt8} (h : dec l = none) : firstV l = bad := by simp only [firstV, step, h]; rfl
theorem firstV_some {l : List UInt8} {c : Int} {n : Nat} (h : dec l = some (c, n)) : firstV l = .tuple #[.int .i64 c, .int .i64 (n : Int)] := by simp only [firstV, step, h]

end Go.Proofs.YtbabmkilbbbmoaaDoor

/-
  What 'utf.isWrong' and 'utf.Right' do.
-/
namespace Go.Proofs.YtbabmkilbbbmoaaDoor
open Go.RowKit
set_option linter.unusedVariables false

end Go.Proofs.YtbabmkilbbbmoaaDoor

/-
  What 'rectoref02.Is' and 'rectoref02.Bytes' do.
-/
namespace Go.Proofs.YtbabmkilbbbmoaaDoor
open Go.RowKit
set_option linter.unusedVariables false

end Go.Proofs.YtbabmkilbbbmoaaDoor

/-
  What 'rectoref02.low' does.
-/
namespace Go.Proofs.YtbabmkilbbbmoaaDoor
open Go.RowKit
set_option linter.unusedVariables false

def lowI (l : List UInt8) (i : Nat) : Int := if tl l i = true then lo l i else -1
theorem lowI_yes {l : List UInt8} {i : Nat} (h : tl l i = true) : lowI l i = lo l i := if_pos h
theorem lowI_no {l : List UInt8} {i : Nat} (h : ¬ tl l i = true) : lowI l i = -1 := if_neg h
theorem lo_bd {l : List UInt8} {i : Nat} (h : tl l i = true) : 0 ≤ lo l i ∧ lo l i ≤ 63 := by
  have := (tl_iff _ _).1 h
  unfold lo; omega

def got (c n : Int) (b : Bool) : Value := .agg #[.int .i64 c, .int .i64 n, .bool b]
end Go.Proofs.YtbabmkilbbbmoaaDoor

/-
  What 'rectoref02.At' does where the bytes tell a number of one bytes.
-/
namespace Go.Proofs.YtbabmkilbbbmoaaDoor
open Go.RowKit
set_option linter.unusedVariables false

end Go.Proofs.YtbabmkilbbbmoaaDoor

/-
  What 'rectoref02.At' does where the bytes tell a number of two bytes.
-/
namespace Go.Proofs.YtbabmkilbbbmoaaDoor
open Go.RowKit
set_option linter.unusedVariables false

end Go.Proofs.YtbabmkilbbbmoaaDoor

/-
  What 'rectoref02.At' does where the bytes tell a number of three bytes.
-/
namespace Go.Proofs.YtbabmkilbbbmoaaDoor
open Go.RowKit
set_option linter.unusedVariables false

end Go.Proofs.YtbabmkilbbbmoaaDoor

/-
  What 'rectoref02.At' does where the bytes tell a number of four bytes.
-/
namespace Go.Proofs.YtbabmkilbbbmoaaDoor
open Go.RowKit
set_option linter.unusedVariables false

end Go.Proofs.YtbabmkilbbbmoaaDoor

/-
  What 'rectoref02.At' does where the bytes tell no number.
-/
namespace Go.Proofs.YtbabmkilbbbmoaaDoor
open Go.RowKit
set_option linter.unusedVariables false

end Go.Proofs.YtbabmkilbbbmoaaDoor

/-
  What 'rectoref02.At' does where the bytes tell no number.
-/
namespace Go.Proofs.YtbabmkilbbbmoaaDoor
open Go.RowKit
set_option linter.unusedVariables false

end Go.Proofs.YtbabmkilbbbmoaaDoor

/-
  What 'rectoref02.At' does, told by the plain function.
-/
namespace Go.Proofs.YtbabmkilbbbmoaaDoor
open Go.RowKit
set_option linter.unusedVariables false

def gotStep (l : List UInt8) : Value := got (step l).1 ((step l).2.1 : Int) (step l).2.2
theorem gotStep_none {l : List UInt8} (h : dec l = none) : gotStep l = got 65533 1 false := by simp only [gotStep, step, h]; rfl
theorem gotStep_some {l : List UInt8} {c : Int} {n : Nat} (h : dec l = some (c, n)) : gotStep l = got c n true := by simp only [gotStep, step, h]

theorem tl_drop (l : List UInt8) (i k : Nat) (h : i ≤ l.length) : (tl (l.drop i) k = true) ↔ (tl l (i + k) = true) := by
  rw [tl_iff, tl_iff, dgt_drop, List.length_drop]
  omega
theorem lo_drop (l : List UInt8) (i k : Nat) : lo (l.drop i) k = lo l (i + k) := by unfold lo; rw [dgt_drop]
end Go.Proofs.YtbabmkilbbbmoaaDoor

/-
  What 'rectoref02.Of' does: of every text that isn't too long all its characters, and whether it is right.
-/
namespace Go.Proofs.YtbabmkilbbbmoaaDoor
open Go.RowKit
set_option linter.unusedVariables false

theorem Tryd.infoInt : (Tryd.prog.info? 3).map (fun i => (i.zero, i.size, i.bytes)) = some (some (.int .i64 0), 1, 8) := by kernel_rfl

def OfPost (w : World) (l : List UInt8) (e : Ending) (w' : World) : Prop :=
  ∃ v, e = .returned (.agg #[v, .bool (rightB l)]) ∧ w'.ownsRow w.heap.size 3 1 v (ch l).length (((ch l).map (·.1)).map (Value.int .i64)) ∧ Below w.heap.size w w'

/-- A slice value that shows these numbers in a world. -/
def IView (w : World) (v : Value) (cs : List Int) : Prop :=
  ∃ a cap, v = .slice a cs.length cap ∧ (0 < cs.length → ∃ b off, a = some ⟨b, off, none⟩ ∧ ∀ i, i < cs.length → w.cell? ⟨b, off + i, none⟩ = some (.int .i64 (cs.getD i 0)))
theorem iview_of_owns {w : World} {base : Nat} {v : Value} {cs : List Int} {n : Nat} (hn : cs.length = n) (h : w.ownsRow base 3 1 v n (cs.map (Value.int .i64))) : IView w v cs := by
  subst hn
  obtain ⟨_, h⟩ := h
  rcases h with ⟨rfl, h0⟩ | ⟨g, cap, cur, rfl, h1, h2, h3, h4, h5, h6⟩
  · exact ⟨none, 0, by rw [h0], fun h => by omega⟩
  · refine ⟨some ⟨g, 0, none⟩, cap, rfl, fun _ => ⟨g, 0, rfl, fun i hi => ?_⟩⟩
    rw [Joins.cell_of_block h2]
    have e : cur.toList[i]? = some (.int .i64 (cs.getD i 0)) := by
      have : (cur.toList.take (cs.length * 1))[i]? = some (.int .i64 (cs.getD i 0)) := by
        rw [h6, List.getElem?_map, List.getD, List.getElem?_eq_getElem hi]; rfl
      rw [List.getElem?_take] at this
      rw [if_pos (by omega)] at this
      exact this
    simpa using e
theorem IView.below {w w1 : World} {v : Value} {cs : List Int} (h : IView w v cs) (hb : Below w.heap.size w w1) : IView w1 v cs := by
  obtain ⟨a, cap, rfl, hx⟩ := h
  refine ⟨a, cap, rfl, fun h0 => ?_⟩
  obtain ⟨b, off, rfl, hc⟩ := hx h0
  exact ⟨b, off, rfl, fun i hi => cell_later hb (hc i hi)⟩

end Go.Proofs.YtbabmkilbbbmoaaDoor

/-
  What 'pen.Name' and 'pen.Good' do, and the reference's.
-/
namespace Go.Proofs.YtbabmkilbbbmoaaDoor
open Go.RowKit
set_option linter.unusedVariables false

theorem nameB_short {l : List UInt8} (h : ¬ (0 < l.length ∧ l.length ≤ 24)) : nameB l = false := by
  unfold nameB; rw [decide_eq_false h]; rfl
theorem nameB_ok {l : List UInt8} (h : 0 < l.length ∧ l.length ≤ 24) : nameB l = (smN (dgt l 0) && allN okN l) := by
  unfold nameB; rw [decide_eq_true h]; rfl

/-! ### the reference's -/
end Go.Proofs.YtbabmkilbbbmoaaDoor

/-
  The tables of package refs, and what refs and its reference make of texts, as plain functions of lists of bytes.
-/
namespace Go.Proofs.YtbabmkilbbbmoaaDoor
open Go.RowKit
set_option linter.unusedVariables false
set_option linter.unusedSimpArgs false

def nmT : List (List UInt8 × Int × Bool) := [([97, 109, 112], 38, true), ([108, 116], 60, true), ([103, 116], 62, true), ([113, 117, 111, 116], 34, true), ([110, 98, 115, 112], 160, true), ([99, 111, 112, 121], 169, true), ([114, 101, 103], 174, true), ([110, 111, 116], 172, true), ([110, 111, 116, 105, 110], 8713, false), ([116, 105, 109, 101, 115], 215, true), ([112, 97, 114, 97], 182, true), ([115, 101, 99, 116], 167, true), ([101, 97, 99, 117, 116, 101], 233, true), ([69, 97, 99, 117, 116, 101], 201, true), ([97, 117, 109, 108], 228, true), ([65, 117, 109, 108], 196, true), ([115, 122, 108, 105, 103], 223, true), ([101, 117, 114, 111], 8364, false), ([104, 101, 108, 108, 105, 112], 8230, false), ([109, 100, 97, 115, 104], 8212, false), ([110, 100, 97, 115, 104], 8211, false), ([97, 108, 112, 104, 97], 945, false), ([98, 101, 116, 97], 946, false), ([114, 97, 114, 114], 8594, false), ([108, 97, 114, 114], 8592, false), ([97, 112, 111, 115], 39, false), ([121, 101, 110], 165, true), ([109, 105, 99, 114, 111], 181, true)]
def nmName (k : Nat) : List UInt8 := (nmT.getD k ([], 0, false)).1
def nmChar (k : Nat) : Int := (nmT.getD k ([], 0, false)).2.1
def nmBare (k : Nat) : Bool := (nmT.getD k ([], 0, false)).2.2
def oldT : List Int := [8364, 0, 8218, 402, 8222, 8230, 8224, 8225, 710, 8240, 352, 8249, 338, 0, 381, 0, 0, 8216, 8217, 8220, 8221, 8226, 8211, 8212, 732, 8482, 353, 8250, 339, 0, 382, 376]
def oldAt (k : Nat) : Int := oldT.getD k 0

theorem nm_facts : ∀ k, k < 28 → 2 ≤ (nmName k).length ∧ (nmName k).length ≤ 6 ∧ 0 < nmChar k ∧ nmChar k ≤ 8713 ∧ isC (nmChar k) = true := by decide
theorem nm_inj : ∀ k, k < 28 → ∀ j, j < 28 → nmName k = nmName j → k = j := by decide
theorem nm_plain : ∀ k, k < 28 → ∀ c ∈ nmName k, ltN c.toNat = true := by decide

/-! ### the character of a name, of a number -/
def findF : Nat → List UInt8 → Option Nat
  | 0, _ => none
  | f + 1, l => if nmName (27 - f) = l then some (27 - f) else findF f l
def nameI (l : List UInt8) : Option Nat := findF 28 l
theorem findF_some : ∀ (f : Nat) (l : List UInt8) (k : Nat), f ≤ 28 → findF f l = some k → k < 28 ∧ nmName k = l
  | 0, l, k, _, h => by cases h
  | f + 1, l, k, hf, h => by
    rw [findF] at h
    split at h
    · rename_i e; cases h; exact ⟨by omega, e⟩
    · exact findF_some f l k (by omega) h
theorem findF_none : ∀ (f : Nat) (l : List UInt8), f ≤ 28 → findF f l = none → ∀ k, 28 - f ≤ k → k < 28 → ¬ nmName k = l
  | 0, l, _, _, k, h1, h2 => by omega
  | f + 1, l, hf, h, k, h1, h2 => by
    rw [findF] at h
    split at h
    · cases h
    · rename_i e
      by_cases hk : k = 27 - f
      · subst hk; exact e
      · exact findF_none f l (by omega) h k (by omega) h2
theorem nameI_some {l : List UInt8} {k : Nat} (h : nameI l = some k) : k < 28 ∧ nmName k = l := findF_some 28 l k (Nat.le_refl _) h
theorem nameI_none {l : List UInt8} (h : nameI l = none) : ∀ k, k < 28 → ¬ nmName k = l := fun k hk => findF_none 28 l (Nat.le_refl _) h k (by omega) hk
theorem nameI_is {k : Nat} (h : k < 28) : nameI (nmName k) = some k := by
  cases e : nameI (nmName k) with
  | none => exact absurd rfl (nameI_none e k h)
  | some j => have := nameI_some e; rw [nm_inj j this.1 k h this.2]
def nameC (l : List UInt8) : Int := match nameI l with | none => 0 | some k => nmChar k
theorem nameC_none {l : List UInt8} (h : nameI l = none) : nameC l = 0 := by simp only [nameC, h]
theorem nameC_some {l : List UInt8} {k : Nat} (h : nameI l = some k) : nameC l = nmChar k := by simp only [nameC, h]

def numC (n : Int) : Int := if n ≤ 0 ∨ isC n = false then 65533 else if 128 ≤ n ∧ n < 160 ∧ oldAt (n - 128).toNat ≠ 0 then oldAt (n - 128).toNat else n
theorem old_isC : ∀ k, k < 32 → oldAt k ≠ 0 → isC (oldAt k) = true := by decide
theorem numC_isC (n : Int) : isC (numC n) = true := by
  unfold numC
  split
  · decide
  · rename_i h1
    split
    · rename_i h2; exact old_isC _ (by omega) h2.2.2
    · cases h : isC n with
      | true => rfl
      | false => exact absurd (.inr h) h1
theorem numC_big {n m : Int} (h : 1114112 ≤ n) (h2 : 1114112 ≤ m) : numC n = numC m := by
  rw [numC, numC, if_pos (.inr (isC_no (by omega))), if_pos (.inr (isC_no (by omega)))]
end Go.Proofs.YtbabmkilbbbmoaaDoor

/-
  What 'refs.Name' and 'refs.Number' do: of every name its character, of every number its character.
-/
namespace Go.Proofs.YtbabmkilbbbmoaaDoor
open Go.RowKit
set_option linter.unusedVariables false

theorem numC_no {n : Int} (h : n ≤ 0 ∨ isC n = false) : numC n = 65533 := by rw [numC, if_pos h]
theorem numC_old {n : Int} (h0 : 128 ≤ n) (h1 : n < 160) (h2 : ¬ oldAt (n - 128).toNat = 0) : numC n = oldAt (n - 128).toNat := by
  rw [numC, if_neg (by rw [isC_mk (by omega)]; simp; omega), if_pos ⟨h0, h1, h2⟩]
theorem numC_self {n : Int} (h0 : 0 < n) (hc : isC n = true) (h2 : ¬ (128 ≤ n ∧ n < 160 ∧ oldAt (n - 128).toNat ≠ 0)) : numC n = n := by
  rw [numC, if_neg (by rw [hc]; simp; omega), if_neg h2]

end Go.Proofs.YtbabmkilbbbmoaaDoor

/-
  What strings.HasPrefix and strings.CutPrefix do: the library's contracts, laid at this program.
-/
namespace Go.Proofs.YtbabmkilbbbmoaaDoor
open Go.RowKit
set_option linter.unusedVariables false

end Go.Proofs.YtbabmkilbbbmoaaDoor

/-
  What the small functions of refs do: 'semicolonAt', 'goesOn', 'digitOf', 'bytesOf'.
-/
namespace Go.Proofs.YtbabmkilbbbmoaaDoor
open Go.RowKit
set_option linter.unusedVariables false

def semiN (l : List UInt8) : Nat := if [59].isPrefixOf l = true then 1 else 0
def onB (l : List UInt8) : Bool := decide (0 < l.length) && (ltN (dgt l 0) || dgN (dgt l 0) || decide (dgt l 0 = 61))
def candN (k : Nat) (m : List UInt8) (v : Bool) : Nat :=
  if (nmName k).isPrefixOf m = true then
    (if semiN (m.drop (nmName k).length) = 1 then (nmName k).length + 2
     else if nmBare k = false ∨ (v = true ∧ onB (m.drop (nmName k).length) = true) then 0 else (nmName k).length + 1)
  else 0
theorem semi_le (l : List UInt8) : semiN l ≤ 1 := by unfold semiN; split <;> omega

def digV (b : Nat) : Int := if 48 ≤ b ∧ b ≤ 57 then (b : Int) - 48 else if 97 ≤ b ∧ b ≤ 102 then (b : Int) - 87 else if 65 ≤ b ∧ b ≤ 70 then (b : Int) - 55 else -1
theorem digV_le (b : Nat) : -1 ≤ digV b ∧ digV b ≤ 15 := by
  unfold digV
  repeat' split
  all_goals omega
end Go.Proofs.YtbabmkilbbbmoaaDoor

/-
  What small functions of the reference of layer 4 do: 'at', 'value'; and 'refs.nameFor'.
-/
namespace Go.Proofs.YtbabmkilbbbmoaaDoor
open Go.RowKit
set_option linter.unusedVariables false

/-- The byte at a place; 0 where there is none. -/
def atB (l : List UInt8) (k : Nat) : Nat := if k < l.length then dgt l k else 0
def valN (b : Nat) : Int := if 48 ≤ b ∧ b ≤ 57 then (b : Int) - 48 else if 97 ≤ b ∧ b ≤ 102 then (b : Int) - 87 else if 65 ≤ b ∧ b ≤ 70 then (b : Int) - 55 else 99
theorem val_dig (b : Nat) : (0 ≤ digV b → valN b = digV b) ∧ (digV b < 0 → valN b = 99) := by
  unfold valN digV
  repeat' split
  all_goals omega
/-- The name that is written for a character. -/
def forN (c : Int) (v : Bool) : List UInt8 :=
  if c = 38 then [97, 109, 112] else if c = 160 then [110, 98, 115, 112] else if c = 60 then [108, 116] else if c = 62 then [103, 116] else if c = 34 ∧ v = true then [113, 117, 111, 116] else []
end Go.Proofs.YtbabmkilbbbmoaaDoor

/-
  What the reference's Escape does: any text with references.
-/
namespace Go.Proofs.YtbabmkilbbbmoaaDoor
open Go.RowKit
set_option linter.unusedVariables false

def ampL : List UInt8 := [38, 97, 109, 112, 59]
def ltL : List UInt8 := [38, 108, 116, 59]
def gtL : List UInt8 := [38, 103, 116, 59]
def quotL : List UInt8 := [38, 113, 117, 111, 116, 59]
def nbspL : List UInt8 := [38, 110, 98, 115, 112, 59]
def hd160 : List UInt8 → Bool
  | [] => false
  | c :: _ => decide (c.toNat = 160)
/-- The text with references; the flag: the first byte is passed over. -/
def escS (v : Bool) : Bool → List UInt8 → List UInt8
  | _, [] => []
  | true, _ :: l => escS v false l
  | false, c :: l =>
    if c.toNat = 38 then ampL ++ escS v false l else if c.toNat = 60 then ltL ++ escS v false l else if c.toNat = 62 then gtL ++ escS v false l
    else if c.toNat = 34 then (if v = true then quotL else [34]) ++ escS v false l
    else if c.toNat = 194 ∧ hd160 l = true then nbspL ++ escS v true l else c :: escS v false l
def escL (v : Bool) (l : List UInt8) : List UInt8 := escS v false l
theorem hd160_at (l : List UInt8) (k : Nat) : hd160 (l.drop k) = decide (atB l k = 160) := by
  unfold atB
  by_cases h : k < l.length
  · obtain ⟨c, hc, hn⟩ := drop_at l k h
    rw [if_pos h, hc, hd160, hn]
  · rw [if_neg h, List.drop_eq_nil_of_le (by omega)]; rfl
theorem esc_38 {v : Bool} {l : List UInt8} {k : Nat} (hk : k < l.length) (h : dgt l k = 38) : escL v (l.drop k) = ampL ++ escL v (l.drop (k + 1)) := by
  obtain ⟨c, hc, hn⟩ := drop_at l k hk
  rw [escL, hc, escS, if_pos (by omega)]; rfl
theorem esc_60 {v : Bool} {l : List UInt8} {k : Nat} (hk : k < l.length) (h : dgt l k = 60) : escL v (l.drop k) = ltL ++ escL v (l.drop (k + 1)) := by
  obtain ⟨c, hc, hn⟩ := drop_at l k hk
  rw [escL, hc, escS, if_neg (by omega), if_pos (by omega)]; rfl
theorem esc_62 {v : Bool} {l : List UInt8} {k : Nat} (hk : k < l.length) (h : dgt l k = 62) : escL v (l.drop k) = gtL ++ escL v (l.drop (k + 1)) := by
  obtain ⟨c, hc, hn⟩ := drop_at l k hk
  rw [escL, hc, escS, if_neg (by omega), if_neg (by omega), if_pos (by omega)]; rfl
theorem esc_34 {v : Bool} {l : List UInt8} {k : Nat} (hk : k < l.length) (h : dgt l k = 34) : escL v (l.drop k) = (if v = true then quotL else [34]) ++ escL v (l.drop (k + 1)) := by
  obtain ⟨c, hc, hn⟩ := drop_at l k hk
  rw [escL, hc, escS, if_neg (by omega), if_neg (by omega), if_neg (by omega), if_pos (by omega)]; rfl
theorem esc_160 {v : Bool} {l : List UInt8} {k : Nat} (hk : k + 1 < l.length) (h : dgt l k = 194) (h2 : atB l (k + 1) = 160) : escL v (l.drop k) = nbspL ++ escL v (l.drop (k + 2)) := by
  obtain ⟨c, hc, hn⟩ := drop_at l k (by omega)
  obtain ⟨c2, hc2, _⟩ := drop_at l (k + 1) hk
  have h3 : hd160 (l.drop (k + 1)) = true := by rw [hd160_at, h2]; rfl
  rw [escL, hc, escS, if_neg (by omega), if_neg (by omega), if_neg (by omega), if_neg (by omega), if_pos ⟨by omega, h3⟩, hc2, escS]; rfl
theorem esc_other {v : Bool} {l : List UInt8} {k : Nat} (hk : k < l.length) (h0 : ¬ dgt l k = 38) (h1 : ¬ dgt l k = 60) (h2 : ¬ dgt l k = 62) (h3 : ¬ dgt l k = 34) (h4 : ¬ (dgt l k = 194 ∧ atB l (k + 1) = 160)) :
    escL v (l.drop k) = byt (dgt l k : Int) :: escL v (l.drop (k + 1)) := by
  obtain ⟨c, hc, hn⟩ := drop_at l k hk
  have h5 : ¬ (c.toNat = 194 ∧ hd160 (l.drop (k + 1)) = true) := by rw [hd160_at]; simp; omega
  rw [escL, hc, escS, if_neg (by omega), if_neg (by omega), if_neg (by omega), if_neg (by omega), if_neg h5, ← hn, byt_self]; rfl
theorem at_lt {l : List UInt8} {k : Nat} (h : atB l k = 160) : k < l.length := by
  unfold atB at h; split at h
  · assumption
  · omega
theorem one_atE (s : ByteArray) (k : Nat) (h : k < s.size) : s.extract k (k + 1) = bs [byt (dgt s.data.toList k)] := by
  obtain ⟨c, hc, hn⟩ := drop_at s.data.toList k (by rw [data_len]; exact h)
  rw [extract_take, hc, ← hn, byt_self]; rfl
theorem bsArr (l : List UInt8) : (⟨l.toArray⟩ : ByteArray) = bs l := rfl

end Go.Proofs.YtbabmkilbbbmoaaDoor

/-
  A text with references: how its bytes and the characters that a range over it meets hang together.
-/
namespace Go.Proofs.YtbabmkilbbbmoaaDoor
open Go.RowKit
set_option linter.unusedVariables false

theorem cut_ex (s : ByteArray) (a b : Nat) : s.extract a b = bs ((s.data.toList.drop a).take (b - a)) := by
  rw [Lib.extract_eq]; rfl
theorem get_dgt (s : ByteArray) (k : Nat) : (s.get! k).toNat = dgt s.data.toList k := by
  unfold dgt
  by_cases h : k < s.size
  · have h' : k < s.data.toList.length := by simpa using h
    rw [List.getD, List.getElem?_eq_getElem h']
    simp [ByteArray.get!, getElem!_pos, h]
  · have h' : ¬ k < s.data.toList.length := by simpa using h
    rw [List.getD, List.getElem?_eq_none (by omega)]
    simp only [ByteArray.get!]
    rw [getElem!_neg _ _ (by simpa using h)]
    rfl
theorem atB_dgt (l : List UInt8) (k : Nat) : atB l k = dgt l k := by
  unfold atB
  split
  · rfl
  · rename_i h
    unfold dgt
    rw [List.getD, List.getElem?_eq_none (by omega)]; rfl

theorem decN_low {n b0 b1 b2 b3 : Nat} (h : b0 < 128) : Lib.decodeN n b0 b1 b2 b3 = (b0, 1) := by
  unfold Lib.decodeN; rw [if_pos h]
theorem decN_nb {n b0 b1 b2 b3 : Nat} (h0 : b0 = 194) (h1 : b1 = 160) (hn : 1 < n) : Lib.decodeN n b0 b1 b2 b3 = (160, 2) := by
  subst h0; subst h1
  unfold Lib.decodeN
  rw [if_neg (by omega), if_pos (by omega), if_pos (by omega)]
theorem decN_high {n b0 b1 b2 b3 : Nat} (h : 128 ≤ b0) (h' : b0 < 256) (hn : 1 ≤ n) :
    128 ≤ (Lib.decodeN n b0 b1 b2 b3).1 ∧ 1 ≤ (Lib.decodeN n b0 b1 b2 b3).2 ∧ (Lib.decodeN n b0 b1 b2 b3).2 ≤ n ∧ (Lib.decodeN n b0 b1 b2 b3).2 ≤ 4
    ∧ ((Lib.decodeN n b0 b1 b2 b3).1 = 160 → b0 = 194 ∧ b1 = 160 ∧ 1 < n ∧ (Lib.decodeN n b0 b1 b2 b3).2 = 2)
    ∧ (1 < (Lib.decodeN n b0 b1 b2 b3).2 → 128 ≤ b1 ∧ b1 < 192) ∧ (2 < (Lib.decodeN n b0 b1 b2 b3).2 → 128 ≤ b2 ∧ b2 < 192) ∧ (3 < (Lib.decodeN n b0 b1 b2 b3).2 → 128 ≤ b3 ∧ b3 < 192) := by
  unfold Lib.decodeN
  repeat' split
  all_goals simp only []
  all_goals first | omega | (simp only [and_true]; omega)

theorem esc_run (v : Bool) (l : List UInt8) : ∀ (n k : Nat), k + n ≤ l.length → (∀ j, j < n → 128 ≤ dgt l (k + j) ∧ ¬ (dgt l (k + j) = 194 ∧ atB l (k + j + 1) = 160)) →
    escL v (l.drop k) = (l.drop k).take n ++ escL v (l.drop (k + n))
  | 0, k, _, _ => by simp
  | n + 1, k, hl, h => by
    have h0 := h 0 (by omega)
    rw [Nat.add_zero] at h0
    have hk : k < l.length := by omega
    obtain ⟨c, hc, hn⟩ := drop_at l k hk
    rw [esc_other hk (by omega) (by omega) (by omega) (by omega) h0.2, ← hn, byt_self, hc, List.take_succ_cons, List.cons_append]
    have := esc_run v l n (k + 1) (by omega) (fun j hj => by have := h (j + 1) (by omega); rw [show k + (j + 1) = k + 1 + j by omega] at this; exact this)
    rw [this, show k + 1 + n = k + (n + 1) by omega]

/-- What the range meets at a place, and what is made of it. -/
theorem esc_at (v : Bool) (s : ByteArray) (k : Nat) (hk : k < s.size) :
    (forN ((Utf8.decode s k).1 : Int) v = [] ∧ 1 ≤ (Utf8.decode s k).2 ∧ k + (Utf8.decode s k).2 ≤ s.size ∧ escL v (s.data.toList.drop k) = (s.data.toList.drop k).take (Utf8.decode s k).2 ++ escL v (s.data.toList.drop (k + (Utf8.decode s k).2)))
    ∨ (forN ((Utf8.decode s k).1 : Int) v ≠ [] ∧ (forN ((Utf8.decode s k).1 : Int) v).length ≤ 4 ∧ isC ((Utf8.decode s k).1 : Int) = true ∧ (ub ((Utf8.decode s k).1 : Int)).length = (Utf8.decode s k).2 ∧ 1 ≤ (Utf8.decode s k).2 ∧ k + (Utf8.decode s k).2 ≤ s.size
      ∧ escL v (s.data.toList.drop k) = ([38] ++ forN ((Utf8.decode s k).1 : Int) v ++ [59]) ++ escL v (s.data.toList.drop (k + (Utf8.decode s k).2))) := by
  have hkl : k < s.data.toList.length := by rw [data_len]; exact hk
  have e := Lib.decode_at s k
  rw [get_dgt, get_dgt, get_dgt, get_dgt] at e
  by_cases hlow : dgt s.data.toList k < 128
  · rw [decN_low hlow] at e
    rw [e]
    have hkl2 : k + 1 ≤ s.size := by omega
    simp only
    by_cases h38 : dgt s.data.toList k = 38
    · rw [h38, esc_38 hkl h38]
      exact .inr ⟨by decide +revert, by decide +revert, by decide, by decide, by omega, by omega, by cases v <;> rfl⟩
    by_cases h60 : dgt s.data.toList k = 60
    · rw [h60, esc_60 hkl h60]
      exact .inr ⟨by decide +revert, by decide +revert, by decide, by decide, by omega, by omega, by cases v <;> rfl⟩
    by_cases h62 : dgt s.data.toList k = 62
    · rw [h62, esc_62 hkl h62]
      exact .inr ⟨by decide +revert, by decide +revert, by decide, by decide, by omega, by omega, by cases v <;> rfl⟩
    have hone : (s.data.toList.drop k).take 1 = [byt (dgt s.data.toList k : Int)] := by
      obtain ⟨c, hc, hn⟩ := drop_at s.data.toList k hkl
      rw [hc, ← hn, byt_self]; rfl
    by_cases h34 : dgt s.data.toList k = 34
    · cases v with
      | true =>
        rw [h34, esc_34 hkl h34]
        exact .inr ⟨by decide, by decide, by decide, by decide, by omega, by omega, rfl⟩
      | false =>
        rw [hone, h34, esc_34 hkl h34]
        exact .inl ⟨by decide, by omega, by omega, rfl⟩
    · rw [hone, esc_other hkl h38 h60 h62 h34 (by omega)]
      refine .inl ⟨?_, by omega, by omega, rfl⟩
      unfold forN
      rw [if_neg (by omega), if_neg (by omega), if_neg (by omega), if_neg (by omega), if_neg (by omega)]
  · have hd := decN_high (n := s.size - k) (b0 := dgt s.data.toList k) (b1 := dgt s.data.toList (k + 1)) (b2 := dgt s.data.toList (k + 2)) (b3 := dgt s.data.toList (k + 3)) (by omega) (dgt_lt _ _) (by omega)
    have hnb := decN_nb (n := s.size - k) (b0 := dgt s.data.toList k) (b1 := dgt s.data.toList (k + 1)) (b2 := dgt s.data.toList (k + 2)) (b3 := dgt s.data.toList (k + 3))
    rw [← e] at hd hnb
    obtain ⟨d1, d2, d3, d4, d5, d6, d7, d8⟩ := hd
    by_cases h160 : (Utf8.decode s k).1 = 160
    · obtain ⟨q1, q2, q3, q4⟩ := d5 h160
      rw [h160, q4, esc_160 (by rw [data_len]; omega) q1 (by rw [atB_dgt]; exact q2)]
      exact .inr ⟨by decide +revert, by decide +revert, by decide, by decide, by omega, by omega, by cases v <;> rfl⟩
    · have hf : forN ((Utf8.decode s k).1 : Int) v = [] := by
        unfold forN
        rw [if_neg (by omega), if_neg (by omega), if_neg (by omega), if_neg (by omega), if_neg (by omega)]
      refine .inl ⟨hf, d2, by omega, esc_run v s.data.toList _ k (by rw [data_len]; omega) (fun j hj => ?_)⟩
      rw [atB_dgt]
      have hj4 : j = 0 ∨ j = 1 ∨ j = 2 ∨ j = 3 := by omega
      rcases hj4 with rfl | rfl | rfl | rfl
      · refine ⟨by rw [Nat.add_zero]; omega, fun h => ?_⟩
        rw [Nat.add_zero] at h
        by_cases hn : 1 < s.size - k
        · exact h160 (by rw [hnb h.1 h.2 hn])
        · have : dgt s.data.toList (k + 1) = 0 := by
            unfold dgt; rw [List.getD, List.getElem?_eq_none (by rw [data_len]; omega)]; rfl
          omega
      · have := d6 hj; exact ⟨by omega, by omega⟩
      · have := d7 hj; exact ⟨by omega, by omega⟩
      · have := d8 hj; exact ⟨by omega, by omega⟩
end Go.Proofs.YtbabmkilbbbmoaaDoor

/-
  What 'refs.numberAt' does: the number of the reference with which a text begins, and how many bytes that has.
-/
namespace Go.Proofs.YtbabmkilbbbmoaaDoor
open Go.RowKit
set_option linter.unusedVariables false

def digOk (base : Nat) (b : Nat) : Bool := decide (0 ≤ digV b ∧ digV b < (base : Int))
def numG (base : Nat) : Nat → List UInt8 → Nat × Nat
  | n, [] => (n, 0)
  | n, c :: l => if digOk base c.toNat = true then ((numG base (min (n * base + (digV c.toNat).toNat) 1114112) l).1, (numG base (min (n * base + (digV c.toNat).toNat) 1114112) l).2 + 1) else (n, 0)
theorem numG_yes {base n k : Nat} {l : List UInt8} (hk : k < l.length) (h : digOk base (dgt l k) = true) : numG base n (l.drop k) = ((numG base (min (n * base + (digV (dgt l k)).toNat) 1114112) (l.drop (k + 1))).1, (numG base (min (n * base + (digV (dgt l k)).toNat) 1114112) (l.drop (k + 1))).2 + 1) := by
  obtain ⟨c, hc, hn⟩ := drop_at l k hk
  rw [hc, numG, hn, if_pos h]
theorem numG_no {base n k : Nat} {l : List UInt8} (hk : k < l.length) (h : digOk base (dgt l k) = false) : numG base n (l.drop k) = (n, 0) := by
  obtain ⟨c, hc, hn⟩ := drop_at l k hk
  rw [hc, numG, hn, if_neg (by rw [h]; decide)]
theorem numG_end {base n k : Nat} {l : List UInt8} (hk : l.length ≤ k) : numG base n (l.drop k) = (n, 0) := by
  rw [List.drop_eq_nil_of_le hk, numG]

/-- What numberAt answers, of the base and the place of the first digit. -/
def numEnd (l : List UInt8) (fr : Nat) (r : Nat × Nat) : Int × Int := if r.2 = 0 then (0, 0) else ((r.1 : Int), ((fr + r.2 + semiN (l.drop (fr + r.2)) : Nat) : Int))
def isHex (l : List UInt8) : Bool := decide (2 < l.length ∧ (dgt l 2 = 120 ∨ dgt l 2 = 88))
def numAt (l : List UInt8) : Int × Int :=
  if [38, 35].isPrefixOf l = true then (if isHex l = true then numEnd l 3 (numG 16 0 (l.drop 3)) else numEnd l 2 (numG 10 0 (l.drop 2))) else (0, 0)
def numV (l : List UInt8) : Value := .tuple #[.int .i64 (numAt l).1, .int .i64 (numAt l).2]
theorem numEnd_0 (l : List UInt8) (fr n : Nat) : numEnd l fr (n, 0) = (0, 0) := by simp [numEnd]
theorem numEnd_1 (l : List UInt8) (fr n k : Nat) (h : 0 < k) : numEnd l fr (n, k) = ((n : Int), ((fr + k + semiN (l.drop (fr + k)) : Nat) : Int)) := by
  unfold numEnd; rw [if_neg (by simp; omega)]

theorem pre2_len {l : List UInt8} (h : [38, 35].isPrefixOf l = true) : 2 ≤ l.length := by
  have := (List.isPrefixOf_iff_prefix.1 h).length_le
  simpa using this

end Go.Proofs.YtbabmkilbbbmoaaDoor

/-
  What 'refs.numberAt' does: the number of the reference with which a text begins, and how many bytes that has.
-/
namespace Go.Proofs.YtbabmkilbbbmoaaDoor
open Go.RowKit
set_option linter.unusedVariables false

end Go.Proofs.YtbabmkilbbbmoaaDoor

/-
  What 'refs.numberAt' does: the number of the reference with which a text begins, and how many bytes that has.
-/
namespace Go.Proofs.YtbabmkilbbbmoaaDoor
open Go.RowKit
set_option linter.unusedVariables false

end Go.Proofs.YtbabmkilbbbmoaaDoor

/-
  What 'refs.numberAt' does: the number of the reference with which a text begins, and how many bytes that has.
-/
namespace Go.Proofs.YtbabmkilbbbmoaaDoor
open Go.RowKit
set_option linter.unusedVariables false

end Go.Proofs.YtbabmkilbbbmoaaDoor

/-
  What 'refs.numberAt' does: the number of the reference with which a text begins, and how many bytes that has.
-/
namespace Go.Proofs.YtbabmkilbbbmoaaDoor
open Go.RowKit
set_option linter.unusedVariables false

end Go.Proofs.YtbabmkilbbbmoaaDoor
