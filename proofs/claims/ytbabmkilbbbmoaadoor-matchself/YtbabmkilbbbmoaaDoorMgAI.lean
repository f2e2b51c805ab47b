/-
  Several texts in one: what the functions of the program and of the document's answer do.
-/
import Derived.Test.YtbabmkilbbbmoaaDoorMgAH
import Derived.Test.YtbabmkilbbbmoaaDoorMgAE
import Derived.Test.YtbabmkilbbbmoaaDoorMgAA
import Derived.Maps.OwnSet
import Derived.Maps.Views

/-
  What 'refs.bytesOf' and 'refs.nameAt' do: the longest reference by a name with which a text begins.
-/
namespace Go.Proofs.YtbabmkilbbbmoaaDoor
open Go.RowKit
set_option linter.unusedVariables false

def entry (k : Nat) : Value := .agg #[.string (bs (nmName k)), .int .i64 (nmChar k), .bool (nmBare k)]
/-- What the first k names give: the character and the bytes of the longest reference so far. -/
def Best (m : List UInt8) (v : Bool) (k : Nat) (c : Int) (n : Nat) : Prop :=
  (n = 0 ∧ c = 0 ∧ ∀ j, j < k → candN j m v = 0) ∨ (0 < n ∧ ∃ i, i < k ∧ candN i m v = n ∧ c = nmChar i ∧ ∀ j, j < k → candN j m v ≤ n)
theorem best_more {m : List UInt8} {v : Bool} {k : Nat} {c : Int} {n : Nat} (h : Best m v k c n) (hn : n < candN k m v) : Best m v (k + 1) (nmChar k) (candN k m v) := by
  refine .inr ⟨by omega, k, by omega, rfl, rfl, fun j hj => ?_⟩
  by_cases e : j = k
  · rw [e]; exact Nat.le_refl _
  · rcases h with ⟨_, _, h⟩ | ⟨_, i, _, _, _, h⟩
    · have := h j (by omega); omega
    · have := h j (by omega); omega
theorem best_same {m : List UInt8} {v : Bool} {k : Nat} {c : Int} {n : Nat} (h : Best m v k c n) (hn : ¬ n < candN k m v) : Best m v (k + 1) c n := by
  rcases h with ⟨h1, h2, h⟩ | ⟨h0, i, h1, h2, h3, h⟩
  · refine .inl ⟨h1, h2, fun j hj => ?_⟩
    by_cases e : j = k
    · rw [e]; omega
    · exact h j (by omega)
  · refine .inr ⟨h0, i, by omega, h2, h3, fun j hj => ?_⟩
    by_cases e : j = k
    · rw [e]; omega
    · exact h j (by omega)
theorem cand_le (k : Nat) (m : List UInt8) (v : Bool) (h : k < 28) : candN k m v ≤ 8 := by
  have := (nm_facts k h).2.1
  unfold candN
  repeat' split
  all_goals omega
theorem best_le {m : List UInt8} {v : Bool} {k : Nat} {c : Int} {n : Nat} (hk : k ≤ 28) (h : Best m v k c n) : n ≤ 8 := by
  rcases h with ⟨h1, _⟩ | ⟨_, i, h1, h2, _⟩
  · omega
  · have := cand_le i m v (by omega); omega

def bestF (m : List UInt8) (v : Bool) : Nat → Int × Nat
  | 0 => (0, 0)
  | k + 1 => if (bestF m v k).2 < candN k m v then (nmChar k, candN k m v) else bestF m v k
/-- The longest reference by the first k names, and that it is the longest. -/
def BF (m : List UInt8) (v : Bool) (k : Nat) (c : Int) (n : Nat) : Prop := Best m v k c n ∧ bestF m v k = (c, n)
theorem bf_more {m : List UInt8} {v : Bool} {k : Nat} {c : Int} {n : Nat} (h : BF m v k c n) (hn : n < candN k m v) : BF m v (k + 1) (nmChar k) (candN k m v) :=
  ⟨best_more h.1 hn, by rw [bestF, h.2, if_pos hn]⟩
theorem bf_same {m : List UInt8} {v : Bool} {k : Nat} {c : Int} {n : Nat} (h : BF m v k c n) (hn : ¬ n < candN k m v) : BF m v (k + 1) c n :=
  ⟨best_same h.1 hn, by rw [bestF, h.2, if_neg hn]⟩

end Go.Proofs.YtbabmkilbbbmoaaDoor

/-
  What 'utf.Bytes' does: of every number its bytes, where the two tables hold what their text says.
-/
namespace Go.Proofs.YtbabmkilbbbmoaaDoor
open Go.RowKit
set_option linter.unusedVariables false

theorem make_1 (w : World) : (Instr.makeSlice 120 (.int .i64 1) (.int .i64 1)).run Tryd.prog w = .ok (.slice (some ⟨w.heap.size, 0, none⟩) 1 1) (w.alloc (.cells #[.int .u8 0] 5)) := by kernel_rfl

theorem make_2 (w : World) : (Instr.makeSlice 120 (.int .i64 2) (.int .i64 2)).run Tryd.prog w = .ok (.slice (some ⟨w.heap.size, 0, none⟩) 2 2) (w.alloc (.cells #[.int .u8 0, .int .u8 0] 5)) := by kernel_rfl

theorem make_3 (w : World) : (Instr.makeSlice 120 (.int .i64 3) (.int .i64 3)).run Tryd.prog w = .ok (.slice (some ⟨w.heap.size, 0, none⟩) 3 3) (w.alloc (.cells #[.int .u8 0, .int .u8 0, .int .u8 0] 5)) := by kernel_rfl

theorem make_4 (w : World) : (Instr.makeSlice 120 (.int .i64 4) (.int .i64 4)).run Tryd.prog w = .ok (.slice (some ⟨w.heap.size, 0, none⟩) 4 4) (w.alloc (.cells #[.int .u8 0, .int .u8 0, .int .u8 0, .int .u8 0] 5)) := by kernel_rfl

theorem ubx_1 {c : Int} (hp : 0 ≤ c) (h1 : c < 128) : [c] = ubI c := by rw [ubI_1 h1]

theorem ubx_2 {c : Int} (hp : 0 ≤ c) (h0 : 128 ≤ c) (h1 : c < 2048) : [192 + c / 64, 128 + c % 64] = ubI c := by
  rw [ubI_2 h0 h1]

theorem ubx_3 {c : Int} (hp : 0 ≤ c) (h0 : 2048 ≤ c) (h1 : c < 65536) : [224 + c / 64 / 64, 128 + c / 64 % 64, 128 + c % 64] = ubI c := by
  rw [ubI_3 h0 h1]
  simp only [List.cons.injEq, and_true]
  omega

theorem ubx_4 {c : Int} (hp : 0 ≤ c) (h0 : 65536 ≤ c) : [240 + c / 64 / 64 / 64, 128 + c / 64 / 64 % 64, 128 + c / 64 % 64, 128 + c % 64] = ubI c := by
  rw [ubI_4 h0]
  simp only [List.cons.injEq, and_true]
  omega

end Go.Proofs.YtbabmkilbbbmoaaDoor

/-
  What 'refs.At' does: what stands at a place of a text, and the place behind it.
-/
namespace Go.Proofs.YtbabmkilbbbmoaaDoor
open Go.RowKit
set_option linter.unusedVariables false

/-- What stands at the beginning of a text that isn't empty, and how many bytes it has; the longest name's character and bytes are handed in. -/
def atWith (l : List UInt8) (c : Int) (n : Nat) : List UInt8 × Int :=
  if ¬ dgt l 0 = 38 then (ub (step l).1, ((step l).2.1 : Int))
  else if 0 < (numAt l).2 then (ub (numC (numAt l).1), (numAt l).2)
  else if 0 < n then (ub c, (n : Int)) else ([38], 1)
/-- Some character and some number of bytes are the longest name's, and the answer is of these. -/
def AtIs (l : List UInt8) (v : Bool) (x : List UInt8) (m : Int) : Prop := ∃ c n, BF (l.drop 1) v 28 c n ∧ atWith l c n = (x, m)

theorem best_ex (m : List UInt8) (v : Bool) : ∀ k, ∃ c n, BF m v k c n
  | 0 => ⟨0, 0, .inl ⟨rfl, rfl, fun j hj => by omega⟩, rfl⟩
  | k + 1 => by
    obtain ⟨c, n, h⟩ := best_ex m v k
    by_cases hn : n < candN k m v
    · exact ⟨_, _, bf_more h hn⟩
    · exact ⟨_, _, bf_same h hn⟩
theorem numG_len (base : Nat) : ∀ (l : List UInt8) (n : Nat), (numG base n l).2 ≤ l.length
  | [], n => by simp [numG]
  | c :: l, n => by
    rw [numG]
    split
    · have := numG_len base l (min (n * base + (digV c.toNat).toNat) 1114112); simp; omega
    · simp
theorem numAt_le (l : List UInt8) : (numAt l).2 ≤ l.length + 4 := by
  unfold numAt
  split
  · split
    · have h1 := numG_len 16 (l.drop 3) 0
      have h2 := semi_le (l.drop (3 + (numG 16 0 (l.drop 3)).2))
      rw [List.length_drop] at h1
      unfold numEnd; split
      · simp; omega
      · simp only []; omega
    · have h1 := numG_len 10 (l.drop 2) 0
      have h2 := semi_le (l.drop (2 + (numG 10 0 (l.drop 2)).2))
      rw [List.length_drop] at h1
      unfold numEnd; split
      · simp; omega
      · simp only []; omega
  · simp; omega
theorem best_isC {m : List UInt8} {v : Bool} {c : Int} {n : Nat} (h : BF m v 28 c n) (hn : 0 < n) : isC c = true := by
  rcases h.1 with ⟨h1, _⟩ | ⟨_, i, hi, _, hc, _⟩
  · omega
  · rw [hc]; exact (nm_facts i hi).2.2.2.2
def atL (l : List UInt8) (v : Bool) : List UInt8 × Int := atWith l (bestF (l.drop 1) v 28).1 (bestF (l.drop 1) v 28).2
theorem atIs_eq {l : List UInt8} {v : Bool} {x : List UInt8} {m : Int} (h : AtIs l v x m) : atL l v = (x, m) := by
  obtain ⟨c, n, hb, h⟩ := h
  rw [atL, hb.2]; exact h
/-! ### how far it goes -/
theorem pre_len {a b : List UInt8} (h : a.isPrefixOf b = true) : a.length ≤ b.length := (List.isPrefixOf_iff_prefix.1 h).length_le
theorem semi_len (l : List UInt8) : semiN l ≤ l.length := by
  unfold semiN
  split
  · rename_i h; have := pre_len h; simpa using this
  · omega
theorem cand_len (k : Nat) (m : List UInt8) (v : Bool) : candN k m v ≤ m.length + 1 := by
  unfold candN
  split
  · rename_i h
    have h1 := pre_len h
    split
    · rename_i h2
      have h3 := semi_len (m.drop (nmName k).length)
      rw [List.length_drop] at h3; omega
    · split <;> omega
  · omega
theorem numAt_len (l : List UInt8) : (numAt l).2 ≤ l.length := by
  unfold numAt
  split
  · rename_i hp
    have hl := pre_len hp
    simp at hl
    split
    · rename_i hx
      have hx' : 2 < l.length ∧ (dgt l 2 = 120 ∨ dgt l 2 = 88) := by simpa [isHex] using hx
      have h1 := numG_len 16 (l.drop 3) 0
      have h2 := semi_len (l.drop (3 + (numG 16 0 (l.drop 3)).2))
      rw [List.length_drop] at h1 h2
      unfold numEnd; split
      · simp
      · simp only []; omega
    · have h1 := numG_len 10 (l.drop 2) 0
      have h2 := semi_len (l.drop (2 + (numG 10 0 (l.drop 2)).2))
      rw [List.length_drop] at h1 h2
      unfold numEnd; split
      · simp
      · simp only []; omega
  · simp
theorem at_bd {l : List UInt8} (v : Bool) (h : l ≠ []) : 1 ≤ (atL l v).2 ∧ (atL l v).2 ≤ l.length ∧ (atL l v).1.length ≤ 4 := by
  have hok := step_ok h
  have hl : 0 < l.length := List.length_pos_iff.2 h
  obtain ⟨c, n, hb⟩ := best_ex (l.drop 1) v 28
  rw [atL, hb.2]
  have hn : n ≤ l.length := by
    rcases hb.1 with ⟨h1, _⟩ | ⟨_, i, hi, hc, _⟩
    · omega
    · have := cand_len i (l.drop 1) v; rw [List.length_drop] at this; omega
  unfold atWith
  split
  · have := sz_le (step l).1
    simp only []; rw [ub_len]; omega
  · split
    · have := numAt_len l
      have := sz_le (numC (numAt l).1)
      simp only []; rw [ub_len]; omega
    · split
      · have := sz_le c
        simp only []; rw [ub_len]; omega
      · simp; omega
theorem at_ne {l : List UInt8} (v : Bool) (h : l ≠ []) : (atL l v).1 ≠ [] := by
  rw [atL]; unfold atWith
  have hu : ∀ c, ub c ≠ [] := fun c => by have := ub_ne c []; simpa using this
  split
  · exact hu _
  · split
    · exact hu _
    · split
      · exact hu _
      · simp

def allF (v : Bool) : Nat → List UInt8 → List UInt8
  | 0, _ => []
  | f + 1, l => if l = [] then [] else (atL l v).1 ++ allF v f (l.drop (atL l v).2.toNat)
def allL (v : Bool) (l : List UInt8) : List UInt8 := allF v l.length l
theorem allF_fuel (v : Bool) : ∀ (f g : Nat) (l : List UInt8), l.length ≤ f → l.length ≤ g → allF v f l = allF v g l
  | 0, 0, l, _, _ => rfl
  | 0, g + 1, l, h, _ => by
    have : l = [] := List.eq_nil_of_length_eq_zero (by omega)
    subst this; simp [allF]
  | f + 1, 0, l, _, h => by
    have : l = [] := List.eq_nil_of_length_eq_zero (by omega)
    subst this; simp [allF]
  | f + 1, g + 1, l, h1, h2 => by
    rw [allF, allF]
    by_cases e : l = []
    · rw [if_pos e, if_pos e]
    · have hb := at_bd v e
      rw [if_neg e, if_neg e, allF_fuel v f g _ (by rw [List.length_drop]; omega) (by rw [List.length_drop]; omega)]
theorem allL_nil (v : Bool) : allL v [] = [] := rfl
theorem allL_cons (v : Bool) {l : List UInt8} (h : l ≠ []) : allL v l = (atL l v).1 ++ allL v (l.drop (atL l v).2.toNat) := by
  have hb := at_bd v h
  have hl : 0 < l.length := List.length_pos_iff.2 h
  rw [allL, show l.length = (l.length - 1) + 1 from by omega, allF, if_neg h, allL]
  congr 1
  exact allF_fuel v _ _ _ (by rw [List.length_drop]; omega) (Nat.le_refl _)
end Go.Proofs.YtbabmkilbbbmoaaDoor

/-
  What 'refs.Escape' does: any text with references.
-/
namespace Go.Proofs.YtbabmkilbbbmoaaDoor
open Go.RowKit
set_option linter.unusedVariables false

theorem cut_cut (l : List UInt8) (a b n : Nat) (h : a ≤ b) : (l.drop a).take (b - a) ++ (l.drop b).take n = (l.drop a).take (b + n - a) := by
  have e : l.drop b = (l.drop a).drop (b - a) := by rw [List.drop_drop]; congr 1; omega
  rw [e, show b + n - a = (b - a) + n by omega, List.take_add]
theorem bs_ne {l : List UInt8} (h : l ≠ []) : ¬ bs l = ByteArray.empty := by
  intro e; apply h; have := congrArg (fun x : ByteArray => x.data.toList) e; simpa [bs_toList] using this
theorem amp_bs : (⟨#[38]⟩ : ByteArray) = bs [38] := rfl
theorem semi_bs : (⟨#[59]⟩ : ByteArray) = bs [59] := rfl

end Go.Proofs.YtbabmkilbbbmoaaDoor

/-
  What 'pen.Close' and 'pen.Chars' do, and the reference's.
-/
namespace Go.Proofs.YtbabmkilbbbmoaaDoor
open Go.RowKit
set_option linter.unusedVariables false

/-- What is told: a text, or that its form is wrong. -/
def toldV (b : Bool) (x : ByteArray) : Value := .tuple #[.string (if b = true then x else ⟨#[]⟩), .int .i64 (if b = true then 0 else 4)]
def closeL (l : List UInt8) : List UInt8 := [60, 47] ++ (l ++ [62])
theorem close_bs (s : ByteArray) : (⟨#[60, 47]⟩ : ByteArray) ++ s ++ ⟨#[62]⟩ = bs (closeL s.data.toList) := by
  have h1 : (⟨#[60, 47]⟩ : ByteArray) = bs [60, 47] := rfl
  have h2 : (⟨#[62]⟩ : ByteArray) = bs [62] := rfl
  rw [h1, h2, bs_add, bs_bs]; unfold closeL; simp

def charsB (l : List UInt8) : Bool := decide (l ≠ []) && goodB l
theorem charsB_no {l : List UInt8} (h : l = []) : charsB l = false := by subst h; rfl
theorem charsB_ok {l : List UInt8} (h : l ≠ []) : charsB l = goodB l := by unfold charsB; rw [decide_eq_true h]; rfl
theorem ne_size {s : ByteArray} (h : 0 < s.size) : s.data.toList ≠ [] := by
  intro e; have := congrArg List.length e; rw [data_len] at this; simp only [List.length_nil] at this; omega
theorem nil_size {s : ByteArray} (h : s.size = 0) : s.data.toList = [] := List.eq_nil_of_length_eq_zero (by rw [data_len]; exact h)

end Go.Proofs.YtbabmkilbbbmoaaDoor

/-
  What 'pen.allRight' and 'pen.hasTwice' do.
-/
namespace Go.Proofs.YtbabmkilbbbmoaaDoor
open Go.RowKit Go.Maps Go.WideMaps
set_option linter.unusedVariables false

/-- How long they may be. -/
def Fits (ats : List (ByteArray × ByteArray)) : Prop := ats.length ≤ 1000 ∧ ∀ k, k < ats.length → (an ats k).size ≤ 10000 ∧ (av ats k).size ≤ 10000
def rightAt (ats : List (ByteArray × ByteArray)) (k : Nat) : Bool := nameB (an ats k).data.toList && goodB (av ats k).data.toList
def rightF (ats : List (ByteArray × ByteArray)) : Nat → Bool
  | 0 => true
  | k + 1 => rightF ats k && rightAt ats k
def rightAs (ats : List (ByteArray × ByteArray)) : Bool := rightF ats ats.length
theorem rightF_no (ats : List (ByteArray × ByteArray)) {k : Nat} (h : rightAt ats k = false) : ∀ n, k < n → rightF ats n = false
  | 0, hn => by omega
  | n + 1, hn => by
    rw [rightF]
    by_cases e : k = n
    · subst e; rw [h]; simp
    · rw [rightF_no ats h n (by omega)]; rfl

/-! ### whether two have one name -/
def keyA (ats : List (ByteArray × ByteArray)) (k : Nat) : Lit := .string (an ats k).data.toList
def putA {H : Type} (ats : List (ByteArray × ByteArray)) : Nat → DataW H
  | 0 => .map []
  | k + 1 => (putA ats k).put (keyA ats k) (.lit (.int .i64 k))
def diffN (ats : List (ByteArray × ByteArray)) : Nat := Maps.size (putA (H := Unit) ats ats.length)
theorem keyA_ok {ats : List (ByteArray × ByteArray)} (hf : Fits ats) {k : Nat} (hk : k < ats.length) : keyOf Tryd.prog 9 (.string (an ats k)) = some (keyA ats k) := by
  refine keyOf_string_mk Tryd.underlying9 ?_
  have := (hf.2 k hk).1
  unfold maxLen; omega

end Go.Proofs.YtbabmkilbbbmoaaDoor

/-
  Two attributes have one name just where the map of names has fewer entries than there are attributes.
-/
namespace Go.Proofs.YtbabmkilbbbmoaaDoor
open Go.RowKit Go.Maps Go.WideMaps
set_option linter.unusedVariables false

/-- Is the name at a place one of the first k ones? -/
def seenF (ats : List (ByteArray × ByteArray)) (i : Nat) : Nat → Bool
  | 0 => false
  | k + 1 => seenF ats i k || decide (an ats k = an ats i)
/-- Of the first n names, are two the same? -/
def dupF (ats : List (ByteArray × ByteArray)) : Nat → Bool
  | 0 => false
  | n + 1 => dupF ats n || seenF ats n n
theorem keyA_lit (ats : List (ByteArray × ByteArray)) (k : Nat) : WideAt.IsKeyLit (keyA ats k) := isKey _
theorem keyA_eq {ats : List (ByteArray × ByteArray)} {k i : Nat} : keyA ats k = keyA ats i ↔ an ats k = an ats i := by
  unfold keyA
  constructor
  · intro h
    have : (an ats k).data.toList = (an ats i).data.toList := by simpa using h
    rw [← bs_self (an ats k), this, bs_self]
  · intro h; rw [h]
theorem put_tidy {H : Type} (ats : List (ByteArray × ByteArray)) : ∀ k, Tidy (putA (H := H) ats k)
  | 0 => tidy_empty
  | k + 1 => (put_tidy ats k).put (isKey _) _
theorem put_has {H : Type} (ats : List (ByteArray × ByteArray)) (i : Nat) : ∀ k, has (putA (H := H) ats k) (keyA ats i) = seenF ats i k
  | 0 => rfl
  | k + 1 => by
    rw [putA, seenF]
    by_cases e : an ats k = an ats i
    · rw [← keyA_eq.2 e, has_put_same (put_tidy ats k).isMap (keyA_lit ats k), decide_eq_true e]; simp
    · rw [has_put_other (fun h => e (keyA_eq.1 h.symm)), put_has ats i k, decide_eq_false e]; simp
theorem put_size (ats : List (ByteArray × ByteArray)) : ∀ k, Maps.size (putA (H := Unit) ats k) ≤ k ∧ (dupF ats k = true ↔ Maps.size (putA (H := Unit) ats k) < k)
  | 0 => ⟨Nat.le_refl _, by constructor
                            · intro h; cases h
                            · intro h; omega⟩
  | k + 1 => by
    have ih := put_size ats k
    rw [putA, size_put (put_tidy ats k), put_has, dupF]
    cases hs : seenF ats k k with
    | true => simp; omega
    | false =>
      simp only [Bool.or_false]
      refine ⟨by simp; omega, ?_⟩
      rw [ih.2]; simp
theorem diff_dup (ats : List (ByteArray × ByteArray)) : dupF ats ats.length = decide (diffN ats < ats.length) := by
  have := (put_size ats ats.length).2
  unfold diffN
  rw [Bool.eq_iff_iff, this, decide_eq_true_eq]
theorem dup_more {ats : List (ByteArray × ByteArray)} {i : Nat} (h : seenF ats i i = true) : ∀ n, i < n → dupF ats n = true
  | 0, hn => by omega
  | n + 1, hn => by
    rw [dupF]
    by_cases e : i = n
    · subst e; rw [h]; simp
    · rw [dup_more h n (by omega)]; rfl
theorem seen_more {ats : List (ByteArray × ByteArray)} {i k : Nat} (h : an ats k = an ats i) : ∀ n, k < n → seenF ats i n = true
  | 0, hn => by omega
  | n + 1, hn => by
    rw [seenF]
    by_cases e : k = n
    · subst e; rw [decide_eq_true h]; simp
    · rw [seen_more h n (by omega)]; rfl
end Go.Proofs.YtbabmkilbbbmoaaDoor

/-
  What 'refs.All' does: all of a text.
-/
namespace Go.Proofs.YtbabmkilbbbmoaaDoor
open Go.RowKit
set_option linter.unusedVariables false

end Go.Proofs.YtbabmkilbbbmoaaDoor

/-
  What 'utf.Clean' does: of every text that isn't too long, it cleaned.
-/
namespace Go.Proofs.YtbabmkilbbbmoaaDoor
open Go.RowKit
set_option linter.unusedVariables false

end Go.Proofs.YtbabmkilbbbmoaaDoor

/-
  The law RefsPlain walked: a text without & is itself, cleaned; and what stands ahead of a text stays ahead of it.
-/
namespace Go.Proofs.YtbabmkilbbbmoaaDoor
open Go.RowKit
set_option linter.unusedVariables false

theorem ssame (x : ByteArray) : (x.toList == x.toList) = true := by simp
theorem at_plain {l : List UInt8} (v : Bool) (h : ¬ dgt l 0 = 38) : atL l v = (ub (step l).1, ((step l).2.1 : Int)) := by
  rw [atL]; unfold atWith; rw [if_pos h]
def noAmp (l : List UInt8) : Prop := ∀ k, k < l.length → ¬ dgt l k = 38
theorem noAmp_drop {l : List UInt8} (h : noAmp l) (n : Nat) : noAmp (l.drop n) := by
  intro k hk
  rw [List.length_drop] at hk
  rw [dgt_drop]; exact h (n + k) (by omega)
theorem all_plain (v : Bool) : ∀ (f : Nat) (l : List UInt8), l.length ≤ f → noAmp l → allL v l = cleanL l
  | 0, l, h, _ => by
    have : l = [] := List.eq_nil_of_length_eq_zero (by omega)
    subst this; rfl
  | f + 1, l, h, hn => by
    by_cases e : l = []
    · subst e; rfl
    · have hl : 0 < l.length := List.length_pos_iff.2 e
      have hok := step_ok e
      rw [allL_cons v e, cleanL_cons e, at_plain v (hn 0 hl)]
      simp only [Int.toNat_natCast]
      rw [all_plain v f _ (by rw [List.length_drop]; omega) (noAmp_drop hn _)]
theorem dgt_app (a b : List UInt8) (k : Nat) (h : k < a.length) : dgt (a ++ b) k = dgt a k := by
  unfold dgt; rw [List.getD, List.getD, List.getElem?_append_left h]
theorem all_ahead (v : Bool) (t : List UInt8) : ∀ (f : Nat) (l : List UInt8), l.length ≤ f → noAmp l → rightB l = true → allL v (l ++ t) = l ++ allL v t
  | 0, l, h, _, _ => by
    have : l = [] := List.eq_nil_of_length_eq_zero (by omega)
    subst this; rfl
  | f + 1, l, h, hn, hr => by
    by_cases e : l = []
    · subst e; rfl
    · have hl : 0 < l.length := List.length_pos_iff.2 e
      have hok := step_ok e
      rw [rightB_cons e, Bool.and_eq_true] at hr
      have htk := step_take e hr.1
      have hst : step (l ++ t) = ((step l).1, (step l).2.1, true) := by
        have : l ++ t = ub (step l).1 ++ (l.drop (step l).2.1 ++ t) := by
          rw [← htk.1, ← List.append_assoc, List.take_append_drop]
        rw [this, step_ub _ _ hok.2.2.2, htk.2]
      have hne : l ++ t ≠ [] := by simp [e]
      have hdrop : (l ++ t).drop (step l).2.1 = l.drop (step l).2.1 ++ t := by
        rw [List.drop_append_of_le_length (by omega)]
      rw [allL_cons v hne, at_plain v (by rw [dgt_app _ _ _ hl]; exact hn 0 hl), hst]
      simp only [Int.toNat_natCast]
      rw [hdrop, all_ahead v t f _ (by rw [List.length_drop]; omega) (noAmp_drop hn _) hr.2, ← List.append_assoc, ← htk.1, List.take_append_drop]
theorem allL_len (v : Bool) : ∀ (f : Nat) (l : List UInt8), l.length ≤ f → (allL v l).length ≤ 4 * l.length
  | 0, l, h => by
    have : l = [] := List.eq_nil_of_length_eq_zero (by omega)
    subst this; simp [allL_nil]
  | f + 1, l, h => by
    by_cases e : l = []
    · subst e; simp [allL_nil]
    · have hb := at_bd v e
      have hl : 0 < l.length := List.length_pos_iff.2 e
      have ih := allL_len v f (l.drop (atL l v).2.toNat) (by rw [List.length_drop]; omega)
      rw [allL_cons v e, List.length_append]
      rw [List.length_drop] at ih
      omega
theorem amp_cases (l : List UInt8) : (∃ k, k < l.length ∧ dgt l k = 38 ∧ ∀ j, j < k → ¬ dgt l j = 38) ∨ noAmp l := by
  have : ∀ n, n ≤ l.length → (∃ k, k < n ∧ dgt l k = 38 ∧ ∀ j, j < k → ¬ dgt l j = 38) ∨ ∀ k, k < n → ¬ dgt l k = 38 := by
    intro n
    induction n with
    | zero => intro _; exact .inr (fun k hk => by omega)
    | succ n ih =>
      intro hn
      rcases ih (by omega) with ⟨k, h1, h2⟩ | h
      · exact .inl ⟨k, by omega, h2⟩
      · by_cases e : dgt l n = 38
        · exact .inl ⟨n, by omega, e, h⟩
        · refine .inr (fun k hk => ?_)
          by_cases hkn : k = n
          · rw [hkn]; exact e
          · exact h k (by omega)
  exact this l.length (Nat.le_refl _)

end Go.Proofs.YtbabmkilbbbmoaaDoor
