/-
  What 'toks.attribute' does on the whole, and the parts of a tag told plainly.
-/
import Derived.Test.YtakjlolmmoladaaGreatDoorTAr
import Derived.Test.YtakjlolmmoladaaGreatDoorAv
namespace Go.Proofs.YtakjlolmmoladaaGreatDoor
open Go.RowKit Go.Maps Go.WideMaps
set_option linter.unusedVariables false

/-- The attribute at a place: its value, and the place behind it. -/
def aqE (s : ByteArray) (i : Nat) : Bool := [61].isPrefixOf (s.data.toList.drop (naB s i))
def aqV (s : ByteArray) (i : Nat) : ByteArray := if aqE s i = true then bs (allL true (valS s (naV s i)).data.toList) else ⟨#[]⟩
def aqB (s : ByteArray) (i : Nat) : Nat := if aqE s i = true then valE s (naV s i) else naB s i
theorem attribute_any (s : ByteArray) (i : Nat) (w : World) (ht : Tab4 w) (hm : Mx w) (hi : i < s.size) (hs : s.size ≤ 100000) :
    Calls Tryz.prog 48 #[.string s, .int .i64 (i : Int)] w fun e w' => e = .returned (.tuple #[attrV (naN s i) (aqV s i), .int .i64 (aqB s i : Int)]) ∧ Below w.heap.size w w' := by
  cases h : aqE s i with
  | true =>
    have e1 : aqV s i = bs (allL true (valS s (naV s i)).data.toList) := by unfold aqV; rw [if_pos h]
    have e2 : aqB s i = valE s (naV s i) := by unfold aqB; rw [if_pos h]
    rw [e1, e2]; exact attribute_eq s i w ht hm hi hs h
  | false =>
    have n1 : ¬ aqE s i = true := by rw [h]; decide
    have e1 : aqV s i = ⟨#[]⟩ := by unfold aqV; rw [if_neg n1]
    have e2 : aqB s i = naB s i := by unfold aqB; rw [if_neg n1]
    rw [e1, e2]; exact attribute_no s i w hi hs h
theorem cutE_le (s : ByteArray) (i : Nat) (p : List UInt8) (hi : i ≤ s.size) : cutE s i p ≤ s.size ∧ i ≤ cutE s i p := by
  unfold cutE
  split
  · rename_i h
    unfold cutL
    unfold Lib.cut at h ⊢
    split at h
    · rename_i h0
      rw [if_pos h0]
      have := Lib.index_room (s.data.toList.drop i) p h0
      rw [List.length_drop, data_len] at this
      simp only [List.length_take, List.length_drop, data_len]
      omega
    · cases h
  · exact ⟨Nat.le_refl _, hi⟩
theorem pre1 {s : ByteArray} {i : Nat} {c : UInt8} (h : [c].isPrefixOf (s.data.toList.drop i) = true) : i < s.size := by
  have : 0 < (s.data.toList.drop i).length := by
    cases h' : s.data.toList.drop i with
    | nil => rw [h'] at h; simp [List.isPrefixOf] at h
    | cons c t => simp
  rw [List.length_drop, data_len] at this; omega
theorem valE_le (s : ByteArray) (i : Nat) (hi : i ≤ s.size) : valE s i ≤ s.size ∧ i ≤ valE s i := by
  unfold valE
  split
  · rename_i h
    have := cutE_le s (i + 1) [34] (by have := pre1 h; omega)
    omega
  · split
    · rename_i h
      have := cutE_le s (i + 1) [39] (by have := pre1 h; omega)
      omega
    · exact seekN_le (uvP s) hi
theorem aqB_le (s : ByteArray) (i : Nat) (hi : i < s.size) : aqB s i ≤ s.size ∧ i < aqB s i := by
  have h1 := na_le s i hi
  have h2 := nb_le s i hi
  unfold aqB
  split
  · rename_i h
    have hb := pre1 h
    have h3 : naV s i ≤ s.size ∧ naB s i + 1 ≤ naV s i := seekN_le (nsP s) (n := s.size) (k := naB s i + 1) (by omega)
    have h4 := valE_le s (naV s i) h3.1
    omega
  · omega

/-- Is there an attribute of a name? -/
def hasN (ats : List (ByteArray × ByteArray)) (n : ByteArray) : Bool := ats.any fun a => decide (a.1 = n)
/-- What stands behind a tag's name: the place at which it ends, its attributes, and whether it closes itself. -/
def partsF (s : ByteArray) : Nat → Nat → List (ByteArray × ByteArray) → Bool → Nat × List (ByteArray × ByteArray) × Bool
  | 0, i, ats, f => (i, ats, f)
  | k + 1, i, ats, f =>
    if i < s.size then
      if dgt s.data.toList i = 47 then partsF s k (i + 1) ats ([47, 62].isPrefixOf (s.data.toList.drop i))
      else if spN (dgt s.data.toList i) = true then partsF s k (i + 1) ats f
      else if dgt s.data.toList i = 62 then (i, ats, f)
      else if hasN ats (naN s i) = true then partsF s k (aqB s i) ats f
      else partsF s k (aqB s i) (ats ++ [(naN s i, aqV s i)]) f
    else (i, ats, f)
theorem parts_end {s : ByteArray} {k i : Nat} {ats : List (ByteArray × ByteArray)} {f : Bool} (h : s.size ≤ i) : partsF s k i ats f = (i, ats, f) := by
  cases k with
  | zero => rfl
  | succ k => rw [partsF, if_neg (by omega)]
theorem parts_slash {s : ByteArray} {k i : Nat} {ats : List (ByteArray × ByteArray)} {f : Bool} (h : i < s.size) (hb : dgt s.data.toList i = 47) : partsF s (k + 1) i ats f = partsF s k (i + 1) ats ([47, 62].isPrefixOf (s.data.toList.drop i)) := by
  rw [partsF, if_pos h, if_pos hb]
theorem parts_space {s : ByteArray} {k i : Nat} {ats : List (ByteArray × ByteArray)} {f : Bool} (h : i < s.size) (hn : ¬ dgt s.data.toList i = 47) (hb : spN (dgt s.data.toList i) = true) : partsF s (k + 1) i ats f = partsF s k (i + 1) ats f := by
  rw [partsF, if_pos h, if_neg hn, if_pos hb]
theorem parts_gt {s : ByteArray} {k i : Nat} {ats : List (ByteArray × ByteArray)} {f : Bool} (h : i < s.size) (hb : dgt s.data.toList i = 62) : partsF s (k + 1) i ats f = (i, ats, f) := by
  rw [partsF, if_pos h, if_neg (by omega), if_neg (by rw [hb]; decide), if_pos hb]
theorem parts_twice {s : ByteArray} {k i : Nat} {ats : List (ByteArray × ByteArray)} {f : Bool} (h : i < s.size) (h1 : ¬ dgt s.data.toList i = 47) (h2 : spN (dgt s.data.toList i) = false) (h3 : ¬ dgt s.data.toList i = 62) (hb : hasN ats (naN s i) = true) : partsF s (k + 1) i ats f = partsF s k (aqB s i) ats f := by
  rw [partsF, if_pos h, if_neg h1, if_neg (by rw [h2]; decide), if_neg h3, if_pos hb]
theorem parts_new {s : ByteArray} {k i : Nat} {ats : List (ByteArray × ByteArray)} {f : Bool} (h : i < s.size) (h1 : ¬ dgt s.data.toList i = 47) (h2 : spN (dgt s.data.toList i) = false) (h3 : ¬ dgt s.data.toList i = 62) (hb : hasN ats (naN s i) = false) : partsF s (k + 1) i ats f = partsF s k (aqB s i) (ats ++ [(naN s i, aqV s i)]) f := by
  rw [partsF, if_pos h, if_neg h1, if_neg (by rw [h2]; decide), if_neg h3, if_neg (by rw [hb]; decide)]

/-- The map of names, one behind the other. -/
def nkey (n : ByteArray) : Lit := .string n.data.toList
def putN {H : Type} (ats : List (ByteArray × ByteArray)) : DataW H := ats.foldl (fun (p : DataW H × Nat) a => (p.1.put (nkey a.1) (.lit (.int .i64 (p.2 : Int))), p.2 + 1)) (.map [], 0) |>.1
theorem putN_fold {H : Type} (ats : List (ByteArray × ByteArray)) : ∀ (D : DataW H) (n : Nat), (ats.foldl (fun (p : DataW H × Nat) a => (p.1.put (nkey a.1) (.lit (.int .i64 (p.2 : Int))), p.2 + 1)) (D, n)).2 = n + ats.length := by
  induction ats with
  | nil => intro D n; rfl
  | cons a l ih => intro D n; rw [List.foldl_cons, ih]; simp; omega
theorem putN_snoc {H : Type} (ats : List (ByteArray × ByteArray)) (a : ByteArray × ByteArray) : putN (H := H) (ats ++ [a]) = (putN ats).put (nkey a.1) (.lit (.int .i64 (ats.length : Int))) := by
  unfold putN
  rw [List.foldl_append]
  simp only [List.foldl_cons, List.foldl_nil]
  rw [putN_fold]
  simp
theorem nkey_lit (n : ByteArray) : WideAt.IsKeyLit (nkey n) := isKey _
theorem nkey_eq {a b : ByteArray} : nkey a = nkey b ↔ a = b := by
  unfold nkey
  constructor
  · intro h
    have : a.data.toList = b.data.toList := by simpa using h
    rw [← bs_self a, this, bs_self]
  · intro h; rw [h]
theorem putN_all {H : Type} (n : ByteArray) : ∀ (k : Nat) (ats : List (ByteArray × ByteArray)), ats.length = k → Tidy (putN (H := H) ats) ∧ has (putN (H := H) ats) (nkey n) = hasN ats n
  | 0, ats, h => by
    obtain rfl := List.eq_nil_of_length_eq_zero h
    exact ⟨tidy_empty, rfl⟩
  | k + 1, ats, h => by
    have hne : ats ≠ [] := by intro e; rw [e] at h; simp at h
    obtain ⟨l, a, rfl⟩ : ∃ l a, ats = l ++ [a] := ⟨ats.dropLast, ats.getLast hne, (List.dropLast_concat_getLast hne).symm⟩
    have hl : l.length = k := by simpa using h
    obtain ⟨t, e⟩ := putN_all (H := H) n k l hl
    rw [putN_snoc]
    refine ⟨t.put (nkey_lit _) _, ?_⟩
    have hh : hasN (l ++ [a]) n = (hasN l n || decide (a.1 = n)) := by simp [hasN]
    rw [hh]
    by_cases c : a.1 = n
    · rw [c, has_put_same t.isMap (nkey_lit n), decide_eq_true rfl]; simp
    · rw [has_put_other (fun h => c (nkey_eq.1 h.symm)), e, decide_eq_false c]; simp
theorem putN_has {H : Type} (ats : List (ByteArray × ByteArray)) (n : ByteArray) : has (putN (H := H) ats) (nkey n) = hasN ats n := (putN_all n _ ats rfl).2
theorem nkey_ok {n : ByteArray} (h : n.size ≤ 100000) : keyOf Tryz.prog 9 (.string n) = some (nkey n) := by
  refine keyOf_string_mk Tryz.underlying9 ?_
  unfold maxLen; omega
/-- The cells of attributes, one behind the other. -/
def flatA (ats : List (ByteArray × ByteArray)) : List Value := ats.flatMap fun a => [.string a.1, .string a.2]
theorem flatA_len (ats : List (ByteArray × ByteArray)) : (flatA ats).length = ats.length * 2 := by
  induction ats with
  | nil => rfl
  | cons a l ih => rw [flatA, List.flatMap_cons, List.length_append]; unfold flatA at ih; rw [ih]; simp; omega
theorem flatA_snoc (ats : List (ByteArray × ByteArray)) (a : ByteArray × ByteArray) : flatA (ats ++ [a]) = flatA ats ++ [.string a.1, .string a.2] := by simp [flatA]
theorem flatA_get (ats : List (ByteArray × ByteArray)) : ∀ k, k < ats.length → (flatA ats)[k * 2]? = some (.string (an ats k)) ∧ (flatA ats)[k * 2 + 1]? = some (.string (av ats k)) := by
  induction ats with
  | nil => intro k h; simp at h
  | cons a l ih =>
    intro k h
    cases k with
    | zero => exact ⟨rfl, rfl⟩
    | succ k =>
      have := ih k (by simpa using h)
      have e1 : (flatA (a :: l))[(k + 1) * 2]? = (flatA l)[k * 2]? := by
        rw [show (k + 1) * 2 = k * 2 + 1 + 1 by omega]; rfl
      have e2 : (flatA (a :: l))[(k + 1) * 2 + 1]? = (flatA l)[k * 2 + 1]? := by
        rw [show (k + 1) * 2 + 1 = k * 2 + 1 + 1 + 1 by omega]; rfl
      rw [e1, e2]
      exact this
theorem cells_of_owns {w : World} {base : Nat} {v : Value} {ats : List (ByteArray × ByteArray)} (h : w.ownsRow base 51 2 v ats.length (flatA ats)) : ∃ q cap, v = .slice q ats.length cap ∧ (ats = [] ∨ ∃ g, q = some ⟨g, 0, none⟩ ∧ (base ≤ g ∧ ats.length ≤ cap) ∧ Cells2 g 0 ats w) := by
  obtain ⟨_, h⟩ := h
  rcases h with ⟨rfl, h0⟩ | ⟨g, cap, cur, rfl, h1, h2, h3, h4, h5, h6⟩
  · exact ⟨none, 0, by rw [h0], Or.inl (List.eq_nil_of_length_eq_zero h0)⟩
  · refine ⟨_, cap, rfl, Or.inr ⟨g, rfl, ⟨h1, by omega⟩, fun k hk => ?_⟩⟩
    have key : ∀ j x, (flatA ats)[j]? = some x → w.cell? ⟨g, 0 + j, none⟩ = some x := fun j x hj => by
      rw [Nat.zero_add, Joins.cell_of_block h2]
      rw [← h6, List.getElem?_take] at hj
      split at hj
      · simpa using hj
      · cases hj
    have := flatA_get ats k hk
    exact ⟨key _ _ this.1, by rw [Nat.add_assoc]; exact key _ _ this.2⟩
end Go.Proofs.YtakjlolmmoladaaGreatDoor
