/-
  Entries of a list, told plainly; a list in memory, and what an operation may touch.
-/
import Derived.Test.YtabajhbghjfhoaaAIn
namespace Go.Proofs.Ytabajhbghjfhoaa
open Go.RowKit
set_option linter.unusedVariables false

structure AEnt where
  mr : Bool
  id : Int
  nm : ByteArray
  q : Option Addr
  n : Nat
  c : Nat
def e0 : AEnt := ⟨false, 0, ⟨#[]⟩, none, 0, 0⟩
def entV (e : AEnt) : Value := .agg #[.bool e.mr, .int .i64 e.id, .string e.nm, .slice e.q e.n e.c]
def entL (e : AEnt) : List Value := [.bool e.mr, .int .i64 e.id, .string e.nm, .slice e.q e.n e.c]
def flatE : List AEnt → List Value
  | [] => []
  | e :: r => entL e ++ flatE r
theorem flatE_len (L : List AEnt) : (flatE L).length = L.length * 4 := by
  induction L with
  | nil => rfl
  | cons e r ih => simp only [flatE, List.length_append, ih, List.length_cons, entL, List.length_nil]; omega
theorem flatE_app (a b : List AEnt) : flatE (a ++ b) = flatE a ++ flatE b := by
  induction a with
  | nil => rfl
  | cons e r ih => simp only [List.cons_append, flatE, ih, List.append_assoc]
theorem flatE_take (L : List AEnt) (i : Nat) (h : i ≤ L.length) : (flatE L).take (i * 4) = flatE (L.take i) := by
  have e := congrArg flatE (List.take_append_drop i L)
  rw [flatE_app] at e
  rw [← e, List.take_append_of_le_length (by rw [flatE_len, List.length_take]; omega), List.take_of_length_le (by rw [flatE_len, List.length_take]; omega)]
theorem flatE_drop (L : List AEnt) (i : Nat) (h : i ≤ L.length) : (flatE L).drop (i * 4) = flatE (L.drop i) := by
  have e := congrArg flatE (List.take_append_drop i L)
  rw [flatE_app] at e
  have hl : (flatE (L.take i)).length = i * 4 := by rw [flatE_len, List.length_take]; omega
  rw [← e, List.drop_append_of_le_length (by omega), List.drop_eq_nil_of_le (by omega), List.nil_append]
theorem flatE_one (L : List AEnt) : ∀ u ∈ flatE L, u.oneCell' = true := by
  induction L with
  | nil => intro u h; cases h
  | cons e r ih =>
    intro u h
    rcases List.mem_append.1 h with h | h
    · simp only [entL, List.mem_cons, List.not_mem_nil, or_false] at h
      rcases h with rfl | rfl | rfl | rfl <;> rfl
    · exact ih u h
theorem flatE_at (L : List AEnt) (k : Nat) (h : k < L.length) : (flatE L)[k * 4]? = some (.bool (L.getD k e0).mr) ∧ (flatE L)[k * 4 + 1]? = some (.int .i64 (L.getD k e0).id) ∧ (flatE L)[k * 4 + 2]? = some (.string (L.getD k e0).nm) ∧ (flatE L)[k * 4 + 3]? = some (.slice (L.getD k e0).q (L.getD k e0).n (L.getD k e0).c) := by
  have hd : (flatE L).drop (k * 4) = entL (L.getD k e0) ++ flatE (L.drop (k + 1)) := by
    rw [flatE_drop L k (by omega), List.drop_eq_getElem_cons h, List.getD, List.getElem?_eq_getElem h]; rfl
  have g : ∀ j, (flatE L)[k * 4 + j]? = (entL (L.getD k e0) ++ flatE (L.drop (k + 1)))[j]? := fun j => by rw [← hd, List.getElem?_drop]
  exact ⟨g 0, g 1, g 2, g 3⟩

/-- Blocks that an operation may touch: p, and o. -/
structure Tch (p : Nat) (o : Option Nat) (w w' : World) : Prop where
  os : w'.os = w.os
  tape : w'.tape = w.tape
  output : w'.output = w.output
  size : w.heap.size ≤ w'.heap.size
  block : ∀ k, k < w.heap.size → k ≠ p → some k ≠ o → w'.heap[k]? = w.heap[k]?
theorem Tch.of_below {p : Nat} {o : Option Nat} {w w' : World} (h : Below w.heap.size w w') : Tch p o w w' := ⟨h.os, h.tape, h.output, h.size, fun k hk _ _ => h.block k hk⟩
theorem Tch.below {p B : Nat} {o : Option Nat} {w w' : World} (h : Tch p o w w') (hB : B ≤ w.heap.size) (hp : B ≤ p) (ho : ∀ k, o = some k → B ≤ k) : Below B w w' :=
  ⟨h.os, h.tape, h.output, h.size, fun k hk => h.block k (by omega) (by omega) (fun e => by have := ho k e.symm; omega)⟩

/-- A stack in memory: its pointer's block, its row. -/
def Stk (base p : Nat) (v : Value) (L : List AEnt) (w : World) : Prop :=
  Blk w p #[v] 94 ∧ w.ownsRow base 58 4 v L.length (flatE L) ∧ v.ownBlock ≠ some p
/-- What an operation leaves of a stack: the new entries; nothing else is touched. -/
def Upd (base p : Nat) (v : Value) (L' : List AEnt) (w w' : World) : Prop :=
  ∃ v', Stk base p v' L' w' ∧ Tch p v.ownBlock w w' ∧ (∀ k, v'.ownBlock = some k → v.ownBlock = some k ∨ w.heap.size ≤ k)
theorem Stk.lt {base p : Nat} {v : Value} {L : List AEnt} {w : World} (h : Stk base p v L w) : p < w.heap.size := h.1.lt
theorem Stk.later {base p : Nat} {v : Value} {L : List AEnt} {w w' : World} (h : Stk base p v L w) (hb : Below w.heap.size w w') : Stk base p v L w' :=
  ⟨h.1.later hb, ownsRow_below h.2.1 hb, h.2.2⟩
theorem Upd.same {base p : Nat} {v : Value} {L : List AEnt} {w w' : World} (h : Stk base p v L w) (hb : Below w.heap.size w w') : Upd base p v L w w' :=
  ⟨v, h.later hb, Tch.of_below hb, fun k hk => Or.inl hk⟩
theorem Upd.after {base p : Nat} {v : Value} {L : List AEnt} {w w' w'' : World} (h : Upd base p v L w w') (hb : Below w'.heap.size w' w'') : Upd base p v L w w'' := by
  obtain ⟨v', hs, ht, ho⟩ := h
  exact ⟨v', hs.later hb, ⟨hb.os.trans ht.os, hb.tape.trans ht.tape, hb.output.trans ht.output, Nat.le_trans ht.size hb.size, fun k hk h1 h2 => (hb.block k (Nat.lt_of_lt_of_le hk ht.size)).trans (ht.block k hk h1 h2)⟩, ho⟩
theorem Upd.ahead {base p : Nat} {v : Value} {L : List AEnt} {w w' w'' : World} (hb : Below w.heap.size w w') (h : Upd base p v L w' w'') : Upd base p v L w w'' := by
  obtain ⟨v', hs, ht, ho⟩ := h
  refine ⟨v', hs, ⟨ht.os.trans hb.os, ht.tape.trans hb.tape, ht.output.trans hb.output, Nat.le_trans hb.size ht.size, fun k hk h1 h2 => (ht.block k (Nat.lt_of_lt_of_le hk hb.size) h1 h2).trans (hb.block k hk)⟩, fun k hk => ?_⟩
  rcases ho k hk with h | h
  · exact Or.inl h
  · exact Or.inr (Nat.le_trans hb.size h)
theorem Upd.trans {base p : Nat} {v v' : Value} {L L' : List AEnt} {w w' w'' : World} (ht : Tch p v.ownBlock w w') (ho : ∀ k, v'.ownBlock = some k → v.ownBlock = some k ∨ w.heap.size ≤ k) (h : Upd base p v' L' w' w'') : Upd base p v L' w w'' := by
  obtain ⟨v'', hs, ht', ho'⟩ := h
  refine ⟨v'', hs, ⟨ht'.os.trans ht.os, ht'.tape.trans ht.tape, ht'.output.trans ht.output, Nat.le_trans ht.size ht'.size, fun k hk h1 h2 => ?_⟩, fun k hk => ?_⟩
  · refine (ht'.block k (Nat.lt_of_lt_of_le hk ht.size) h1 (fun e => ?_)).trans (ht.block k hk h1 h2)
    rcases ho k e.symm with h | h
    · exact h2 h.symm
    · omega
  · rcases ho' k hk with h | h
    · exact ho k h
    · exact Or.inr (Nat.le_trans ht.size h)
/-- Of another block that the operation does not own. -/
theorem Tch.blk {p b : Nat} {o : Option Nat} {w w' : World} {vs : Array Value} {t : TypeId} (h : Tch p o w w') (hb : Blk w b vs t) (h1 : b ≠ p) (h2 : some b ≠ o) : Blk w' b vs t := (h.block b hb.lt h1 h2).trans hb
theorem Tch.row {p base : Nat} {o : Option Nat} {w w' : World} {e : TypeId} {size n : Nat} {v : Value} {xs : List Value} (h : Tch p o w w') (hr : w.ownsRow base e size v n xs) (h1 : v.ownBlock ≠ some p) (h2 : v.ownBlock = none ∨ v.ownBlock ≠ o) : w'.ownsRow base e size v n xs := by
  refine ⟨hr.1, ?_⟩
  rcases hr.2 with hn | ⟨g, cap, cur, rfl, hb, hgg, rest⟩
  · exact .inl hn
  · refine .inr ⟨g, cap, cur, rfl, hb, ?_, rest⟩
    rw [h.block g (Array.getElem?_eq_some_iff.1 hgg).1 (by simpa [Value.ownBlock] using h1) (by simpa [Value.ownBlock] using h2)]
    exact hgg

/-- The row of a stack as cells. -/
theorem Stk.slice {base p : Nat} {v : Value} {L : List AEnt} {w : World} (h : Stk base p v L w) : ∃ q cap, v = .slice q L.length cap ∧ L.length ≤ cap ∧ cap ≤ 9223372036854775807 ∧ (0 < L.length → ∃ g, q = some ⟨g, 0, none⟩ ∧ g < w.heap.size) := by
  rcases h.2.1.2 with ⟨rfl, h0⟩ | ⟨g, cap, cur, rfl, hb, hg, hc, hm, _, _⟩
  · exact ⟨none, 0, by rw [h0], by omega, by omega, fun h => by omega⟩
  · exact ⟨_, cap, rfl, hc, by simp only [maxLen] at hm; omega, fun _ => ⟨g, rfl, (Array.getElem?_eq_some_iff.1 hg).1⟩⟩
def Cells4 (g o : Nat) (L : List AEnt) (w : World) : Prop := ∀ k, k < L.length → w.cell? ⟨g, o + k * 4, none⟩ = some (.bool (L.getD k e0).mr) ∧ w.cell? ⟨g, o + k * 4 + 1, none⟩ = some (.int .i64 (L.getD k e0).id) ∧ w.cell? ⟨g, o + k * 4 + 2, none⟩ = some (.string (L.getD k e0).nm) ∧ w.cell? ⟨g, o + k * 4 + 3, none⟩ = some (.slice (L.getD k e0).q (L.getD k e0).n (L.getD k e0).c)
theorem Cells4.below {g o : Nat} {L : List AEnt} {w w' : World} (h : Cells4 g o L w) (hb : Below w.heap.size w w') : Cells4 g o L w' := fun k hk => by
  obtain ⟨a, b, c, d⟩ := h k hk
  have hl : g < w.heap.size := World.block_lt_of_cell? w _ a
  exact ⟨(hb.cell (p := ⟨g, _, none⟩) hl).trans a, (hb.cell (p := ⟨g, _, none⟩) hl).trans b, (hb.cell (p := ⟨g, _, none⟩) hl).trans c, (hb.cell (p := ⟨g, _, none⟩) hl).trans d⟩
theorem cells4_of_row {base g n cap : Nat} {L : List AEnt} {w : World} {e : TypeId} (h : w.ownsRow base e 4 (.slice (some ⟨g, 0, none⟩) n cap) L.length (flatE L)) : Cells4 g 0 L w := by
  intro k hk
  obtain ⟨h1, h2, h3, h4⟩ := flatE_at L k hk
  have c := fun j u hu => h.cells (g := g) rfl j u hu
  have c1 := c _ _ h1
  have c2 := c _ _ h2
  have c3 := c _ _ h3
  have c4 := c _ _ h4
  rw [Addr.add_lit] at c1 c2 c3 c4
  exact ⟨c1, by rw [Nat.add_assoc]; exact c2, by rw [Nat.add_assoc]; exact c3, by rw [Nat.add_assoc]; exact c4⟩
theorem Stk.cells {base p g n cap : Nat} {L : List AEnt} {w : World} (h : Stk base p (.slice (some ⟨g, 0, none⟩) n cap) L w) : Cells4 g 0 L w := cells4_of_row h.2.1

/-! ### what the operations answer, plainly -/
/-- The last place of an entry that is asked for; -1: none. -/
def lastR (f : AEnt → Bool) : List AEnt → Int → Int
  | [], _ => -1
  | e :: r, n => if f e then n else lastR f r (n - 1)
def lastE (f : AEnt → Bool) (L : List AEnt) : Int := lastR f L.reverse ((L.length : Int) - 1)
theorem lastE_app (f : AEnt → Bool) (a : List AEnt) (x : AEnt) : lastE f (a ++ [x]) = if f x then (a.length : Int) else lastE f a := by
  unfold lastE
  rw [List.reverse_append, List.reverse_singleton, List.singleton_append, lastR, List.length_append, List.length_singleton]
  have e : (((a.length + 1 : Nat) : Int) - 1) = (a.length : Int) := by omega
  rw [e]
theorem lastE_nil (f : AEnt → Bool) : lastE f [] = -1 := rfl
theorem snoc_of (L : List AEnt) (h : 0 < L.length) : ∃ a e, L = a ++ [e] := by
  refine ⟨L.dropLast, L.getLast (by intro c; rw [c] at h; simp at h), (List.dropLast_concat_getLast _).symm⟩
theorem lastE_lt (f : AEnt → Bool) (L : List AEnt) : lastE f L < L.length ∧ -1 ≤ lastE f L := by
  induction h : L.length generalizing L with
  | zero => obtain rfl := List.eq_nil_of_length_eq_zero h; rw [lastE_nil]; omega
  | succ n ih =>
    obtain ⟨a, x, rfl⟩ := snoc_of L (by omega)
    rw [lastE_app]
    have hl : a.length = n := by simp at h; exact h
    have := ih a hl
    split <;> omega
theorem getD_get {L : List AEnt} {k : Nat} (h : k < L.length) : L.getD k e0 = L[k] := by rw [List.getD, List.getElem?_eq_getElem h]; rfl
theorem take_snoc2 (L : List AEnt) (k : Nat) (h : k < L.length) : L.take (L.length - k) = L.take (L.length - (k + 1)) ++ [L.getD (L.length - 1 - k) e0] := by
  have hl : L.length - (k + 1) < L.length := by omega
  rw [show L.length - k = (L.length - (k + 1)) + 1 by omega, List.take_add_one, List.getElem?_eq_getElem hl, show L.length - 1 - k = L.length - (k + 1) by omega, getD_get hl]
  rfl
end Go.Proofs.Ytabajhbghjfhoaa
