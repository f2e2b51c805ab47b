/-
  Entries of a stack, told plainly; a stack in memory, and what an operation may touch.
-/
import Derived.Test.YtdkjdomacilagaaKIn
import Derived.Test.YtdkjdomacilagaaGTr
namespace Go.Proofs.Ytdkjdomacilagaa
open Go.RowKit
set_option linter.unusedVariables false

structure Ent where
  id : Int
  sp : Int
  nm : ByteArray
def e0 : Ent := ⟨0, 0, ⟨#[]⟩⟩
def entV (e : Ent) : Value := .agg #[.int .i64 e.id, .int .i64 e.sp, .string e.nm]
def entL (e : Ent) : List Value := [.int .i64 e.id, .int .i64 e.sp, .string e.nm]
def flatE : List Ent → List Value
  | [] => []
  | e :: r => entL e ++ flatE r
theorem flatE_len (L : List Ent) : (flatE L).length = L.length * 3 := by
  induction L with
  | nil => rfl
  | cons e r ih => simp only [flatE, List.length_append, ih, List.length_cons, entL, List.length_nil]; omega
theorem flatE_app (a b : List Ent) : flatE (a ++ b) = flatE a ++ flatE b := by
  induction a with
  | nil => rfl
  | cons e r ih => simp only [List.cons_append, flatE, ih, List.append_assoc]
theorem flatE_take (L : List Ent) (i : Nat) (h : i ≤ L.length) : (flatE L).take (i * 3) = flatE (L.take i) := by
  have e := congrArg flatE (List.take_append_drop i L)
  rw [flatE_app] at e
  rw [← e, List.take_append_of_le_length (by rw [flatE_len, List.length_take]; omega), List.take_of_length_le (by rw [flatE_len, List.length_take]; omega)]
theorem flatE_drop (L : List Ent) (i : Nat) (h : i ≤ L.length) : (flatE L).drop (i * 3) = flatE (L.drop i) := by
  have e := congrArg flatE (List.take_append_drop i L)
  rw [flatE_app] at e
  have hl : (flatE (L.take i)).length = i * 3 := by rw [flatE_len, List.length_take]; omega
  rw [← e, List.drop_append_of_le_length (by omega), List.drop_eq_nil_of_le (by omega), List.nil_append]
theorem flatE_one (L : List Ent) : ∀ u ∈ flatE L, u.oneCell' = true := by
  induction L with
  | nil => intro u h; cases h
  | cons e r ih =>
    intro u h
    rcases List.mem_append.1 h with h | h
    · simp only [entL, List.mem_cons, List.not_mem_nil, or_false] at h
      rcases h with rfl | rfl | rfl <;> rfl
    · exact ih u h
theorem flatE_at (L : List Ent) (k : Nat) (h : k < L.length) : (flatE L)[k * 3]? = some (.int .i64 (L.getD k e0).id) ∧ (flatE L)[k * 3 + 1]? = some (.int .i64 (L.getD k e0).sp) ∧ (flatE L)[k * 3 + 2]? = some (.string (L.getD k e0).nm) := by
  have hd : (flatE L).drop (k * 3) = entL (L.getD k e0) ++ flatE (L.drop (k + 1)) := by
    rw [flatE_drop L k (by omega), List.drop_eq_getElem_cons h, List.getD, List.getElem?_eq_getElem h]; rfl
  have g : ∀ j, (flatE L)[k * 3 + j]? = (entL (L.getD k e0) ++ flatE (L.drop (k + 1)))[j]? := fun j => by rw [← hd, List.getElem?_drop]
  exact ⟨g 0, g 1, g 2⟩

/-- Blocks that an operation may touch: p, and o. -/
structure Tch (p : Nat) (o : Option Nat) (w w' : World) : Prop where
  os : w'.os = w.os
  tape : w'.tape = w.tape
  output : w'.output = w.output
  size : w.heap.size ≤ w'.heap.size
  block : ∀ k, k < w.heap.size → k ≠ p → some k ≠ o → w'.heap[k]? = w.heap[k]?
theorem Tch.of_below {p : Nat} {o : Option Nat} {w w' : World} (h : Below w.heap.size w w') : Tch p o w w' := ⟨h.os, h.tape, h.output, h.size, fun k hk _ _ => h.block k hk⟩
theorem Tch.below {p B : Nat} {o : Option Nat} {w w' : World} (h : Tch p o w w') (hB : B ≤ w.heap.size) (hp : B ≤ p) (ho : ∀ k, o = some k → B ≤ k) : Below B w w' :=
  ⟨h.os, h.tape, h.output, h.size, fun k hk => h.block k (by omega) (by omega) (fun e => by have := ho k e.symm; omega)⟩

/-- A stack in memory: its pointer's block, its row. -/
def Stk (base p : Nat) (v : Value) (L : List Ent) (w : World) : Prop :=
  Blk w p #[v] 85 ∧ w.ownsRow base 32 3 v L.length (flatE L) ∧ v.ownBlock ≠ some p
/-- What an operation leaves of a stack: the new entries; nothing else is touched. -/
def Upd (base p : Nat) (v : Value) (L' : List Ent) (w w' : World) : Prop :=
  ∃ v', Stk base p v' L' w' ∧ Tch p v.ownBlock w w' ∧ (∀ k, v'.ownBlock = some k → v.ownBlock = some k ∨ w.heap.size ≤ k)
theorem Stk.lt {base p : Nat} {v : Value} {L : List Ent} {w : World} (h : Stk base p v L w) : p < w.heap.size := h.1.lt
theorem Stk.later {base p : Nat} {v : Value} {L : List Ent} {w w' : World} (h : Stk base p v L w) (hb : Below w.heap.size w w') : Stk base p v L w' :=
  ⟨h.1.later hb, ownsRow_below h.2.1 hb, h.2.2⟩
theorem Upd.same {base p : Nat} {v : Value} {L : List Ent} {w w' : World} (h : Stk base p v L w) (hb : Below w.heap.size w w') : Upd base p v L w w' :=
  ⟨v, h.later hb, Tch.of_below hb, fun k hk => Or.inl hk⟩
theorem Upd.after {base p : Nat} {v : Value} {L : List Ent} {w w' w'' : World} (h : Upd base p v L w w') (hb : Below w'.heap.size w' w'') : Upd base p v L w w'' := by
  obtain ⟨v', hs, ht, ho⟩ := h
  exact ⟨v', hs.later hb, ⟨hb.os.trans ht.os, hb.tape.trans ht.tape, hb.output.trans ht.output, Nat.le_trans ht.size hb.size, fun k hk h1 h2 => (hb.block k (Nat.lt_of_lt_of_le hk ht.size)).trans (ht.block k hk h1 h2)⟩, ho⟩
theorem Upd.ahead {base p : Nat} {v : Value} {L : List Ent} {w w' w'' : World} (hb : Below w.heap.size w w') (h : Upd base p v L w' w'') : Upd base p v L w w'' := by
  obtain ⟨v', hs, ht, ho⟩ := h
  refine ⟨v', hs, ⟨ht.os.trans hb.os, ht.tape.trans hb.tape, ht.output.trans hb.output, Nat.le_trans hb.size ht.size, fun k hk h1 h2 => (ht.block k (Nat.lt_of_lt_of_le hk hb.size) h1 h2).trans (hb.block k hk)⟩, fun k hk => ?_⟩
  rcases ho k hk with h | h
  · exact Or.inl h
  · exact Or.inr (Nat.le_trans hb.size h)
theorem Upd.trans {base p : Nat} {v v' : Value} {L L' : List Ent} {w w' w'' : World} (ht : Tch p v.ownBlock w w') (ho : ∀ k, v'.ownBlock = some k → v.ownBlock = some k ∨ w.heap.size ≤ k) (h : Upd base p v' L' w' w'') : Upd base p v L' w w'' := by
  obtain ⟨v'', hs, ht', ho'⟩ := h
  refine ⟨v'', hs, ⟨ht'.os.trans ht.os, ht'.tape.trans ht.tape, ht'.output.trans ht.output, Nat.le_trans ht.size ht'.size, fun k hk h1 h2 => ?_⟩, fun k hk => ?_⟩
  · refine (ht'.block k (Nat.lt_of_lt_of_le hk ht.size) h1 (fun e => ?_)).trans (ht.block k hk h1 h2)
    rcases ho k e.symm with h | h
    · exact h2 h.symm
    · omega
  · rcases ho' k hk with h | h
    · exact ho k h
    · exact Or.inr (Nat.le_trans ht.size h)
/-- Of another block that the operation does not own. -/
theorem Tch.blk {p b : Nat} {o : Option Nat} {w w' : World} {vs : Array Value} {t : TypeId} (h : Tch p o w w') (hb : Blk w b vs t) (h1 : b ≠ p) (h2 : some b ≠ o) : Blk w' b vs t := (h.block b hb.lt h1 h2).trans hb
theorem Tch.row {p base : Nat} {o : Option Nat} {w w' : World} {e : TypeId} {size n : Nat} {v : Value} {xs : List Value} (h : Tch p o w w') (hr : w.ownsRow base e size v n xs) (h1 : v.ownBlock ≠ some p) (h2 : v.ownBlock = none ∨ v.ownBlock ≠ o) : w'.ownsRow base e size v n xs := by
  refine ⟨hr.1, ?_⟩
  rcases hr.2 with hn | ⟨g, cap, cur, rfl, hb, hgg, rest⟩
  · exact .inl hn
  · refine .inr ⟨g, cap, cur, rfl, hb, ?_, rest⟩
    rw [h.block g (Array.getElem?_eq_some_iff.1 hgg).1 (by simpa [Value.ownBlock] using h1) (by simpa [Value.ownBlock] using h2)]
    exact hgg

/-- The row of a stack as cells. -/
theorem Stk.slice {base p : Nat} {v : Value} {L : List Ent} {w : World} (h : Stk base p v L w) : ∃ q cap, v = .slice q L.length cap ∧ L.length ≤ cap ∧ cap ≤ 9223372036854775807 ∧ (0 < L.length → ∃ g, q = some ⟨g, 0, none⟩ ∧ g < w.heap.size) := by
  rcases h.2.1.2 with ⟨rfl, h0⟩ | ⟨g, cap, cur, rfl, hb, hg, hc, hm, _, _⟩
  · exact ⟨none, 0, by rw [h0], by omega, by omega, fun h => by omega⟩
  · exact ⟨_, cap, rfl, hc, by simp only [maxLen] at hm; omega, fun _ => ⟨g, rfl, (Array.getElem?_eq_some_iff.1 hg).1⟩⟩
def Cells3 (g o : Nat) (L : List Ent) (w : World) : Prop := ∀ k, k < L.length → w.cell? ⟨g, o + k * 3, none⟩ = some (.int .i64 (L.getD k e0).id) ∧ w.cell? ⟨g, o + k * 3 + 1, none⟩ = some (.int .i64 (L.getD k e0).sp) ∧ w.cell? ⟨g, o + k * 3 + 2, none⟩ = some (.string (L.getD k e0).nm)
theorem Cells3.below {g o : Nat} {L : List Ent} {w w' : World} (h : Cells3 g o L w) (hb : Below w.heap.size w w') : Cells3 g o L w' := fun k hk => by
  obtain ⟨a, b, c⟩ := h k hk
  have hl : g < w.heap.size := World.block_lt_of_cell? w _ a
  exact ⟨(hb.cell (p := ⟨g, _, none⟩) hl).trans a, (hb.cell (p := ⟨g, _, none⟩) hl).trans b, (hb.cell (p := ⟨g, _, none⟩) hl).trans c⟩
theorem cells3_of_row {base g n cap : Nat} {L : List Ent} {w : World} {e : TypeId} (h : w.ownsRow base e 3 (.slice (some ⟨g, 0, none⟩) n cap) L.length (flatE L)) : Cells3 g 0 L w := by
  intro k hk
  obtain ⟨h1, h2, h3⟩ := flatE_at L k hk
  have c := fun j u hu => h.cells (g := g) rfl j u hu
  have c1 := c _ _ h1
  have c2 := c _ _ h2
  have c3 := c _ _ h3
  rw [Addr.add_lit] at c1 c2 c3
  exact ⟨c1, by rw [Nat.add_assoc]; exact c2, by rw [Nat.add_assoc]; exact c3⟩
theorem Stk.cells {base p g n cap : Nat} {L : List Ent} {w : World} (h : Stk base p (.slice (some ⟨g, 0, none⟩) n cap) L w) : Cells3 g 0 L w := cells3_of_row h.2.1

/-! ### what the operations answer, plainly -/
def nmdB (e : Ent) (ns : List (List UInt8)) : Bool := e.sp == 0 && inB e.nm.toList ns
def htNs : List (List UInt8) := [[104, 116, 109, 108], [116, 97, 98, 108, 101]]
def ouNs : List (List UInt8) := [[111, 108], [117, 108]]
def lpNs : List (List UInt8) := [[108, 105], [112]]
def endsE (scope : Int) (e : Ent) : Bool := if scope = 2 then nmdB e htNs else (scope == 1 && nmdB e ouNs) || endB e.sp e.nm.toList
/-- In, over the entries from the top on. -/
def inR (scope : Int) (ns : List (List UInt8)) : List Ent → Bool
  | [] => false
  | e :: r => if nmdB e ns then true else if endsE scope e then false else inR scope ns r
def inS (scope : Int) (ns : List (List UInt8)) (L : List Ent) : Bool := inR scope ns L.reverse
/-- How many are taken off from the top on. -/
def offN (f : Ent → Bool) (L : List Ent) : Nat := (L.reverse.takeWhile f).length
def impB (but : ByteArray) (e : Ent) : Bool := nmdB e lpNs && !(e.nm.toList == but.toList)
/-- The last place of an entry of a number; -1: none. -/
def findR (id : Int) : List Ent → Int → Int
  | [], _ => -1
  | e :: r, n => if e.id = id then n else findR id r (n - 1)
def findE (id : Int) (L : List Ent) : Int := findR id L.reverse ((L.length : Int) - 1)
theorem offN_le (f : Ent → Bool) (L : List Ent) : offN f L ≤ L.length := by
  unfold offN
  have h := congrArg List.length (List.takeWhile_append_dropWhile (p := f) (l := L.reverse))
  rw [List.length_append, List.length_reverse] at h
  omega
theorem offN_snoc (f : Ent → Bool) (L : List Ent) (e : Ent) : offN f (L ++ [e]) = if f e then offN f L + 1 else 0 := by
  unfold offN
  rw [List.reverse_append, List.reverse_singleton, List.singleton_append, List.takeWhile_cons]
  split <;> simp
theorem snoc_of (L : List Ent) (h : 0 < L.length) : ∃ a e, L = a ++ [e] := by
  refine ⟨L.dropLast, L.getLast (by intro c; rw [c] at h; simp at h), (List.dropLast_concat_getLast _).symm⟩
theorem getD_snoc (a : List Ent) (e : Ent) : (a ++ [e]).getD a.length e0 = e := by simp [List.getD]
theorem getD_get {L : List Ent} {k : Nat} (h : k < L.length) : L.getD k e0 = L[k] := by rw [List.getD, List.getElem?_eq_getElem h]; rfl
end Go.Proofs.Ytdkjdomacilagaa
