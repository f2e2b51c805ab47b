/-
  Nodes of an arena as they lie in memory; an arena in memory; what an operation may touch.
-/
import Derived.Test.YtabajhbghjfhoabBk
import Derived.Laws.EntriesVeiled
import Derived.Maps.AppendAt
namespace Go.Proofs.Ytabajhbghjfhoab
open Go.RowKit
set_option linter.unusedVariables false
set_option linter.unusedSimpArgs false

def ptr (p : Nat) : Value := .pointer (some ⟨p, 0, none⟩)
/-- A slice's header. -/
structure Sli where
  q : Option Addr
  n : Nat
  c : Nat
def s0 : Sli := ⟨none, 0, 0⟩
def sV (s : Sli) : Value := .slice s.q s.n s.c
/-- A node of an arena, as its cells lie. -/
structure NEnt where
  kd : Int
  sp : Int
  nm : ByteArray
  a : Sli
  t : Sli
  pr : Int
  k : Sli
def n0 : NEnt := ⟨0, 0, ⟨#[]⟩, s0, s0, 0, s0⟩
def nodA (e : NEnt) : Array Value := #[.int .i64 e.kd, .int .i64 e.sp, .string e.nm, .slice e.a.q e.a.n e.a.c, .slice e.t.q e.t.n e.t.c, .int .i64 e.pr, .slice e.k.q e.k.n e.k.c]
def nodL (e : NEnt) : List Value := [.int .i64 e.kd, .int .i64 e.sp, .string e.nm, .slice e.a.q e.a.n e.a.c, .slice e.t.q e.t.n e.t.c, .int .i64 e.pr, .slice e.k.q e.k.n e.k.c]
def flatN : List NEnt → List Value
  | [] => []
  | e :: r => nodL e ++ flatN r
theorem flatN_len (L : List NEnt) : (flatN L).length = L.length * 7 := by
  induction L with
  | nil => rfl
  | cons e r ih => simp only [flatN, List.length_append, ih, List.length_cons, nodL, List.length_nil]; omega
theorem flatN_app (a b : List NEnt) : flatN (a ++ b) = flatN a ++ flatN b := by
  induction a with
  | nil => rfl
  | cons e r ih => simp only [List.cons_append, flatN, ih, List.append_assoc]
theorem flatN_take (L : List NEnt) (i : Nat) (h : i ≤ L.length) : (flatN L).take (i * 7) = flatN (L.take i) := by
  have e := congrArg flatN (List.take_append_drop i L)
  rw [flatN_app] at e
  rw [← e, List.take_append_of_le_length (by rw [flatN_len, List.length_take]; omega), List.take_of_length_le (by rw [flatN_len, List.length_take]; omega)]
theorem flatN_drop (L : List NEnt) (i : Nat) (h : i ≤ L.length) : (flatN L).drop (i * 7) = flatN (L.drop i) := by
  have e := congrArg flatN (List.take_append_drop i L)
  rw [flatN_app] at e
  have hl : (flatN (L.take i)).length = i * 7 := by rw [flatN_len, List.length_take]; omega
  rw [← e, List.drop_append_of_le_length (by omega), List.drop_eq_nil_of_le (by omega), List.nil_append]
theorem flatN_one (L : List NEnt) : ∀ u ∈ flatN L, u.oneCell' = true := by
  induction L with
  | nil => intro u h; cases h
  | cons e r ih =>
    intro u h
    rcases List.mem_append.1 h with h | h
    · simp only [nodL, List.mem_cons, List.not_mem_nil, or_false] at h
      rcases h with rfl | rfl | rfl | rfl | rfl | rfl | rfl <;> rfl
    · exact ih u h
theorem flatN_split (L : List NEnt) (k : Nat) (h : k < L.length) (j : Nat) : (flatN L)[k * 7 + j]? = (nodL (L.getD k n0) ++ flatN (L.drop (k + 1)))[j]? := by
  have hd : (flatN L).drop (k * 7) = nodL (L.getD k n0) ++ flatN (L.drop (k + 1)) := by
    rw [flatN_drop L k (by omega), List.drop_eq_getElem_cons h, List.getD, List.getElem?_eq_getElem h]; rfl
  rw [← hd, List.getElem?_drop]
/-- The cells of one node. -/
structure NCell (w : World) (g o : Nat) (e : NEnt) : Prop where
  kd : w.cell? ⟨g, o, none⟩ = some (.int .i64 e.kd)
  sp : w.cell? ⟨g, o + 1, none⟩ = some (.int .i64 e.sp)
  nm : w.cell? ⟨g, o + 2, none⟩ = some (.string e.nm)
  a : w.cell? ⟨g, o + 3, none⟩ = some (.slice e.a.q e.a.n e.a.c)
  t : w.cell? ⟨g, o + 4, none⟩ = some (.slice e.t.q e.t.n e.t.c)
  pr : w.cell? ⟨g, o + 5, none⟩ = some (.int .i64 e.pr)
  k : w.cell? ⟨g, o + 6, none⟩ = some (.slice e.k.q e.k.n e.k.c)
theorem cell_later {w w' : World} {b o : Nat} {v : Value} (hb : Below w.heap.size w w') (h : w.cell? ⟨b, o, none⟩ = some v) : w'.cell? ⟨b, o, none⟩ = some v := (hb.cell (p := ⟨b, o, none⟩) (World.block_lt_of_cell? w _ h)).trans h
theorem NCell.below {w w' : World} {g o : Nat} {e : NEnt} (h : NCell w g o e) (hb : Below w.heap.size w w') : NCell w' g o e :=
  ⟨cell_later hb h.kd, cell_later hb h.sp, cell_later hb h.nm, cell_later hb h.a, cell_later hb h.t, cell_later hb h.pr, cell_later hb h.k⟩
theorem ncell_of_row {base g n cap : Nat} {L : List NEnt} {w : World} {e : TypeId} (h : w.ownsRow base e 7 (.slice (some ⟨g, 0, none⟩) n cap) L.length (flatN L)) (k : Nat) (hk : k < L.length) : NCell w g (k * 7) (L.getD k n0) := by
  have c := fun j u hu => h.cells (g := g) rfl j u hu
  have f := flatN_split L k hk
  have c0 := c (k * 7) _ (f 0)
  have c1 := c _ _ (f 1)
  have c2 := c _ _ (f 2)
  have c3 := c _ _ (f 3)
  have c4 := c _ _ (f 4)
  have c5 := c _ _ (f 5)
  have c6 := c _ _ (f 6)
  rw [Addr.add_lit, Nat.zero_add] at c0 c1 c2 c3 c4 c5 c6
  exact ⟨c0, c1, c2, c3, c4, c5, c6⟩

/-- What an operation may touch: blocks of S, and new ones. -/
structure Chg (S : Nat → Prop) (w w' : World) : Prop where
  os : w'.os = w.os
  tape : w'.tape = w.tape
  output : w'.output = w.output
  size : w.heap.size ≤ w'.heap.size
  block : ∀ k, k < w.heap.size → ¬ S k → w'.heap[k]? = w.heap[k]?
theorem Chg.of_below {S : Nat → Prop} {w w' : World} (h : Below w.heap.size w w') : Chg S w w' := ⟨h.os, h.tape, h.output, h.size, fun k hk _ => h.block k hk⟩
theorem Chg.below {S : Nat → Prop} {B : Nat} {w w' : World} (h : Chg S w w') (hB : B ≤ w.heap.size) (hS : ∀ k, S k → B ≤ k) : Below B w w' :=
  ⟨h.os, h.tape, h.output, h.size, fun k hk => h.block k (by omega) (fun e => by have := hS k e; omega)⟩
theorem Chg.mono {S S' : Nat → Prop} {w w' : World} (h : Chg S w w') (hS : ∀ k, S k → S' k) : Chg S' w w' := ⟨h.os, h.tape, h.output, h.size, fun k hk hn => h.block k hk (fun e => hn (hS k e))⟩
theorem Chg.trans {S S' : Nat → Prop} {w w' w'' : World} (h : Chg S w w') (h' : Chg S' w' w'') (hS : ∀ k, S' k → S k ∨ w.heap.size ≤ k) : Chg S w w'' :=
  ⟨h'.os.trans h.os, h'.tape.trans h.tape, h'.output.trans h.output, Nat.le_trans h.size h'.size, fun k hk hn => (h'.block k (Nat.lt_of_lt_of_le hk h.size) (fun e => by
    rcases hS k e with h1 | h1
    · exact hn h1
    · omega)).trans (h.block k hk hn)⟩
theorem Chg.ahead {S : Nat → Prop} {w w' w'' : World} (hb : Below w.heap.size w w') (h : Chg S w' w'') : Chg S w w'' := (Chg.of_below hb).trans h (fun k hk => Or.inl hk)
theorem Chg.after {S : Nat → Prop} {w w' w'' : World} (h : Chg S w w') (hb : Below w'.heap.size w' w'') : Chg S w w'' := h.trans (Chg.of_below (S := fun _ => False) hb) (fun k hk => hk.elim)
theorem Chg.of_grown {w w' : World} {o : Option Nat} (h : w.grownBy w' o) : Chg (fun k => o = some k) w w' := ⟨h.os, h.tape, h.output, h.size, fun k hk hn => h.block k hk (fun e => hn e.symm)⟩
theorem Chg.set {S : Nat → Prop} {w w' : World} {p : Nat} (h : Chg S w w') (hp : S p) (j : Nat) (u : Value) : Chg S w (w'.setCell ⟨p, j, none⟩ u) :=
  ⟨h.os, h.tape, h.output, by simp [World.setCell]; exact h.size, fun k hk hn => (Below.heap_setCell w' ⟨p, j, none⟩ u k (fun e => hn (by rw [show k = p from e]; exact hp))).trans (h.block k hk hn)⟩
theorem Chg.blk {S : Nat → Prop} {b : Nat} {w w' : World} {vs : Array Value} {t : TypeId} (h : Chg S w w') (hb : Blk w b vs t) (hn : ¬ S b) : Blk w' b vs t := (h.block b hb.lt hn).trans hb
theorem Chg.row {S : Nat → Prop} {base : Nat} {w w' : World} {e : TypeId} {size n : Nat} {v : Value} {xs : List Value} (h : Chg S w w') (hr : w.ownsRow base e size v n xs) (hn : ∀ k, v.ownBlock = some k → ¬ S k) : w'.ownsRow base e size v n xs := by
  refine ⟨hr.1, ?_⟩
  rcases hr.2 with h0 | ⟨g, cap, cur, rfl, hb, hgg, rest⟩
  · exact .inl h0
  · exact .inr ⟨g, cap, cur, rfl, hb, (h.block g (Array.getElem?_eq_some_iff.1 hgg).1 (hn g rfl)).trans hgg, rest⟩
theorem ownsRow_away {w : World} {base p o : Nat} {e : TypeId} {size n : Nat} {v : Value} {xs : List Value} (h : w.ownsRow base e size v n xs) (hp : v.ownBlock ≠ some p) (u : Value) : (w.setCell ⟨p, o, none⟩ u).ownsRow base e size v n xs := by
  refine ⟨h.1, ?_⟩
  rcases h.2 with hn | ⟨g, cap, cur, rfl, hb, hgg, rest⟩
  · exact .inl hn
  · exact .inr ⟨g, cap, cur, rfl, hb, (Below.heap_setCell w ⟨p, o, none⟩ u g (by simpa [Value.ownBlock] using hp)).trans hgg, rest⟩

/-- An arena in memory: its pointer's block, its row. -/
structure Arn (base p : Nat) (v : Value) (L : List NEnt) (w : World) : Prop where
  blk : Blk w p #[v] 68
  row : w.ownsRow base 65 7 v L.length (flatN L)
  ne : v.ownBlock ≠ some p
theorem Arn.lt {base p : Nat} {v : Value} {L : List NEnt} {w : World} (h : Arn base p v L w) : p < w.heap.size := h.blk.lt
theorem Arn.later {base p : Nat} {v : Value} {L : List NEnt} {w w' : World} (h : Arn base p v L w) (hb : Below w.heap.size w w') : Arn base p v L w' := ⟨h.blk.later hb, ownsRow_below h.row hb, h.ne⟩
theorem Arn.slice {base p : Nat} {v : Value} {L : List NEnt} {w : World} (h : Arn base p v L w) : ∃ q cap, v = .slice q L.length cap ∧ L.length ≤ cap ∧ cap ≤ 9223372036854775807 ∧ (0 < L.length → ∃ g, q = some ⟨g, 0, none⟩ ∧ g < w.heap.size ∧ base ≤ g) := by
  rcases h.row.2 with ⟨rfl, h0⟩ | ⟨g, cap, cur, rfl, hb, hg, hc, hm, _, _⟩
  · exact ⟨none, 0, by rw [h0], by omega, by omega, fun h => by omega⟩
  · exact ⟨_, cap, rfl, hc, by simp only [maxLen] at hm; omega, fun _ => ⟨g, rfl, (Array.getElem?_eq_some_iff.1 hg).1, hb⟩⟩
/-- What lies there, opened: an arena has a node at least. -/
theorem Arn.open {base p : Nat} {v : Value} {L : List NEnt} {w : World} (h : Arn base p v L w) (h0 : 0 < L.length) : ∃ g cap, v = .slice (some ⟨g, 0, none⟩) L.length cap ∧ L.length ≤ cap ∧ cap ≤ 9223372036854775807 ∧ g < w.heap.size ∧ base ≤ g ∧ w.cell? ⟨p, 0, none⟩ = some (.slice (some ⟨g, 0, none⟩) L.length cap) ∧ (∀ k, k < L.length → NCell w g (k * 7) (L.getD k n0)) := by
  obtain ⟨q, cap, rfl, h1, h2, h3⟩ := h.slice
  obtain ⟨g, rfl, h4, h5⟩ := h3 h0
  exact ⟨g, cap, rfl, h1, h2, h4, h5, h.blk.cell 0, fun k hk => ncell_of_row h.row k hk⟩
theorem getN {L : List NEnt} {k : Nat} (h : k < L.length) : L.getD k n0 = L[k] := by rw [List.getD, List.getElem?_eq_getElem h]; rfl
def hasB (id : Int) (n : Nat) : Bool := decide (0 ≤ id) && decide (id < (n : Int))
theorem hasB_nat (id n : Nat) (h : id < n) : hasB (id : Int) n = true := by simp [hasB]; omega
theorem hasB_of {id : Int} {n : Nat} (h : hasB id n = true) : ∃ i : Nat, id = (i : Int) ∧ i < n := by
  simp [hasB] at h
  exact ⟨id.toNat, by omega, by omega⟩

set_option maxHeartbeats 1000000 in
theorem len_any (base p : Nat) (v : Value) (L : List NEnt) (w : World) (h : Arn base p v L w) :
    Calls Try.prog 14 #[ptr p] w fun e w' => e = .returned (.int .i64 (L.length : Int)) ∧ w' = w := by
  obtain ⟨q, cap, rfl, _⟩ := h.slice
  have c0 : w.cell? ⟨p, 0, none⟩ = some (.slice q L.length cap) := h.blk.cell 0
  clear h
  unfold ptr
  go_enter Try.func14, Try.ntmps14
  go_wp2
  go_ret
  exact ⟨rfl, rfl⟩
theorem len_nil (w : World) : Calls Try.prog 14 #[.pointer none] w fun e w' => e = .returned (.int .i64 0) ∧ w' = w := by
  go_enter Try.func14, Try.ntmps14
  go_wp2
  go_ret
  exact ⟨rfl, rfl⟩
set_option maxHeartbeats 1000000 in
theorem has_by (q : Value) (n : Nat) (id : Int) (w : World) (hC : Hid (Calls Try.prog 14 #[q] w fun e w' => e = .returned (.int .i64 (n : Int)) ∧ w' = w)) :
    Calls Try.prog 39 #[q, .int .i64 id] w fun e w' => e = .returned (.bool (hasB id n)) ∧ w' = w := by
  unfold hasB
  by_cases h : 0 ≤ id
  · rw [decide_eq_true h, Bool.true_and]
    go_enter Try.func39, Try.ntmps39
    go_wp2_with fail
    refine (unhide hC).mono ?_
    rintro e w1 ⟨rfl, hw1⟩
    obtain rfl : w = w1 := hw1.symm
    go_wp2
    go_ret
    exact ⟨rfl, rfl⟩
  · rw [decide_eq_false h, Bool.false_and]
    go_enter Try.func39, Try.ntmps39
    go_wp2
    go_ret
    exact ⟨rfl, rfl⟩
theorem has_any (base p : Nat) (v : Value) (L : List NEnt) (id : Int) (w : World) (h : Arn base p v L w) :
    Calls Try.prog 39 #[ptr p, .int .i64 id] w fun e w' => e = .returned (.bool (hasB id L.length)) ∧ w' = w := has_by _ _ _ w (hide (len_any base p v L w h))
theorem has_nil (id : Int) (w : World) : Calls Try.prog 39 #[.pointer none, .int .i64 id] w fun e w' => e = .returned (.bool false) ∧ w' = w := by
  have := has_by (.pointer none) 0 id w (hide (len_nil w))
  rw [show hasB id 0 = false by unfold hasB; by_cases h : 0 ≤ id <;> simp [h]] at this
  exact this
end Go.Proofs.Ytabajhbghjfhoab
