/-
  The reference's stack in memory.
-/
import Derived.Test.YtdkjdomacilagaaKPu
import Derived.Test.YtdkjdomacilagaaGTt
import Derived.Laws.AppendOwnNone
namespace Go.Proofs.Ytdkjdomacilagaa
open Go.RowKit
set_option linter.unusedVariables false
set_option linter.unusedSimpArgs false

theorem infoR0 : (Try.prog.info? 42).map (fun i => (i.zero, i.size, i.bytes)) = some (some (.agg #[.int .i64 0, .int .i64 0, .string ⟨#[]⟩]), 3, 32) := by kernel_rfl
theorem infoR : ∃ i, Try.prog.info? 42 = some i ∧ i.zero = some (.agg #[.int .i64 0, .int .i64 0, .string ⟨#[]⟩]) ∧ i.size = 3 ∧ i.bytes = 32 := by
  have h := infoR0
  cases hi : Try.prog.info? 42 with
  | none => rw [hi] at h; cases h
  | some i =>
    rw [hi] at h
    simp only [Option.map_some, Option.some.injEq, Prod.mk.injEq] at h
    exact ⟨i, rfl, h.1, h.2.1, h.2.2⟩
/-- A stack in memory: its pointer's block, its row. -/
def RStk (base p : Nat) (v : Value) (L : List Ent) (w : World) : Prop :=
  Blk w p #[v] 30 ∧ w.ownsRow base 42 3 v L.length (flatE L) ∧ v.ownBlock ≠ some p
/-- What an operation leaves of a stack: the new entries; nothing else is touched. -/
def RUpd (base p : Nat) (v : Value) (L' : List Ent) (w w' : World) : Prop :=
  ∃ v', RStk base p v' L' w' ∧ Tch p v.ownBlock w w' ∧ (∀ k, v'.ownBlock = some k → v.ownBlock = some k ∨ w.heap.size ≤ k)
theorem RStk.lt {base p : Nat} {v : Value} {L : List Ent} {w : World} (h : RStk base p v L w) : p < w.heap.size := h.1.lt
theorem RStk.later {base p : Nat} {v : Value} {L : List Ent} {w w' : World} (h : RStk base p v L w) (hb : Below w.heap.size w w') : RStk base p v L w' :=
  ⟨h.1.later hb, ownsRow_below h.2.1 hb, h.2.2⟩
theorem RUpd.same {base p : Nat} {v : Value} {L : List Ent} {w w' : World} (h : RStk base p v L w) (hb : Below w.heap.size w w') : RUpd base p v L w w' :=
  ⟨v, h.later hb, Tch.of_below hb, fun k hk => Or.inl hk⟩
theorem RUpd.after {base p : Nat} {v : Value} {L : List Ent} {w w' w'' : World} (h : RUpd base p v L w w') (hb : Below w'.heap.size w' w'') : RUpd base p v L w w'' := by
  obtain ⟨v', hs, ht, ho⟩ := h
  exact ⟨v', hs.later hb, ⟨hb.os.trans ht.os, hb.tape.trans ht.tape, hb.output.trans ht.output, Nat.le_trans ht.size hb.size, fun k hk h1 h2 => (hb.block k (Nat.lt_of_lt_of_le hk ht.size)).trans (ht.block k hk h1 h2)⟩, ho⟩
theorem RUpd.ahead {base p : Nat} {v : Value} {L : List Ent} {w w' w'' : World} (hb : Below w.heap.size w w') (h : RUpd base p v L w' w'') : RUpd base p v L w w'' := by
  obtain ⟨v', hs, ht, ho⟩ := h
  refine ⟨v', hs, ⟨ht.os.trans hb.os, ht.tape.trans hb.tape, ht.output.trans hb.output, Nat.le_trans hb.size ht.size, fun k hk h1 h2 => (ht.block k (Nat.lt_of_lt_of_le hk hb.size) h1 h2).trans (hb.block k hk)⟩, fun k hk => ?_⟩
  rcases ho k hk with h | h
  · exact Or.inl h
  · exact Or.inr (Nat.le_trans hb.size h)
theorem RUpd.trans {base p : Nat} {v v' : Value} {L L' : List Ent} {w w' w'' : World} (ht : Tch p v.ownBlock w w') (ho : ∀ k, v'.ownBlock = some k → v.ownBlock = some k ∨ w.heap.size ≤ k) (h : RUpd base p v' L' w' w'') : RUpd base p v L' w w'' := by
  obtain ⟨v'', hs, ht', ho'⟩ := h
  refine ⟨v'', hs, ⟨ht'.os.trans ht.os, ht'.tape.trans ht.tape, ht'.output.trans ht.output, Nat.le_trans ht.size ht'.size, fun k hk h1 h2 => ?_⟩, fun k hk => ?_⟩
  · refine (ht'.block k (Nat.lt_of_lt_of_le hk ht.size) h1 (fun e => ?_)).trans (ht.block k hk h1 h2)
    rcases ho k e.symm with h | h
    · exact h2 h.symm
    · omega
  · rcases ho' k hk with h | h
    · exact ho k h
    · exact Or.inr (Nat.le_trans ht.size h)
/-- The row of a stack as cells. -/
theorem RStk.slice {base p : Nat} {v : Value} {L : List Ent} {w : World} (h : RStk base p v L w) : ∃ q cap, v = .slice q L.length cap ∧ L.length ≤ cap ∧ cap ≤ 9223372036854775807 ∧ (0 < L.length → ∃ g, q = some ⟨g, 0, none⟩ ∧ g < w.heap.size) := by
  rcases h.2.1.2 with ⟨rfl, h0⟩ | ⟨g, cap, cur, rfl, hb, hg, hc, hm, _, _⟩
  · exact ⟨none, 0, by rw [h0], by omega, by omega, fun h => by omega⟩
  · exact ⟨_, cap, rfl, hc, by simp only [maxLen] at hm; omega, fun _ => ⟨g, rfl, (Array.getElem?_eq_some_iff.1 hg).1⟩⟩
theorem RStk.cells {base p g n cap : Nat} {L : List Ent} {w : World} (h : RStk base p (.slice (some ⟨g, 0, none⟩) n cap) L w) : Cells3 g 0 L w := cells3_of_row h.2.1
theorem RStk.own {base p : Nat} {v : Value} {L : List Ent} {w : World} (h : RStk base p v L w) : ∀ k, v.ownBlock = some k → k < w.heap.size := fun k hk => (h.2.1.lt k hk).2
end Go.Proofs.Ytdkjdomacilagaa
