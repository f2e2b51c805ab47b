/-
  What the walk of a step keeps: the step's own cells, its names.
-/
import Derived.Test.YtdkjdomacilagaaDRf
namespace Go.Proofs.Ytdkjdomacilagaa
open Go.RowKit
set_option linter.unusedVariables false
set_option linter.unusedSimpArgs false

theorem Way.ahead {base p r : Nat} {v u : Value} {w w1 W : World} {L M : List Ent} (hb : Below w.heap.size w w1) (h : Way base p r v u w1 L M W) : Way base p r v u w L M W := by
  obtain ⟨⟨v', u', h1, h2, h3⟩, ht⟩ := h
  have hs := hb.size
  refine ⟨⟨v', u', h1, fun k hk => ?_, fun k hk => ?_⟩, ⟨ht.os.trans hb.os, ht.tape.trans hb.tape, ht.output.trans hb.output, Nat.le_trans hb.size ht.size, fun k hk a b c d => (ht.block k (by omega) a b c d).trans (hb.block k hk)⟩⟩
  · rcases h2 k hk with h | h
    · exact Or.inl h
    · exact Or.inr (by omega)
  · rcases h3 k hk with h | h
    · exact Or.inl h
    · exact Or.inr (by omega)
/-- A block that neither stack owns. -/
structure Mine (p r : Nat) (v u : Value) (w : World) (b : Nat) : Prop where
  p : b ≠ p
  r : b ≠ r
  v : some b ≠ v.ownBlock
  u : some b ≠ u.ownBlock
  lt : b < w.heap.size
theorem Mine.later {p r b : Nat} {v u : Value} {w w' : World} (h : Mine p r v u w b) (hz : w.heap.size ≤ w'.heap.size) : Mine p r v u w' b := ⟨h.p, h.r, h.v, h.u, by have := h.lt; omega⟩
theorem TwoR.mine {base p r b : Nat} {v u : Value} {L M : List Ent} {w w' : World} (h : TwoR base p v L r u M w) (hb : w.heap.size ≤ b) (hl : b < w'.heap.size) : Mine p r v u w' b :=
  ⟨by have := h.1.lt; omega, by have := h.2.1.lt; omega, fun e => by have := h.1.own b e.symm; omega, fun e => by have := h.2.1.own b e.symm; omega, hl⟩
theorem Way.blk {base p r b : Nat} {v u : Value} {w W : World} {L M : List Ent} {vs : Array Value} {t : TypeId} (h : Way base p r v u w L M W) (hm : Mine p r v u w b) (hb : Blk w b vs t) : Blk W b vs t := h.tc.blk hb hm.p hm.r hm.v hm.u
/-- It is not what the stacks own on the way. -/
theorem Way.safeP {base p r b : Nat} {v u v1 : Value} {w : World} (hm : Mine p r v u w b) (h1 : ∀ k, v1.ownBlock = some k → v.ownBlock = some k ∨ w.heap.size ≤ k) : b ≠ p ∧ some b ≠ v1.ownBlock :=
  ⟨hm.p, fun e => by
    rcases h1 b e.symm with h | h
    · exact hm.v h.symm
    · have := hm.lt; omega⟩
theorem Way.cellR {base p r : Nat} {v u : Value} {w W : World} {L M : List Ent} (h : Way base p r v u w L M W) : ∃ q cap, W.cell? ⟨r, 0, none⟩ = some (.slice q M.length cap) := by
  obtain ⟨⟨v', u', h1, h2, h3⟩, ht⟩ := h
  obtain ⟨q, cap, rfl, _⟩ := h1.2.1.slice
  exact ⟨q, cap, h1.2.1.1.cell 0⟩
/-- The step's own cells. -/
def BoxS (B : Nat) (wh at' id sp : Int) (nm na nb : ByteArray) (W : World) : Prop :=
  W.cell? ⟨B, 0, none⟩ = some (.int .i64 wh) ∧ W.cell? ⟨B, 1, none⟩ = some (.int .i64 at') ∧ W.cell? ⟨B, 2, none⟩ = some (.int .i64 id) ∧ W.cell? ⟨B, 3, none⟩ = some (.int .i64 sp) ∧ W.cell? ⟨B, 4, none⟩ = some (.string nm) ∧ W.cell? ⟨B, 5, none⟩ = some (.string na) ∧ W.cell? ⟨B, 6, none⟩ = some (.string nb)
def stepA (wh at' id sp : Int) (nm na nb : ByteArray) : Array Value := #[.int .i64 wh, .int .i64 at', .int .i64 id, .int .i64 sp, .string nm, .string na, .string nb]
theorem BoxS.of {B : Nat} {wh at' id sp : Int} {nm na nb : ByteArray} {W : World} {t : TypeId} (h : Blk W B (stepA wh at' id sp nm na nb) t) : BoxS B wh at' id sp nm na nb W :=
  ⟨h.cell 0, h.cell 1, h.cell 2, h.cell 3, h.cell 4, h.cell 5, h.cell 6⟩
theorem view_blk {W : World} {b : Nat} {na nb : ByteArray} {t : TypeId} (h : Blk W b #[.string na, .string nb] t) : View W (.slice (some ⟨b, 0, none⟩) 2 2) (Ls [na.data.toList, nb.data.toList]) := by
  refine ⟨by simp [Ls], some ⟨b, 0, none⟩, 2, by simp [Ls], fun _ => ⟨b, 0, rfl, fun i hi => ?_⟩⟩
  simp only [Ls, List.map_cons, List.map_nil, bs_self, List.length_cons, List.length_nil] at hi ⊢
  match i, hi with
  | 0, _ => exact h.cell 0
  | 1, _ => exact h.cell 1
theorem own_lit {b n c k : Nat} (h : (Value.slice (some ⟨b, 0, none⟩) n c).ownBlock = some k) : k = b := by
  simp only [Value.ownBlock, Option.some.injEq] at h; exact h.symm
theorem Way.safeL {p r b n c : Nat} {v u v1 : Value} {w : World} (hm : Mine p r v u w b) (h1 : ∀ k, v1.ownBlock = some k → v.ownBlock = some k ∨ w.heap.size ≤ k) : ∀ b', (Value.slice (some ⟨b, 0, none⟩) n c).ownBlock = some b' → b' ≠ p ∧ some b' ≠ v1.ownBlock := by
  intro b' hb
  obtain rfl := own_lit hb
  exact Way.safeP (base := 0) hm h1
theorem push_same (x : Ent) (L : List Ent) : insE (L.length : Int) L.length = (if 200 ≤ L.length then 5 else 0) ∧ insL (L.length : Int) x L = (if 200 ≤ L.length then L else L ++ [x]) := by
  constructor
  · unfold insE; rw [if_neg (by omega)]
  · unfold insL; rw [if_neg (by omega)]; simp
theorem insL_le (at' : Int) (x : Ent) (L : List Ent) (h : L.length ≤ 200) : (insL at' x L).length ≤ 200 := by
  unfold insL
  split
  · exact h
  · split
    · exact h
    · simp; omega
theorem to_same (ns : List (List UInt8)) (L : List Ent) : ((L.length : Int) - ((keepN ns L - 1 : Nat) : Int)) = ((toN ns L : Nat) : Int) ∧ L.take (keepN ns L - 1) = L.take (L.length - toN ns L) := by
  have h := keepN_eq ns L
  have h1 := keepN_le ns L
  have h2 := offN_le (backF ns) L
  have e : (fun e => !nmdB e ns) = backF ns := rfl
  rw [e] at h
  have h3 : toN ns L = if offN (backF ns) L < L.length then offN (backF ns) L + 1 else offN (backF ns) L := rfl
  constructor
  · rw [h3]; split <;> omega
  · congr 1; rw [h3]; split <;> omega
theorem back_same (ns : List (List UInt8)) (L : List Ent) : ((L.length : Int) - keepN ns L) = ((offN (backF ns) L : Nat) : Int) ∧ L.take (keepN ns L) = L.take (L.length - offN (backF ns) L) := by
  have h := keepN_eq ns L
  have h1 := keepN_le ns L
  have h2 := offN_le (backF ns) L
  have e : (fun e => !nmdB e ns) = backF ns := rfl
  rw [e] at h
  constructor
  · omega
  · rw [h]
/-- What a step does. -/
def DoesSaid (base p r : Nat) (v u : Value) (w : World) (e : Ending) (w' : World) : Prop := e = .returned (.bool true) ∧ ∃ L', L'.length ≤ 200 ∧ Way base p r v u w L' L' w'
end Go.Proofs.Ytdkjdomacilagaa
