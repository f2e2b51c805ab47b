/-
  What a list's alikeTo does, of entries without attributes.
-/
import Derived.Test.YtabajhbghjfhoaaAMk
namespace Go.Proofs.Ytabajhbghjfhoaa
open Go.RowKit
set_option linter.unusedVariables false
set_option linter.unusedSimpArgs false

theorem infoI0 : (Try.prog.info? 3).map (fun i => (i.zero, i.size, i.bytes)) = some (some (.int .i64 0), 1, 8) := by kernel_rfl
theorem infoI : ∃ i, Try.prog.info? 3 = some i ∧ i.zero = some (.int .i64 0) ∧ i.size = 1 ∧ i.bytes = 8 := by
  have h := infoI0
  cases hi : Try.prog.info? 3 with
  | none => rw [hi] at h; cases h
  | some i =>
    rw [hi] at h
    simp only [Option.map_some, Option.some.injEq, Prod.mk.injEq] at h
    exact ⟨i, rfl, h.1, h.2.1, h.2.2⟩
def isMk (x : AEnt) : Bool := x.mr
def plcs (a : AEnt) : List AEnt → Nat → List Nat
  | [], _ => []
  | x :: r, i => if nmB a x then i :: plcs a r (i + 1) else plcs a r (i + 1)
def intV (k : Nat) : Value := .int .i64 (k : Int)
def ToPost (ps : List Nat) (w : World) (e : Ending) (w' : World) : Prop := ∃ u, e = .returned u ∧ w'.ownsRow (w.heap.size + 1) 3 1 u ps.length (ps.map intV) ∧ Below w.heap.size w w'
def ToAt (a : AEnt) (M : List AEnt) (f0 : Nat) (all : List Nat) (w : World) (u i : Value) (wr : World) : Prop :=
  ∃ (k : Nat) (acc : List Nat), k ≤ M.length ∧ i = .int .i64 k ∧ acc.length ≤ k ∧ wr.ownsRow (w.heap.size + 1) 3 1 u acc.length (acc.map intV) ∧ acc ++ plcs a (M.drop k) (f0 + k) = all ∧ Below w.heap.size w wr ∧ Blk wr w.heap.size #[.bool a.mr, .int .i64 a.id, .string a.nm, .slice a.q a.n a.c] 58
theorem plcs_step (a : AEnt) (M : List AEnt) (k f0 : Nat) (h : k < M.length) : plcs a (M.drop k) (f0 + k) = if nmB a (M.getD k e0) then (f0 + k) :: plcs a (M.drop (k + 1)) (f0 + (k + 1)) else plcs a (M.drop (k + 1)) (f0 + (k + 1)) := by
  rw [List.drop_eq_getElem_cons h, getD_get h, plcs, Nat.add_assoc]
theorem Blk.grown {w w' : World} {b : Nat} {vs : Array Value} {t : TypeId} {row : Option Nat} (h : Blk w b vs t) (hg : w.grownBy w' row) (hr : some b ≠ row) : Blk w' b vs t := (hg.block b h.lt hr).trans h

set_option maxHeartbeats 1000000 in
set_option maxRecDepth 100000 in
theorem alikeTo_none (base p : Nat) (v : Value) (a : AEnt) (L : List AEnt) (w : World) (h : Stk base p v L w) (hN : L.length ≤ 1000) (hf : lastE isMk L + 1 = (L.length : Int)) :
    Calls Try.prog 76 #[ptr p, entV a] w (ToPost [] w) := by
  have b1 : Below w.heap.size w (w.alloc (Obj.cells #[.bool a.mr, .int .i64 a.id, .string a.nm, .slice a.q a.n a.c] 58)) := (Below.refl _ _).alloc (Nat.le_refl _) _
  have C := hide (last_mark base p v isMk L (w.alloc (Obj.cells #[.bool a.mr, .int .i64 a.id, .string a.nm, .slice a.q a.n a.c] 58)) (h.later b1) (hide fun x W hW => isMark_any x W))
  have hcase := h.2.1.2
  obtain ⟨q, cap, hv, hc, hm, hg⟩ := h.slice
  have H := hide h
  have HB := hide b1
  have hf2 : lastE isMk L = (L.length : Int) - 1 := by omega
  rw [hf2] at C
  unfold ToPost
  clear h b1 hg hf hf2 hv
  obtain ⟨am, ai, an, aq, al, ac⟩ := a
  rcases hcase with ⟨rfl, h0⟩ | ⟨g, cap', cur, rfl, _, _, hcc, hmm, _, _⟩
  · rw [h0] at C
    clear hN hc
    unfold entV ptr at *
    dsimp only at *
    go_enter Try.func76, Try.ntmps76
    go_wp2_with fail
    refine (unhide C).mono ?_
    rintro e w1 ⟨rfl, hb⟩
    have B1 := hide (cellC (unhide HB) hb)
    have c0 : w1.cell? ⟨p, 0, none⟩ = some (.slice none 0 0) := ((unhide H).later (unhide B1)).1.cell 0
    clear hb
    go_wp2
    refine wp_loop_rounds 1 ?_
    rw [rounds_succ]; go_wp2
    go_ret
    exact ⟨_, rfl, World.ownsRow_nil _ _ _ _, unhide B1⟩
  · have hcm : cap' ≤ 9223372036854775807 := by simp only [maxLen] at hmm; omega
    clear hc hm hmm
    generalize L.length = n at *
    have hw1 : IntKind.i64.wrap ((n : Int) - 1 + 1) = (n : Int) := by rw [IntKind.wrap_i64]; omega
    have hn1 : (n : Int) - 1 + 1 = (n : Int) := by omega
    by_cases hq : cap' = n
    · subst hq
      unfold entV ptr at *
      dsimp only at *
      go_enter Try.func76, Try.ntmps76
      go_wp2_with fail
      refine (unhide C).mono ?_
      rintro e w1 ⟨rfl, hb⟩
      have B1 := hide (cellC (unhide HB) hb)
      have c0 : w1.cell? ⟨p, 0, none⟩ = some (.slice (some ⟨g, 0, none⟩) cap' cap') := ((unhide H).later (unhide B1)).1.cell 0
      clear hb
      go_wp2
      refine wp_loop_rounds 1 ?_
      rw [rounds_succ]; go_wp2
      go_ret
      exact ⟨_, rfl, World.ownsRow_nil _ _ _ _, unhide B1⟩
    · unfold entV ptr at *
      dsimp only at *
      go_enter Try.func76, Try.ntmps76
      go_wp2_with fail
      refine (unhide C).mono ?_
      rintro e w1 ⟨rfl, hb⟩
      have B1 := hide (cellC (unhide HB) hb)
      have c0 : w1.cell? ⟨p, 0, none⟩ = some (.slice (some ⟨g, 0, none⟩) n cap') := ((unhide H).later (unhide B1)).1.cell 0
      clear hb
      go_wp2
      refine wp_loop_rounds 1 ?_
      rw [rounds_succ]; go_wp2
      go_ret
      exact ⟨_, rfl, World.ownsRow_nil _ _ _ _, unhide B1⟩
end Go.Proofs.Ytabajhbghjfhoaa
