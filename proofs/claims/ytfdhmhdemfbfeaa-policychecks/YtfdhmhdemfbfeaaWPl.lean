/-
  Policies as they lie in memory, and told plainly.
-/
import Derived.Test.YtfdhmhdemfbfeaaVSf
import Derived.Test.YtfdhmhdemfbfeaaMgA
namespace Go.Proofs.Ytfdhmhdemfbfeaa
open Go.RowKit
set_option linter.unusedVariables false

/-- A rule, told plainly. -/
structure PRul where
  nm : ByteArray
  ac : Int
  ats : List ByteArray
  lks : List ByteArray
/-- A policy, told plainly. -/
structure PPol where
  rs : List PRul
  sc : List ByteArray
  ot : Int
  st : Int
/-- A list of texts; nothing has no room. -/
def ViewN (w : World) (v : Value) (zs : List ByteArray) : Prop := View w v zs ∧ ∀ n c, v = .slice none n c → c = 0
theorem viewN_below {w w' : World} {v : Value} {zs : List ByteArray} (h : ViewN w v zs) (hb : Below w.heap.size w w') : ViewN w' v zs := ⟨view_below h.1 hb, h.2⟩
def noR : PRul := ⟨⟨#[]⟩, 0, [], []⟩
def rulC (r : PRul) (va vl : Value) : Array Value := #[.string r.nm, .int .i64 r.ac, va, vl]
/-- A rule's value. -/
def RulV (w : World) (v : Value) (r : PRul) : Prop := ∃ va vl, v = .agg (rulC r va vl) ∧ ViewN w va r.ats ∧ ViewN w vl r.lks
/-- A rule in memory. -/
def RulAt (w : World) (b o : Nat) (r : PRul) : Prop := ∃ va vl, w.cell? ⟨b, o, none⟩ = some (.string r.nm) ∧ w.cell? ⟨b, o + 1, none⟩ = some (.int .i64 r.ac) ∧ w.cell? ⟨b, o + 2, none⟩ = some va ∧ w.cell? ⟨b, o + 3, none⟩ = some vl ∧ ViewN w va r.ats ∧ ViewN w vl r.lks
/-- Rules behind a slice. -/
def RulsV (w : World) (v : Value) (rs : List PRul) : Prop := rs.length ≤ 9223372036854775807 ∧ ∃ a cap, v = .slice a rs.length cap ∧ (0 < rs.length → ∃ b off, a = some ⟨b, off, none⟩ ∧ ∀ i, i < rs.length → RulAt w b (off + i * 4) (rs.getD i noR))
/-- A policy's value. -/
def polC (p : PPol) (vr vs : Value) : Array Value := #[vr, vs, .int .i64 p.ot, .int .i64 p.st]
def PolV (w : World) (v : Value) (p : PPol) : Prop := ∃ vr vs, v = .agg (polC p vr vs) ∧ RulsV w vr p.rs ∧ View w vs p.sc

theorem cell_lt {w : World} {b o : Nat} {v : Value} (h : w.cell? ⟨b, o, none⟩ = some v) : b < w.heap.size := World.block_lt_of_cell? _ _ h
theorem cell_on {w w' : World} {b o : Nat} {v : Value} (hb : Below w.heap.size w w') (h : w.cell? ⟨b, o, none⟩ = some v) : w'.cell? ⟨b, o, none⟩ = some v :=
  (hb.cell (p := ⟨b, o, none⟩) (cell_lt h)).trans h
theorem RulV.below {w w' : World} {v : Value} {r : PRul} (h : RulV w v r) (hb : Below w.heap.size w w') : RulV w' v r := by
  obtain ⟨va, vl, h1, h2, h3⟩ := h
  exact ⟨va, vl, h1, viewN_below h2 hb, viewN_below h3 hb⟩
theorem RulAt.below {w w' : World} {b o : Nat} {r : PRul} (h : RulAt w b o r) (hb : Below w.heap.size w w') : RulAt w' b o r := by
  obtain ⟨va, vl, h1, h2, h3, h4, h5, h6⟩ := h
  exact ⟨va, vl, cell_on hb h1, cell_on hb h2, cell_on hb h3, cell_on hb h4, viewN_below h5 hb, viewN_below h6 hb⟩
theorem RulsV.below {w w' : World} {v : Value} {rs : List PRul} (h : RulsV w v rs) (hb : Below w.heap.size w w') : RulsV w' v rs := by
  obtain ⟨h1, a, cap, h2, h3⟩ := h
  refine ⟨h1, a, cap, h2, fun h => ?_⟩
  obtain ⟨b, off, h4, h5⟩ := h3 h
  exact ⟨b, off, h4, fun i hi => (h5 i hi).below hb⟩
theorem PolV.below {w w' : World} {v : Value} {p : PPol} (h : PolV w v p) (hb : Below w.heap.size w w') : PolV w' v p := by
  obtain ⟨vr, vs, h1, h2, h3⟩ := h
  exact ⟨vr, vs, h1, h2.below hb, view_below h3 hb⟩
theorem View.slice {w : World} {v : Value} {zs : List ByteArray} (h : View w v zs) : ∃ a cap, v = .slice a zs.length cap := by
  obtain ⟨_, a, cap, h, _⟩ := h
  exact ⟨a, cap, h⟩

/-- Every text of a policy is short enough for an int. -/
def RulOk (r : PRul) : Prop := r.nm.size ≤ 9223372036854775807 ∧ (∀ s ∈ r.ats, s.size ≤ 9223372036854775807) ∧ (∀ s ∈ r.lks, s.size ≤ 9223372036854775807) ∧ r.ats.length ≤ 9223372036854775807 ∧ r.lks.length ≤ 9223372036854775807
def PolOk (p : PPol) : Prop := (∀ r ∈ p.rs, RulOk r) ∧ ∀ s ∈ p.sc, s.size ≤ 9223372036854775807
theorem getD_in {α : Type} (l : List α) (d : α) (i : Nat) (h : i < l.length) : l.getD i d ∈ l := by
  rw [List.getD, List.getElem?_eq_getElem h]
  exact List.getElem_mem h

/-! ### what a rule must meet -/

def fewB (r : PRul) : Bool := decide (r.ats.length ≤ 20 ∧ r.lks.length ≤ 20)
def remB (a : Int) : Bool := decide (a = 2 ∨ a = 3)
def actB (r : PRul) : Bool := decide (r.ac = 1) || remB r.ac
theorem rem_yes {a : Int} (h : a = 2 ∨ a = 3) : remB a = true := by simp [remB, h]
theorem rem_no {a : Int} (h : ¬ (a = 2 ∨ a = 3)) : remB a = false := by simp only [remB, decide_eq_false_iff_not]; exact h

theorem removes_any (a : Int) (w : World) :
    Calls Try.prog 63 #[.int .i64 a] w fun e w' => e = .returned (.bool (remB a)) ∧ w' = w := by
  by_cases h2 : a = 2
  · subst h2
    go_enter Try.func63, Try.ntmps63
    go_wp2
    go_ret
    exact ⟨rfl, rfl⟩
  · have i2 : (a == 2) = false := beqI _ _ h2
    by_cases h3 : a = 3
    · subst h3
      go_enter Try.func63, Try.ntmps63
      go_wp2
      go_ret
      exact ⟨rfl, rfl⟩
    · have i3 : (a == 3) = false := beqI _ _ h3
      rw [rem_no (by omega)]
      clear h2 h3
      go_enter Try.func63, Try.ntmps63
      go_wp2
      go_ret
      exact ⟨rfl, rfl⟩

set_option maxHeartbeats 1000000 in
theorem few_any (v : Value) (r : PRul) (w : World) (hv : RulV w v r) :
    Calls Try.prog 56 #[v] w fun e w' => e = .returned (.bool (fewB r)) ∧ Below w.heap.size w w' := by
  obtain ⟨va, vl, rfl, h1, h2⟩ := hv
  obtain ⟨a1, c1, rfl⟩ := h1.1.slice
  obtain ⟨a2, c2, rfl⟩ := h2.1.slice
  unfold rulC fewB
  clear h1 h2
  obtain ⟨nm, ac, ats, lks⟩ := r
  dsimp only
  generalize ats.length = n1 at *
  generalize lks.length = n2 at *
  by_cases i1 : n1 ≤ 20
  · have j1 : (n1 : Int) ≤ 20 := by omega
    by_cases i2 : n2 ≤ 20
    · have j2 : (n2 : Int) ≤ 20 := by omega
      rw [decide_eq_true (And.intro i1 i2)]
      go_enter Try.func56, Try.ntmps56
      go_wp2
      go_ret
      exact ⟨rfl, (Below.refl _ _).alloc (Nat.le_refl _) _⟩
    · have j2 : decide ((n2 : Int) ≤ 20) = false := by simp; omega
      rw [decide_eq_false (fun h => i2 h.2)]
      go_enter Try.func56, Try.ntmps56
      go_wp2
      go_ret
      exact ⟨rfl, (Below.refl _ _).alloc (Nat.le_refl _) _⟩
  · have j1 : decide ((n1 : Int) ≤ 20) = false := by simp; omega
    rw [decide_eq_false (fun h => i1 h.1)]
    go_enter Try.func56, Try.ntmps56
    go_wp2
    go_ret
    exact ⟨rfl, (Below.refl _ _).alloc (Nat.le_refl _) _⟩

set_option maxHeartbeats 1000000 in
theorem act_any (v : Value) (r : PRul) (w : World) (hv : RulV w v r) :
    Calls Try.prog 43 #[v] w fun e w' => e = .returned (.bool (actB r)) ∧ Below w.heap.size w w' := by
  obtain ⟨va, vl, rfl, h1, h2⟩ := hv
  obtain ⟨a1, c1, rfl⟩ := h1.1.slice
  obtain ⟨a2, c2, rfl⟩ := h2.1.slice
  unfold rulC actB
  clear h1 h2
  obtain ⟨nm, ac, ats, lks⟩ := r
  dsimp only
  have C := hide (fun w => removes_any ac w)
  generalize ats.length = n1 at *
  generalize lks.length = n2 at *
  generalize remB ac = D at *
  by_cases i1 : ac = 1
  · subst i1
    go_enter Try.func43, Try.ntmps43
    go_wp2
    go_ret
    exact ⟨by simp, (Below.refl _ _).alloc (Nat.le_refl _) _⟩
  · have j1 : (ac == 1) = false := beqI _ _ i1
    rw [decide_eq_false i1]
    clear i1
    go_enter Try.func43, Try.ntmps43
    go_wp2_with fail
    refine (unhide C _).mono ?_
    rintro e1 w1 ⟨rfl, hw1⟩
    subst hw1
    go_wp2
    go_ret
    exact ⟨by simp, (Below.refl _ _).alloc (Nat.le_refl _) _⟩

set_option maxHeartbeats 1000000 in
theorem others_any (v : Value) (p : PPol) (w : World) (hv : PolV w v p) :
    Calls Try.prog 45 #[v] w fun e w' => e = .returned (.bool (remB p.ot && remB p.st)) ∧ Below w.heap.size w w' := by
  obtain ⟨vr, vs, rfl, h1, h2⟩ := hv
  obtain ⟨a2, c2, rfl⟩ := h2.slice
  obtain ⟨_, a1, c1, rfl, _⟩ := h1
  unfold polC
  clear h2
  obtain ⟨rs, sc, ot, st⟩ := p
  dsimp only
  have C := hide (fun w => removes_any ot w)
  have C2 := hide (fun w => removes_any st w)
  generalize rs.length = n1 at *
  generalize sc.length = n2 at *
  generalize remB st = D at *
  cases hr : remB ot with
  | false =>
    rw [hr] at C
    go_enter Try.func45, Try.ntmps45
    go_wp2_with fail
    refine (unhide C _).mono ?_
    rintro e1 w1 ⟨rfl, hw1⟩
    subst hw1
    go_wp2
    go_ret
    exact ⟨by simp, (Below.refl _ _).alloc (Nat.le_refl _) _⟩
  | true =>
    rw [hr] at C
    go_enter Try.func45, Try.ntmps45
    go_wp2_with fail
    refine (unhide C _).mono ?_
    rintro e1 w1 ⟨rfl, hw1⟩
    subst hw1
    go_wp2_with fail
    refine (unhide C2 _).mono ?_
    rintro e1 w1 ⟨rfl, hw1⟩
    subst hw1
    go_wp2
    go_ret
    exact ⟨by simp, (Below.refl _ _).alloc (Nat.le_refl _) _⟩
end Go.Proofs.Ytfdhmhdemfbfeaa
