/-
  The reference's Find and last at any stack, and what they are of the program's.
-/
import Derived.Test.YtdkjdomacilagaaRFi
import Derived.Test.YtdkjdomacilagaaKFi
namespace Go.Proofs.Ytdkjdomacilagaa
open Go.RowKit
set_option linter.unusedVariables false
set_option linter.unusedSimpArgs false

theorem findN_snoc (id : Int) (L : List Ent) (x : Ent) (k : Nat) (a : Int) : findN id (L ++ [x]) k a = if x.id = id then ((k + L.length : Nat) : Int) else findN id L k a := by
  induction L generalizing k a with
  | nil => simp [findN]
  | cons y r ih =>
    rw [List.cons_append, findN, findN, ih, List.length_cons, show k + 1 + r.length = k + (r.length + 1) by omega]
theorem lastN_snoc (ns : List (List UInt8)) (L : List Ent) (x : Ent) (k : Nat) (a : Int) : lastN ns (L ++ [x]) k a = if nmdB x ns then ((k + L.length : Nat) : Int) else lastN ns L k a := by
  induction L generalizing k a with
  | nil => simp [lastN]
  | cons y r ih =>
    rw [List.cons_append, lastN, lastN, ih, List.length_cons, show k + 1 + r.length = k + (r.length + 1) by omega]
/-- The reference's Find is the program's. -/
theorem findN_eq (id : Int) (L : List Ent) : findN id L 0 (-1) = findE id L := by
  induction h : L.length generalizing L with
  | zero => obtain rfl := List.eq_nil_of_length_eq_zero h; rfl
  | succ n ih =>
    obtain ⟨a, x, rfl⟩ := snoc_of L (by omega)
    rw [findR_app, findN_snoc, Nat.zero_add, ih a (by simp at h; exact h)]
theorem lastN_lt (ns : List (List UInt8)) (L : List Ent) : lastN ns L 0 (-1) < L.length ∧ -1 ≤ lastN ns L 0 (-1) := by
  induction h : L.length generalizing L with
  | zero => obtain rfl := List.eq_nil_of_length_eq_zero h; simp [lastN]
  | succ n ih =>
    obtain ⟨a, x, rfl⟩ := snoc_of L (by omega)
    have hl : a.length = n := by simp at h; exact h
    rw [lastN_snoc, Nat.zero_add]
    have := ih a hl
    split <;> omega
/-- The highest that ends a scope, as a place. -/
def edgeN (scope : Int) : List Ent → Nat → Int → Int
  | [], _, a => a
  | e :: r, i, a => edgeN scope r (i + 1) (if endsE scope e then (i : Int) else a)
theorem edgeN_snoc (scope : Int) (L : List Ent) (x : Ent) (k : Nat) (a : Int) : edgeN scope (L ++ [x]) k a = if endsE scope x then ((k + L.length : Nat) : Int) else edgeN scope L k a := by
  induction L generalizing k a with
  | nil => simp [edgeN]
  | cons y r ih =>
    rw [List.cons_append, edgeN, edgeN, ih, List.length_cons, show k + 1 + r.length = k + (r.length + 1) by omega]

set_option maxHeartbeats 1000000 in
theorem rfind_zero (p : Nat) (c : Option Addr) (cap : Nat) (id : Int) (w : World) (hb : Blk w p #[.slice c 0 cap] 30) :
    Calls Try.prog 15 #[ptr p, .int .i64 id] w fun e w' => e = .returned (.int .i64 (-1)) ∧ Below w.heap.size w w' := by
  have c0 : w.cell? ⟨p, 0, none⟩ = some (.slice c 0 cap) := hb.cell 0
  clear hb
  unfold ptr
  go_enter Try.func15, Try.ntmps15
  go_wp2
  refine wp_loop_rounds 1 ?_
  rw [rounds_succ]; go_wp2
  go_ret
  exact ⟨rfl, Below.refl _ _⟩
set_option maxHeartbeats 1000000 in
theorem rlast_zero (p : Nat) (c : Option Addr) (cap : Nat) (nv : Value) (ns : List (List UInt8)) (w : World) (hb : Blk w p #[.slice c 0 cap] 30) (hv : View w nv (Ls ns)) :
    Calls Try.prog 54 #[ptr p, nv] w fun e w' => e = .returned (.int .i64 (-1)) ∧ Below w.heap.size w w' := by
  have c0 : w.cell? ⟨p, 0, none⟩ = some (.slice c 0 cap) := hb.cell 0
  obtain ⟨_, nq, nc, rfl, _⟩ := hv
  clear hb
  unfold ptr
  go_enter Try.func54, Try.ntmps54
  go_wp2
  refine wp_loop_rounds 1 ?_
  rw [rounds_succ]; go_wp2
  go_ret
  exact ⟨rfl, Below.refl _ _⟩
theorem rfind_any (base p : Nat) (v : Value) (id : Int) (L : List Ent) (w : World) (h : RStk base p v L w) :
    Calls Try.prog 15 #[ptr p, .int .i64 id] w fun e w' => e = .returned (.int .i64 (findE id L)) ∧ Below w.heap.size w w' := by
  obtain ⟨q, cap, rfl, hc, hm, hg⟩ := h.slice
  by_cases h0 : L.length = 0
  · obtain rfl := List.eq_nil_of_length_eq_zero h0
    exact rfind_zero p q cap id w h.1
  · obtain ⟨g, rfl, _⟩ := hg (by omega)
    rw [← findN_eq]
    exact rfind_loop g cap p id L L.length w (hide rfl) (by omega) (by omega) h.1 h.cells
theorem rlast_any (base p : Nat) (v nv : Value) (ns : List (List UInt8)) (L : List Ent) (w : World) (h : RStk base p v L w) (hv : View w nv (Ls ns)) :
    Calls Try.prog 54 #[ptr p, nv] w fun e w' => e = .returned (.int .i64 (lastN ns L 0 (-1))) ∧ Below w.heap.size w w' := by
  obtain ⟨q, cap, rfl, hc, hm, hg⟩ := h.slice
  by_cases h0 : L.length = 0
  · obtain rfl := List.eq_nil_of_length_eq_zero h0
    exact rlast_zero p q cap nv ns w h.1 hv
  · obtain ⟨g, rfl, _⟩ := hg (by omega)
    exact rlast_loop g cap p nv ns L L.length w (hide rfl) (by omega) (by omega) h.1 h.cells hv
end Go.Proofs.Ytdkjdomacilagaa
