/-
  'rectolaw16.wide', and what is known of nodes that are not wide.
-/
import Derived.Test.YtfdhmhdemfbfeaaGreatDoorMgAY
import Derived.Test.YtfdhmhdemfbfeaaGreatDoorYLg
namespace Go.Proofs.YtfdhmhdemfbfeaaGreatDoor
open Go.RowKit
set_option linter.unusedVariables false
set_option linter.unusedSimpArgs false

theorem wide_any (f : Forest) (q : Option Addr) (cap : Nat) (w : World) (hf : Fo q f w) :
    Calls Tryz.prog 5 #[.slice q f.len cap] w fun e w' => e = .returned (.bool (lgT 1 f 600).1) ∧ Below w.heap.size w w' := by
  have CL := hide (large_any f.count f (Nat.le_refl _) 1 q cap w.heap.size 600 w (w.alloc (Obj.cells #[.int .i64 600] 45)) (by omega) (Nat.le_refl _) (by omega) hf ((Below.refl _ _).alloc (Nat.le_refl _) _) (Blk.new w _ _))
  rw [show ((1 : Nat) : Int) = 1 from rfl] at CL
  generalize lgT 1 f 600 = r at *
  generalize f.len = fl at *
  clear hf
  go_enter Tryz.func5, Tryz.ntmps5
  go_wp2_with fail
  refine (unhide CL).mono ?_
  rintro e w1 ⟨rfl, _, hb⟩
  go_wp2
  go_ret
  exact ⟨rfl, hb⟩
/-- A node that is not large. -/
def OkN (it : Item) : Prop := it.ats.length ≤ 40 ∧ it.n.size ≤ 100 ∧ it.tx.size ≤ 5000 ∧ ∀ x ∈ it.ats, x.1.size ≤ 100 ∧ x.2.size ≤ 2000
theorem OkN.okI {it : Item} (h : OkN it) : OkI it := ⟨by have := h.1; omega, fun x hx => by have := (h.2.2.2 x hx).2; omega⟩
theorem wany_false {ats : List (ByteArray × ByteArray)} (h : ats.any lgA = false) : ∀ x ∈ ats, x.1.size ≤ 100 ∧ x.2.size ≤ 2000 := by
  intro x hx
  have h1 := List.any_eq_false.1 h x hx
  have h2 : lgA x = false := by simpa using h1
  unfold lgA at h2
  simp at h2
  omega
theorem wlgT_split {d : Nat} {f : Forest} {N N' : Int} (h : lgT d f N = (false, N')) : lgL d f N = (false, N') := by
  unfold lgT at h
  split at h
  · injection h with h1; cases h1
  · exact h
theorem lgL_items : ∀ (f : Forest) (d e : Nat) (N N' : Int), lgL d f N = (false, N') → (∀ it ∈ items f e, OkN it) ∧ N' + (f.count : Int) ≤ N
  | .nil, d, e, N, N', h => by
    rw [lgL] at h
    injection h with h1 h2
    exact ⟨(fun it hi => by cases hi), by rw [← h2]; simp [Forest.count]⟩
  | .cons k sp n ats tx kids rest, d, e, N, N', h => by
    by_cases h1 : N - 1 < 0 ∨ 40 < ats.length ∨ 5000 < tx.size ∨ 100 < n.size
    · rw [lgL, if_pos h1] at h; injection h with h1; cases h1
    · cases ha : ats.any lgA with
      | true => rw [lgL, if_neg h1, if_pos ha] at h; injection h with h1; cases h1
      | false =>
        rw [lgL_cons d k sp n ats tx kids rest N h1 ha] at h
        obtain ⟨r, hr⟩ : ∃ r, lgT (d + 1) kids (lgN N tx ats) = r := ⟨_, rfl⟩
        rw [hr] at h
        obtain ⟨rb, rN⟩ := r
        cases rb with
        | true => rw [if_pos rfl] at h; injection h with h1; cases h1
        | false =>
          rw [if_neg (by simp)] at h
          obtain ⟨s1, c1⟩ := lgL_items kids (d + 1) (e + 1) _ _ (wlgT_split hr)
          obtain ⟨s2, c2⟩ := lgL_items rest d e _ _ h
          refine ⟨fun it hi => ?_, ?_⟩
          · have hi' : it ∈ (⟨k, sp, n, ats, tx, kids, e⟩ : Item) :: (items kids (e + 1) ++ items rest e) := hi
            rcases List.mem_cons.1 hi' with rfl | hi2
            · exact ⟨show ats.length ≤ 40 by omega, show n.size ≤ 100 by omega, show tx.size ≤ 5000 by omega, wany_false ha⟩
            · rcases List.mem_append.1 hi2 with h3 | h3
              · exact s1 it h3
              · exact s2 it h3
          · have : lgN N tx ats ≤ N - 1 := by
              unfold lgN
              have : (0 : Int) ≤ ((tx.size / 16 : Nat) : Int) := Int.natCast_nonneg _
              omega
            simp only [Forest.count]
            omega
theorem wide_items {f : Forest} (h : (lgT 1 f 600).1 = false) : (∀ it ∈ items f 1, OkN it) ∧ f.count ≤ 600 := by
  obtain ⟨r, hr⟩ : ∃ r, lgT 1 f 600 = r := ⟨_, rfl⟩
  rw [hr] at h
  obtain ⟨b, N'⟩ := r
  have hb : b = false := h
  subst hb
  obtain ⟨h1, h2⟩ := lgL_items f 1 1 _ _ (wlgT_split hr)
  have := lgT_room 1 f _ _ hr
  exact ⟨h1, by omega⟩
/-- A node alone, and the others. -/
theorem alw_cons {p : PPol} (h : chkP p = 0) (k sp : Int) (n : ByteArray) (ats : List (ByteArray × ByteArray)) (tx : ByteArray) (kids rest : Forest) : alwF p (.cons k sp n ats tx kids rest) = (alwF p (.cons k sp n ats tx kids .nil) && alwF p rest) := by
  unfold alwF
  rw [decide_eq_true h]
  simp only [items, List.append_nil, List.all_cons, List.all_append, Bool.true_and, Bool.and_assoc]
theorem alw_nil {p : PPol} (h : chkP p = 0) : alwF p .nil = true := by unfold alwF; rw [decide_eq_true h]; rfl
theorem drop_items : ∀ (j : Nat) (f : Forest) (e : Nat) (it : Item), it ∈ items (f.drop j) e → it ∈ items f e
  | 0, f, e, it, h => by rw [Forest.drop_zero] at h; exact h
  | j + 1, .nil, e, it, h => by rw [Forest.drop_nil] at h; exact h
  | j + 1, .cons k sp n ats tx kids rest, e, it, h => by
    have := drop_items j rest e it h
    show it ∈ _ :: (items kids (e + 1) ++ items rest e)
    simp [this]
end Go.Proofs.YtfdhmhdemfbfeaaGreatDoor
