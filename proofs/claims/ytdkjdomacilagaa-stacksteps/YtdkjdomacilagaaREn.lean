/-
  The reference's ends; what In is of last.
-/
import Derived.Test.YtdkjdomacilagaaRFe
namespace Go.Proofs.Ytdkjdomacilagaa
open Go.RowKit
set_option linter.unusedVariables false
set_option linter.unusedSimpArgs false

set_option maxHeartbeats 1000000 in
theorem rends_e (scope : Int) (e : Ent) (w : World) :
    Calls Try.prog 55 #[.int .i64 scope, entV e] w fun r w' => r = .returned (.bool (endsE scope e)) ∧ Below w.heap.size w w' := by
  have C := hide (fun v ns w hv => ris_any e v ns w hv)
  have D := hide (fun w => rends_any e.sp e.nm w)
  unfold endsE
  obtain ⟨id, sp, nm⟩ := e
  dsimp only at *
  unfold entV at *
  dsimp only at *
  generalize endB sp nm.toList = b at *
  by_cases h2 : scope = 2
  · subst h2
    rw [if_pos rfl]
    generalize hq : nmdB ⟨id, sp, nm⟩ htNs = q at *
    go_enter Try.func55, Try.ntmps55
    go_wp2_with fail
    refine (unhide C _ htNs _ (view_litk (w.alloc (Obj.cells #[.int .i64 id, .int .i64 sp, .string nm] 42)) htNs _ (by decide) _ rfl _ (by simp) _ rfl)).mono ?_
    rintro r w1 ⟨rfl, hb⟩
    rw [hq]
    go_wp2
    go_ret
    exact ⟨rfl, bel_of (bel_of hb)⟩
  · rw [if_neg h2]
    have e2 : (scope == 2) = false := beq_eq_false_iff_ne.2 h2
    cases b with
    | true =>
      rw [Bool.or_true]
      go_enter Try.func55, Try.ntmps55
      go_wp2_with fail
      refine (unhide D _).mono ?_
      rintro r w1 ⟨rfl, hb⟩
      go_wp2
      go_ret
      exact ⟨rfl, bel_of hb⟩
    | false =>
      rw [Bool.or_false]
      by_cases h1 : scope = 1
      · subst h1
        rw [show ((1 : Int) == 1) = true from rfl, Bool.true_and]
        generalize hq : nmdB ⟨id, sp, nm⟩ ouNs = q at *
        go_enter Try.func55, Try.ntmps55
        go_wp2_with fail
        refine (unhide D _).mono ?_
        rintro r w1 ⟨rfl, hb⟩
        have kB : Blk w1 w.heap.size #[.int .i64 id, .int .i64 sp, .string nm] 42 := (Blk.new w _ _).later hb
        have d0 : w1.cell? ⟨w.heap.size, 0, none⟩ = some (.int .i64 id) := kB.cell 0
        have d1 : w1.cell? ⟨w.heap.size, 1, none⟩ = some (.int .i64 sp) := kB.cell 1
        have d2 : w1.cell? ⟨w.heap.size, 2, none⟩ = some (.string nm) := kB.cell 2
        have HB := hide (bel_of hb)
        clear hb
        go_wp2_with fail
        refine (unhide C _ ouNs _ (view_litk w1 ouNs _ (by decide) _ rfl _ (by simp) _ rfl)).mono ?_
        rintro r w2 ⟨rfl, hb2⟩
        rw [hq]
        go_wp2
        go_ret
        exact ⟨rfl, (unhide HB).trans ((bel_of hb2).mono (unhide HB).size)⟩
      · have e1 : (scope == 1) = false := beq_eq_false_iff_ne.2 h1
        rw [e1, Bool.false_and]
        go_enter Try.func55, Try.ntmps55
        go_wp2_with fail
        refine (unhide D _).mono ?_
        rintro r w1 ⟨rfl, hb⟩
        go_wp2
        go_ret
        exact ⟨rfl, bel_of hb⟩

/-- In, as the reference has it: the last that is named so, and none above it that ends the scope. -/
def inN (scope : Int) (ns : List (List UInt8)) (L : List Ent) : Bool := if lastN ns L 0 (-1) < 0 then false else !((L.drop (lastN ns L 0 (-1) + 1).toNat).any (endsE scope))
theorem inN_eq (scope : Int) (ns : List (List UInt8)) (L : List Ent) : inN scope ns L = inS scope ns L := by
  induction h : L.length generalizing L with
  | zero => obtain rfl := List.eq_nil_of_length_eq_zero h; rfl
  | succ n ih =>
    obtain ⟨a, x, rfl⟩ := snoc_of L (by omega)
    have hl : a.length = n := by simp at h; exact h
    have IH := ih a hl
    have hb := lastN_lt ns a
    unfold inN at IH ⊢
    rw [inS_snoc, lastN_snoc, Nat.zero_add]
    by_cases hx : nmdB x ns = true
    · rw [if_pos hx, if_pos hx, if_neg (by omega), show ((a.length : Int) + 1).toNat = a.length + 1 by omega, List.drop_eq_nil_of_le (by simp)]
      rfl
    · rw [if_neg hx, if_neg hx, ← IH]
      generalize lastN ns a 0 (-1) = k at *
      by_cases hk : k < 0
      · rw [if_pos hk, if_pos hk]; simp
      · rw [if_neg hk, if_neg hk, List.drop_append_of_le_length (by omega), List.any_append, List.any_cons, List.any_nil]
        generalize (a.drop (k + 1).toNat).any (endsE scope) = A
        cases A <;> cases endsE scope x <;> rfl
end Go.Proofs.Ytdkjdomacilagaa
