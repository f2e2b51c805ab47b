/-
  'judge.stays', 'policy.Act', 'policy.Stays'.
-/
import Derived.Test.YtfdhmhdemfbfeaaWJu
import Derived.Test.YtfdhmhdemfbfeaaLVj
namespace Go.Proofs.Ytfdhmhdemfbfeaa
open Go.RowKit
set_option linter.unusedVariables false
set_option linter.unusedSimpArgs false

def stB (p : PPol) (r : PRul) (an av : ByteArray) : Bool := decide (r.ac = 1) && (isIn an r.ats || (isIn an r.lks && safeB (plL av.data.toList) p.sc))

set_option maxHeartbeats 2000000 in
theorem jstays_any (v vr : Value) (p : PPol) (r : PRul) (an av : ByteArray) (w : World) (hv : PolV w v p) (hr : RulV w vr r) (hz : av.size ≤ 100000) :
    Calls Try.prog 29 #[v, vr, .agg #[.string an, .string av]] w fun e w' => e = .returned (.bool (stB p r an av)) ∧ Below w.heap.size w w' := by
  obtain ⟨vrs, vs, rfl, h1, h2⟩ := hv
  obtain ⟨va, vl, rfl, h3, h4⟩ := hr
  have C1 := hide (fun W hW => contains_any va r.ats an W (view_below (w := w) h3.1 hW))
  have C2 := hide (fun W hW => contains_any vl r.lks an W (view_below (w := w) h4.1 hW))
  have C3 := hide (fun W hW => safe_any av vs p.sc W hz (view_below (w := w) h2 hW))
  obtain ⟨a2, c2, rfl⟩ := h2.slice
  obtain ⟨hrl, a1, c1, rfl, _⟩ := h1
  obtain ⟨q1, m1, rfl⟩ := h3.1.slice
  obtain ⟨q2, m2, rfl⟩ := h4.1.slice
  unfold polC rulC stB
  clear h2 h3 h4
  obtain ⟨rs, sc, ot, st⟩ := p
  obtain ⟨rn, ac, ats, lks⟩ := r
  dsimp only at *
  generalize isIn an ats = D1 at *
  generalize isIn an lks = D2 at *
  generalize safeB (plL av.data.toList) sc = D3 at *
  generalize rs.length = n1 at *
  generalize sc.length = n2 at *
  generalize ats.length = l1 at *
  generalize lks.length = l2 at *
  have al : Below w.heap.size w (((w.alloc (Obj.cells #[.slice a1 n1 c1, .slice a2 n2 c2, .int .i64 ot, .int .i64 st] 63)).alloc (Obj.cells #[.string rn, .int .i64 ac, .slice q1 l1 m1, .slice q2 l2 m2] 53)).alloc (Obj.cells #[.string an, .string av] 45)) := (((Below.refl _ _).alloc (Nat.le_refl _) _).alloc (by simp) _).alloc (by simp; omega) _
  by_cases i1 : ac = 1
  · subst i1
    have D1' := hide (unhide C1 _ al)
    have D2' := hide (unhide C2 _ al)
    have D3' := hide (unhide C3 _ al)
    clear C1 C2 C3
    cases D1 with
    | true =>
      go_enter Try.func29, Try.ntmps29
      go_wp2_with fail
      refine (unhide D1').mono ?_
      rintro e1 w1 ⟨rfl, hw1⟩
      subst hw1
      go_wp2
      go_ret
      exact ⟨rfl, al⟩
    | false =>
      cases D2 with
      | false =>
        go_enter Try.func29, Try.ntmps29
        go_wp2_with fail
        refine (unhide D1').mono ?_
        rintro e1 w1 ⟨rfl, hw1⟩
        subst hw1
        go_wp2_with fail
        refine (unhide D2').mono ?_
        rintro e1 w1 ⟨rfl, hw1⟩
        subst hw1
        go_wp2
        go_ret
        exact ⟨rfl, al⟩
      | true =>
        go_enter Try.func29, Try.ntmps29
        go_wp2_with fail
        refine (unhide D1').mono ?_
        rintro e1 w1 ⟨rfl, hw1⟩
        subst hw1
        go_wp2_with fail
        refine (unhide D2').mono ?_
        rintro e1 w1 ⟨rfl, hw1⟩
        subst hw1
        go_wp2_with fail
        refine (unhide D3').mono ?_
        rintro e1 w1 ⟨rfl, hb1⟩
        go_wp2
        go_ret
        exact ⟨by simp, tr2 al hb1⟩
  · have j1 : (ac == 1) = false := beqI _ _ i1
    have j2 : (ac != 1) = true := bneI' _ _ i1
    rw [decide_eq_false i1]
    clear i1 C1 C2 C3
    go_enter Try.func29, Try.ntmps29
    go_wp2
    go_ret
    exact ⟨rfl, al⟩

def actP (p : PPol) (sp : Int) (nm : ByteArray) : Int := if chkP p = 0 then (rulOf p sp nm).ac else 3
theorem chk_ne {c : Int} (h : ¬ c = 0) : (c == 0) = false ∧ (c != 0) = true := ⟨beqI _ _ h, bneI' _ _ h⟩

theorem fld1 (s : ByteArray) (a : Int) (x y : Value) (w : World) : (Instr.field 53 (.agg #[.string s, .int .i64 a, x, y]) 1).run Try.prog w = .ok (.int .i64 a) w := by kernel_rfl
set_option maxHeartbeats 2000000 in
theorem pact_any (v : Value) (p : PPol) (sp : Int) (nm : ByteArray) (w : World) (hv : PolV w v p) (ho : PolOk p) :
    Calls Try.prog 15 #[v, .int .i64 sp, .string nm] w fun e w' => e = .returned (.int .i64 (actP p sp nm)) ∧ Below w.heap.size w w' := by
  have HV := hide hv
  have C1 := hide (fun W hW => check_any v p W (hv.below hW) ho)
  have C2 := hide (fun W hW => rule_any v p sp nm W (hv.below (w := w) hW))
  obtain ⟨vrs, vs, rfl, h1, h2⟩ := hv
  obtain ⟨a2, c2, rfl⟩ := h2.slice
  obtain ⟨hrl, a1, c1, rfl, _⟩ := h1
  unfold actP
  unfold polC at *
  clear h2
  generalize chkP p = ch at *
  generalize rulOf p sp nm = rr at *
  obtain ⟨rs, sc, ot, st⟩ := p
  dsimp only at *
  generalize rs.length = n1 at *
  generalize sc.length = n2 at *
  have al : Below w.heap.size w (w.alloc (Obj.cells #[.slice a1 n1 c1, .slice a2 n2 c2, .int .i64 ot, .int .i64 st] 25)) := (Below.refl _ _).alloc (Nat.le_refl _) _
  have K := hide (Blk.new w #[.slice a1 n1 c1, .slice a2 n2 c2, .int .i64 ot, .int .i64 st] 25)
  have C1' := hide (unhide C1 _ al)
  by_cases h0 : ch = 0
  · subst h0
    go_enter Try.func15, Try.ntmps15
    go_wp2_with fail
    refine (unhide C1').mono ?_
    rintro e1 w1 ⟨rfl, hb1⟩
    have K1 := hide ((unhide K).later hb1)
    have HB1 := hide (al.trans (hb1.mono (by simp)))
    have z0 : w1.cell? ⟨w.heap.size, 0, none⟩ = some (.slice a1 n1 c1) := (unhide K1).cell 0
    have z1 : w1.cell? ⟨w.heap.size, 1, none⟩ = some (.slice a2 n2 c2) := (unhide K1).cell 1
    have z2 : w1.cell? ⟨w.heap.size, 2, none⟩ = some (.int .i64 ot) := (unhide K1).cell 2
    have z3 : w1.cell? ⟨w.heap.size, 3, none⟩ = some (.int .i64 st) := (unhide K1).cell 3
    have C2' := hide (unhide C2 _ (unhide HB1))
    clear hb1 al C2 C1 C1'
    go_wp2_with fail
    refine (unhide C2').mono ?_
    rintro e1 w2 ⟨⟨v', rfl, va, vl, rfl, _, _⟩, hb2⟩
    have hf := fld1 rr.nm rr.ac va vl
    unfold rulC
    go_wp2
    go_ret
    exact ⟨rfl, tr2 (unhide HB1) hb2⟩
  · obtain ⟨i0, i1⟩ := chk_ne h0
    rw [if_neg h0]
    clear h0
    go_enter Try.func15, Try.ntmps15
    go_wp2_with fail
    refine (unhide C1').mono ?_
    rintro e1 w1 ⟨rfl, hb1⟩
    have HB1 := hide (al.trans (hb1.mono (by simp)))
    go_wp2
    go_ret
    exact ⟨rfl, unhide HB1⟩
end Go.Proofs.Ytfdhmhdemfbfeaa
