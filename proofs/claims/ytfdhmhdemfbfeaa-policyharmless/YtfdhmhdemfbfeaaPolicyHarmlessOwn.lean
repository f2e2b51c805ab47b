/-
  For all nodes the law PolicyHarmless answers true: what the plain policy allows has no script, and no address that leads to one; and the argument reads as it did.
-/
import Derived.Test.YtfdhmhdemfbfeaaWHm
import Derived.Test.YtfdhmhdemfbfeaaOPo
import Derived.ProofKit
import Derived.Carry
import Derived.OpenShut
import Derived.ShutString
import Derived.ChangeOld
import Derived.Below

/-
  'rectolaw16.PolicyHarmless' (made by mk_lwh.py).
-/
namespace Go.Proofs.Ytfdhmhdemfbfeaa
open Go.RowKit
set_option linter.unusedVariables false
set_option linter.unusedSimpArgs false

set_option maxHeartbeats 4000000 in
theorem policyHarmless_walk (f : Forest) (q : Option Addr) (cap : Nat) (w : World) (hf : Fo q f w) (hcap : f.len ≤ cap) :
    Calls Try.prog 5 #[.slice q f.len cap] w fun e w' => e = .returned (.bool true) ∧ Below w.heap.size w w' := by
  have CW := hide (wide_any f q cap w hf)
  have CS := hide script_any
  have CP := hide plain16_any
  have CA := hide (fun v W (hv : PolV W v plainP) (hW : Below w.heap.size w W) hc hok => allows_any v plainP f q cap W hv pl_ok (hf.below hW) hcap hc hok)
  have CF := hide (fun W (hW : Below w.heap.size w W) hc hok => leaf_any 1000000 f hc (Nat.le_refl _) hok q cap W (hf.below hW))
  have CH := hide (fun W (hW : Below w.heap.size w W) hc hok => harm_any 1000000 f hc (Nat.le_refl _) hok q cap W (hf.below hW))
  have HWI := hide (@wide_items f)
  have HPL := hide (@harm_is f)
  clear hf
  generalize (lgT 1 f 600).1 = wd at *
  generalize alwF plainP f = DA at *
  generalize lfF f = DF at *
  generalize hmF f = DH at *
  generalize hfl : f.len = fl at *
  cases wd with
  | true =>
    go_enter Try.func5, Try.ntmps5
    go_wp2_with fail
    refine (unhide CW).mono ?_
    rintro e1 w1 ⟨rfl, hb1⟩
    go_wp2_with fail
    refine (unhide CS _).mono ?_
    rintro e1 w2 ⟨rfl, hb2⟩
    go_wp2
    go_ret
    exact ⟨rfl, tr2 hb1 hb2⟩
  | false =>
  obtain ⟨hok, hcn⟩ := unhide HWI rfl
  have hcm : f.count ≤ 1000000 := by omega
  have CA' := hide (fun v W hv hW => unhide CA v W hv hW hcm (fun it hi => OkN.okI (hok it hi)))
  have CF' := hide (fun W hW => unhide CF W hW hcm (all_depths hok))
  have CH' := hide (fun W hW => unhide CH W hW hcm (all_depths hok))
  clear CA CF CH HWI hok hcn hcm hfl hcap
  go_enter Try.func5, Try.ntmps5
  go_wp2_with fail
  refine (unhide CW).mono ?_
  rintro e1 w1 ⟨rfl, hb1⟩
  have HB1 := hide hb1
  clear hb1 CW
  go_wp2_with fail
  refine (unhide CP _).mono ?_
  rintro e1 w2 ⟨⟨v, rfl, hv⟩, hb2⟩
  have HB2 := hide (tr2 (unhide HB1) hb2)
  have CA2 := hide (unhide CA' v w2 hv (unhide HB2))
  obtain ⟨vr, vs, rfl, h1, h2⟩ := hv
  clear hb2 CA' h1 h2
  unfold polC at CA2
  unfold polC
  go_wp2_with fail
  refine (unhide CA2).mono ?_
  rintro e1 w3 ⟨rfl, hb3⟩
  have HB3 := hide (tr2 (unhide HB2) hb3)
  clear hb3 CA2
  cases DA with
  | false =>
    go_wp2_with fail
    refine (unhide CS _).mono ?_
    rintro e1 w4 ⟨rfl, hb4⟩
    go_wp2
    go_ret
    exact ⟨rfl, tr2 (unhide HB3) hb4⟩
  | true =>
  have CF3 := hide (unhide CF' w3 (unhide HB3))
  go_wp2_with fail
  refine (unhide CF3).mono ?_
  rintro e1 w4 ⟨rfl, hb4⟩
  have HB4 := hide (tr2 (unhide HB3) hb4)
  clear hb4 CF3
  cases DF with
  | true =>
    go_wp2_with fail
    refine (unhide CS _).mono ?_
    rintro e1 w5 ⟨rfl, hb5⟩
    go_wp2
    go_ret
    exact ⟨rfl, tr2 (unhide HB4) hb5⟩
  | false =>
  have hdh : DH = true := unhide HPL (by first | rfl | trivial) (by first | rfl | trivial)
  subst hdh
  have CH4 := hide (unhide CH' w4 (unhide HB4))
  go_wp2_with fail
  refine (unhide CH4).mono ?_
  rintro e1 w5 ⟨rfl, hb5⟩
  have HB5 := hide (tr2 (unhide HB4) hb5)
  clear hb5 CH4
  go_wp2_with fail
  refine (unhide CS _).mono ?_
  rintro e1 w6 ⟨rfl, hb6⟩
  go_wp2
  go_ret
  exact ⟨rfl, tr2 (unhide HB5) hb6⟩
end Go.Proofs.Ytfdhmhdemfbfeaa

namespace Go.Proofs.Ytfdhmhdemfbfeaa.policyharmlessF
open Go.ChangeShapes Go.WideShapes Go.ChangeAt Go.RowKit
open Go.ChangeMaps (open_string shut_string)
set_option linter.unusedVariables false

theorem own : ownKnob Try.prog.godebug = none := by kernel_rfl
theorem laidOut : laidOutB Try.prog = true := by kernel_rfl

set_option maxRecDepth 100000 in
theorem lifted (os : Os) (started : os.Started) (H : Type) (enc : TypeId × Value → H) :
    ReturnsInHanded {} Try.checked os 5 .any (Rows.policyHarmlessSpec.pre6 enc Try.prog Try.f5 Rows.policyHarmlessRow.domain false) (Rows.policyHarmlessSpec.post enc Try.prog Try.f5 false true false false) := by
  refine returnsInHanded_of_change (C := Try.checked) own started (by kernel_rfl) Try.func5
    (ChangeSpec.witness6 (enc := enc) (C := Try.checked) false ⟨#[], #[.slice none 0 0], []⟩ 8 (by kernel_rfl) (by kernel_rfl) (by kernel_rfl) (by kernel_rfl)) ?_
  intro W base args ds gs before hval0 hW hcnd _
  have hval : ∀ (j : Nat) t v, Try.f5.params[j]? = some t → args[j]? = some v → Value.okWide Try.prog W .any base t v := hval0
  have hW' := hW
  obtain ⟨p, q, hA0, hV, rfl, hfz, hnd⟩ := hW
  have hA : DataW.TrodAll enc Try.prog W 0 (fun _ => true) true Try.f5.params.toList args.toList ds p := hA0
  rw [Try.params5] at hA hval
  obtain ⟨v0, vs0, d0, ds0, p0, q0, hargs, rfl, rfl, h0, r0⟩ := trodAll_cons hA
  obtain ⟨rfl, rfl, rfl⟩ := trodAll_nil r0
  obtain rfl : args = #[v0] := by cases args; simp_all
  obtain ⟨rfl, rfl⟩ := trodVars_none hV
  have k0 := h0
  have lt0 : ∀ x ∈ p0, x.block < W.heap.size := by obtain ⟨m, hm⟩ := k0; exact DataW.trod_lt m _ _ _ hm
  obtain ⟨qq0, len0, cap0, rfl⟩ := okWide_slice Try.underlying41 (hval 0 41 v0 rfl rfl)
  obtain ⟨f0, rfl, hcap0, hfo0⟩ := open_nodes h0
  clear hA0 hval0
  refine (policyHarmless_walk f0 qq0 cap0 W hfo0 hcap0).mono fun e W' ⟨he, bel⟩ => ?_
  subst he
  exact ⟨_, rfl, _, _, _, [], _, [], hW', trodAll_mk1 (shut_bool Try.underlying4 _), (trodAll_cons_mk (Below.trod laidOut (by kernel_rfl) (of_decide_eq_true (by kernel_rfl)) k0 bel lt0) trodAll_mk0), rfl, bel.frame _, fun h => by cases h⟩

theorem over : Rows.policyHarmlessRow.holds Try.pinned (OpenSpec.ofChange Rows.policyHarmlessSpec) :=
  OpenClaim.holds_of_wide 5 Try.f5 rfl rfl rfl rfl rfl rfl rfl ⟨rfl, rfl, rfl, rfl, rfl⟩ rfl rfl rfl rfl rfl (by kernel_rfl) Try.func5 (by kernel_rfl)
    (of_decide_eq_true (by kernel_rfl)) (by unfold Func.isWrapper; first | (rw [if_pos (by decide +kernel)]; kernel_rfl) | (rw [if_neg (by decide +kernel)]; exact ⟨rfl, rfl⟩))
    (fun os started H enc _ => lifted os started H enc)
end Go.Proofs.Ytfdhmhdemfbfeaa.policyharmlessF

namespace Go.Proofs.Ytfdhmhdemfbfeaa
theorem policyHarmless_holds : Rows.PolicyHarmlessSaid := policyharmlessF.over
end Go.Proofs.Ytfdhmhdemfbfeaa
