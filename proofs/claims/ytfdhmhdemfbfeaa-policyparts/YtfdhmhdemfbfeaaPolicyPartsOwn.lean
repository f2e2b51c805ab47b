/-
  For every policy and all nodes the law PolicyParts answers true: nodes are allowed just if each of them is; and each argument reads as it did.
-/
import Derived.Test.YtfdhmhdemfbfeaaWWd
import Derived.Test.YtfdhmhdemfbfeaaWLg
import Derived.Test.YtfdhmhdemfbfeaaWSc
import Derived.Test.YtfdhmhdemfbfeaaOPo
import Derived.ProofKit
import Derived.Carry
import Derived.OpenShut
import Derived.ShutString
import Derived.ChangeOld
import Derived.Below

/-
  'rectolaw16.PolicyParts' (made by mk_lwp.py).
-/
namespace Go.Proofs.Ytfdhmhdemfbfeaa
open Go.RowKit
set_option linter.unusedVariables false
set_option linter.unusedSimpArgs false

set_option maxHeartbeats 8000000 in
set_option maxRecDepth 20000 in
theorem policyParts_walk (v : Value) (p : PPol) (f : Forest) (q : Option Addr) (cap : Nat) (w : World) (hv : PolV w v p) (ho : PolOk p) (hf : Fo q f w) (hcap : f.len ≤ cap) :
    Calls Try.prog 6 #[v, .slice q f.len cap] w fun e w' => e = .returned (.bool true) ∧ Below w.heap.size w w' := by
  have CL := hide (fun W hW => large16_any v p W (hv.below (w := w) hW) ho)
  have CW := hide (fun W (hW : Below w.heap.size w W) => wide_any f q cap W (hf.below hW))
  have CS := hide script_any
  have CC := hide (fun W hW => check_any v p W (hv.below (w := w) hW) ho)
  have CA := hide (fun W (hW : Below w.heap.size w W) g qg cg hg hcg hc hok => allows_any v p g qg cg W (hv.below hW) ho hg hcg hc hok)
  have HWI := hide (@wide_items f)
  have HAC := hide (@alw_cons p)
  have HAN := hide (@alw_nil p)
  have HF := hide hf
  obtain ⟨vr, vs, rfl, h1, h2⟩ := hv
  obtain ⟨a2, c2, rfl⟩ := h2.slice
  obtain ⟨hrl, a1, c1, rfl, _⟩ := h1
  unfold polC at *
  clear h2 ho hf
  generalize lgP p = lg at *
  generalize (lgT 1 f 600).1 = wd at *
  generalize chkP p = ch at *
  generalize hn1 : p.rs.length = n1 at *
  generalize p.sc.length = n2 at *
  generalize p.ot = ot at *
  generalize p.st = st at *
  clear hn1
  have al := (Below.refl w.heap.size w).alloc (Nat.le_refl _) (Obj.cells #[.slice a1 n1 c1, .slice a2 n2 c2, .int .i64 ot, .int .i64 st] 25)
  have K := hide (Blk.new w #[.slice a1 n1 c1, .slice a2 n2 c2, .int .i64 ot, .int .i64 st] 25)
  have CL0 := hide (unhide CL _ al)
  clear CL
  cases lg with
  | true =>
    generalize f.len = fl at *
    go_enter Try.func6, Try.ntmps6
    go_wp2_with fail
    refine (unhide CL0).mono ?_
    rintro e1 w1 ⟨rfl, hb1⟩
    have HB1 := hide (bel_of hb1)
    go_wp2_with fail
    refine (unhide CS _).mono ?_
    rintro e1 w2 ⟨rfl, hb2⟩
    go_wp2
    go_ret
    exact ⟨rfl, tr2 (unhide HB1) hb2⟩
  | false =>
  cases wd with
  | true =>
    generalize f.len = fl at *
    go_enter Try.func6, Try.ntmps6
    go_wp2_with fail
    refine (unhide CL0).mono ?_
    rintro e1 w1 ⟨rfl, hb1⟩
    have HB1 := hide (bel_of hb1)
    go_wp2_with fail
    refine (unhide CW w1 (unhide HB1)).mono ?_
    rintro e1 w2 ⟨rfl, hb2⟩
    have HB2 := hide (tr2 (unhide HB1) hb2)
    go_wp2_with fail
    refine (unhide CS _).mono ?_
    rintro e1 w3 ⟨rfl, hb3⟩
    go_wp2
    go_ret
    exact ⟨rfl, tr2 (unhide HB2) hb3⟩
  | false =>
  have HOK := hide (unhide HWI rfl)
  by_cases h0 : ch = 0
  rotate_left
  · obtain ⟨i0, i1⟩ := chk_ne h0
    generalize f.len = fl at *
    go_enter Try.func6, Try.ntmps6
    go_wp2_with fail
    refine (unhide CL0).mono ?_
    rintro e1 w1 ⟨rfl, hb1⟩
    have HB1 := hide (bel_of hb1)
    have K1 := hide ((unhide K).later hb1)
    clear hb1
    go_wp2_with fail
    refine (unhide CW w1 (unhide HB1)).mono ?_
    rintro e1 w2 ⟨rfl, hb2⟩
    have HB2 := hide (tr2 (unhide HB1) hb2)
    have K2 := hide ((unhide K1).later hb2)
    clear hb2 h0
    have q0 : w2.cell? ⟨w.heap.size, 0, none⟩ = some (.slice a1 n1 c1) := (unhide K2).cell 0
    have q1 : w2.cell? ⟨w.heap.size, 1, none⟩ = some (.slice a2 n2 c2) := (unhide K2).cell 1
    have q2 : w2.cell? ⟨w.heap.size, 2, none⟩ = some (.int .i64 ot) := (unhide K2).cell 2
    have q3 : w2.cell? ⟨w.heap.size, 3, none⟩ = some (.int .i64 st) := (unhide K2).cell 3
    go_wp2_with fail
    refine (unhide CC w2 (unhide HB2)).mono ?_
    rintro e1 w3 ⟨rfl, hb3⟩
    have HB3 := hide (tr2 (unhide HB2) hb3)
    clear hb3 q0 q1 q2 q3
    go_wp2_with fail
    refine (unhide CS _).mono ?_
    rintro e1 w4 ⟨rfl, hb4⟩
    go_wp2
    go_ret
    exact ⟨rfl, tr2 (unhide HB3) hb4⟩
  subst h0
  have HAC' := hide (fun k sp n ats tx kids rest => unhide HAC rfl k sp n ats tx kids rest)
  have HAN' := hide (unhide HAN rfl)
  clear HAC HAN HWI
  have hlc := f.len_count
  have hfl : f.len ≤ 600 := by have := (unhide HOK).2; omega
  go_enter Try.func6, Try.ntmps6
  go_wp2_with fail
  refine (unhide CL0).mono ?_
  rintro e1 w1 ⟨rfl, hb1⟩
  have HB1 := hide (bel_of hb1)
  have K1 := hide ((unhide K).later hb1)
  clear hb1 K CL0 al
  go_wp2_with fail
  refine (unhide CW w1 (unhide HB1)).mono ?_
  rintro e1 w2 ⟨rfl, hb2⟩
  have HB2 := hide (tr2 (unhide HB1) hb2)
  have K2 := hide ((unhide K1).later hb2)
  clear hb2 K1 CW
  have q0 : w2.cell? ⟨w.heap.size, 0, none⟩ = some (.slice a1 n1 c1) := (unhide K2).cell 0
  have q1 : w2.cell? ⟨w.heap.size, 1, none⟩ = some (.slice a2 n2 c2) := (unhide K2).cell 1
  have q2 : w2.cell? ⟨w.heap.size, 2, none⟩ = some (.int .i64 ot) := (unhide K2).cell 2
  have q3 : w2.cell? ⟨w.heap.size, 3, none⟩ = some (.int .i64 st) := (unhide K2).cell 3
  go_wp2_with fail
  refine (unhide CC w2 (unhide HB2)).mono ?_
  rintro e1 w3 ⟨rfl, hb3⟩
  have HB3 := hide (tr2 (unhide HB2) hb3)
  have K3 := hide ((unhide K2).later hb3)
  have hlt3 : w.heap.size < w3.heap.size := (unhide K3).lt
  clear hb3 q0 q1 q2 q3 K2 CC HB1 HB2
  go_wp2
  go_loopw [5, 22] (fun a i wr => ∃ (j : Nat) (acc : Bool), j ≤ f.len ∧ i = .int .i64 j ∧ a = .bool acc ∧ (acc && alwF p (f.drop j)) = alwF p f ∧ Below w3.heap.size w3 wr) (fun _ i _ => f.len - (intOf i).toNat)
  case atStart => exact ⟨0, true, Nat.zero_le _, rfl, rfl, by rw [Forest.drop_zero]; rfl, Below.refl _ _⟩
  case round =>
    obtain ⟨j, acc, hj, rfl, rfl, hsum, hbw⟩ := hrel
    have hsz := hbw.size
    have HBW := hide ((unhide HB3).trans (hbw.mono (unhide HB3).size))
    have K4 := hide ((unhide K3).later hbw)
    by_cases hp : j < f.len
    · have hpi : (j : Int) < (f.len : Int) := by omega
      obtain ⟨k, sp, n, ats, tx, kids, hd⟩ := f.drop_cons j hp
      rcases (unhide HF).below (unhide HBW) with h | ⟨g, oo, hq, hl⟩
      · rw [h] at hp; simp [Forest.len] at hp
      subst hq
      have hlj := hl.drop j
      rw [hd] at hlj hsum
      obtain ⟨⟨c0, c1', c2', ⟨qa, ca, c3, hsl⟩, c4, ⟨qk, ck, c5, hck, hfo⟩⟩, _⟩ := hlj
      rw [unhide HAC' k sp n ats tx kids (f.drop (j + 1))] at hsum
      have HS := hide hsum
      clear hsum hl
      cases acc with
      | false =>
        generalize ats.length = na at *
        generalize kids.len = nk at *
        clear hsl hfo hd
        go_wp2
        go_roundw
        case rel => exact ⟨j + 1, false, by omega, by go_num, rfl, by have := unhide HS; simpa using this, hbw.alloc hsz _⟩
        case measure => simp [intOf]; omega
      | true =>
        have hok : ∀ it ∈ items (.cons k sp n ats tx kids .nil) 1, OkI it := fun it hi => OkN.okI ((unhide HOK).1 it (drop_items j f 1 it (by
          rw [hd]
          have hi' : it ∈ (⟨k, sp, n, ats, tx, kids, 1⟩ : Item) :: (items kids (1 + 1) ++ []) := hi
          show it ∈ (⟨k, sp, n, ats, tx, kids, 1⟩ : Item) :: (items kids (1 + 1) ++ items (f.drop (j + 1)) 1)
          rw [List.append_nil] at hi'
          simp only [List.mem_cons, List.mem_append] at hi' ⊢
          rcases hi' with h | h
          · exact Or.inl h
          · exact Or.inr (Or.inl h))))
        have hct : (Forest.cons k sp n ats tx kids .nil).count ≤ 1000000 := by
          have h1 : (f.drop j).count ≤ f.count := f.count_drop j
          rw [hd] at h1
          have := (unhide HOK).2
          simp only [Forest.count] at h1 ⊢
          omega
        have alA := (hbw.alloc hsz (Obj.cells #[.int .i64 k, .int .i64 sp, .string n, .slice qa ats.length ca, .string tx, .slice qk kids.len ck] 43))
        have alB := alA.alloc alA.size (Obj.cells #[.int .i64 k, .int .i64 sp, .string n, .slice qa ats.length ca, .string tx, .slice qk kids.len ck] 43)
        have HBB := hide ((unhide HB3).trans (alB.mono (unhide HB3).size))
        have hN := Blk.new (wr.alloc (Obj.cells #[.int .i64 k, .int .i64 sp, .string n, .slice qa ats.length ca, .string tx, .slice qk kids.len ck] 43)) #[.int .i64 k, .int .i64 sp, .string n, .slice qa ats.length ca, .string tx, .slice qk kids.len ck] 43
        have hbA2 : Below wr.heap.size wr ((wr.alloc (Obj.cells #[.int .i64 k, .int .i64 sp, .string n, .slice qa ats.length ca, .string tx, .slice qk kids.len ck] 43)).alloc (Obj.cells #[.int .i64 k, .int .i64 sp, .string n, .slice qa ats.length ca, .string tx, .slice qk kids.len ck] 43)) := ((Below.refl _ _).alloc (Nat.le_refl _) _).alloc (by simp) _
        have hls : Lies (.cons k sp n ats tx kids .nil) (wr.heap.size + 1) 0 ((wr.alloc (Obj.cells #[.int .i64 k, .int .i64 sp, .string n, .slice qa ats.length ca, .string tx, .slice qk kids.len ck] 43)).alloc (Obj.cells #[.int .i64 k, .int .i64 sp, .string n, .slice qa ats.length ca, .string tx, .slice qk kids.len ck] 43)) := by
          have hz : (wr.alloc (Obj.cells #[.int .i64 k, .int .i64 sp, .string n, .slice qa ats.length ca, .string tx, .slice qk kids.len ck] 43)).heap.size = wr.heap.size + 1 := by simp
          rw [hz] at hN
          refine ⟨⟨hN.cell 0, hN.cell 1, hN.cell 2, ⟨qa, ca, hN.cell 3, hsl.below hbA2⟩, hN.cell 4, ⟨qk, ck, hN.cell 5, hck, ?_⟩⟩, trivial⟩
          exact (show Fo qk kids wr from hfo).below hbA2
        have CB := hide (unhide CA _ (unhide HBB) (.cons k sp n ats tx kids .nil) (some ⟨wr.heap.size + 1, 0, none⟩) 1 (Or.inr ⟨_, _, rfl, hls⟩) (Nat.le_refl _) hct hok)
        rw [show (Forest.cons k sp n ats tx kids .nil).len = 1 from rfl] at CB
        generalize alwF p (.cons k sp n ats tx kids .nil) = D at *
        have HALB := hide alB
        have q0 : wr.cell? ⟨w.heap.size, 0, none⟩ = some (.slice a1 n1 c1) := (unhide K4).cell 0
        have q1 : wr.cell? ⟨w.heap.size, 1, none⟩ = some (.slice a2 n2 c2) := (unhide K4).cell 1
        have q2 : wr.cell? ⟨w.heap.size, 2, none⟩ = some (.int .i64 ot) := (unhide K4).cell 2
        have q3 : wr.cell? ⟨w.heap.size, 3, none⟩ = some (.int .i64 st) := (unhide K4).cell 3
        have hltw : w.heap.size < wr.heap.size := by omega
        generalize ats.length = na at *
        generalize kids.len = nk at *
        clear hsl hfo hd hok hct alA alB hN hbA2 hls hck
        go_wp2_with fail
        refine (unhide CB).mono ?_
        rintro e1 w5 ⟨rfl, hb5⟩
        have HB5 := hide ((unhide HALB).trans (hb5.mono (unhide HALB).size))
        clear hb5 CB
        go_wp2
        go_roundw
        case rel => exact ⟨j + 1, D, by omega, by go_num, rfl, by have := unhide HS; simpa using this, unhide HB5⟩
        case measure => simp [intOf]; omega
    · have hpi : ¬ (j : Int) < (f.len : Int) := by omega
      rw [f.drop_out j (by omega), unhide HAN', Bool.and_true] at hsum
      have CB := hide (unhide CA wr (unhide HBW) f q cap ((unhide HF).below (unhide HBW)) hcap (by have := (unhide HOK).2; omega) (fun it hi => OkN.okI ((unhide HOK).1 it hi)))
      rw [← hsum] at CB
      have hself : (acc == acc) = true := beq_self_eq_true _
      have q0 : wr.cell? ⟨w.heap.size, 0, none⟩ = some (.slice a1 n1 c1) := (unhide K4).cell 0
      have q1 : wr.cell? ⟨w.heap.size, 1, none⟩ = some (.slice a2 n2 c2) := (unhide K4).cell 1
      have q2 : wr.cell? ⟨w.heap.size, 2, none⟩ = some (.int .i64 ot) := (unhide K4).cell 2
      have q3 : wr.cell? ⟨w.heap.size, 3, none⟩ = some (.int .i64 st) := (unhide K4).cell 3
      clear hsum hp
      generalize f.len = fl at *
      go_wp2_with fail
      refine (unhide CB).mono ?_
      rintro e1 w5 ⟨rfl, hb5⟩
      have HB5 := hide (tr2 (unhide HBW) hb5)
      clear hb5 CB
      go_wp2_with fail
      refine (unhide CS _).mono ?_
      rintro e1 w6 ⟨rfl, hb6⟩
      go_wp2
      go_ret
      exact ⟨rfl, tr2 (unhide HB5) hb6⟩
end Go.Proofs.Ytfdhmhdemfbfeaa

namespace Go.Proofs.Ytfdhmhdemfbfeaa.policypartsF
open Go.ChangeShapes Go.WideShapes Go.ChangeAt Go.RowKit
open Go.ChangeMaps (open_string shut_string)
set_option linter.unusedVariables false

theorem own : ownKnob Try.prog.godebug = none := by kernel_rfl
theorem laidOut : laidOutB Try.prog = true := by kernel_rfl

set_option maxRecDepth 100000 in
theorem lifted (os : Os) (started : os.Started) (H : Type) (enc : TypeId × Value → H) :
    ReturnsInHanded {} Try.checked os 6 .any (Rows.policyPartsSpec.pre6 enc Try.prog Try.f6 Rows.policyPartsRow.domain false) (Rows.policyPartsSpec.post enc Try.prog Try.f6 false true false false) := by
  refine returnsInHanded_of_change (C := Try.checked) own started (by kernel_rfl) Try.func6
    (ChangeSpec.witness6 (enc := enc) (C := Try.checked) false ⟨#[], #[.agg #[.slice none 0 0, .slice none 0 0, .int .i64 0, .int .i64 0], .slice none 0 0], []⟩ 8 (by kernel_rfl) (by kernel_rfl) (by kernel_rfl) (by kernel_rfl)) ?_
  intro W base args ds gs before hval0 hW hcnd _
  have hval : ∀ (j : Nat) t v, Try.f6.params[j]? = some t → args[j]? = some v → Value.okWide Try.prog W .any base t v := hval0
  have hW' := hW
  obtain ⟨p, q, hA0, hV, rfl, hfz, hnd⟩ := hW
  have hA : DataW.TrodAll enc Try.prog W 0 (fun _ => true) true Try.f6.params.toList args.toList ds p := hA0
  rw [Try.params6] at hA hval
  obtain ⟨v0, vs0, d0, ds0, p0, q0, hargs, rfl, rfl, h0, r0⟩ := trodAll_cons hA
  obtain ⟨v1, vs1, d1, ds1, p1, q1, rfl, rfl, rfl, h1, r1⟩ := trodAll_cons r0
  obtain ⟨rfl, rfl, rfl⟩ := trodAll_nil r1
  obtain rfl : args = #[v0, v1] := by cases args; simp_all
  obtain ⟨rfl, rfl⟩ := trodVars_none hV
  have k0 := h0
  have lt0 : ∀ x ∈ p0, x.block < W.heap.size := by obtain ⟨m, hm⟩ := k0; exact DataW.trod_lt m _ _ _ hm
  obtain ⟨P0, w0, o0⟩ := open_policy (hval 0 25 v0 rfl rfl) h0
  have k1 := h1
  have lt1 : ∀ x ∈ p1, x.block < W.heap.size := by obtain ⟨m, hm⟩ := k1; exact DataW.trod_lt m _ _ _ hm
  obtain ⟨qq1, len1, cap1, rfl⟩ := okWide_slice Try.underlying41 (hval 1 41 v1 rfl rfl)
  obtain ⟨f1, rfl, hcap1, hfo1⟩ := open_nodes h1
  clear hA0 hval0
  refine (policyParts_walk v0 P0 f1 qq1 cap1 W w0 o0 hfo1 hcap1).mono fun e W' ⟨he, bel⟩ => ?_
  subst he
  exact ⟨_, rfl, _, _, _, [], _, [], hW', trodAll_mk1 (shut_bool Try.underlying4 _), (trodAll_cons_mk (Below.trod laidOut (by kernel_rfl) (of_decide_eq_true (by kernel_rfl)) k0 bel lt0) (trodAll_cons_mk (Below.trod laidOut (by kernel_rfl) (of_decide_eq_true (by kernel_rfl)) k1 bel lt1) trodAll_mk0)), rfl, bel.frame _, fun h => by cases h⟩

theorem over : Rows.policyPartsRow.holds Try.pinned (OpenSpec.ofChange Rows.policyPartsSpec) :=
  OpenClaim.holds_of_wide 6 Try.f6 rfl rfl rfl rfl rfl rfl rfl ⟨rfl, rfl, rfl, rfl, rfl⟩ rfl rfl rfl rfl rfl (by kernel_rfl) Try.func6 (by kernel_rfl)
    (of_decide_eq_true (by kernel_rfl)) (by unfold Func.isWrapper; first | (rw [if_pos (by decide +kernel)]; kernel_rfl) | (rw [if_neg (by decide +kernel)]; exact ⟨rfl, rfl⟩))
    (fun os started H enc _ => lifted os started H enc)
end Go.Proofs.Ytfdhmhdemfbfeaa.policypartsF

namespace Go.Proofs.Ytfdhmhdemfbfeaa
theorem policyParts_holds : Rows.PolicyPartsSaid := policypartsF.over
end Go.Proofs.Ytfdhmhdemfbfeaa
