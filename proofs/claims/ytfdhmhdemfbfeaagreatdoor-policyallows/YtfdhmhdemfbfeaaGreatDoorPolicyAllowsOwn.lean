/-
  For every policy and all nodes the law PolicyAllows answers true: whether the policy allows the nodes, and what is the first thing that it does not allow, is the document's answer; the two tables of the package utf start as the program's text lays them (the card ties them); and each argument reads as it did.
-/
import Derived.Test.YtfdhmhdemfbfeaaGreatDoorWRg
import Derived.Test.YtfdhmhdemfbfeaaGreatDoorWRc
import Derived.Test.YtfdhmhdemfbfeaaGreatDoorMgBV
import Derived.Test.YtfdhmhdemfbfeaaGreatDoorCards
import Derived.Test.YtfdhmhdemfbfeaaGreatDoorTie
import Derived.Test.YtfdhmhdemfbfeaaGreatDoorOPo
import Derived.ProofKit
import Derived.OpenShut
import Derived.ShutString
import Derived.ChangeOld
import Derived.Below
import Derived.Deep.DeepHandedRow
import Derived.Lib.LaidTab

/-
  'rectolaw16.PolicyAllows' (made by mk_lwl.py).
-/
namespace Go.Proofs.YtfdhmhdemfbfeaaGreatDoor
open Go.RowKit
set_option linter.unusedVariables false
set_option linter.unusedSimpArgs false

theorem alw_no {p : PPol} (h : ¬ chkP p = 0) (f : Forest) : alwF p f = false := by unfold alwF; rw [decide_eq_false h]; rfl
set_option maxHeartbeats 8000000 in
set_option maxRecDepth 20000 in
theorem policyAllows_walk (v : Value) (p : PPol) (f : Forest) (q : Option Addr) (cap : Nat) (w : World) (ht : Tabs w) (hv : PolV w v p) (ho : PolOk p) (hf : Fo q f w) (hcap : f.len ≤ cap) :
    Calls Tryz.prog 3 #[v, .slice q f.len cap] w fun e w' => e = .returned (.bool true) ∧ Below w.heap.size w w' := by
  have CL := hide (fun W hW => large16_any v p W (hv.below (w := w) hW) ho)
  have CW := hide (fun W (hW : Below w.heap.size w W) => wide_any f q cap W (hf.below hW))
  have CS := hide script_any
  have CR := hide (fun W hW h80 => refP_any v p W (hv.below (w := w) hW) h80)
  have CA := hide (fun W (hW : Below w.heap.size w W) hc hok => allows_any v p f q cap W (hv.below hW) ho (hf.below hW) hcap hc hok)
  have CF := hide (fun W (hW : Below w.heap.size w W) hc hok => pfirst_any v p f q cap W (ht.below hW) (hv.below hW) ho (hf.below hW) hcap hc hok)
  have CC := hide (fun v' W (hp : PolV W v' p) hc => rcheck_any v' p W hp hc ho)
  rw [chk_is] at CC
  have CG := hide (fun v' W (hW : Below w.heap.size w W) (hp : PolV W v' p) (hch : chkP p = 0) hc hok => rfirst_any 1000000 f hc (Nat.le_refl _) hok v' p q cap W hp hch (hf.below hW))
  have HLG := hide (@lg_parts p)
  have HWI := hide (@wide_items f)
  have HAY := hide (fun h => @alw_fd p h f)
  have HAN := hide (fun h => @alw_no p h f)
  obtain ⟨vr, vs, rfl, h1, h2⟩ := hv
  obtain ⟨a2, c2, rfl⟩ := h2.slice
  obtain ⟨hrl, a1, c1, rfl, _⟩ := h1
  have HSL : Hid (∀ W v', PolV W v' p → ∃ q1 e1 q2 e2, v' = .agg #[.slice q1 p.rs.length e1, .slice q2 p.sc.length e2, .int .i64 p.ot, .int .i64 p.st]) := hide (fun W v' h => by
    obtain ⟨x, y, rfl, ⟨_, q1, e1, rfl, _⟩, g2⟩ := h
    obtain ⟨q2, e2, rfl⟩ := g2.slice
    exact ⟨q1, e1, q2, e2, rfl⟩)
  unfold polC at *
  clear h2 ho hf ht
  generalize lgP p = lg at *
  generalize (lgT 1 f 600).1 = wd at *
  generalize alwF p f = AL at *
  generalize fdF p f = FD at *
  generalize chkP p = ch at *
  have HSV1 : Hid (ch = 0 → (if ch = 0 then FD.1 else ⟨#[]⟩) = FD.1) := hide (fun h => if_pos h)
  have HSV2 : Hid (¬ ch = 0 → (if ch = 0 then FD.1 else ⟨#[]⟩) = (⟨#[]⟩ : ByteArray)) := hide (fun h => if_neg h)
  generalize (if ch = 0 then FD.1 else (⟨#[]⟩ : ByteArray)) = SV at *
  have H80 : Hid (lg = false → p.rs.length ≤ 80) := hide (fun h => (unhide HLG h).1)
  generalize p.rs.length = n1 at *
  generalize p.sc.length = n2 at *
  generalize p.ot = ot at *
  generalize p.st = st at *
  clear HLG
  have al := (Below.refl w.heap.size w).alloc (Nat.le_refl _) (Obj.cells #[.slice a1 n1 c1, .slice a2 n2 c2, .int .i64 ot, .int .i64 st] 25)
  have K := hide (Blk.new w #[.slice a1 n1 c1, .slice a2 n2 c2, .int .i64 ot, .int .i64 st] 25)
  have CL0 := hide (unhide CL _ al)
  clear CL al
  generalize hfl : f.len = fl at *
  clear hfl
  cases lg with
  | true =>
    go_enter Tryz.func3, Tryz.ntmps3
    go_wp2_with fail
    refine (unhide CL0).mono ?_
    rintro e1 w1 ⟨rfl, hb1⟩
    have HB1 := hide (bel_of hb1)
    go_wp2_with fail
    refine (unhide CS _).mono ?_
    rintro e1 w2 ⟨rfl, hb2⟩
    go_wp2
    go_ret
    exact ⟨rfl, tr2 (unhide HB1) hb2⟩
  | false =>
  cases wd with
  | true =>
    go_enter Tryz.func3, Tryz.ntmps3
    go_wp2_with fail
    refine (unhide CL0).mono ?_
    rintro e1 w1 ⟨rfl, hb1⟩
    have HB1 := hide (bel_of hb1)
    go_wp2_with fail
    refine (unhide CW w1 (unhide HB1)).mono ?_
    rintro e1 w2 ⟨rfl, hb2⟩
    have HB2 := hide (tr2 (unhide HB1) hb2)
    go_wp2_with fail
    refine (unhide CS _).mono ?_
    rintro e1 w3 ⟨rfl, hb3⟩
    go_wp2
    go_ret
    exact ⟨rfl, tr2 (unhide HB2) hb3⟩
  | false =>
  obtain ⟨hokn, hcn⟩ := unhide HWI (by first | rfl | trivial)
  have hcm : f.count ≤ 1000000 := by omega
  have CA' := hide (fun W hW => unhide CA W hW hcm (fun it hi => OkN.okI (hokn it hi)))
  have CF' := hide (fun W hW => unhide CF W hW hcm hokn)
  have CG' := hide (fun v' W hW hp hch => unhide CG v' W hW hp hch hcm (all_depths hokn))
  clear CA CF CG HWI hokn hcn hcm
  go_enter Tryz.func3, Tryz.ntmps3
  go_wp2_with fail
  refine (unhide CL0).mono ?_
  rintro x1 w1 ⟨rfl, hb1⟩
  have HB1 := hide (bel_of hb1)
  have K1 := hide ((unhide K).later hb1)
  clear hb1 K CL0
  go_wp2_with fail
  refine (unhide CW w1 (unhide HB1)).mono ?_
  rintro x1 w2 ⟨rfl, hb2⟩
  have HB2 := hide (tr2 (unhide HB1) hb2)
  have K2 := hide ((unhide K1).later hb2)
  have CR2 := hide (unhide CR w2 (unhide HB2) (unhide H80 (by first | rfl | trivial)))
  clear hb2 K1 HB1 CW CR H80
  have p0 : w2.cell? ⟨w.heap.size, 0, none⟩ = some (.slice a1 n1 c1) := (unhide K2).cell 0
  have p1 : w2.cell? ⟨w.heap.size, 1, none⟩ = some (.slice a2 n2 c2) := (unhide K2).cell 1
  have p2 : w2.cell? ⟨w.heap.size, 2, none⟩ = some (.int .i64 ot) := (unhide K2).cell 2
  have p3 : w2.cell? ⟨w.heap.size, 3, none⟩ = some (.int .i64 st) := (unhide K2).cell 3
  go_wp2_with fail
  refine (unhide CR2).mono ?_
  rintro x1 w3 ⟨⟨v3, rfl, hpv, hcp⟩, hb3⟩
  have HPV := hide hpv
  have HCAP := hide hcp
  obtain ⟨b1, e1, b2, e2, rfl⟩ := unhide HSL w3 v3 hpv
  clear p0 p1 p2 p3
  have K3 := hide ((unhide K2).later hb3)
  have alr := (Below.refl w3.heap.size w3).alloc (Nat.le_refl _) (Obj.cells #[.slice b1 n1 e1, .slice b2 n2 e2, .int .i64 ot, .int .i64 st] 32)
  have HB3 := hide (tr2 (tr2 (unhide HB2) hb3) alr)
  have K4 := hide ((unhide K3).later alr)
  have KR4 := hide (Blk.new w3 #[.slice b1 n1 e1, .slice b2 n2 e2, .int .i64 ot, .int .i64 st] 32)
  have HPV4 := hide ((unhide HPV).below alr)
  have hlt3 : w.heap.size < w3.heap.size := (unhide K3).lt
  have CA3 := hide (unhide CA' _ (unhide HB3))
  clear hb3 alr K2 HB2 CR2 hpv hcp HSL HPV
  have p0 : w3.cell? ⟨w.heap.size, 0, none⟩ = some (.slice a1 n1 c1) := (unhide K3).cell 0
  have p1 : w3.cell? ⟨w.heap.size, 1, none⟩ = some (.slice a2 n2 c2) := (unhide K3).cell 1
  have p2 : w3.cell? ⟨w.heap.size, 2, none⟩ = some (.int .i64 ot) := (unhide K3).cell 2
  have p3 : w3.cell? ⟨w.heap.size, 3, none⟩ = some (.int .i64 st) := (unhide K3).cell 3
  go_wp2_with fail
  refine (unhide CA3).mono ?_
  rintro x1 w4 ⟨rfl, hb4⟩
  clear p0 p1 p2 p3
  have HB4 := hide (tr2 (unhide HB3) hb4)
  have K5 := hide ((unhide K4).later hb4)
  have KR5 := hide ((unhide KR4).later hb4)
  have HPV5 := hide ((unhide HPV4).below hb4)
  have CF4 := hide (unhide CF' w4 (unhide HB4))
  clear hb4 K3 K4 KR4 HPV4 HB3 CA3 CA'
  have p0 : w4.cell? ⟨w.heap.size, 0, none⟩ = some (.slice a1 n1 c1) := (unhide K5).cell 0
  have p1 : w4.cell? ⟨w.heap.size, 1, none⟩ = some (.slice a2 n2 c2) := (unhide K5).cell 1
  have p2 : w4.cell? ⟨w.heap.size, 2, none⟩ = some (.int .i64 ot) := (unhide K5).cell 2
  have p3 : w4.cell? ⟨w.heap.size, 3, none⟩ = some (.int .i64 st) := (unhide K5).cell 3
  go_wp2_with fail
  refine (unhide CF4).mono ?_
  rintro x1 w5 ⟨rfl, hb5⟩
  clear p0 p1 p2 p3
  have HB5 := hide (tr2 (unhide HB4) hb5)
  have KR6 := hide ((unhide KR5).later hb5)
  have HPV6 := hide ((unhide HPV5).below hb5)
  have CC5 := hide (unhide CC _ w5 (unhide HPV6) (unhide HCAP))
  clear hb5 K5 KR5 HPV5 HB4 CF4 CF'
  have r0 : w5.cell? ⟨w3.heap.size, 0, none⟩ = some (.slice b1 n1 e1) := (unhide KR6).cell 0
  have r1 : w5.cell? ⟨w3.heap.size, 1, none⟩ = some (.slice b2 n2 e2) := (unhide KR6).cell 1
  have r2 : w5.cell? ⟨w3.heap.size, 2, none⟩ = some (.int .i64 ot) := (unhide KR6).cell 2
  have r3 : w5.cell? ⟨w3.heap.size, 3, none⟩ = some (.int .i64 st) := (unhide KR6).cell 3
  go_wp2_with fail
  refine (unhide CC5).mono ?_
  rintro x1 w6 ⟨rfl, hb6⟩
  clear r0 r1 r2 r3
  have HB6 := hide (tr2 (unhide HB5) hb6)
  have KR7 := hide ((unhide KR6).later hb6)
  have HPV7 := hide ((unhide HPV6).below hb6)
  clear hb6 KR6 HPV6 HB5 CC5 CC
  by_cases h0 : ch = 0
  · subst h0
    have ea := unhide HAY (by first | rfl | trivial)
    subst ea
    have es := unhide HSV1 (by first | rfl | trivial)
    subst es
    have CG6 := hide (unhide CG' _ w6 (unhide HB6) (unhide HPV7) (by first | rfl | trivial))
    obtain ⟨FS, FB⟩ := FD
    dsimp only at *
    have r0 : w6.cell? ⟨w3.heap.size, 0, none⟩ = some (.slice b1 n1 e1) := (unhide KR7).cell 0
    have r1 : w6.cell? ⟨w3.heap.size, 1, none⟩ = some (.slice b2 n2 e2) := (unhide KR7).cell 1
    have r2 : w6.cell? ⟨w3.heap.size, 2, none⟩ = some (.int .i64 ot) := (unhide KR7).cell 2
    have r3 : w6.cell? ⟨w3.heap.size, 3, none⟩ = some (.int .i64 st) := (unhide KR7).cell 3
    go_wp2_with fail
    refine (unhide CG6).mono ?_
    rintro x1 w7 ⟨rfl, hb7⟩
    have HB7 := hide (tr2 (unhide HB6) hb7)
    have HB8 := hide ((unhide HB7).alloc (unhide HB7).size (Obj.cells #[.string FS, .bool FB] 38))
    have hss := beq_yes (rfl : FS = FS)
    clear r0 r1 r2 r3 hb7 CG6
    cases FB with
    | true =>
      go_wp2_with fail
      refine (unhide CS _).mono ?_
      rintro x1 w8 ⟨rfl, hb8⟩
      go_wp2
      go_ret
      exact ⟨rfl, tr2 (unhide HB8) hb8⟩
    | false =>
      go_wp2_with fail
      refine (unhide CS _).mono ?_
      rintro x1 w8 ⟨rfl, hb8⟩
      go_wp2
      go_ret
      exact ⟨rfl, tr2 (unhide HB8) hb8⟩
  · obtain ⟨i0, i1⟩ := chk_ne h0
    have ea := unhide HAN h0
    have es := unhide HSV2 h0
    subst ea es
    clear h0
    go_wp2_with fail
    refine (unhide CS _).mono ?_
    rintro x1 w8 ⟨rfl, hb8⟩
    go_wp2
    go_ret
    exact ⟨rfl, tr2 (unhide HB6) hb8⟩
end Go.Proofs.YtfdhmhdemfbfeaaGreatDoor

namespace Go.Proofs.YtfdhmhdemfbfeaaGreatDoor.policyAllowsF
open Go.ChangeShapes Go.WideShapes Go.ChangeAt Go.RowKit
open Go.ChangeMaps (open_string shut_string)
set_option linter.unusedVariables false

theorem own : ownKnob Tryz.prog.godebug = none := by kernel_rfl
theorem gHeads : Tryz.prog.globalNamed "recto/utf.heads" = some 0 := by kernel_rfl
theorem gEnds : Tryz.prog.globalNamed "recto/utf.ends" = some 1 := by kernel_rfl
theorem gHeadsType : (Tryz.prog.globals[0]?).map (·.type) = some 115 := by kernel_rfl
theorem gEndsType : (Tryz.prog.globals[1]?).map (·.type) = some 115 := by kernel_rfl
theorem cellsArr : Tryz.prog.cellsOf 115 = 5 := by kernel_rfl
theorem cellsInt : Tryz.prog.cellsOf 3 = 1 := by kernel_rfl

/-- What the row's list gives: the two tables' cells. -/
theorem heads {W : World} (h : laidMetH Tryz.prog Rows.policyAllowsRow.laid W) : Lib.TabIs Tryz.prog W "recto/utf.heads" .i64 [0, 0, 192, 224, 240] :=
  Lib.tabIs_of_head (rest := [("recto/utf.ends", Rows.laid_recto_utf_ends)]) gHeads gHeadsType Tryz.underlying115 Tryz.underlying3 cellsInt cellsArr h
theorem ends {W : World} (h : laidMetH Tryz.prog Rows.policyAllowsRow.laid W) : Lib.TabIs Tryz.prog W "recto/utf.ends" .i64 [0, 128, 2048, 65536, 1114112] := by
  have h0 : laidMet Tryz.prog [("recto/utf.heads", Rows.laid_recto_utf_heads), ("recto/utf.ends", Rows.laid_recto_utf_ends)] W := h
  obtain ⟨ps, ⟨g1, t1, cs1, f1, p1, q1, _, _, _, _, hrest, rfl⟩, hnd, hcell⟩ := h0
  have h1 : laidMet Tryz.prog [("recto/utf.ends", Rows.laid_recto_utf_ends)] W :=
    ⟨q1, hrest, (List.nodup_append.1 hnd).2.1, fun b off hm => hcell b off (List.mem_append_right _ hm)⟩
  exact Lib.tabIs_of_head (rest := []) gEnds gEndsType Tryz.underlying115 Tryz.underlying3 cellsInt cellsArr h1
theorem tabs {W : World} (h : laidMetH Tryz.prog Rows.policyAllowsRow.laid W) : Tabs W :=
  ⟨(heads h).cell gHeads 1 (by decide), (heads h).cell gHeads 2 (by decide), (heads h).cell gHeads 3 (by decide), (heads h).cell gHeads 4 (by decide),
   (ends h).cell gEnds 1 (by decide), (ends h).cell gEnds 2 (by decide), (ends h).cell gEnds 3 (by decide), (ends h).cell gEnds 4 (by decide)⟩

theorem laidOut : laidOutB Tryz.prog = true := by kernel_rfl
set_option maxRecDepth 100000 in
theorem contract (H : Type) (enc : TypeId × Value → H) (W : World) (base : Nat) (args : Array Value) (ds gs : List (DataW H)) (before : List MemPlace)
    (hval : ∀ (j : Nat) t v, Tryz.f3.params[j]? = some t → args[j]? = some v → Value.okWide Tryz.prog W .any base t v)
    (hW : DataW.Whole enc Tryz.prog Tryz.f3.params.toList Rows.policyAllowsSpec.vars false W args.toList ds gs before) (hL : laidMetH Tryz.prog Rows.policyAllowsRow.laid W) :
    Calls Tryz.prog 3 args W fun e W' => ∃ v, e = .returned v ∧ Rows.policyAllowsSpec.post enc Tryz.prog Tryz.f3 false true false false W args v W' := by
  have hW' := hW
  obtain ⟨p, q, hA0, hV, rfl, hfz, hnd⟩ := hW
  have hA : DataW.TrodAll enc Tryz.prog W 0 (fun _ => true) true Tryz.f3.params.toList args.toList ds p := hA0
  rw [Tryz.params3] at hA hval
  obtain ⟨v0, vs0, d0, ds0, p0, q0, hargs, rfl, rfl, h0, r0⟩ := trodAll_cons hA
  obtain ⟨v1, vs1, d1, ds1, p1, q1, rfl, rfl, rfl, h1, r1⟩ := trodAll_cons r0
  obtain ⟨rfl, rfl, rfl⟩ := trodAll_nil r1
  obtain rfl : args = #[v0, v1] := by cases args; simp_all
  obtain ⟨rfl, rfl⟩ := trodVars_none hV
  have hlt0 : ∀ x ∈ p0, x.block < W.heap.size := fun x hx => hW'.lt x (by simp [hx])
  obtain ⟨P0, w0, o0⟩ := open_policy (hval 0 25 v0 rfl rfl) h0
  have hlt1 : ∀ x ∈ p1, x.block < W.heap.size := fun x hx => hW'.lt x (by simp [hx])
  obtain ⟨q1', len1, cap1, rfl⟩ := okWide_slice Tryz.underlying26 (hval 1 26 v1 rfl rfl)
  obtain ⟨f1, rfl, hcap1, hfo1⟩ := open_nodes h1
  clear hA0
  refine (policyAllows_walk v0 P0 f1 q1' cap1 W (tabs hL) w0 o0 hfo1 hcap1).mono fun e W' ⟨he, bel⟩ => ?_
  subst he
  exact ⟨_, rfl, _, _, _, [], _, [], hW', trodAll_mk1 (shut_bool Tryz.underlying4 _), (trodAll_cons_mk (Below.trod laidOut (by kernel_rfl) (of_decide_eq_true (by kernel_rfl)) h0 bel hlt0) (trodAll_cons_mk (Below.trod laidOut (by kernel_rfl) (of_decide_eq_true (by kernel_rfl)) h1 bel hlt1) trodAll_mk0)), rfl, bel.frame _, fun h => by cases h⟩

/-- What the tables' initialisers lay. -/
def lay0 : Obj → Obj
  | .cells _ t frozen => .cells #[.int .i64 0, .int .i64 0, .int .i64 192, .int .i64 224, .int .i64 240] t frozen
  | o => o
def lay1 : Obj → Obj
  | .cells _ t frozen => .cells #[.int .i64 0, .int .i64 128, .int .i64 2048, .int .i64 65536, .int .i64 1114112] t frozen
  | o => o
theorem laid_met (os : Os) : laidMet Tryz.prog Rows.policyAllowsRow.laid (({ World.holding Tryz.prog os ⟨#[], #[], []⟩ with heap := ((World.holding Tryz.prog os ⟨#[], #[], []⟩).heap.modify 0 lay0).modify 1 lay1 } : World).forCall (fun _ _ => 0) ⟨#[], #[.agg #[.slice none 0 0, .slice none 0 0, .int .i64 0, .int .i64 0], .slice none 0 0], []⟩).memory :=
  laidMet_of_run' 8 (by kernel_rfl) (by kernel_rfl)
theorem reads (os : Os) {H : Type} (enc : TypeId × Value → H) : ∃ places, DataW.whole enc Tryz.prog (({ World.holding Tryz.prog os ⟨#[], #[], []⟩ with heap := ((World.holding Tryz.prog os ⟨#[], #[], []⟩).heap.modify 0 lay0).modify 1 lay1 } : World).forCall (fun _ _ => 0) ⟨#[], #[.agg #[.slice none 0 0, .slice none 0 0, .int .i64 0, .int .i64 0], .slice none 0 0], []⟩).memory Tryz.f3.params.toList Rows.policyAllowsSpec.vars false #[Value.agg #[.slice none 0 0, .slice none 0 0, .int .i64 0, .int .i64 0], Value.slice none 0 0].toList 8 = some ([.agg [.nil, .nil, .lit (.int .i64 0), .lit (.int .i64 0)], .nil], [], places) :=
  ⟨[], by kernel_rfl⟩

set_option maxRecDepth 100000 in
theorem lifted (os : Os) (started : os.Started) (H : Type) (enc : TypeId × Value → H) (F : Stop.Interp) :
    ReturnsInHanded {} Tryz.checked os 3 .any ((OpenSpec.ofChange Rows.policyAllowsSpec).preRow enc Tryz.prog Tryz.f3 Rows.policyAllowsRow.domain false Rows.policyAllowsRow.laid) (((OpenSpec.ofChange Rows.policyAllowsSpec).at F).post enc Tryz.prog Tryz.f3 false true false false) := by
  obtain ⟨places, hx⟩ := reads os enc
  refine returnsInHanded_of_row (C := Tryz.checked) (s := OpenSpec.ofChange Rows.policyAllowsSpec) own started (by kernel_rfl) Tryz.func3
    (witness_row_at (enc := enc) (C := Tryz.checked) false ({ World.holding Tryz.prog os ⟨#[], #[], []⟩ with heap := ((World.holding Tryz.prog os ⟨#[], #[], []⟩).heap.modify 0 lay0).modify 1 lay1 } : World) #[.agg #[.slice none 0 0, .slice none 0 0, .int .i64 0, .int .i64 0], .slice none 0 0] rfl (by kernel_rfl) (by kernel_rfl) (by kernel_rfl)
      (OpenSpec.preRow_of_cond 8 hx (by kernel_rfl) (fun k hk => by cases hk) (by kernel_rfl) (laid_met os))) ?_
  intro W base args ds gs before hval hW _ _ _ hL _ _
  exact contract H enc W base args ds gs before hval hW hL

theorem said : Rows.PolicyAllowsSaid :=
  OpenClaim.holds_of_cond 3 Tryz.f3 rfl rfl rfl rfl rfl rfl rfl ⟨rfl, rfl, rfl, rfl, rfl⟩ rfl rfl rfl rfl rfl (by kernel_rfl) Tryz.func3 (by kernel_rfl)
    (of_decide_eq_true (by kernel_rfl)) (by unfold Func.isWrapper; first | (rw [if_pos (by decide +kernel)]; kernel_rfl) | (rw [if_neg (by decide +kernel)]; exact ⟨rfl, rfl⟩))
    (fun os started H enc _ F => by rw [OpenClaim.pre_eq_preRow]; exact lifted os started H enc F)

theorem plain (f : FuncId) (fn : Func) (hf : Tryz.pinned.checked.prog.funcNamed "recto/rectolaw16.PolicyAllows" = some f) (hfn : Tryz.pinned.checked.prog.funcs[f]? = some fn) :
    false = Tryz.pinned.checked.prog.looks [] ∧ ∀ (j : Nat) t, fn.params[j]? = some t → Tryz.pinned.checked.prog.wantsStandIn t = false := by
  obtain rfl : f = 3 := Option.some.inj ((show Tryz.prog.funcNamed "recto/rectolaw16.PolicyAllows" = some 3 by kernel_rfl).symm.trans hf) |>.symm
  obtain rfl : fn = Tryz.f3 := (Option.some.inj (Tryz.func3.symm.trans hfn)).symm
  refine ⟨by kernel_rfl, fun j t ht => ?_⟩
  rw [Tryz.params3] at ht
  have hm := Array.mem_of_getElem? ht
  simp at hm
  rcases hm with rfl | rfl
  · exact (show Tryz.prog.wantsStandIn 25 = false by kernel_rfl)
  · exact (show Tryz.prog.wantsStandIn 26 = false by kernel_rfl)

theorem card : Rows.PolicyAllowsCardSaid :=
  Claim7.holds_tied_plain_at .later [] _ _ _ _ said (fun _ h => by cases h) (by kernel_rfl) (fun _ h => by cases h) policyAllows_row_tie rfl ⟨rfl, rfl⟩ (by kernel_rfl) rfl plain (by kernel_rfl)
end Go.Proofs.YtfdhmhdemfbfeaaGreatDoor.policyAllowsF

namespace Go.Proofs.YtfdhmhdemfbfeaaGreatDoor
theorem policyAllows_card : Rows.PolicyAllowsCardSaid := policyAllowsF.card
end Go.Proofs.YtfdhmhdemfbfeaaGreatDoor
