/-
  'policy.Check': whether a policy is right, or which error it has (made by mk_wck.py).
-/
import Derived.Test.YtfdhmhdemfbfeaaGreatDoorWCh
namespace Go.Proofs.YtfdhmhdemfbfeaaGreatDoor
open Go.RowKit
set_option linter.unusedVariables false
set_option linter.unusedSimpArgs false

/-- Which error a policy has; 0: none. -/
def chkP (p : PPol) : Int :=
  if shB p = false then 2 else if (!twB (p.rs.map PRul.nm)) = false then 8 else if p.rs.all onceB = false then 8 else if p.rs.all nmsB = false then 4 else if p.rs.all actB = false then 4 else if p.rs.all kepB = false then 4 else if (remB p.ot && remB p.st) = false then 4 else if p.sc.all smlB = false then 4 else 0
theorem sh_parts {p : PPol} (h : shB p = true) : p.rs.length ≤ 60 ∧ p.sc.length ≤ 20 ∧ ∀ r ∈ p.rs, r.ats.length ≤ 20 ∧ r.lks.length ≤ 20 := by
  unfold shB at h
  rw [Bool.and_eq_true, Bool.and_eq_true, decide_eq_true_eq, decide_eq_true_eq, List.all_eq_true] at h
  exact ⟨h.1, h.2.1, fun r hr => by have := h.2.2 r hr; unfold fewB at this; exact of_decide_eq_true this⟩

set_option maxHeartbeats 4000000 in
set_option maxRecDepth 20000 in
theorem check_any (v : Value) (p : PPol) (w : World) (hv : PolV w v p) (ho : PolOk p) :
    Calls Tryz.prog 14 #[v] w fun e w' => e = .returned (.int .i64 (chkP p)) ∧ Below w.heap.size w w' := by
  have HV := hide hv
  have HO := hide ho
  obtain ⟨vr, vs, rfl, h1, h2⟩ := hv
  obtain ⟨a2, c2, rfl⟩ := h2.slice
  obtain ⟨hrl, a1, c1, rfl, _⟩ := h1
  have CD := hide demands_any
  have K0 := hide (fun W hW => short_any _ p W ((unhide HV).below hW))
  have K1 := hide (fun h W hW => once_any _ p W ((unhide HV).below hW) (sh_parts h).1)
  have K2 := hide (fun h c W hW hc => each_nonce _ p c W ((unhide HV).below hW) (fun r hr => ⟨by have := ((sh_parts h).2.2 r hr).1; omega, by have := ((sh_parts h).2.2 r hr).2; omega⟩) hc)
  have K3 := hide (fun c W hW hc => each_names _ p c W ((unhide HV).below hW) (unhide HO).1 hc)
  have K4 := hide (fun c W hW hc => each_act _ p c W ((unhide HV).below hW) (fun _ _ => trivial) hc)
  have K5 := hide (fun c W hW hc => each_kept _ p c W ((unhide HV).below hW) (fun _ _ => trivial) hc)
  have K6 := hide (fun W hW => others_any _ p W ((unhide HV).below hW))
  have K7 := hide (fun W hW => smsc_any _ p W ((unhide HV).below hW) (unhide HO))
  unfold chkP
  unfold polC at *
  obtain ⟨rs, sc, ot, st⟩ := p
  dsimp only at *
  generalize shB ⟨rs, sc, ot, st⟩ = D0 at *
  generalize (!twB (rs.map PRul.nm)) = D1 at *
  generalize rs.all onceB = D2 at *
  generalize rs.all nmsB = D3 at *
  generalize rs.all actB = D4 at *
  generalize rs.all kepB = D5 at *
  generalize (remB ot && remB st) = D6 at *
  generalize sc.all smlB = D7 at *
  clear h2 HV HO
  generalize rs.length = n1 at *
  generalize sc.length = n2 at *
  have KP := hide (Blk.new w #[.slice a1 n1 c1, .slice a2 n2 c2, .int .i64 ot, .int .i64 st] 25)
  have al := (Below.refl w.heap.size w).alloc (Nat.le_refl _) (Obj.cells #[.slice a1 n1 c1, .slice a2 n2 c2, .int .i64 ot, .int .i64 st] 25)
  have hw1 : (w.alloc (Obj.cells #[.slice a1 n1 c1, .slice a2 n2 c2, .int .i64 ot, .int .i64 st] 25)).heap.size = w.heap.size + 1 := by simp
  have CD1 := hide (unhide CD (w.alloc (Obj.cells #[.slice a1 n1 c1, .slice a2 n2 c2, .int .i64 ot, .int .i64 st] 25)))
  rw [hw1] at CD1
  clear CD
  go_enter Tryz.func14, Tryz.ntmps14
  go_wp2_with fail
  refine (unhide CD1).mono ?_
  rintro e1 w0 ⟨rfl, hd, hb⟩
  have HD0 := hide hd
  have KP0 := hide ((unhide KP).later (by rw [hw1]; exact hb))
  have HB0 := hide (al.trans (hb.mono (by omega)))
  clear hb hd al KP hw1 CD1
  go_wp2
  refine wp_loop_rounds 9 ?_
  rw [rounds_succ]
  have e0 : w0.cell? ⟨w.heap.size + 1 + 4, 0, none⟩ = some (.func (Fn.func 43) #[] #[]) := (unhide HD0).dm.cell 0
  have e1 : w0.cell? ⟨w.heap.size + 1 + 4, 1, none⟩ = some (.int .i64 2) := (unhide HD0).dm.cell 1
  have q0 : w0.cell? ⟨w.heap.size, 0, none⟩ = some (.slice a1 n1 c1) := (unhide KP0).cell 0
  have q1 : w0.cell? ⟨w.heap.size, 1, none⟩ = some (.slice a2 n2 c2) := (unhide KP0).cell 1
  have q2 : w0.cell? ⟨w.heap.size, 2, none⟩ = some (.int .i64 ot) := (unhide KP0).cell 2
  have q3 : w0.cell? ⟨w.heap.size, 3, none⟩ = some (.int .i64 st) := (unhide KP0).cell 3
  have hlt0 : w.heap.size + 6 ≤ w0.heap.size := (unhide HD0).dm.lt
  have hq0 : w.heap.size < w0.heap.size := by omega
  have ald := (Below.refl w0.heap.size w0).alloc (Nat.le_refl _) (Obj.cells #[.func (Fn.func 43) #[] #[], .int .i64 2] 72)
  have HBd := hide ((unhide HB0).trans (ald.mono (unhide HB0).size))
  have C := hide (unhide K0 _ (unhide HBd))
  have HDd := hide ((unhide HD0).later ald)
  have KPd := hide ((unhide KP0).later ald)
  have kd := Blk.new w0 #[.func (Fn.func 43) #[] #[], .int .i64 2] 72
  have KD := hide kd
  clear ald kd
  go_wp2_with fail
  refine (unhide C).mono ?_
  rintro e9 w1 ⟨rfl, hb⟩
  have HD1 := hide ((unhide HDd).later hb)
  have KP1 := hide ((unhide KPd).later hb)
  have HB1 := hide ((unhide HBd).trans (hb.mono (unhide HBd).size))
  have x1 : w1.cell? ⟨w0.heap.size, 1, none⟩ = some (.int .i64 2) := ((unhide KD).later hb).cell 1
  clear hb hlt0 hq0 e0 e1 q0 q1 q2 q3 HDd KPd C KD HBd
  cases D0 with
  | false =>
    go_wp2
    go_ret
    exact ⟨rfl, unhide HB1⟩
  | true =>
    clear x1
    go_wp2
    rw [rounds_succ]
    have e0 : w1.cell? ⟨w.heap.size + 1 + 4, 2, none⟩ = some (.func (Fn.func 44) #[] #[]) := (unhide HD1).dm.cell 2
    have e1 : w1.cell? ⟨w.heap.size + 1 + 4, 3, none⟩ = some (.int .i64 8) := (unhide HD1).dm.cell 3
    have q0 : w1.cell? ⟨w.heap.size, 0, none⟩ = some (.slice a1 n1 c1) := (unhide KP1).cell 0
    have q1 : w1.cell? ⟨w.heap.size, 1, none⟩ = some (.slice a2 n2 c2) := (unhide KP1).cell 1
    have q2 : w1.cell? ⟨w.heap.size, 2, none⟩ = some (.int .i64 ot) := (unhide KP1).cell 2
    have q3 : w1.cell? ⟨w.heap.size, 3, none⟩ = some (.int .i64 st) := (unhide KP1).cell 3
    have hlt1 : w.heap.size + 6 ≤ w1.heap.size := (unhide HD1).dm.lt
    have hq1 : w.heap.size < w1.heap.size := by omega
    have ald := (Below.refl w1.heap.size w1).alloc (Nat.le_refl _) (Obj.cells #[.func (Fn.func 44) #[] #[], .int .i64 8] 72)
    have HBd := hide ((unhide HB1).trans (ald.mono (unhide HB1).size))
    have C := hide (unhide K1 (by first | exact rfl | trivial) _ (unhide HBd))
    have HDd := hide ((unhide HD1).later ald)
    have KPd := hide ((unhide KP1).later ald)
    have kd := Blk.new w1 #[.func (Fn.func 44) #[] #[], .int .i64 8] 72
    have KD := hide kd
    clear ald kd
    go_wp2_with fail
    refine (unhide C).mono ?_
    rintro e9 w2 ⟨rfl, hb⟩
    have HD2 := hide ((unhide HDd).later hb)
    have KP2 := hide ((unhide KPd).later hb)
    have HB2 := hide ((unhide HBd).trans (hb.mono (unhide HBd).size))
    have x1 : w2.cell? ⟨w1.heap.size, 1, none⟩ = some (.int .i64 8) := ((unhide KD).later hb).cell 1
    clear hb hlt1 hq1 e0 e1 q0 q1 q2 q3 HDd KPd C KD HBd
    cases D1 with
    | false =>
      go_wp2
      go_ret
      exact ⟨rfl, unhide HB2⟩
    | true =>
      clear x1
      go_wp2
      rw [rounds_succ]
      have e0 : w2.cell? ⟨w.heap.size + 1 + 4, 4, none⟩ = some (.func (Fn.func 63) #[] #[.pointer (some ⟨w.heap.size + 1, 0, none⟩)]) := (unhide HD2).dm.cell 4
      have e1 : w2.cell? ⟨w.heap.size + 1 + 4, 5, none⟩ = some (.int .i64 8) := (unhide HD2).dm.cell 5
      have q0 : w2.cell? ⟨w.heap.size, 0, none⟩ = some (.slice a1 n1 c1) := (unhide KP2).cell 0
      have q1 : w2.cell? ⟨w.heap.size, 1, none⟩ = some (.slice a2 n2 c2) := (unhide KP2).cell 1
      have q2 : w2.cell? ⟨w.heap.size, 2, none⟩ = some (.int .i64 ot) := (unhide KP2).cell 2
      have q3 : w2.cell? ⟨w.heap.size, 3, none⟩ = some (.int .i64 st) := (unhide KP2).cell 3
      have hlt2 : w.heap.size + 6 ≤ w2.heap.size := (unhide HD2).dm.lt
      have hq2 : w.heap.size < w2.heap.size := by omega
      have ald := (Below.refl w2.heap.size w2).alloc (Nat.le_refl _) (Obj.cells #[.func (Fn.func 63) #[] #[.pointer (some ⟨w.heap.size + 1, 0, none⟩)], .int .i64 8] 72)
      have HBd := hide ((unhide HB2).trans (ald.mono (unhide HB2).size))
      have C := hide (unhide K2 (by first | exact rfl | trivial) _ _ (unhide HBd) ((unhide HD2).c0.later ald))
      have HDd := hide ((unhide HD2).later ald)
      have KPd := hide ((unhide KP2).later ald)
      have kd := Blk.new w2 #[.func (Fn.func 63) #[] #[.pointer (some ⟨w.heap.size + 1, 0, none⟩)], .int .i64 8] 72
      have KD := hide kd
      clear ald kd
      go_wp2_with fail
      refine (unhide C).mono ?_
      rintro e9 w3 ⟨rfl, hb⟩
      have HD3 := hide ((unhide HDd).later hb)
      have KP3 := hide ((unhide KPd).later hb)
      have HB3 := hide ((unhide HBd).trans (hb.mono (unhide HBd).size))
      have x1 : w3.cell? ⟨w2.heap.size, 1, none⟩ = some (.int .i64 8) := ((unhide KD).later hb).cell 1
      clear hb hlt2 hq2 e0 e1 q0 q1 q2 q3 HDd KPd C KD HBd
      cases D2 with
      | false =>
        go_wp2
        go_ret
        exact ⟨rfl, unhide HB3⟩
      | true =>
        clear x1
        go_wp2
        rw [rounds_succ]
        have e0 : w3.cell? ⟨w.heap.size + 1 + 4, 6, none⟩ = some (.func (Fn.func 63) #[] #[.pointer (some ⟨w.heap.size + 1 + 1, 0, none⟩)]) := (unhide HD3).dm.cell 6
        have e1 : w3.cell? ⟨w.heap.size + 1 + 4, 7, none⟩ = some (.int .i64 4) := (unhide HD3).dm.cell 7
        have q0 : w3.cell? ⟨w.heap.size, 0, none⟩ = some (.slice a1 n1 c1) := (unhide KP3).cell 0
        have q1 : w3.cell? ⟨w.heap.size, 1, none⟩ = some (.slice a2 n2 c2) := (unhide KP3).cell 1
        have q2 : w3.cell? ⟨w.heap.size, 2, none⟩ = some (.int .i64 ot) := (unhide KP3).cell 2
        have q3 : w3.cell? ⟨w.heap.size, 3, none⟩ = some (.int .i64 st) := (unhide KP3).cell 3
        have hlt3 : w.heap.size + 6 ≤ w3.heap.size := (unhide HD3).dm.lt
        have hq3 : w.heap.size < w3.heap.size := by omega
        have ald := (Below.refl w3.heap.size w3).alloc (Nat.le_refl _) (Obj.cells #[.func (Fn.func 63) #[] #[.pointer (some ⟨w.heap.size + 1 + 1, 0, none⟩)], .int .i64 4] 72)
        have HBd := hide ((unhide HB3).trans (ald.mono (unhide HB3).size))
        have C := hide (unhide K3 _ _ (unhide HBd) ((unhide HD3).c1.later ald))
        have HDd := hide ((unhide HD3).later ald)
        have KPd := hide ((unhide KP3).later ald)
        have kd := Blk.new w3 #[.func (Fn.func 63) #[] #[.pointer (some ⟨w.heap.size + 1 + 1, 0, none⟩)], .int .i64 4] 72
        have KD := hide kd
        clear ald kd
        go_wp2_with fail
        refine (unhide C).mono ?_
        rintro e9 w4 ⟨rfl, hb⟩
        have HD4 := hide ((unhide HDd).later hb)
        have KP4 := hide ((unhide KPd).later hb)
        have HB4 := hide ((unhide HBd).trans (hb.mono (unhide HBd).size))
        have x1 : w4.cell? ⟨w3.heap.size, 1, none⟩ = some (.int .i64 4) := ((unhide KD).later hb).cell 1
        clear hb hlt3 hq3 e0 e1 q0 q1 q2 q3 HDd KPd C KD HBd
        cases D3 with
        | false =>
          go_wp2
          go_ret
          exact ⟨rfl, unhide HB4⟩
        | true =>
          clear x1
          go_wp2
          rw [rounds_succ]
          have e0 : w4.cell? ⟨w.heap.size + 1 + 4, 8, none⟩ = some (.func (Fn.func 63) #[] #[.pointer (some ⟨w.heap.size + 1 + 2, 0, none⟩)]) := (unhide HD4).dm.cell 8
          have e1 : w4.cell? ⟨w.heap.size + 1 + 4, 9, none⟩ = some (.int .i64 4) := (unhide HD4).dm.cell 9
          have q0 : w4.cell? ⟨w.heap.size, 0, none⟩ = some (.slice a1 n1 c1) := (unhide KP4).cell 0
          have q1 : w4.cell? ⟨w.heap.size, 1, none⟩ = some (.slice a2 n2 c2) := (unhide KP4).cell 1
          have q2 : w4.cell? ⟨w.heap.size, 2, none⟩ = some (.int .i64 ot) := (unhide KP4).cell 2
          have q3 : w4.cell? ⟨w.heap.size, 3, none⟩ = some (.int .i64 st) := (unhide KP4).cell 3
          have hlt4 : w.heap.size + 6 ≤ w4.heap.size := (unhide HD4).dm.lt
          have hq4 : w.heap.size < w4.heap.size := by omega
          have ald := (Below.refl w4.heap.size w4).alloc (Nat.le_refl _) (Obj.cells #[.func (Fn.func 63) #[] #[.pointer (some ⟨w.heap.size + 1 + 2, 0, none⟩)], .int .i64 4] 72)
          have HBd := hide ((unhide HB4).trans (ald.mono (unhide HB4).size))
          have C := hide (unhide K4 _ _ (unhide HBd) ((unhide HD4).c2.later ald))
          have HDd := hide ((unhide HD4).later ald)
          have KPd := hide ((unhide KP4).later ald)
          have kd := Blk.new w4 #[.func (Fn.func 63) #[] #[.pointer (some ⟨w.heap.size + 1 + 2, 0, none⟩)], .int .i64 4] 72
          have KD := hide kd
          clear ald kd
          go_wp2_with fail
          refine (unhide C).mono ?_
          rintro e9 w5 ⟨rfl, hb⟩
          have HD5 := hide ((unhide HDd).later hb)
          have KP5 := hide ((unhide KPd).later hb)
          have HB5 := hide ((unhide HBd).trans (hb.mono (unhide HBd).size))
          have x1 : w5.cell? ⟨w4.heap.size, 1, none⟩ = some (.int .i64 4) := ((unhide KD).later hb).cell 1
          clear hb hlt4 hq4 e0 e1 q0 q1 q2 q3 HDd KPd C KD HBd
          cases D4 with
          | false =>
            go_wp2
            go_ret
            exact ⟨rfl, unhide HB5⟩
          | true =>
            clear x1
            go_wp2
            rw [rounds_succ]
            have e0 : w5.cell? ⟨w.heap.size + 1 + 4, 10, none⟩ = some (.func (Fn.func 63) #[] #[.pointer (some ⟨w.heap.size + 1 + 3, 0, none⟩)]) := (unhide HD5).dm.cell 10
            have e1 : w5.cell? ⟨w.heap.size + 1 + 4, 11, none⟩ = some (.int .i64 4) := (unhide HD5).dm.cell 11
            have q0 : w5.cell? ⟨w.heap.size, 0, none⟩ = some (.slice a1 n1 c1) := (unhide KP5).cell 0
            have q1 : w5.cell? ⟨w.heap.size, 1, none⟩ = some (.slice a2 n2 c2) := (unhide KP5).cell 1
            have q2 : w5.cell? ⟨w.heap.size, 2, none⟩ = some (.int .i64 ot) := (unhide KP5).cell 2
            have q3 : w5.cell? ⟨w.heap.size, 3, none⟩ = some (.int .i64 st) := (unhide KP5).cell 3
            have hlt5 : w.heap.size + 6 ≤ w5.heap.size := (unhide HD5).dm.lt
            have hq5 : w.heap.size < w5.heap.size := by omega
            have ald := (Below.refl w5.heap.size w5).alloc (Nat.le_refl _) (Obj.cells #[.func (Fn.func 63) #[] #[.pointer (some ⟨w.heap.size + 1 + 3, 0, none⟩)], .int .i64 4] 72)
            have HBd := hide ((unhide HB5).trans (ald.mono (unhide HB5).size))
            have C := hide (unhide K5 _ _ (unhide HBd) ((unhide HD5).c3.later ald))
            have HDd := hide ((unhide HD5).later ald)
            have KPd := hide ((unhide KP5).later ald)
            have kd := Blk.new w5 #[.func (Fn.func 63) #[] #[.pointer (some ⟨w.heap.size + 1 + 3, 0, none⟩)], .int .i64 4] 72
            have KD := hide kd
            clear ald kd
            go_wp2_with fail
            refine (unhide C).mono ?_
            rintro e9 w6 ⟨rfl, hb⟩
            have HD6 := hide ((unhide HDd).later hb)
            have KP6 := hide ((unhide KPd).later hb)
            have HB6 := hide ((unhide HBd).trans (hb.mono (unhide HBd).size))
            have x1 : w6.cell? ⟨w5.heap.size, 1, none⟩ = some (.int .i64 4) := ((unhide KD).later hb).cell 1
            clear hb hlt5 hq5 e0 e1 q0 q1 q2 q3 HDd KPd C KD HBd
            cases D5 with
            | false =>
              go_wp2
              go_ret
              exact ⟨rfl, unhide HB6⟩
            | true =>
              clear x1
              go_wp2
              rw [rounds_succ]
              have e0 : w6.cell? ⟨w.heap.size + 1 + 4, 12, none⟩ = some (.func (Fn.func 50) #[] #[]) := (unhide HD6).dm.cell 12
              have e1 : w6.cell? ⟨w.heap.size + 1 + 4, 13, none⟩ = some (.int .i64 4) := (unhide HD6).dm.cell 13
              have q0 : w6.cell? ⟨w.heap.size, 0, none⟩ = some (.slice a1 n1 c1) := (unhide KP6).cell 0
              have q1 : w6.cell? ⟨w.heap.size, 1, none⟩ = some (.slice a2 n2 c2) := (unhide KP6).cell 1
              have q2 : w6.cell? ⟨w.heap.size, 2, none⟩ = some (.int .i64 ot) := (unhide KP6).cell 2
              have q3 : w6.cell? ⟨w.heap.size, 3, none⟩ = some (.int .i64 st) := (unhide KP6).cell 3
              have hlt6 : w.heap.size + 6 ≤ w6.heap.size := (unhide HD6).dm.lt
              have hq6 : w.heap.size < w6.heap.size := by omega
              have ald := (Below.refl w6.heap.size w6).alloc (Nat.le_refl _) (Obj.cells #[.func (Fn.func 50) #[] #[], .int .i64 4] 72)
              have HBd := hide ((unhide HB6).trans (ald.mono (unhide HB6).size))
              have C := hide (unhide K6 _ (unhide HBd))
              have HDd := hide ((unhide HD6).later ald)
              have KPd := hide ((unhide KP6).later ald)
              have kd := Blk.new w6 #[.func (Fn.func 50) #[] #[], .int .i64 4] 72
              have KD := hide kd
              clear ald kd
              go_wp2_with fail
              refine (unhide C).mono ?_
              rintro e9 w7 ⟨rfl, hb⟩
              have HD7 := hide ((unhide HDd).later hb)
              have KP7 := hide ((unhide KPd).later hb)
              have HB7 := hide ((unhide HBd).trans (hb.mono (unhide HBd).size))
              have x1 : w7.cell? ⟨w6.heap.size, 1, none⟩ = some (.int .i64 4) := ((unhide KD).later hb).cell 1
              clear hb hlt6 hq6 e0 e1 q0 q1 q2 q3 HDd KPd C KD HBd
              cases D6 with
              | false =>
                go_wp2
                go_ret
                exact ⟨rfl, unhide HB7⟩
              | true =>
                clear x1
                go_wp2
                rw [rounds_succ]
                have e0 : w7.cell? ⟨w.heap.size + 1 + 4, 14, none⟩ = some (.func (Fn.func 51) #[] #[]) := (unhide HD7).dm.cell 14
                have e1 : w7.cell? ⟨w.heap.size + 1 + 4, 15, none⟩ = some (.int .i64 4) := (unhide HD7).dm.cell 15
                have q0 : w7.cell? ⟨w.heap.size, 0, none⟩ = some (.slice a1 n1 c1) := (unhide KP7).cell 0
                have q1 : w7.cell? ⟨w.heap.size, 1, none⟩ = some (.slice a2 n2 c2) := (unhide KP7).cell 1
                have q2 : w7.cell? ⟨w.heap.size, 2, none⟩ = some (.int .i64 ot) := (unhide KP7).cell 2
                have q3 : w7.cell? ⟨w.heap.size, 3, none⟩ = some (.int .i64 st) := (unhide KP7).cell 3
                have hlt7 : w.heap.size + 6 ≤ w7.heap.size := (unhide HD7).dm.lt
                have hq7 : w.heap.size < w7.heap.size := by omega
                have ald := (Below.refl w7.heap.size w7).alloc (Nat.le_refl _) (Obj.cells #[.func (Fn.func 51) #[] #[], .int .i64 4] 72)
                have HBd := hide ((unhide HB7).trans (ald.mono (unhide HB7).size))
                have C := hide (unhide K7 _ (unhide HBd))
                have HDd := hide ((unhide HD7).later ald)
                have KPd := hide ((unhide KP7).later ald)
                have kd := Blk.new w7 #[.func (Fn.func 51) #[] #[], .int .i64 4] 72
                have KD := hide kd
                clear ald kd
                go_wp2_with fail
                refine (unhide C).mono ?_
                rintro e9 w8 ⟨rfl, hb⟩
                have HD8 := hide ((unhide HDd).later hb)
                have KP8 := hide ((unhide KPd).later hb)
                have HB8 := hide ((unhide HBd).trans (hb.mono (unhide HBd).size))
                have x1 : w8.cell? ⟨w7.heap.size, 1, none⟩ = some (.int .i64 4) := ((unhide KD).later hb).cell 1
                clear hb hlt7 hq7 e0 e1 q0 q1 q2 q3 HDd KPd C KD HBd
                cases D7 with
                | false =>
                  go_wp2
                  go_ret
                  exact ⟨rfl, unhide HB8⟩
                | true =>
                  clear x1
                  go_wp2
                  rw [rounds_succ]
                  go_wp2
                  go_ret
                  exact ⟨rfl, unhide HB8⟩
end Go.Proofs.YtfdhmhdemfbfeaaGreatDoor
