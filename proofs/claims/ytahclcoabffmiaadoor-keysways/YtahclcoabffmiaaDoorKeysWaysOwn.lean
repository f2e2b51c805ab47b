/-
  For all nodes, every number and every way the law KeysWays answers true: each node's way, and the node at any way, are the document's; three tables of the library start as the program's text lays them (the card ties them); and each argument reads as it did.
-/
import Derived.Test.YtahclcoabffmiaaDoorMgBC
import Derived.Test.YtahclcoabffmiaaDoorKTh
import Derived.Test.YtahclcoabffmiaaDoorRWy
import Derived.Test.YtahclcoabffmiaaDoorOFo
import Derived.Test.YtahclcoabffmiaaDoorMgAT
import Derived.Test.YtahclcoabffmiaaDoorCards
import Derived.Test.YtahclcoabffmiaaDoorTie
import Derived.ProofKit
import Derived.OpenShut
import Derived.ShutString
import Derived.ChangeOld
import Derived.Below
import Derived.Deep.DeepHandedRow
import Derived.Lib.LaidTab

/-
  The law KeysWays.
-/
namespace Go.Proofs.YtahclcoabffmiaaDoor
open Go.RowKit Go.Maps
set_option linter.unusedVariables false
set_option linter.unusedSimpArgs false

theorem nods_form {f : Forest} {zs : List Int} {v : Value} {w : World} (h : NodS f zs v w) : ∃ (k sp : Int) (n tx : ByteArray) (qa qk : Option Addr) (la ca lk ck : Nat), v = ndV k sp n qa la ca tx qk lk ck := by
  rcases h with ⟨_, rfl⟩ | ⟨_, k, sp, n, ats, tx, kids, rest, _, qa, ca, qk, ck, rfl, _⟩
  · exact ⟨0, 0, ⟨#[]⟩, ⟨#[]⟩, none, none, 0, 0, 0, 0, rfl⟩
  · exact ⟨k, sp, n, tx, qa, qk, _, ca, _, ck, rfl⟩
set_option maxHeartbeats 4000000 in
set_option maxRecDepth 100000 in
theorem kways_walk (f : Forest) (q : Option Addr) (cap : Nat) (num : Int) (zs : List Int) (qw : Option Addr) (n cw : Nat) (w : World) (hf : Fo q f w) (hcap : f.len ≤ cap) (hw : IntsV qw n zs w) (hcw : n ≤ cw) :
    Calls Tryd.prog 4 #[.slice q f.len cap, .int .i64 num, .slice qw n cw] w fun e w' => e = .returned (.bool true) ∧ Below w.heap.size w w' := by
  have CL := hide (large19_any f q cap w hf)
  obtain ⟨lb, lN, hlg⟩ : ∃ lb lN, lgT 1 f 400 = (lb, lN) := ⟨_, _, rfl⟩
  rw [hlg] at CL
  dsimp only at CL
  by_cases hbig : lb = true ∨ 100 < n
  · have hpick : Hid (lb = true ∨ (lb = false ∧ 100 < n)) := hide (by cases lb <;> simp_all)
    clear hf hlg hcap hw hcw hbig
    generalize f.len = fl at *
    go_enter Tryd.func4, Tryd.ntmps4
    go_wp2_with fail
    refine (unhide CL).mono ?_
    rintro e w1 ⟨rfl, hb1⟩
    have HB := hide hb1
    have C3 := hide (three_any w1)
    clear CL hb1
    rcases unhide hpick with rfl | ⟨rfl, hn⟩
    · go_wp2_with fail
      refine (unhide C3).mono ?_
      rintro e w2 ⟨rfl, hb2⟩
      have HB2 := hide (tr2 (unhide HB) hb2)
      clear C3 hb2
      go_wp2
      go_ret
      exact ⟨rfl, unhide HB2⟩
    · have hni : (100 : Int) < (n : Int) := by omega
      go_wp2_with fail
      refine (unhide C3).mono ?_
      rintro e w2 ⟨rfl, hb2⟩
      have HB2 := hide (tr2 (unhide HB) hb2)
      clear C3 hb2
      go_wp2
      go_ret
      exact ⟨rfl, unhide HB2⟩
  have hlb : lb = false := by cases lb <;> simp_all
  subst hlb
  have hn1 : n ≤ 100 := by omega
  obtain ⟨hs, hn⟩ := lgT_small (by omega) hlg
  have hr := lgT_room 1 f 400 lN hlg
  have hc : f.count ≤ 400 := by omega
  have hfl := f.len_count
  obtain ⟨hsa, hca⟩ := atN_small zs f hs
  have C1 := hide (fun (W : World) (hW : Below w.heap.size w W) => way_any f q cap num W (hf.below hW) hcap (by omega))
  have C2 := hide (fun (W : World) (hW : Below w.heap.size w W) => at_any f q cap zs qw n cw W (hf.below hW) hcap hs (by omega) (hw.below hW) hcw (by omega))
  have C3 := hide (fun (W : World) (hW : Below w.heap.size w W) => rnod_any zs f q cap qw n cw w W hf hW (by omega) (by omega) (hw.below hW) hcw (by omega))
  have C4 := hide (fun v1 v2 (W : World) (h1 : NodS f zs v1 W) (h2 : NodS f zs v2 W) => nods_same f zs v1 v2 W h1 h2 hsa (by omega))
  have C5 := hide (fun (W : World) (hW : Below w.heap.size w W) => rcount_any f.count f (Nat.le_refl _) (by omega) q cap W (hf.below hW))
  have C6 := hide (fun (W : World) (hW : Below w.heap.size w W) (h0 : 0 ≤ num) (h1 : num ≤ 1000000) => rway_any f.count f (Nat.le_refl _) (by omega) q cap num W h0 h1 (hf.below hW))
  have HWL := hide (wayF_len f 0 num)
  have HWO := hide (wayF_out f 0 num)
  obtain ⟨E, hE⟩ : ∃ E, atE f zs = E := ⟨_, rfl⟩
  have HE := hide hE
  have hci : (f.count : Int) ≤ 400 := by omega
  obtain ⟨E2, hE2⟩ : ∃ E2 : Int, (if num < 0 ∨ (f.count : Int) ≤ num then 6 else 0 : Int) = E2 := ⟨_, rfl⟩
  rw [hE2] at C1
  have HE2 := hide hE2
  generalize f.count = N at *
  generalize f.len = fl at *
  clear hf hlg hcap hw hs hn hr hsa hca hfl hbig hE hE2
  have hn100 : ¬ (100 : Int) < (n : Int) := by omega
  go_enter Tryd.func4, Tryd.ntmps4
  go_wp2_with fail
  refine (unhide CL).mono ?_
  rintro e w1 ⟨rfl, hb1⟩
  have C1' := hide (unhide C1 w1 hb1)
  have HB1 := hide hb1
  clear CL C1 hb1
  go_wp2_with fail
  refine (unhide C1').mono ?_
  rintro e w2 ⟨q2, n2, c2, hnc2, rfl, hi2, hb2⟩
  have HB2 := hide (tr2 (unhide HB1) hb2)
  have HI2 := hide hi2
  have C2' := hide (unhide C2 w2 (unhide HB2))
  clear C1' C2 hb2 hi2
  go_wp2_with fail
  refine (unhide C2').mono ?_
  rintro e w3 ⟨v3, rfl, hv3, hb3⟩
  obtain ⟨k, sp, nm, tx, qa, qk, la, ca, lk, ck, rfl⟩ := nods_form hv3
  rw [unhide HE]
  have HV3 := hide hv3
  have HB3 := hide (tr2 (unhide HB2) hb3)
  have HI3 := hide ((unhide HI2).below hb3)
  obtain ⟨W4, hW4⟩ : ∃ W4, w3.alloc (Obj.cells #[.int .i64 k, .int .i64 sp, .string nm, .slice qa la ca, .string tx, .slice qk lk ck] 34) = W4 := ⟨_, rfl⟩
  have hbW4 : Below w3.heap.size w3 W4 := by rw [← hW4]; exact (Below.refl _ _).alloc (Nat.le_refl _) _
  have hk4 : Blk W4 w3.heap.size #[.int .i64 k, .int .i64 sp, .string nm, .slice qa la ca, .string tx, .slice qk lk ck] 34 := by rw [← hW4]; exact Blk.new w3 _ _
  have HBW4 := hide hbW4
  have HK4 := hide hk4
  have C3' := hide (unhide C3 W4 (tr2 (unhide HB3) hbW4))
  unfold ndV
  clear C2' C3 hb3 hv3 hbW4 hk4 HI2
  go_wp2_with fail
  refine (unhide C3').mono ?_
  rintro e w5 ⟨k2, sp2, nm2, tx2, qa2, qk2, la2, ca2, lk2, ck2, rfl, hv5, hb5⟩
  rw [unhide HE]
  have hk5 := (unhide HK4).later hb5
  have hb35 : Below w3.heap.size w3 w5 := tr2 (unhide HBW4) hb5
  have HB5 := hide (tr2 (unhide HB3) hb35)
  have HI5 := hide ((unhide HI3).below hb35)
  obtain ⟨W6, hW6⟩ : ∃ W6, w5.alloc (Obj.cells #[.slice none 0 0, .int .i64 k2, .int .i64 sp2, .string nm2, .slice qa2 la2 ca2, .string tx2, .slice qk2 lk2 ck2, .int .i64 E] 36) = W6 := ⟨_, rfl⟩
  have hbW6 : Below w5.heap.size w5 W6 := by rw [← hW6]; exact (Below.refl _ _).alloc (Nat.le_refl _) _
  have hkG : Blk W6 w5.heap.size #[.slice none 0 0, .int .i64 k2, .int .i64 sp2, .string nm2, .slice qa2 la2 ca2, .string tx2, .slice qk2 lk2 ck2, .int .i64 E] 36 := by rw [← hW6]; exact Blk.new w5 _ _
  have hkN := hk5.later hbW6
  have HB6 := hide (tr2 (unhide HB5) hbW6)
  have HI6 := hide ((unhide HI5).below hbW6)
  have C4' := hide (unhide C4 _ _ W6 ((unhide HV3).below (tr2 hb35 hbW6)) (hv5.below (unhide HB6)))
  unfold ndV at C4'
  have x0 : W6.cell? ⟨w3.heap.size, 0, none⟩ = some (.int .i64 k) := hkN.cell 0
  have x1 : W6.cell? ⟨w3.heap.size, 1, none⟩ = some (.int .i64 sp) := hkN.cell 1
  have x2 : W6.cell? ⟨w3.heap.size, 2, none⟩ = some (.string nm) := hkN.cell 2
  have x3 : W6.cell? ⟨w3.heap.size, 3, none⟩ = some (.slice qa la ca) := hkN.cell 3
  have x4 : W6.cell? ⟨w3.heap.size, 4, none⟩ = some (.string tx) := hkN.cell 4
  have x5 : W6.cell? ⟨w3.heap.size, 5, none⟩ = some (.slice qk lk ck) := hkN.cell 5
  have y1 : W6.cell? ⟨w5.heap.size, 1, none⟩ = some (.int .i64 k2) := hkG.cell 1
  have y2 : W6.cell? ⟨w5.heap.size, 2, none⟩ = some (.int .i64 sp2) := hkG.cell 2
  have y3 : W6.cell? ⟨w5.heap.size, 3, none⟩ = some (.string nm2) := hkG.cell 3
  have y4 : W6.cell? ⟨w5.heap.size, 4, none⟩ = some (.slice qa2 la2 ca2) := hkG.cell 4
  have y5 : W6.cell? ⟨w5.heap.size, 5, none⟩ = some (.string tx2) := hkG.cell 5
  have y6 : W6.cell? ⟨w5.heap.size, 6, none⟩ = some (.slice qk2 lk2 ck2) := hkG.cell 6
  have y7 : W6.cell? ⟨w5.heap.size, 7, none⟩ = some (.int .i64 E) := hkG.cell 7
  have hEE : (E != E) = false := by simp
  have HW4' := hide hW4
  clear C3' hb5 hv5 hb35 hk5 hbW6 hkG hkN HK4 HBW4 C4 HI3 HI5 HV3 hW4
  go_wp2_with fail
  refine (unhide C4').mono ?_
  rintro e w7 ⟨rfl, hb7⟩
  have HB7 := hide (tr2 (unhide HB6) hb7)
  have HI7 := hide ((unhide HI6).below hb7)
  clear C4' hb7 HI6 x0 x1 x2 x3 x4 x5 y1 y2 y3 y4 y5 y6 y7 hEE hW6
  have CT := hide (fun (W : World) (hW : Below w.heap.size w W) => And.intro (three_any W) hW)
  by_cases h1 : num < 0
  · have h1' : decide (num < 0) = true := decide_eq_true h1
    have hwo : n2 = 0 := by rw [(unhide HI7).1, unhide HWO (Or.inl h1)]; rfl
    subst hwo
    obtain rfl : E2 = 6 := by rw [← unhide HE2, if_pos (Or.inl h1)]
    have C9 := hide (three_any w7)
    go_wp2_with fail
    refine (unhide C9).mono ?_
    rintro e w9 ⟨rfl, hb9⟩
    have HB9 := hide (tr2 (unhide HB7) hb9)
    clear C9 hb9
    go_wp2
    go_ret
    exact ⟨rfl, unhide HB9⟩
  have h1' : decide (num < 0) = false := decide_eq_false h1
  have C5' := hide (unhide C5 w7 (unhide HB7))
  by_cases h2 : (N : Int) ≤ num
  · have h2' : decide ((N : Int) ≤ num) = true := decide_eq_true h2
    have hwo : n2 = 0 := by rw [(unhide HI7).1, unhide HWO (Or.inr h2)]; rfl
    subst hwo
    obtain rfl : E2 = 6 := by rw [← unhide HE2, if_pos (Or.inr h2)]
    go_wp2_with fail
    refine (unhide C5').mono ?_
    rintro e w8 ⟨rfl, hb8⟩
    have HB8 := hide (tr2 (unhide HB7) hb8)
    have C9 := hide (three_any w8)
    clear C5' hb8
    go_wp2_with fail
    refine (unhide C9).mono ?_
    rintro e w9 ⟨rfl, hb9⟩
    have HB9 := hide (tr2 (unhide HB8) hb9)
    clear C9 hb9
    go_wp2
    go_ret
    exact ⟨rfl, unhide HB9⟩
  · have h2' : decide ((N : Int) ≤ num) = false := decide_eq_false h2
    obtain rfl : E2 = 0 := by rw [← unhide HE2, if_neg (by omega)]
    go_wp2_with fail
    refine (unhide C5').mono ?_
    rintro e w8 ⟨rfl, hb8⟩
    have HB8 := hide (tr2 (unhide HB7) hb8)
    have HI8 := hide ((unhide HI7).below hb8)
    have C6' := hide (unhide C6 w8 (unhide HB8) (by omega) (by omega))
    clear C5' hb8 HI7
    go_wp2_with fail
    refine (unhide C6').mono ?_
    rintro e w9 ⟨q9, n9, c9, rfl, hnc9, hi9, hb9⟩
    have HB9 := hide (tr2 (unhide HB8) hb9)
    have hwl := unhide HWL
    have C7 := hide (ints_any q2 q9 n2 n9 c2 c9 (wayF f 0 num) (wayF f 0 num) w9 ((unhide HI8).below hb9) hi9 (by have := (unhide HI8).1; omega) (by have := hi9.1; omega))
    rw [decide_eq_true (rfl : wayF f 0 num = wayF f 0 num)] at C7
    clear C6' hb9 hi9 HI8 hwl
    go_wp2_with fail
    refine (unhide C7).mono ?_
    rintro e w10 ⟨rfl, hb10⟩
    have HB10 := hide (tr2 (unhide HB9) hb10)
    have C9 := hide (three_any w10)
    clear C7 hb10
    go_wp2_with fail
    refine (unhide C9).mono ?_
    rintro e w11 ⟨rfl, hb11⟩
    have HB11 := hide (tr2 (unhide HB10) hb11)
    clear C9 hb11
    go_wp2
    go_ret
    exact ⟨rfl, unhide HB11⟩
end Go.Proofs.YtahclcoabffmiaaDoor

/-
  An argument of type []int opened.
-/
namespace Go.Proofs.YtahclcoabffmiaaDoor
open Go.RowKit Go.Deep Go.WideShapes Go.ChangeShapes
set_option linter.unusedVariables false
set_option linter.unusedSimpArgs false

theorem open_ints19 {H : Type} {enc : TypeId × Value → H} {W : World} {qa : Option Addr} {len cap : Nat} {d : DataW H} {ps : List MemPlace}
    (h : DataW.Trod enc Tryd.prog W 0 (fun _ => true) true 30 (.slice qa len cap) d ps) : ∃ zs : List Int, len ≤ cap ∧ IntsV qa len zs W := by
  obtain ⟨n, t0⟩ := h
  rcases open_slice Tryd.underlying30 t0 with ⟨hc, hx⟩ | ⟨a, len', cap', m, k, D, Pl, hc, hle, hl, hm, hmm, hx, hall⟩
  · simp only [Value.cells, List.cons.injEq, and_true, Value.slice.injEq] at hc
    obtain ⟨rfl, rfl, rfl⟩ := hc
    exact ⟨[], Nat.le_refl _, rfl, fun h => by omega⟩
  · simp only [Value.cells, List.cons.injEq, and_true, Value.slice.injEq] at hc
    obtain ⟨rfl, rfl, rfl⟩ := hc
    simp only [if_true] at hmm
    subst hmm
    have each : ∀ i, i < len → ∃ z : Int, W.cell? (a.add i) = some (.int .i64 z) := fun i hi => by
      obtain ⟨cs', h1, h2⟩ := hall i (by omega)
      rw [fint_cells, Nat.mul_one] at h1
      obtain ⟨z, he, _⟩ := DataW.trod_int Tryd.underlying3 h2
      obtain ⟨_, hlen, hcell⟩ := World.cells?_some h1
      refine ⟨z, ?_⟩
      have := hcell 0 (by omega)
      rw [he] at this
      simpa [fadd_addr] using this
    have hch : ∃ f : Nat → Int, ∀ i, i < len → W.cell? (a.add i) = some (.int .i64 (f i)) :=
      ⟨fun i => if hi : i < len then Classical.choose (each i hi) else 0, fun i hi => by
        have := Classical.choose_spec (each i hi)
        simpa only [dif_pos hi] using this⟩
    obtain ⟨f, hf⟩ := hch
    refine ⟨(List.range len).map f, by omega, by simp, fun h0 => ?_⟩
    obtain ⟨b, o, spot⟩ := a
    have hspot : spot = none := by
      have := hf 0 (by omega)
      simpa [Addr.add] using World.cell?_spot this
    subst hspot
    refine ⟨b, o, rfl, fun i hi => ?_⟩
    have hg : ((List.range len).map f).getD i 0 = f i := by simp [List.getD, hi]
    rw [hg]
    have := hf i hi
    have e : (⟨b, o, none⟩ : Addr).add i = ⟨b, o + i, none⟩ := by unfold Addr.add; split <;> simp_all
    rw [e] at this
    exact this
end Go.Proofs.YtahclcoabffmiaaDoor

namespace Go.Proofs.YtahclcoabffmiaaDoor.keysWaysF
open Go.ChangeShapes Go.WideShapes Go.ChangeAt Go.RowKit
open Go.ChangeMaps (open_string shut_string)
set_option linter.unusedVariables false

theorem own : ownKnob Tryd.prog.godebug = none := by kernel_rfl
theorem laidOut : laidOutB Tryd.prog = true := by kernel_rfl

set_option maxRecDepth 100000 in
theorem contract (H : Type) (enc : TypeId × Value → H) (W : World) (base : Nat) (args : Array Value) (ds gs : List (DataW H)) (before : List MemPlace)
    (hval : ∀ (j : Nat) t v, Tryd.f4.params[j]? = some t → args[j]? = some v → Value.okWide Tryd.prog W .any base t v)
    (hW : DataW.Whole enc Tryd.prog Tryd.f4.params.toList Rows.keysWaysSpec.vars false W args.toList ds gs before) (hL : laidMetH Tryd.prog Rows.keysWaysRow.laid W) :
    Calls Tryd.prog 4 args W fun e W' => ∃ v, e = .returned v ∧ Rows.keysWaysSpec.post enc Tryd.prog Tryd.f4 false true false false W args v W' := by
  have hW' := hW
  obtain ⟨p, q, hA0, hV, rfl, hfz, hnd⟩ := hW
  have hA : DataW.TrodAll enc Tryd.prog W 0 (fun _ => true) true Tryd.f4.params.toList args.toList ds p := hA0
  rw [Tryd.params4] at hA hval
  obtain ⟨v0, vs0, d0, ds0, p0, q0, hargs, rfl, rfl, h0, r0⟩ := trodAll_cons hA
  obtain ⟨v1, vs1, d1, ds1, p1, q1, rfl, rfl, rfl, h1, r1⟩ := trodAll_cons r0
  obtain ⟨v2, vs2, d2, ds2, p2, q2, rfl, rfl, rfl, h2, r2⟩ := trodAll_cons r1
  obtain ⟨rfl, rfl, rfl⟩ := trodAll_nil r2
  obtain rfl : args = #[v0, v1, v2] := by cases args; simp_all
  obtain ⟨rfl, rfl⟩ := trodVars_none hV
  have k0 := h0
  have lt0 : ∀ x ∈ p0, x.block < W.heap.size := by obtain ⟨m, hm⟩ := k0; exact DataW.trod_lt m _ _ _ hm
  obtain ⟨q0', len0, cap0, rfl⟩ := okWide_slice Tryd.underlying22 (hval 0 22 v0 rfl rfl)
  obtain ⟨f0, rfl, hcap0, hfo0⟩ := open_nodes h0
  obtain ⟨a1, rfl, rfl, rfl, w1⟩ := open_int Tryd.underlying3 (hval 1 3 v1 rfl rfl) h1
  have k2 := h2
  have lt2 : ∀ x ∈ p2, x.block < W.heap.size := by obtain ⟨m, hm⟩ := k2; exact DataW.trod_lt m _ _ _ hm
  obtain ⟨q2', len2, cap2, rfl⟩ := okWide_slice Tryd.underlying30 (hval 2 30 v2 rfl rfl)
  obtain ⟨z2, hcap2, hz2⟩ := open_ints19 h2
  clear hA0
  refine (kways_walk f0 q0' cap0 a1 z2 q2' len2 cap2 W hfo0 hcap0 hz2 hcap2).mono fun e W' ⟨he, bel⟩ => ?_
  subst he
  exact ⟨_, rfl, _, _, _, [], _, [], hW', trodAll_mk1 (shut_bool Tryd.underlying4 _), (trodAll_cons_mk (Below.trod laidOut (by kernel_rfl) (of_decide_eq_true (by kernel_rfl)) k0 bel lt0) (trodAll_cons_mk (shut_int Tryd.underlying3 w1) (trodAll_cons_mk (Below.trod laidOut (by kernel_rfl) (of_decide_eq_true (by kernel_rfl)) k2 bel lt2) trodAll_mk0))), rfl, bel.frame _, fun h => by cases h⟩

/-- What the tables' initialisers lay. -/
def lay0 : Obj → Obj
  | .cells _ t frozen => .cells #[.int .u64 1, .int .u64 10, .int .u64 100, .int .u64 1000, .int .u64 10000, .int .u64 100000, .int .u64 1000000, .int .u64 10000000, .int .u64 100000000, .int .u64 1000000000, .int .u64 10000000000, .int .u64 100000000000, .int .u64 1000000000000, .int .u64 10000000000000, .int .u64 100000000000000, .int .u64 1000000000000000, .int .u64 10000000000000000, .int .u64 100000000000000000, .int .u64 1000000000000000000, .int .u64 10000000000000000000] t frozen
  | o => o
def lay1 : Obj → Obj
  | .cells _ t frozen => .cells #[.int .u8 0, .int .u8 1, .int .u8 28, .int .u8 2, .int .u8 29, .int .u8 14, .int .u8 24, .int .u8 3, .int .u8 30, .int .u8 22, .int .u8 20, .int .u8 15, .int .u8 25, .int .u8 17, .int .u8 4, .int .u8 8, .int .u8 31, .int .u8 27, .int .u8 13, .int .u8 23, .int .u8 21, .int .u8 19, .int .u8 16, .int .u8 7, .int .u8 26, .int .u8 12, .int .u8 18, .int .u8 6, .int .u8 11, .int .u8 5, .int .u8 10, .int .u8 9] t frozen
  | o => o
def lay2 : Obj → Obj
  | .cells _ t frozen => .cells #[.int .u8 0, .int .u8 1, .int .u8 56, .int .u8 2, .int .u8 57, .int .u8 49, .int .u8 28, .int .u8 3, .int .u8 61, .int .u8 58, .int .u8 42, .int .u8 50, .int .u8 38, .int .u8 29, .int .u8 17, .int .u8 4, .int .u8 62, .int .u8 47, .int .u8 59, .int .u8 36, .int .u8 45, .int .u8 43, .int .u8 51, .int .u8 22, .int .u8 53, .int .u8 39, .int .u8 33, .int .u8 30, .int .u8 24, .int .u8 18, .int .u8 12, .int .u8 5, .int .u8 63, .int .u8 55, .int .u8 48, .int .u8 27, .int .u8 60, .int .u8 41, .int .u8 37, .int .u8 16, .int .u8 46, .int .u8 35, .int .u8 44, .int .u8 21, .int .u8 52, .int .u8 32, .int .u8 23, .int .u8 11, .int .u8 54, .int .u8 26, .int .u8 40, .int .u8 15, .int .u8 34, .int .u8 20, .int .u8 31, .int .u8 10, .int .u8 25, .int .u8 14, .int .u8 19, .int .u8 9, .int .u8 13, .int .u8 8, .int .u8 7, .int .u8 6] t frozen
  | o => o
set_option maxRecDepth 100000 in
theorem laid_met (os : Os) : laidMet Tryd.prog Rows.keysWaysRow.laid (({ World.holding Tryd.prog os ⟨#[], #[], []⟩ with heap := (((World.holding Tryd.prog os ⟨#[], #[], []⟩).heap.modify 0 lay0).modify 1 lay1).modify 2 lay2 } : World).forCall (fun _ _ => 0) ⟨#[], #[.slice none 0 0, .int .i64 0, .slice none 0 0], []⟩).memory :=
  laidMet_of_run' 8 (by kernel_rfl) (by kernel_rfl)
theorem reads (os : Os) {H : Type} (enc : TypeId × Value → H) : ∃ places, DataW.whole enc Tryd.prog (({ World.holding Tryd.prog os ⟨#[], #[], []⟩ with heap := (((World.holding Tryd.prog os ⟨#[], #[], []⟩).heap.modify 0 lay0).modify 1 lay1).modify 2 lay2 } : World).forCall (fun _ _ => 0) ⟨#[], #[.slice none 0 0, .int .i64 0, .slice none 0 0], []⟩).memory Tryd.f4.params.toList Rows.keysWaysSpec.vars false #[Value.slice none 0 0, Value.int .i64 0, Value.slice none 0 0].toList 8 = some ([.nil, .lit (.int .i64 0), .nil], [], places) :=
  ⟨[], by kernel_rfl⟩

set_option maxRecDepth 100000 in
theorem lifted (os : Os) (started : os.Started) (H : Type) (enc : TypeId × Value → H) (F : Stop.Interp) :
    ReturnsInHanded {} Tryd.checked os 4 .any ((OpenSpec.ofChange Rows.keysWaysSpec).preRow enc Tryd.prog Tryd.f4 Rows.keysWaysRow.domain false Rows.keysWaysRow.laid) (((OpenSpec.ofChange Rows.keysWaysSpec).at F).post enc Tryd.prog Tryd.f4 false true false false) := by
  obtain ⟨places, hx⟩ := reads os enc
  refine returnsInHanded_of_row (C := Tryd.checked) (s := OpenSpec.ofChange Rows.keysWaysSpec) own started (by kernel_rfl) Tryd.func4
    (witness_row_at (enc := enc) (C := Tryd.checked) false ({ World.holding Tryd.prog os ⟨#[], #[], []⟩ with heap := (((World.holding Tryd.prog os ⟨#[], #[], []⟩).heap.modify 0 lay0).modify 1 lay1).modify 2 lay2 } : World) #[.slice none 0 0, .int .i64 0, .slice none 0 0] rfl (by kernel_rfl) (by kernel_rfl) (by kernel_rfl)
      (OpenSpec.preRow_of_cond 8 hx (by kernel_rfl) (fun k hk => by cases hk) (by kernel_rfl) (laid_met os))) ?_
  intro W base args ds gs before hval hW _ _ _ hL _ _
  exact contract H enc W base args ds gs before hval hW hL

theorem said : Rows.KeysWaysSaid :=
  OpenClaim.holds_of_cond 4 Tryd.f4 rfl rfl rfl rfl rfl rfl rfl ⟨rfl, rfl, rfl, rfl, rfl⟩ rfl rfl rfl rfl rfl (by kernel_rfl) Tryd.func4 (by kernel_rfl)
    (of_decide_eq_true (by kernel_rfl)) (by unfold Func.isWrapper; first | (rw [if_pos (by decide +kernel)]; kernel_rfl) | (rw [if_neg (by decide +kernel)]; exact ⟨rfl, rfl⟩))
    (fun os started H enc _ F => by rw [OpenClaim.pre_eq_preRow]; exact lifted os started H enc F)

theorem plain (f : FuncId) (fn : Func) (hf : Tryd.pinned.checked.prog.funcNamed "recto/rectolaw19.KeysWays" = some f) (hfn : Tryd.pinned.checked.prog.funcs[f]? = some fn) :
    false = Tryd.pinned.checked.prog.looks [] ∧ ∀ (j : Nat) t, fn.params[j]? = some t → Tryd.pinned.checked.prog.wantsStandIn t = false := by
  obtain rfl : f = 4 := Option.some.inj ((show Tryd.prog.funcNamed "recto/rectolaw19.KeysWays" = some 4 by kernel_rfl).symm.trans hf) |>.symm
  obtain rfl : fn = Tryd.f4 := (Option.some.inj (Tryd.func4.symm.trans hfn)).symm
  refine ⟨by kernel_rfl, fun j t ht => ?_⟩
  rw [Tryd.params4] at ht
  have hm := Array.mem_of_getElem? ht
  simp at hm
  rcases hm with rfl | rfl | rfl
  · exact (show Tryd.prog.wantsStandIn 22 = false by kernel_rfl)
  · exact (show Tryd.prog.wantsStandIn 3 = false by kernel_rfl)
  · exact (show Tryd.prog.wantsStandIn 30 = false by kernel_rfl)

theorem card : Rows.KeysWaysCardSaid :=
  Claim7.holds_tied_plain_at .later [] _ _ _ _ said (fun _ h => by cases h) (by kernel_rfl) (fun _ h => by cases h) keysWays_row_tie rfl ⟨rfl, rfl⟩ (by kernel_rfl) rfl plain (by kernel_rfl)
end Go.Proofs.YtahclcoabffmiaaDoor.keysWaysF

namespace Go.Proofs.YtahclcoabffmiaaDoor
theorem keysWays_card : Rows.KeysWaysCardSaid := keysWaysF.card
end Go.Proofs.YtahclcoabffmiaaDoor
