/-
  For any three lists of nodes the law BlendNodes answers true: blend.Nodes tells their parts as the document says; three tables of the library start as the program's text lays them (the card ties them); and each argument reads as it did.
-/
import Derived.Test.YtbabmkilbbbmoaaDoorBRx
import Derived.Test.YtbabmkilbbbmoaaDoorMgBU
import Derived.Test.YtbabmkilbbbmoaaDoorMgBV
import Derived.Test.YtbabmkilbbbmoaaDoorCards
import Derived.Test.YtbabmkilbbbmoaaDoorTie
import Derived.ProofKit
import Derived.OpenShut
import Derived.ShutString
import Derived.ChangeOld
import Derived.Below
import Derived.Deep.DeepHandedRow
import Derived.Lib.LaidTab

/-
  The law BlendNodes.
-/
namespace Go.Proofs.YtbabmkilbbbmoaaDoor
open Go.RowKit
set_option linter.unusedVariables false
set_option linter.unusedSimpArgs false

set_option maxHeartbeats 2000000 in
theorem large25_any (f : Forest) (q : Option Addr) (cap : Nat) (w : World) (hf : Fo q f w) :
    Calls Tryd.prog 22 #[.slice q f.len cap] w fun e w' => e = .returned (.bool (lgT 1 f 200).1) ∧ Below w.heap.size w w' := by
  have CL := hide (large_any f.count f (Nat.le_refl _) 1 q cap w.heap.size 200 w (w.alloc (Obj.cells #[.int .i64 200] 60)) (by omega) (Nat.le_refl _) (by omega) hf ((Below.refl _ _).alloc (Nat.le_refl _) _) (Blk.new w _ _))
  rw [show ((1 : Nat) : Int) = 1 from rfl] at CL
  generalize lgT 1 f 200 = r at *
  generalize f.len = fl at *
  clear hf
  go_enter Tryd.func22, Tryd.ntmps22
  go_wp2_with fail
  refine (unhide CL).mono ?_
  rintro e w1 ⟨rfl, _, hb⟩
  go_wp2
  go_ret
  exact ⟨rfl, hb⟩
theorem ndL_of {f : Forest} {q : Option Addr} {cap : Nat} {w : World} (hf : Fo q f w) (hc : f.len ≤ cap) (hr : RngF f) {n : Int} (h : lgT 1 f 200 = (false, n)) : NdL q f cap w := by
  obtain ⟨sf, _⟩ := lgT_small (by omega) h
  have r1 := lgT_room 1 f 200 n h
  have c1 : f.count ≤ 200 := by omega
  have l1 := f.len_count
  exact ⟨hf, hc, sf, hr, kidsOk_count f (by omega), by omega, by omega⟩

set_option maxHeartbeats 4000000 in
set_option maxRecDepth 100000 in
theorem blendNodes_walk (f g h : Forest) (qa qb qc : Option Addr) (ca cb cc : Nat) (w : World) (hf : Fo qa f w) (hg : Fo qb g w) (hh : Fo qc h w) (kf : f.len ≤ ca) (kg : g.len ≤ cb) (kh : h.len ≤ cc) (rf : RngF f) (rg : RngF g) (rh : RngF h) (ht : TabP w) :
    Calls Tryd.prog 7 #[.slice qa f.len ca, .slice qb g.len cb, .slice qc h.len cc] w fun e w' => e = .returned (.bool true) ∧ Below w.heap.size w w' := by
  have C1 := hide (large25_any f qa ca w hf)
  have C2 := hide (fun W hW => large25_any g qb cb W (hg.below hW))
  have C3 := hide (fun W hW => large25_any h qc cc W (hh.below hW))
  have CS := hide four_any
  obtain ⟨b1, n1, hlg1⟩ : ∃ b n, lgT 1 f 200 = (b, n) := ⟨_, _, rfl⟩
  obtain ⟨b2, n2, hlg2⟩ : ∃ b n, lgT 1 g 200 = (b, n) := ⟨_, _, rfl⟩
  obtain ⟨b3, n3, hlg3⟩ : ∃ b n, lgT 1 h 200 = (b, n) := ⟨_, _, rfl⟩
  rw [hlg1] at C1
  simp only [hlg2] at C2
  simp only [hlg3] at C3
  dsimp only at C1 C2 C3
  by_cases hbig : b1 = true ∨ b2 = true ∨ b3 = true
  · have hpick : Hid (b1 = true ∨ (b1 = false ∧ b2 = true) ∨ (b1 = false ∧ b2 = false ∧ b3 = true)) := hide (by cases b1 <;> cases b2 <;> simp_all)
    clear hf hg hh rf rg rh ht hlg1 hlg2 hlg3 hbig kf kg kh
    generalize f.len = fl at *
    generalize g.len = gl at *
    generalize h.len = hl at *
    go_enter Tryd.func7, Tryd.ntmps7
    go_wp2_with fail
    refine (unhide C1).mono ?_
    rintro e w1 ⟨rfl, hb1⟩
    have HB := hide hb1
    clear C1
    rcases unhide hpick with rfl | ⟨rfl, rfl⟩ | ⟨rfl, rfl, rfl⟩
    · have C9 := hide (unhide CS w1)
      clear hb1
      go_wp2_with fail
      refine (unhide C9).mono ?_
      rintro e w2 ⟨rfl, hb2⟩
      have HB2 := hide (tr2 (unhide HB) hb2)
      clear C9 hb2
      go_wp2
      go_ret
      exact ⟨rfl, unhide HB2⟩
    · have C2' := hide (unhide C2 w1 hb1)
      clear hb1
      go_wp2_with fail
      refine (unhide C2').mono ?_
      rintro e w2 ⟨rfl, hb2⟩
      have HB2 := hide (tr2 (unhide HB) hb2)
      have C9 := hide (unhide CS w2)
      clear C2' hb2
      go_wp2_with fail
      refine (unhide C9).mono ?_
      rintro e w3 ⟨rfl, hb3⟩
      have HB3 := hide (tr2 (unhide HB2) hb3)
      clear C9 hb3
      go_wp2
      go_ret
      exact ⟨rfl, unhide HB3⟩
    · have C2' := hide (unhide C2 w1 hb1)
      clear hb1
      go_wp2_with fail
      refine (unhide C2').mono ?_
      rintro e w2 ⟨rfl, hb2⟩
      have HB2 := hide (tr2 (unhide HB) hb2)
      have C3' := hide (unhide C3 w2 (unhide HB2))
      clear C2' hb2
      go_wp2_with fail
      refine (unhide C3').mono ?_
      rintro e w3 ⟨rfl, hb3⟩
      have HB3 := hide (tr2 (unhide HB2) hb3)
      have C9 := hide (unhide CS w3)
      clear C3' hb3
      go_wp2_with fail
      refine (unhide C9).mono ?_
      rintro e w4 ⟨rfl, hb4⟩
      have HB4 := hide (tr2 (unhide HB3) hb4)
      clear C9 hb4
      go_wp2
      go_ret
      exact ⟨rfl, unhide HB4⟩
  have hx1 : b1 = false := by cases b1 <;> simp_all
  have hx2 : b2 = false := by cases b2 <;> simp_all
  have hx3 : b3 = false := by cases b3 <;> simp_all
  subst hx1
  subst hx2
  subst hx3
  have nf := ndL_of hf kf rf hlg1
  have ng := ndL_of hg kg rg hlg2
  have nh := ndL_of hh kh rh hlg3
  have D1 := hide (fun W hW => bnodes_any qa qb qc ca cb cc f g h W (nf.below hW) (ng.below hW) (nh.below hW) (ht.below hW))
  have D2 := hide (fun W hW => rnodes_any qa qb qc ca cb cc f g h W (nf.below hW) (ng.below hW) (nh.below hW))
  have hll : (ndP f g h).length ≤ 1000000 := by
    have h1 := ptF_len (smM f g h) f.len g.len h.len (trF (ltM f g) (ltM f h)) 0 0 0
    have h2 := upT_len _ _ _ _ _ _ _ (ndP_up f g h)
    have h3 := nf.ln
    unfold ndP
    omega
  generalize ndP f g h = L at *
  clear hf hg hh rf rg rh ht hlg1 hlg2 hlg3 hbig nf ng nh kf kg kh
  generalize f.len = fl at *
  generalize g.len = gl at *
  generalize h.len = hl at *
  go_enter Tryd.func7, Tryd.ntmps7
  go_wp2_with fail
  refine (unhide C1).mono ?_
  rintro e w1 ⟨rfl, hb1⟩
  have HB1 := hide hb1
  have C2' := hide (unhide C2 w1 hb1)
  clear C1 C2 hb1
  go_wp2_with fail
  refine (unhide C2').mono ?_
  rintro e w2 ⟨rfl, hb2⟩
  have HB2 := hide (tr2 (unhide HB1) hb2)
  have C3' := hide (unhide C3 w2 (unhide HB2))
  clear C2' hb2 C3
  go_wp2_with fail
  refine (unhide C3').mono ?_
  rintro e w3 ⟨rfl, hb3⟩
  have HB3 := hide (tr2 (unhide HB2) hb3)
  have D1' := hide (unhide D1 w3 (unhide HB3))
  clear C3' hb3 D1
  go_wp2_with fail
  refine (unhide D1').mono ?_
  rintro e w4 ⟨u1, rfl, hp1, hb4⟩
  obtain ⟨q1, k1, rfl, hpa⟩ := parts_at hp1
  have HPA := hide hpa
  have HB4 := hide (tr2 (unhide HB3) hb4)
  have D2' := hide (unhide D2 w4 (unhide HB4))
  clear D1' D2 hp1 hb4 hpa
  go_wp2_with fail
  refine (unhide D2').mono ?_
  rintro e w5 ⟨u2, rfl, hp2, hb5⟩
  obtain ⟨q2, k2, rfl, hpb⟩ := rparts_at hp2
  have CM := hide (same25_yes q1 q2 k1 k2 L w5 ((unhide HPA).below hb5) hpb hll)
  have HB5 := hide (tr2 (unhide HB4) hb5)
  clear D2' hp2 hb5 hpb HPA
  go_wp2_with fail
  refine (unhide CM).mono ?_
  rintro e w6 ⟨rfl, hb6⟩
  have HB6 := hide (tr2 (unhide HB5) hb6)
  have C9 := hide (unhide CS w6)
  clear hb6 CM
  go_wp2_with fail
  refine (unhide C9).mono ?_
  rintro e w7 ⟨rfl, hb7⟩
  have HB7 := hide (tr2 (unhide HB6) hb7)
  clear hb7 C9
  go_wp2
  go_ret
  exact ⟨rfl, unhide HB7⟩
end Go.Proofs.YtbabmkilbbbmoaaDoor

namespace Go.Proofs.YtbabmkilbbbmoaaDoor.blendNodesF
open Go.ChangeShapes Go.WideShapes Go.ChangeAt Go.RowKit
open Go.ChangeMaps (open_string shut_string)
set_option linter.unusedVariables false

theorem own : ownKnob Tryd.prog.godebug = none := by kernel_rfl
theorem laidOut : laidOutB Tryd.prog = true := by kernel_rfl

set_option maxRecDepth 100000 in
theorem laid_tail {x : String × DataW Unit} {rest : List (String × DataW Unit)} {W : World} (h : laidMet Tryd.prog (x :: rest) W) : laidMet Tryd.prog rest W := by
  obtain ⟨ps, ⟨g1, t1, cs1, f1, p1, q1, _, _, _, _, hrest, rfl⟩, hnd, hcell⟩ := h
  exact ⟨q1, hrest, (List.nodup_append.1 hnd).2.1, fun b off hm => hcell b off (List.mem_append_right _ hm)⟩
theorem u64Is : Tryd.prog.underlying 174 = some (.int .u64) := by kernel_rfl
theorem a20Is : Tryd.prog.underlying 214 = some (.array 20 174) := by kernel_rfl
theorem powType : (Tryd.prog.globals[0]?).map (·.type) = some 214 := by kernel_rfl
theorem cellsU64 : Tryd.prog.cellsOf 174 = 1 := by kernel_rfl
theorem cellsA20 : Tryd.prog.cellsOf 214 = 20 := by kernel_rfl
theorem pow {W : World} (h : laidMetH Tryd.prog Rows.blendNodesRow.laid W) : TabP W := by
  have h0 : laidMet Tryd.prog [("math/bits.deBruijn32tab", Rows.laid_math_bits_deBruijn32tab), ("math/bits.deBruijn64tab", Rows.laid_math_bits_deBruijn64tab), ("internal/strconv.uint64pow10", Rows.laid_internal_strconv_uint64pow10)] W := h
  exact Lib.tabIs_of_head (rest := []) gPow powType a20Is u64Is cellsU64 cellsA20 (laid_tail (laid_tail h0))

set_option maxRecDepth 100000 in
theorem contract (H : Type) (enc : TypeId × Value → H) (W : World) (base : Nat) (args : Array Value) (ds gs : List (DataW H)) (before : List MemPlace)
    (hval : ∀ (j : Nat) t v, Tryd.f7.params[j]? = some t → args[j]? = some v → Value.okWide Tryd.prog W .any base t v)
    (hW : DataW.Whole enc Tryd.prog Tryd.f7.params.toList Rows.blendNodesSpec.vars false W args.toList ds gs before) (hL : laidMetH Tryd.prog Rows.blendNodesRow.laid W) :
    Calls Tryd.prog 7 args W fun e W' => ∃ v, e = .returned v ∧ Rows.blendNodesSpec.post enc Tryd.prog Tryd.f7 false true false false W args v W' := by
  have hW' := hW
  obtain ⟨p, q, hA0, hV, rfl, hfz, hnd⟩ := hW
  have hA : DataW.TrodAll enc Tryd.prog W 0 (fun _ => true) true Tryd.f7.params.toList args.toList ds p := hA0
  rw [Tryd.params7] at hA hval
  obtain ⟨v0, vs0, d0, ds0, p0, q0, hargs, rfl, rfl, h0, r0⟩ := trodAll_cons hA
  obtain ⟨v1, vs1, d1, ds1, p1, q1, rfl, rfl, rfl, h1, r1⟩ := trodAll_cons r0
  obtain ⟨v2, vs2, d2, ds2, p2, q2, rfl, rfl, rfl, h2, r2⟩ := trodAll_cons r1
  obtain ⟨rfl, rfl, rfl⟩ := trodAll_nil r2
  obtain rfl : args = #[v0, v1, v2] := by cases args; simp_all
  obtain ⟨rfl, rfl⟩ := trodVars_none hV
  have k0 := h0
  have lt0 : ∀ x ∈ p0, x.block < W.heap.size := by obtain ⟨m, hm⟩ := k0; exact DataW.trod_lt m _ _ _ hm
  obtain ⟨q0', len0, cap0, rfl⟩ := okWide_slice Tryd.underlying22 (hval 0 22 v0 rfl rfl)
  obtain ⟨f0, rfl, hcap0, hfo0, hr0⟩ := open_nodesR h0
  have k1 := h1
  have lt1 : ∀ x ∈ p1, x.block < W.heap.size := by obtain ⟨m, hm⟩ := k1; exact DataW.trod_lt m _ _ _ hm
  obtain ⟨q1', len1, cap1, rfl⟩ := okWide_slice Tryd.underlying22 (hval 1 22 v1 rfl rfl)
  obtain ⟨f1, rfl, hcap1, hfo1, hr1⟩ := open_nodesR h1
  have k2 := h2
  have lt2 : ∀ x ∈ p2, x.block < W.heap.size := by obtain ⟨m, hm⟩ := k2; exact DataW.trod_lt m _ _ _ hm
  obtain ⟨q2', len2, cap2, rfl⟩ := okWide_slice Tryd.underlying22 (hval 2 22 v2 rfl rfl)
  obtain ⟨f2, rfl, hcap2, hfo2, hr2⟩ := open_nodesR h2
  clear hA0
  refine (blendNodes_walk f0 f1 f2 q0' q1' q2' cap0 cap1 cap2 W hfo0 hfo1 hfo2 hcap0 hcap1 hcap2 hr0 hr1 hr2 (pow hL)).mono fun e W' ⟨he, bel⟩ => ?_
  subst he
  exact ⟨_, rfl, _, _, _, [], _, [], hW', trodAll_mk1 (shut_bool Tryd.underlying4 _), (trodAll_cons_mk (Below.trod laidOut (by kernel_rfl) (of_decide_eq_true (by kernel_rfl)) k0 bel lt0) (trodAll_cons_mk (Below.trod laidOut (by kernel_rfl) (of_decide_eq_true (by kernel_rfl)) k1 bel lt1) (trodAll_cons_mk (Below.trod laidOut (by kernel_rfl) (of_decide_eq_true (by kernel_rfl)) k2 bel lt2) trodAll_mk0))), rfl, bel.frame _, fun h => by cases h⟩

/-- What the tables' initialisers lay. -/
def lay0 : Obj → Obj
  | .cells _ t frozen => .cells #[.int .u64 1, .int .u64 10, .int .u64 100, .int .u64 1000, .int .u64 10000, .int .u64 100000, .int .u64 1000000, .int .u64 10000000, .int .u64 100000000, .int .u64 1000000000, .int .u64 10000000000, .int .u64 100000000000, .int .u64 1000000000000, .int .u64 10000000000000, .int .u64 100000000000000, .int .u64 1000000000000000, .int .u64 10000000000000000, .int .u64 100000000000000000, .int .u64 1000000000000000000, .int .u64 10000000000000000000] t frozen
  | o => o
def lay1 : Obj → Obj
  | .cells _ t frozen => .cells #[.int .u8 0, .int .u8 1, .int .u8 28, .int .u8 2, .int .u8 29, .int .u8 14, .int .u8 24, .int .u8 3, .int .u8 30, .int .u8 22, .int .u8 20, .int .u8 15, .int .u8 25, .int .u8 17, .int .u8 4, .int .u8 8, .int .u8 31, .int .u8 27, .int .u8 13, .int .u8 23, .int .u8 21, .int .u8 19, .int .u8 16, .int .u8 7, .int .u8 26, .int .u8 12, .int .u8 18, .int .u8 6, .int .u8 11, .int .u8 5, .int .u8 10, .int .u8 9] t frozen
  | o => o
def lay2 : Obj → Obj
  | .cells _ t frozen => .cells #[.int .u8 0, .int .u8 1, .int .u8 56, .int .u8 2, .int .u8 57, .int .u8 49, .int .u8 28, .int .u8 3, .int .u8 61, .int .u8 58, .int .u8 42, .int .u8 50, .int .u8 38, .int .u8 29, .int .u8 17, .int .u8 4, .int .u8 62, .int .u8 47, .int .u8 59, .int .u8 36, .int .u8 45, .int .u8 43, .int .u8 51, .int .u8 22, .int .u8 53, .int .u8 39, .int .u8 33, .int .u8 30, .int .u8 24, .int .u8 18, .int .u8 12, .int .u8 5, .int .u8 63, .int .u8 55, .int .u8 48, .int .u8 27, .int .u8 60, .int .u8 41, .int .u8 37, .int .u8 16, .int .u8 46, .int .u8 35, .int .u8 44, .int .u8 21, .int .u8 52, .int .u8 32, .int .u8 23, .int .u8 11, .int .u8 54, .int .u8 26, .int .u8 40, .int .u8 15, .int .u8 34, .int .u8 20, .int .u8 31, .int .u8 10, .int .u8 25, .int .u8 14, .int .u8 19, .int .u8 9, .int .u8 13, .int .u8 8, .int .u8 7, .int .u8 6] t frozen
  | o => o
set_option maxRecDepth 100000 in
theorem laid_met (os : Os) : laidMet Tryd.prog Rows.blendNodesRow.laid (({ World.holding Tryd.prog os ⟨#[], #[], []⟩ with heap := (((World.holding Tryd.prog os ⟨#[], #[], []⟩).heap.modify 0 lay0).modify 1 lay1).modify 2 lay2 } : World).forCall (fun _ _ => 0) ⟨#[], #[.slice none 0 0, .slice none 0 0, .slice none 0 0], []⟩).memory :=
  laidMet_of_run' 8 (by kernel_rfl) (by kernel_rfl)
theorem reads (os : Os) {H : Type} (enc : TypeId × Value → H) : ∃ places, DataW.whole enc Tryd.prog (({ World.holding Tryd.prog os ⟨#[], #[], []⟩ with heap := (((World.holding Tryd.prog os ⟨#[], #[], []⟩).heap.modify 0 lay0).modify 1 lay1).modify 2 lay2 } : World).forCall (fun _ _ => 0) ⟨#[], #[.slice none 0 0, .slice none 0 0, .slice none 0 0], []⟩).memory Tryd.f7.params.toList Rows.blendNodesSpec.vars false #[Value.slice none 0 0, Value.slice none 0 0, Value.slice none 0 0].toList 8 = some ([.nil, .nil, .nil], [], places) :=
  ⟨[], by kernel_rfl⟩

set_option maxRecDepth 100000 in
theorem lifted (os : Os) (started : os.Started) (H : Type) (enc : TypeId × Value → H) (F : Stop.Interp) :
    ReturnsInHanded {} Tryd.checked os 7 .any ((OpenSpec.ofChange Rows.blendNodesSpec).preRow enc Tryd.prog Tryd.f7 Rows.blendNodesRow.domain false Rows.blendNodesRow.laid) (((OpenSpec.ofChange Rows.blendNodesSpec).at F).post enc Tryd.prog Tryd.f7 false true false false) := by
  obtain ⟨places, hx⟩ := reads os enc
  refine returnsInHanded_of_row (C := Tryd.checked) (s := OpenSpec.ofChange Rows.blendNodesSpec) own started (by kernel_rfl) Tryd.func7
    (witness_row_at (enc := enc) (C := Tryd.checked) false ({ World.holding Tryd.prog os ⟨#[], #[], []⟩ with heap := (((World.holding Tryd.prog os ⟨#[], #[], []⟩).heap.modify 0 lay0).modify 1 lay1).modify 2 lay2 } : World) #[.slice none 0 0, .slice none 0 0, .slice none 0 0] rfl (by kernel_rfl) (by kernel_rfl) (by kernel_rfl)
      (OpenSpec.preRow_of_cond 8 hx (by kernel_rfl) (fun k hk => by cases hk) (by kernel_rfl) (laid_met os))) ?_
  intro W base args ds gs before hval hW _ _ _ hL _ _
  exact contract H enc W base args ds gs before hval hW hL

theorem said : Rows.BlendNodesSaid :=
  OpenClaim.holds_of_cond 7 Tryd.f7 rfl rfl rfl rfl rfl rfl rfl ⟨rfl, rfl, rfl, rfl, rfl⟩ rfl rfl rfl rfl rfl (by kernel_rfl) Tryd.func7 (by kernel_rfl)
    (of_decide_eq_true (by kernel_rfl)) (by unfold Func.isWrapper; first | (rw [if_pos (by decide +kernel)]; kernel_rfl) | (rw [if_neg (by decide +kernel)]; exact ⟨rfl, rfl⟩))
    (fun os started H enc _ F => by rw [OpenClaim.pre_eq_preRow]; exact lifted os started H enc F)

theorem plain (f : FuncId) (fn : Func) (hf : Tryd.pinned.checked.prog.funcNamed "recto/rectolaw25.BlendNodes" = some f) (hfn : Tryd.pinned.checked.prog.funcs[f]? = some fn) :
    false = Tryd.pinned.checked.prog.looks [] ∧ ∀ (j : Nat) t, fn.params[j]? = some t → Tryd.pinned.checked.prog.wantsStandIn t = false := by
  obtain rfl : f = 7 := Option.some.inj ((show Tryd.prog.funcNamed "recto/rectolaw25.BlendNodes" = some 7 by kernel_rfl).symm.trans hf) |>.symm
  obtain rfl : fn = Tryd.f7 := (Option.some.inj (Tryd.func7.symm.trans hfn)).symm
  refine ⟨by kernel_rfl, fun j t ht => ?_⟩
  rw [Tryd.params7] at ht
  obtain rfl : t = 22 := by simpa using Array.mem_of_getElem? ht
  exact (show Tryd.prog.wantsStandIn 22 = false by kernel_rfl)

theorem card : Rows.BlendNodesCardSaid :=
  Claim7.holds_tied_plain_at .later [] _ _ _ _ said (fun _ h => by cases h) (by kernel_rfl) (fun _ h => by cases h) blendNodes_row_tie rfl ⟨rfl, rfl⟩ (by kernel_rfl) rfl plain (by kernel_rfl)
end Go.Proofs.YtbabmkilbbbmoaaDoor.blendNodesF

namespace Go.Proofs.YtbabmkilbbbmoaaDoor
theorem blendNodes_card : Rows.BlendNodesCardSaid := blendNodesF.card
end Go.Proofs.YtbabmkilbbbmoaaDoor
