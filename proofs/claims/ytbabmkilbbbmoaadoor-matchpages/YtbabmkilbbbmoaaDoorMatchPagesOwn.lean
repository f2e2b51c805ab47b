/-
  For any two lists of nodes the law MatchPages answers true: match.Pages tells which nodes of two pages are meant to be the same as the document says, and match.Score tells how many; three tables of the library start as the program's text lays them (the card ties them); and each argument reads as it did.
-/
import Derived.Test.YtbabmkilbbbmoaaDoorHeO
import Derived.Test.YtbabmkilbbbmoaaDoorCards
import Derived.Test.YtbabmkilbbbmoaaDoorTie
import Derived.ProofKit
import Derived.OpenShut
import Derived.ShutString
import Derived.ChangeOld
import Derived.Below
import Derived.Deep.DeepHandedRow
import Derived.Lib.LaidTab

/-
  The law MatchPages.
-/
namespace Go.Proofs.YtbabmkilbbbmoaaDoor
open Go.RowKit Go.Maps
set_option linter.unusedVariables false
set_option linter.unusedSimpArgs false

theorem rpages_all : ∀ m : Nat, RPgSaid m
  | 0 => fun F G qa qb ca cb a b w _ _ _ _ _ _ h _ _ => absurd h (Nat.not_lt_zero _)
  | m + 1 => rpages_step m (rpages_all m)
theorem rpages_any (f g : Forest) (qa qb : Option Addr) (ca cb : Nat) (w : World) (hf : Fo qa f w) (hg : Fo qb g w) (hca : f.len ≤ ca) (hcb : g.len ≤ cb) (sf : SmF f) (sg : SmF g) (nf : f.count ≤ 900) (ng : g.count ≤ 900) :
    Calls Tryd.prog 13 #[.slice qa f.len ca, .slice qb g.len cb, .agg #[.int .i64 0, .int .i64 0]] w fun e w' => ∃ u, e = .returned u ∧ RPairsV w' w.heap.size u (pgF (f.count + 1) f g 0 0) ∧ Below w.heap.size w w' :=
  rpages_all (f.count + 1) f g qa qb ca cb 0 0 w hf hg hca hcb sf sg (Nat.lt_succ_self _) (by omega) (by omega)

set_option maxHeartbeats 4000000 in
set_option maxRecDepth 100000 in
theorem matchPages_walk (f h : Forest) (qa qb : Option Addr) (ca cb : Nat) (w : World) (hf : Fo qa f w) (hh : Fo qb h w) (hca : f.len ≤ ca) (hcb : h.len ≤ cb) (rf : RngF f) (rh : RngF h) (ht : TabP w) :
    Calls Tryd.prog 4 #[.slice qa f.len ca, .slice qb h.len cb] w fun e w' => e = .returned (.bool true) ∧ Below w.heap.size w w' := by
  have CLf := hide (large20_any f qa ca w hf)
  have CLh := hide (fun W hW => large20_any h qb cb W (hh.below hW))
  have CS := hide lines_any
  obtain ⟨b1, n1, hlg1⟩ : ∃ b n, lgT 1 f 250 = (b, n) := ⟨_, _, rfl⟩
  obtain ⟨b2, n2, hlg2⟩ : ∃ b n, lgT 1 h 250 = (b, n) := ⟨_, _, rfl⟩
  rw [hlg1] at CLf
  simp only [hlg2] at CLh
  dsimp only at CLf CLh
  by_cases hbig : b1 = true ∨ b2 = true
  · have hpick : Hid (b1 = true ∨ (b1 = false ∧ b2 = true)) := hide (by cases b1 <;> simp_all)
    clear hf hh rf rh ht hlg1 hlg2 hbig hca hcb
    generalize f.len = fl at *
    generalize h.len = hl at *
    go_enter Tryd.func4, Tryd.ntmps4
    go_wp2_with fail
    refine (unhide CLf).mono ?_
    rintro e w1 ⟨rfl, hb1⟩
    have HB := hide hb1
    clear CLf
    rcases unhide hpick with rfl | ⟨rfl, rfl⟩
    · have C3 := hide (unhide CS w1)
      clear hb1
      go_wp2_with fail
      refine (unhide C3).mono ?_
      rintro e w2 ⟨rfl, hb2⟩
      have HB2 := hide (tr2 (unhide HB) hb2)
      clear C3 hb2
      go_wp2
      go_ret
      exact ⟨rfl, unhide HB2⟩
    · have C2 := hide (unhide CLh w1 hb1)
      clear hb1
      go_wp2_with fail
      refine (unhide C2).mono ?_
      rintro e w2 ⟨rfl, hb2⟩
      have HB2 := hide (tr2 (unhide HB) hb2)
      have C3 := hide (unhide CS w2)
      clear C2 hb2
      go_wp2_with fail
      refine (unhide C3).mono ?_
      rintro e w3 ⟨rfl, hb3⟩
      have HB3 := hide (tr2 (unhide HB2) hb3)
      clear C3 hb3
      go_wp2
      go_ret
      exact ⟨rfl, unhide HB3⟩
  have hx1 : b1 = false := by cases b1 <;> simp_all
  have hx2 : b2 = false := by cases b2 <;> simp_all
  subst hx1
  subst hx2
  obtain ⟨sf, _⟩ := lgT_small (by omega) hlg1
  obtain ⟨sh, _⟩ := lgT_small (by omega) hlg2
  have r1 := lgT_room 1 f 250 n1 hlg1
  have r2 := lgT_room 1 h 250 n2 hlg2
  have c1 : f.count ≤ 250 := by omega
  have c2 : h.count ≤ 250 := by omega
  have hfl := pgF_len (f.count + 1) f h 0 0 (Nat.lt_succ_self _)
  have hll : (pgF (f.count + 1) f h 0 0).length ≤ 1000000 := by omega
  have C1 := hide (fun W hW => pages_any f h qa qb ca cb W (hf.below hW) (hh.below hW) hca hcb sf sh rf rh (ht.below hW) (by omega) (by omega))
  have C2 := hide (fun W hW => rpages_any f h qa qb ca cb W (hf.below hW) (hh.below hW) hca hcb sf sh (by omega) (by omega))
  have CSC : Hid (∀ W, Below w.heap.size w W → Calls Tryd.prog 15 #[.slice qa f.len ca, .slice qb h.len cb] W fun e w' => e = .returned (.int .i64 ((pgF (f.count + 1) f h 0 0).length : Nat)) ∧ Below W.heap.size W w') := hide (fun W hW => by
    have C1' := hide (unhide C1 W hW)
    generalize pgF (f.count + 1) f h 0 0 = L at *
    clear C1 C2 CLf CLh CS hf hh rf rh ht hlg1 hlg2 hbig sf sh r1 r2 c1 c2 hfl hca hcb
    generalize f.len = fl at *
    generalize h.len = hl at *
    go_enter Tryd.func15, Tryd.ntmps15
    go_wp2_with fail
    refine (unhide C1').mono ?_
    rintro e w3 ⟨u1, rfl, hp1, hb3⟩
    obtain ⟨q1, k1, hu1, _⟩ := owns_pr hp1
    subst hu1
    have HB := hide hb3
    clear hp1 hb3 C1'
    go_wp2
    go_ret
    exact ⟨rfl, unhide HB⟩)
  generalize pgF (f.count + 1) f h 0 0 = L at *
  clear hf hh rf rh ht hlg1 hlg2 hbig sf sh r1 r2 c1 c2 hfl hca hcb
  generalize f.len = fl at *
  generalize h.len = hl at *
  go_enter Tryd.func4, Tryd.ntmps4
  go_wp2_with fail
  refine (unhide CLf).mono ?_
  rintro e w1 ⟨rfl, hb1⟩
  have HB1 := hide hb1
  have CLh' := hide (unhide CLh w1 hb1)
  clear CLf CLh hb1
  go_wp2_with fail
  refine (unhide CLh').mono ?_
  rintro e w2 ⟨rfl, hb2⟩
  have HB2 := hide (tr2 (unhide HB1) hb2)
  have C2' := hide (unhide C2 w2 (unhide HB2))
  clear CLh' hb2 C2
  go_wp2_with fail
  refine (unhide C2').mono ?_
  rintro e w3 ⟨u2, rfl, hp2, hb3⟩
  have HB3 := hide (tr2 (unhide HB2) hb3)
  have P2 := owns_pr hp2
  obtain ⟨q2, k2, hu2, _⟩ := P2
  subst hu2
  have HP2 := hide (owns_pr hp2)
  have C1' := hide (unhide C1 w3 (unhide HB3))
  clear C2' C1 hp2 hb3
  go_wp2_with fail
  refine (unhide C1').mono ?_
  rintro e w4 ⟨u1, rfl, hp1, hb4⟩
  have P2' := (unhide HP2).below hb4
  have P1 := owns_pr hp1
  obtain ⟨q1, k1, hu1, _⟩ := P1
  subst hu1
  have CM := hide (same20_yes _ _ L w4 (owns_pr hp1) P2' hll)
  have HB4 := hide (tr2 (unhide HB3) hb4)
  clear hp1 hb4 P2' HP2 C1'
  go_wp2_with fail
  refine (unhide CM).mono ?_
  rintro e w5 ⟨rfl, hb5⟩
  have HB5 := hide (tr2 (unhide HB4) hb5)
  have CSC' := hide (unhide CSC w5 (unhide HB5))
  clear hb5 CM CSC
  go_wp2_with fail
  refine (unhide CSC').mono ?_
  rintro e w6 ⟨rfl, hb6⟩
  have HB6 := hide (tr2 (unhide HB5) hb6)
  have C3 := hide (unhide CS w6)
  clear hb6 CSC'
  go_wp2_with fail
  refine (unhide C3).mono ?_
  rintro e w7 ⟨rfl, hb7⟩
  have HB7 := hide (tr2 (unhide HB6) hb7)
  clear hb7 C3
  go_wp2
  go_ret
  exact ⟨rfl, unhide HB7⟩
end Go.Proofs.YtbabmkilbbbmoaaDoor

namespace Go.Proofs.YtbabmkilbbbmoaaDoor.matchPagesF
open Go.ChangeShapes Go.WideShapes Go.ChangeAt Go.RowKit
open Go.ChangeMaps (open_string shut_string)
set_option linter.unusedVariables false

theorem own : ownKnob Tryd.prog.godebug = none := by kernel_rfl
theorem laidOut : laidOutB Tryd.prog = true := by kernel_rfl

set_option maxRecDepth 100000 in
theorem laid_tail {x : String × DataW Unit} {rest : List (String × DataW Unit)} {W : World} (h : laidMet Tryd.prog (x :: rest) W) : laidMet Tryd.prog rest W := by
  obtain ⟨ps, ⟨g1, t1, cs1, f1, p1, q1, _, _, _, _, hrest, rfl⟩, hnd, hcell⟩ := h
  exact ⟨q1, hrest, (List.nodup_append.1 hnd).2.1, fun b off hm => hcell b off (List.mem_append_right _ hm)⟩
theorem u64Is : Tryd.prog.underlying 174 = some (.int .u64) := by kernel_rfl
theorem a20Is : Tryd.prog.underlying 214 = some (.array 20 174) := by kernel_rfl
theorem powType : (Tryd.prog.globals[0]?).map (·.type) = some 214 := by kernel_rfl
theorem cellsU64 : Tryd.prog.cellsOf 174 = 1 := by kernel_rfl
theorem cellsA20 : Tryd.prog.cellsOf 214 = 20 := by kernel_rfl
theorem pow {W : World} (h : laidMetH Tryd.prog Rows.matchPagesRow.laid W) : TabP W := by
  have h0 : laidMet Tryd.prog [("math/bits.deBruijn32tab", Rows.laid_math_bits_deBruijn32tab), ("math/bits.deBruijn64tab", Rows.laid_math_bits_deBruijn64tab), ("internal/strconv.uint64pow10", Rows.laid_internal_strconv_uint64pow10)] W := h
  exact Lib.tabIs_of_head (rest := []) gPow powType a20Is u64Is cellsU64 cellsA20 (laid_tail (laid_tail h0))

set_option maxRecDepth 100000 in
theorem contract (H : Type) (enc : TypeId × Value → H) (W : World) (base : Nat) (args : Array Value) (ds gs : List (DataW H)) (before : List MemPlace)
    (hval : ∀ (j : Nat) t v, Tryd.f4.params[j]? = some t → args[j]? = some v → Value.okWide Tryd.prog W .any base t v)
    (hW : DataW.Whole enc Tryd.prog Tryd.f4.params.toList Rows.matchPagesSpec.vars false W args.toList ds gs before) (hL : laidMetH Tryd.prog Rows.matchPagesRow.laid W) :
    Calls Tryd.prog 4 args W fun e W' => ∃ v, e = .returned v ∧ Rows.matchPagesSpec.post enc Tryd.prog Tryd.f4 false true false false W args v W' := by
  have hW' := hW
  obtain ⟨p, q, hA0, hV, rfl, hfz, hnd⟩ := hW
  have hA : DataW.TrodAll enc Tryd.prog W 0 (fun _ => true) true Tryd.f4.params.toList args.toList ds p := hA0
  rw [Tryd.params4] at hA hval
  obtain ⟨v0, vs0, d0, ds0, p0, q0, hargs, rfl, rfl, h0, r0⟩ := trodAll_cons hA
  obtain ⟨v1, vs1, d1, ds1, p1, q1, rfl, rfl, rfl, h1, r1⟩ := trodAll_cons r0
  obtain ⟨rfl, rfl, rfl⟩ := trodAll_nil r1
  obtain rfl : args = #[v0, v1] := by cases args; simp_all
  obtain ⟨rfl, rfl⟩ := trodVars_none hV
  have k0 := h0
  have lt0 : ∀ x ∈ p0, x.block < W.heap.size := by obtain ⟨m, hm⟩ := k0; exact DataW.trod_lt m _ _ _ hm
  obtain ⟨q0', len0, cap0, rfl⟩ := okWide_slice Tryd.underlying22 (hval 0 22 v0 rfl rfl)
  obtain ⟨f0, rfl, hcap0, hfo0, hr0⟩ := open_nodesR h0
  have k1 := h1
  have lt1 : ∀ x ∈ p1, x.block < W.heap.size := by obtain ⟨m, hm⟩ := k1; exact DataW.trod_lt m _ _ _ hm
  obtain ⟨q1', len1, cap1, rfl⟩ := okWide_slice Tryd.underlying22 (hval 1 22 v1 rfl rfl)
  obtain ⟨f1, rfl, hcap1, hfo1, hr1⟩ := open_nodesR h1
  clear hA0
  refine (matchPages_walk f0 f1 q0' q1' cap0 cap1 W hfo0 hfo1 hcap0 hcap1 hr0 hr1 (pow hL)).mono fun e W' ⟨he, bel⟩ => ?_
  subst he
  exact ⟨_, rfl, _, _, _, [], _, [], hW', trodAll_mk1 (shut_bool Tryd.underlying4 _), (trodAll_cons_mk (Below.trod laidOut (by kernel_rfl) (of_decide_eq_true (by kernel_rfl)) k0 bel lt0) (trodAll_cons_mk (Below.trod laidOut (by kernel_rfl) (of_decide_eq_true (by kernel_rfl)) k1 bel lt1) trodAll_mk0)), rfl, bel.frame _, fun h => by cases h⟩

/-- What the tables' initialisers lay. -/
def lay0 : Obj → Obj
  | .cells _ t frozen => .cells #[.int .u64 1, .int .u64 10, .int .u64 100, .int .u64 1000, .int .u64 10000, .int .u64 100000, .int .u64 1000000, .int .u64 10000000, .int .u64 100000000, .int .u64 1000000000, .int .u64 10000000000, .int .u64 100000000000, .int .u64 1000000000000, .int .u64 10000000000000, .int .u64 100000000000000, .int .u64 1000000000000000, .int .u64 10000000000000000, .int .u64 100000000000000000, .int .u64 1000000000000000000, .int .u64 10000000000000000000] t frozen
  | o => o
def lay1 : Obj → Obj
  | .cells _ t frozen => .cells #[.int .u8 0, .int .u8 1, .int .u8 28, .int .u8 2, .int .u8 29, .int .u8 14, .int .u8 24, .int .u8 3, .int .u8 30, .int .u8 22, .int .u8 20, .int .u8 15, .int .u8 25, .int .u8 17, .int .u8 4, .int .u8 8, .int .u8 31, .int .u8 27, .int .u8 13, .int .u8 23, .int .u8 21, .int .u8 19, .int .u8 16, .int .u8 7, .int .u8 26, .int .u8 12, .int .u8 18, .int .u8 6, .int .u8 11, .int .u8 5, .int .u8 10, .int .u8 9] t frozen
  | o => o
def lay2 : Obj → Obj
  | .cells _ t frozen => .cells #[.int .u8 0, .int .u8 1, .int .u8 56, .int .u8 2, .int .u8 57, .int .u8 49, .int .u8 28, .int .u8 3, .int .u8 61, .int .u8 58, .int .u8 42, .int .u8 50, .int .u8 38, .int .u8 29, .int .u8 17, .int .u8 4, .int .u8 62, .int .u8 47, .int .u8 59, .int .u8 36, .int .u8 45, .int .u8 43, .int .u8 51, .int .u8 22, .int .u8 53, .int .u8 39, .int .u8 33, .int .u8 30, .int .u8 24, .int .u8 18, .int .u8 12, .int .u8 5, .int .u8 63, .int .u8 55, .int .u8 48, .int .u8 27, .int .u8 60, .int .u8 41, .int .u8 37, .int .u8 16, .int .u8 46, .int .u8 35, .int .u8 44, .int .u8 21, .int .u8 52, .int .u8 32, .int .u8 23, .int .u8 11, .int .u8 54, .int .u8 26, .int .u8 40, .int .u8 15, .int .u8 34, .int .u8 20, .int .u8 31, .int .u8 10, .int .u8 25, .int .u8 14, .int .u8 19, .int .u8 9, .int .u8 13, .int .u8 8, .int .u8 7, .int .u8 6] t frozen
  | o => o
set_option maxRecDepth 100000 in
theorem laid_met (os : Os) : laidMet Tryd.prog Rows.matchPagesRow.laid (({ World.holding Tryd.prog os ⟨#[], #[], []⟩ with heap := (((World.holding Tryd.prog os ⟨#[], #[], []⟩).heap.modify 0 lay0).modify 1 lay1).modify 2 lay2 } : World).forCall (fun _ _ => 0) ⟨#[], #[.slice none 0 0, .slice none 0 0], []⟩).memory :=
  laidMet_of_run' 8 (by kernel_rfl) (by kernel_rfl)
theorem reads (os : Os) {H : Type} (enc : TypeId × Value → H) : ∃ places, DataW.whole enc Tryd.prog (({ World.holding Tryd.prog os ⟨#[], #[], []⟩ with heap := (((World.holding Tryd.prog os ⟨#[], #[], []⟩).heap.modify 0 lay0).modify 1 lay1).modify 2 lay2 } : World).forCall (fun _ _ => 0) ⟨#[], #[.slice none 0 0, .slice none 0 0], []⟩).memory Tryd.f4.params.toList Rows.matchPagesSpec.vars false #[Value.slice none 0 0, Value.slice none 0 0].toList 8 = some ([.nil, .nil], [], places) :=
  ⟨[], by kernel_rfl⟩

set_option maxRecDepth 100000 in
theorem lifted (os : Os) (started : os.Started) (H : Type) (enc : TypeId × Value → H) (F : Stop.Interp) :
    ReturnsInHanded {} Tryd.checked os 4 .any ((OpenSpec.ofChange Rows.matchPagesSpec).preRow enc Tryd.prog Tryd.f4 Rows.matchPagesRow.domain false Rows.matchPagesRow.laid) (((OpenSpec.ofChange Rows.matchPagesSpec).at F).post enc Tryd.prog Tryd.f4 false true false false) := by
  obtain ⟨places, hx⟩ := reads os enc
  refine returnsInHanded_of_row (C := Tryd.checked) (s := OpenSpec.ofChange Rows.matchPagesSpec) own started (by kernel_rfl) Tryd.func4
    (witness_row_at (enc := enc) (C := Tryd.checked) false ({ World.holding Tryd.prog os ⟨#[], #[], []⟩ with heap := (((World.holding Tryd.prog os ⟨#[], #[], []⟩).heap.modify 0 lay0).modify 1 lay1).modify 2 lay2 } : World) #[.slice none 0 0, .slice none 0 0] rfl (by kernel_rfl) (by kernel_rfl) (by kernel_rfl)
      (OpenSpec.preRow_of_cond 8 hx (by kernel_rfl) (fun k hk => by cases hk) (by kernel_rfl) (laid_met os))) ?_
  intro W base args ds gs before hval hW _ _ _ hL _ _
  exact contract H enc W base args ds gs before hval hW hL

theorem said : Rows.MatchPagesSaid :=
  OpenClaim.holds_of_cond 4 Tryd.f4 rfl rfl rfl rfl rfl rfl rfl ⟨rfl, rfl, rfl, rfl, rfl⟩ rfl rfl rfl rfl rfl (by kernel_rfl) Tryd.func4 (by kernel_rfl)
    (of_decide_eq_true (by kernel_rfl)) (by unfold Func.isWrapper; first | (rw [if_pos (by decide +kernel)]; kernel_rfl) | (rw [if_neg (by decide +kernel)]; exact ⟨rfl, rfl⟩))
    (fun os started H enc _ F => by rw [OpenClaim.pre_eq_preRow]; exact lifted os started H enc F)

theorem plain (f : FuncId) (fn : Func) (hf : Tryd.pinned.checked.prog.funcNamed "recto/rectolaw20.MatchPages" = some f) (hfn : Tryd.pinned.checked.prog.funcs[f]? = some fn) :
    false = Tryd.pinned.checked.prog.looks [] ∧ ∀ (j : Nat) t, fn.params[j]? = some t → Tryd.pinned.checked.prog.wantsStandIn t = false := by
  obtain rfl : f = 4 := Option.some.inj ((show Tryd.prog.funcNamed "recto/rectolaw20.MatchPages" = some 4 by kernel_rfl).symm.trans hf) |>.symm
  obtain rfl : fn = Tryd.f4 := (Option.some.inj (Tryd.func4.symm.trans hfn)).symm
  refine ⟨by kernel_rfl, fun j t ht => ?_⟩
  rw [Tryd.params4] at ht
  obtain rfl : t = 22 := by simpa using Array.mem_of_getElem? ht
  exact (show Tryd.prog.wantsStandIn 22 = false by kernel_rfl)

theorem card : Rows.MatchPagesCardSaid :=
  Claim7.holds_tied_plain_at .later [] _ _ _ _ said (fun _ h => by cases h) (by kernel_rfl) (fun _ h => by cases h) matchPages_row_tie rfl ⟨rfl, rfl⟩ (by kernel_rfl) rfl plain (by kernel_rfl)
end Go.Proofs.YtbabmkilbbbmoaaDoor.matchPagesF

namespace Go.Proofs.YtbabmkilbbbmoaaDoor
theorem matchPages_card : Rows.MatchPagesCardSaid := matchPagesF.card
end Go.Proofs.YtbabmkilbbbmoaaDoor
