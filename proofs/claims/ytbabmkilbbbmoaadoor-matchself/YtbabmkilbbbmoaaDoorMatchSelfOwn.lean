/-
  For any list of nodes the law MatchSelf answers true: match.Pages pairs every node of a page with itself, whole; three tables of the library start as the program's text lays them (the card ties them); and each argument reads as it did.
-/
import Derived.Test.YtbabmkilbbbmoaaDoorHeO
import Derived.Test.YtbabmkilbbbmoaaDoorCards
import Derived.Test.YtbabmkilbbbmoaaDoorTie
import Derived.ProofKit
import Derived.OpenShut
import Derived.ShutString
import Derived.ChangeOld
import Derived.Below
import Derived.Deep.DeepHandedRow
import Derived.Lib.LaidTab

/-
  The law MatchPages.
-/
namespace Go.Proofs.YtbabmkilbbbmoaaDoor
open Go.RowKit Go.Maps
set_option linter.unusedVariables false
set_option linter.unusedSimpArgs false

theorem rpages_all : ∀ m : Nat, RPgSaid m
  | 0 => fun F G qa qb ca cb a b w _ _ _ _ _ _ h _ _ => absurd h (Nat.not_lt_zero _)
  | m + 1 => rpages_step m (rpages_all m)
theorem rpages_any (f g : Forest) (qa qb : Option Addr) (ca cb : Nat) (w : World) (hf : Fo qa f w) (hg : Fo qb g w) (hca : f.len ≤ ca) (hcb : g.len ≤ cb) (sf : SmF f) (sg : SmF g) (nf : f.count ≤ 900) (ng : g.count ≤ 900) :
    Calls Tryd.prog 13 #[.slice qa f.len ca, .slice qb g.len cb, .agg #[.int .i64 0, .int .i64 0]] w fun e w' => ∃ u, e = .returned u ∧ RPairsV w' w.heap.size u (pgF (f.count + 1) f g 0 0) ∧ Below w.heap.size w w' :=
  rpages_all (f.count + 1) f g qa qb ca cb 0 0 w hf hg hca hcb sf sg (Nat.lt_succ_self _) (by omega) (by omega)

set_option maxHeartbeats 4000000 in
set_option maxRecDepth 100000 in
theorem matchPages_walk (f h : Forest) (qa qb : Option Addr) (ca cb : Nat) (w : World) (hf : Fo qa f w) (hh : Fo qb h w) (hca : f.len ≤ ca) (hcb : h.len ≤ cb) (rf : RngF f) (rh : RngF h) (ht : TabP w) :
    Calls Tryd.prog 4 #[.slice qa f.len ca, .slice qb h.len cb] w fun e w' => e = .returned (.bool true) ∧ Below w.heap.size w w' := by
  have CLf := hide (large20_any f qa ca w hf)
  have CLh := hide (fun W hW => large20_any h qb cb W (hh.below hW))
  have CS := hide lines_any
  obtain ⟨b1, n1, hlg1⟩ : ∃ b n, lgT 1 f 250 = (b, n) := ⟨_, _, rfl⟩
  obtain ⟨b2, n2, hlg2⟩ : ∃ b n, lgT 1 h 250 = (b, n) := ⟨_, _, rfl⟩
  rw [hlg1] at CLf
  simp only [hlg2] at CLh
  dsimp only at CLf CLh
  by_cases hbig : b1 = true ∨ b2 = true
  · have hpick : Hid (b1 = true ∨ (b1 = false ∧ b2 = true)) := hide (by cases b1 <;> simp_all)
    clear hf hh rf rh ht hlg1 hlg2 hbig hca hcb
    generalize f.len = fl at *
    generalize h.len = hl at *
    go_enter Tryd.func4, Tryd.ntmps4
    go_wp2_with fail
    refine (unhide CLf).mono ?_
    rintro e w1 ⟨rfl, hb1⟩
    have HB := hide hb1
    clear CLf
    rcases unhide hpick with rfl | ⟨rfl, rfl⟩
    · have C3 := hide (unhide CS w1)
      clear hb1
      go_wp2_with fail
      refine (unhide C3).mono ?_
      rintro e w2 ⟨rfl, hb2⟩
      have HB2 := hide (tr2 (unhide HB) hb2)
      clear C3 hb2
      go_wp2
      go_ret
      exact ⟨rfl, unhide HB2⟩
    · have C2 := hide (unhide CLh w1 hb1)
      clear hb1
      go_wp2_with fail
      refine (unhide C2).mono ?_
      rintro e w2 ⟨rfl, hb2⟩
      have HB2 := hide (tr2 (unhide HB) hb2)
      have C3 := hide (unhide CS w2)
      clear C2 hb2
      go_wp2_with fail
      refine (unhide C3).mono ?_
      rintro e w3 ⟨rfl, hb3⟩
      have HB3 := hide (tr2 (unhide HB2) hb3)
      clear C3 hb3
      go_wp2
      go_ret
      exact ⟨rfl, unhide HB3⟩
  have hx1 : b1 = false := by cases b1 <;> simp_all
  have hx2 : b2 = false := by cases b2 <;> simp_all
  subst hx1
  subst hx2
  obtain ⟨sf, _⟩ := lgT_small (by omega) hlg1
  obtain ⟨sh, _⟩ := lgT_small (by omega) hlg2
  have r1 := lgT_room 1 f 250 n1 hlg1
  have r2 := lgT_room 1 h 250 n2 hlg2
  have c1 : f.count ≤ 250 := by omega
  have c2 : h.count ≤ 250 := by omega
  have hfl := pgF_len (f.count + 1) f h 0 0 (Nat.lt_succ_self _)
  have hll : (pgF (f.count + 1) f h 0 0).length ≤ 1000000 := by omega
  have C1 := hide (fun W hW => pages_any f h qa qb ca cb W (hf.below hW) (hh.below hW) hca hcb sf sh rf rh (ht.below hW) (by omega) (by omega))
  have C2 := hide (fun W hW => rpages_any f h qa qb ca cb W (hf.below hW) (hh.below hW) hca hcb sf sh (by omega) (by omega))
  have CSC : Hid (∀ W, Below w.heap.size w W → Calls Tryd.prog 15 #[.slice qa f.len ca, .slice qb h.len cb] W fun e w' => e = .returned (.int .i64 ((pgF (f.count + 1) f h 0 0).length : Nat)) ∧ Below W.heap.size W w') := hide (fun W hW => by
    have C1' := hide (unhide C1 W hW)
    generalize pgF (f.count + 1) f h 0 0 = L at *
    clear C1 C2 CLf CLh CS hf hh rf rh ht hlg1 hlg2 hbig sf sh r1 r2 c1 c2 hfl hca hcb
    generalize f.len = fl at *
    generalize h.len = hl at *
    go_enter Tryd.func15, Tryd.ntmps15
    go_wp2_with fail
    refine (unhide C1').mono ?_
    rintro e w3 ⟨u1, rfl, hp1, hb3⟩
    obtain ⟨q1, k1, hu1, _⟩ := owns_pr hp1
    subst hu1
    have HB := hide hb3
    clear hp1 hb3 C1'
    go_wp2
    go_ret
    exact ⟨rfl, unhide HB⟩)
  generalize pgF (f.count + 1) f h 0 0 = L at *
  clear hf hh rf rh ht hlg1 hlg2 hbig sf sh r1 r2 c1 c2 hfl hca hcb
  generalize f.len = fl at *
  generalize h.len = hl at *
  go_enter Tryd.func4, Tryd.ntmps4
  go_wp2_with fail
  refine (unhide CLf).mono ?_
  rintro e w1 ⟨rfl, hb1⟩
  have HB1 := hide hb1
  have CLh' := hide (unhide CLh w1 hb1)
  clear CLf CLh hb1
  go_wp2_with fail
  refine (unhide CLh').mono ?_
  rintro e w2 ⟨rfl, hb2⟩
  have HB2 := hide (tr2 (unhide HB1) hb2)
  have C2' := hide (unhide C2 w2 (unhide HB2))
  clear CLh' hb2 C2
  go_wp2_with fail
  refine (unhide C2').mono ?_
  rintro e w3 ⟨u2, rfl, hp2, hb3⟩
  have HB3 := hide (tr2 (unhide HB2) hb3)
  have P2 := owns_pr hp2
  obtain ⟨q2, k2, hu2, _⟩ := P2
  subst hu2
  have HP2 := hide (owns_pr hp2)
  have C1' := hide (unhide C1 w3 (unhide HB3))
  clear C2' C1 hp2 hb3
  go_wp2_with fail
  refine (unhide C1').mono ?_
  rintro e w4 ⟨u1, rfl, hp1, hb4⟩
  have P2' := (unhide HP2).below hb4
  have P1 := owns_pr hp1
  obtain ⟨q1, k1, hu1, _⟩ := P1
  subst hu1
  have CM := hide (same20_yes _ _ L w4 (owns_pr hp1) P2' hll)
  have HB4 := hide (tr2 (unhide HB3) hb4)
  clear hp1 hb4 P2' HP2 C1'
  go_wp2_with fail
  refine (unhide CM).mono ?_
  rintro e w5 ⟨rfl, hb5⟩
  have HB5 := hide (tr2 (unhide HB4) hb5)
  have CSC' := hide (unhide CSC w5 (unhide HB5))
  clear hb5 CM CSC
  go_wp2_with fail
  refine (unhide CSC').mono ?_
  rintro e w6 ⟨rfl, hb6⟩
  have HB6 := hide (tr2 (unhide HB5) hb6)
  have C3 := hide (unhide CS w6)
  clear hb6 CSC'
  go_wp2_with fail
  refine (unhide C3).mono ?_
  rintro e w7 ⟨rfl, hb7⟩
  have HB7 := hide (tr2 (unhide HB6) hb7)
  clear hb7 C3
  go_wp2
  go_ret
  exact ⟨rfl, unhide HB7⟩
end Go.Proofs.YtbabmkilbbbmoaaDoor

/-
  The law MatchSelf: a page's pairs with itself.
-/
namespace Go.Proofs.YtbabmkilbbbmoaaDoor
open Go.RowKit Go.Maps
set_option linter.unusedVariables false
set_option linter.unusedSimpArgs false

def dgF : Nat → Nat → List (Nat × Nat)
  | 0, _ => []
  | d + 1, i => (i, i) :: dgF d (i + 1)
theorem lnP_self (E : Nat → Nat → Bool) (n : Nat) (h : ∀ i, i < n → E i i = true) : ∀ d i, i + d = n → lnP E n n i i = dgF d i
  | 0, i, hi => by rw [lnP_out _ _ _ _ _ (by omega)]; rfl
  | d + 1, i, hi => by rw [lnP_yes _ _ _ _ _ (by omega) (by omega) (h i (by omega)), lnP_self E n h d (i + 1) (by omega)]; rfl
theorem mtF_self (A : Nat → Nat → Bool) (n : Nat) : ∀ d i, i + d = n → mtF A n n i i (dgF d i) = whR i i d
  | 0, i, hi => by rw [dgF, mtF, show n - i = 0 by omega]; rfl
  | d + 1, i, hi => by
    rw [dgF, mtF]
    show whB false (alF A i (i - i) i i) ++ ((i : Int), (i : Int), true) :: mtF A n n (i + 1) (i + 1) (dgF d (i + 1)) = _
    rw [Nat.sub_self, mtF_self A n d (i + 1) (by omega)]
    rfl
theorem ltP_self (f : Forest) : ltP f f = whR 0 0 f.len := by
  unfold ltP
  rw [lnP_self _ f.len (fun i _ => by unfold eqT; simp) f.len 0 (by omega), mtF_self _ f.len f.len 0 (by omega)]
theorem whR_app : ∀ (m n i j : Nat), whR i j m ++ whR (i + m) (j + m) n = whR i j (m + n)
  | 0, n, i, j => by rw [Nat.zero_add]; rfl
  | m + 1, n, i, j => by
    rw [show m + 1 + n = (m + n) + 1 by omega, whR, whR, List.cons_append, show i + (m + 1) = i + 1 + m by omega, show j + (m + 1) = j + 1 + m by omega, whR_app m n (i + 1) (j + 1)]
theorem pgL_self (K : Forest → Forest → Nat → Nat → List (Int × Int × Bool)) (F : Forest) (a : Nat) : ∀ d i, i + d = F.len → pgL K F F a a (whR i i d) = whR (numE F a i) (numE F a i) (a + F.count - numE F a i)
  | 0, i, hi => by
    have : i = F.len := by omega
    subst this
    rw [numE_end, Nat.sub_self]; rfl
  | d + 1, i, hi => by
    have h1 := numE_step F a i (by omega)
    have h2 := numE_mono F a d (i + 1) (by omega)
    rw [show i + 1 + d = F.len by omega, numE_end] at h2
    rw [whR, pgL_whole, pgL_self K F a d (i + 1) (by omega), h1, show numE F a i + 1 + (kidF (F.drop i)).count = numE F a i + (1 + (kidF (F.drop i)).count) by omega, whR_app]
    congr 1
    omega
theorem pgF_self (m : Nat) (F : Forest) (a : Nat) : pgF (m + 1) F F a a = whR a a F.count := by
  show pgL (pgF m) F F a a (ltP F F) = _
  rw [ltP_self, pgL_self _ _ _ F.len 0 (by omega), numE_zero]
  congr 1
  omega
theorem whR_get : ∀ (n i j k : Nat), k < n → (whR i j n).getD k p0 = (((i + k : Nat) : Int), ((j + k : Nat) : Int), true)
  | 0, _, _, k, h => by omega
  | n + 1, i, j, 0, h => rfl
  | n + 1, i, j, k + 1, h => by
    rw [whR, List.getD_cons_succ, whR_get n (i + 1) (j + 1) k (by omega), show i + 1 + k = i + (k + 1) by omega, show j + 1 + k = j + (k + 1) by omega]

set_option maxHeartbeats 4000000 in
set_option maxRecDepth 100000 in
theorem matchSelf_walk (f : Forest) (qa : Option Addr) (ca : Nat) (w : World) (hf : Fo qa f w) (hca : f.len ≤ ca) (rf : RngF f) (ht : TabP w) :
    Calls Tryd.prog 6 #[.slice qa f.len ca] w fun e w' => e = .returned (.bool true) ∧ Below w.heap.size w w' := by
  have CLf := hide (large20_any f qa ca w hf)
  have CS := hide lines_any
  obtain ⟨b1, n1, hlg1⟩ : ∃ b n, lgT 1 f 250 = (b, n) := ⟨_, _, rfl⟩
  rw [hlg1] at CLf
  dsimp only at CLf
  by_cases hbig : b1 = true
  · subst hbig
    clear hf rf ht hlg1 hca
    generalize f.len = fl at *
    go_enter Tryd.func6, Tryd.ntmps6
    go_wp2_with fail
    refine (unhide CLf).mono ?_
    rintro e w1 ⟨rfl, hb1⟩
    have HB := hide hb1
    have C3 := hide (unhide CS w1)
    clear CLf hb1
    go_wp2_with fail
    refine (unhide C3).mono ?_
    rintro e w2 ⟨rfl, hb2⟩
    have HB2 := hide (tr2 (unhide HB) hb2)
    clear C3 hb2
    go_wp2
    go_ret
    exact ⟨rfl, unhide HB2⟩
  have hx1 : b1 = false := by cases b1 <;> simp_all
  subst hx1
  obtain ⟨sf, _⟩ := lgT_small (by omega) hlg1
  have r1 := lgT_room 1 f 250 n1 hlg1
  have c1 : f.count ≤ 250 := by omega
  have C1 := hide (fun W hW => pages_any f f qa qa ca ca W (hf.below hW) (hf.below hW) hca hca sf sf rf rf (ht.below hW) (by omega) (by omega))
  have CC := hide (fun W (hW : Below w.heap.size w W) => rcount_any f.count f (Nat.le_refl _) (by omega) qa ca W (hf.below hW))
  simp only [pgF_self] at C1
  clear hf rf ht hlg1 hbig sf r1 hca
  generalize f.len = fl at *
  generalize f.count = n at *
  go_enter Tryd.func6, Tryd.ntmps6
  go_wp2_with fail
  refine (unhide CLf).mono ?_
  rintro e w1 ⟨rfl, hb1⟩
  have HB1 := hide hb1
  have C1' := hide (unhide C1 w1 hb1)
  clear CLf hb1 C1
  go_wp2_with fail
  refine (unhide C1').mono ?_
  rintro e w2 ⟨u1, rfl, hp1, hb2⟩
  have HB2 := hide (tr2 (unhide HB1) hb2)
  obtain ⟨q1, k1, hu1, hc⟩ := owns_pr hp1
  rw [whR_len] at hu1 hc
  subst hu1
  have HC := hide (fun k (hk : k < n) => by
    obtain ⟨g, e, h⟩ := hc (by omega)
    have h2 := h k hk
    rw [whR_get n 0 0 k hk, Nat.zero_add] at h2
    exact (⟨g, e, h2⟩ : ∃ g, q1 = some ⟨g, 0, none⟩ ∧ w2.cell? ⟨g, k * 3, none⟩ = some (.int .i64 (k : Int)) ∧ w2.cell? ⟨g, k * 3 + 1, none⟩ = some (.int .i64 (k : Int)) ∧ w2.cell? ⟨g, k * 3 + 2, none⟩ = some (.bool true)))
  clear hp1 hb2 hc C1'
  go_wp2
  go_loopw [14, 4, 5] (fun tv iv pv wr => ∃ t : Nat, tv = .int .i64 (t : Int) ∧ t ≤ n ∧ Below w2.heap.size w2 wr) (fun tv _ _ _ => n - (intOf tv).toNat)
  case atStart => exact ⟨0, rfl, Nat.zero_le _, Below.refl _ _⟩
  case round =>
    obtain ⟨t, rfl, ht, hbl⟩ := hrel
    by_cases hp : t < n
    · have hpi : (t : Int) < (n : Int) := by omega
      have ht0 : (0 : Int) ≤ (t : Int) := by omega
      obtain ⟨g, hq, c0, c1', c2⟩ := unhide HC t hp
      subst hq
      have c0 := below_cells hbl _ _ _ c0
      have c1' := below_cells hbl _ _ _ c1'
      have c2 := below_cells hbl _ _ _ c2
      have HBL := hide (hbl.alloc hbl.size (Obj.cells #[.int .i64 (t : Int), .int .i64 (t : Int), .bool true] 37))
      clear hbl
      go_wp2
      go_roundw
      case rel => exact ⟨t + 1, by go_num, by omega, unhide HBL⟩
      case measure => simp [intOf]; omega
    · have hte : t = n := by omega
      subst hte
      have hpi : ¬ ((t : Nat) : Int) < ((t : Nat) : Int) := by omega
      have HB3 : Hid (Below w.heap.size w wr) := hide ((unhide HB2).trans (hbl.mono (unhide HB2).size))
      have CC' := hide (unhide CC wr (unhide HB3))
      clear hbl CC
      go_wp2_with fail
      refine (unhide CC').mono ?_
      rintro e w4 ⟨rfl, hb4⟩
      have HB4 := hide (tr2 (unhide HB3) hb4)
      have C3 := hide (unhide CS w4)
      clear hb4 CC'
      go_wp2_with fail
      refine (unhide C3).mono ?_
      rintro e w5 ⟨rfl, hb5⟩
      have HB5 := hide (tr2 (unhide HB4) hb5)
      clear hb5 C3
      go_wp2
      go_ret
      exact ⟨rfl, unhide HB5⟩
end Go.Proofs.YtbabmkilbbbmoaaDoor

namespace Go.Proofs.YtbabmkilbbbmoaaDoor.matchSelfF
open Go.ChangeShapes Go.WideShapes Go.ChangeAt Go.RowKit
open Go.ChangeMaps (open_string shut_string)
set_option linter.unusedVariables false

theorem own : ownKnob Tryd.prog.godebug = none := by kernel_rfl
theorem laidOut : laidOutB Tryd.prog = true := by kernel_rfl

set_option maxRecDepth 100000 in
theorem laid_tail {x : String × DataW Unit} {rest : List (String × DataW Unit)} {W : World} (h : laidMet Tryd.prog (x :: rest) W) : laidMet Tryd.prog rest W := by
  obtain ⟨ps, ⟨g1, t1, cs1, f1, p1, q1, _, _, _, _, hrest, rfl⟩, hnd, hcell⟩ := h
  exact ⟨q1, hrest, (List.nodup_append.1 hnd).2.1, fun b off hm => hcell b off (List.mem_append_right _ hm)⟩
theorem u64Is : Tryd.prog.underlying 174 = some (.int .u64) := by kernel_rfl
theorem a20Is : Tryd.prog.underlying 214 = some (.array 20 174) := by kernel_rfl
theorem powType : (Tryd.prog.globals[0]?).map (·.type) = some 214 := by kernel_rfl
theorem cellsU64 : Tryd.prog.cellsOf 174 = 1 := by kernel_rfl
theorem cellsA20 : Tryd.prog.cellsOf 214 = 20 := by kernel_rfl
theorem pow {W : World} (h : laidMetH Tryd.prog Rows.matchSelfRow.laid W) : TabP W := by
  have h0 : laidMet Tryd.prog [("math/bits.deBruijn32tab", Rows.laid_math_bits_deBruijn32tab), ("math/bits.deBruijn64tab", Rows.laid_math_bits_deBruijn64tab), ("internal/strconv.uint64pow10", Rows.laid_internal_strconv_uint64pow10)] W := h
  exact Lib.tabIs_of_head (rest := []) gPow powType a20Is u64Is cellsU64 cellsA20 (laid_tail (laid_tail h0))

set_option maxRecDepth 100000 in
theorem contract (H : Type) (enc : TypeId × Value → H) (W : World) (base : Nat) (args : Array Value) (ds gs : List (DataW H)) (before : List MemPlace)
    (hval : ∀ (j : Nat) t v, Tryd.f6.params[j]? = some t → args[j]? = some v → Value.okWide Tryd.prog W .any base t v)
    (hW : DataW.Whole enc Tryd.prog Tryd.f6.params.toList Rows.matchSelfSpec.vars false W args.toList ds gs before) (hL : laidMetH Tryd.prog Rows.matchSelfRow.laid W) :
    Calls Tryd.prog 6 args W fun e W' => ∃ v, e = .returned v ∧ Rows.matchSelfSpec.post enc Tryd.prog Tryd.f6 false true false false W args v W' := by
  have hW' := hW
  obtain ⟨p, q, hA0, hV, rfl, hfz, hnd⟩ := hW
  have hA : DataW.TrodAll enc Tryd.prog W 0 (fun _ => true) true Tryd.f6.params.toList args.toList ds p := hA0
  rw [Tryd.params6] at hA hval
  obtain ⟨v0, vs0, d0, ds0, p0, q0, hargs, rfl, rfl, h0, r0⟩ := trodAll_cons hA
  obtain ⟨rfl, rfl, rfl⟩ := trodAll_nil r0
  obtain rfl : args = #[v0] := by cases args; simp_all
  obtain ⟨rfl, rfl⟩ := trodVars_none hV
  have k0 := h0
  have lt0 : ∀ x ∈ p0, x.block < W.heap.size := by obtain ⟨m, hm⟩ := k0; exact DataW.trod_lt m _ _ _ hm
  obtain ⟨q0', len0, cap0, rfl⟩ := okWide_slice Tryd.underlying22 (hval 0 22 v0 rfl rfl)
  obtain ⟨f0, rfl, hcap0, hfo0, hr0⟩ := open_nodesR h0
  clear hA0
  refine (matchSelf_walk f0 q0' cap0 W hfo0 hcap0 hr0 (pow hL)).mono fun e W' ⟨he, bel⟩ => ?_
  subst he
  exact ⟨_, rfl, _, _, _, [], _, [], hW', trodAll_mk1 (shut_bool Tryd.underlying4 _), (trodAll_cons_mk (Below.trod laidOut (by kernel_rfl) (of_decide_eq_true (by kernel_rfl)) k0 bel lt0) trodAll_mk0), rfl, bel.frame _, fun h => by cases h⟩

/-- What the tables' initialisers lay. -/
def lay0 : Obj → Obj
  | .cells _ t frozen => .cells #[.int .u64 1, .int .u64 10, .int .u64 100, .int .u64 1000, .int .u64 10000, .int .u64 100000, .int .u64 1000000, .int .u64 10000000, .int .u64 100000000, .int .u64 1000000000, .int .u64 10000000000, .int .u64 100000000000, .int .u64 1000000000000, .int .u64 10000000000000, .int .u64 100000000000000, .int .u64 1000000000000000, .int .u64 10000000000000000, .int .u64 100000000000000000, .int .u64 1000000000000000000, .int .u64 10000000000000000000] t frozen
  | o => o
def lay1 : Obj → Obj
  | .cells _ t frozen => .cells #[.int .u8 0, .int .u8 1, .int .u8 28, .int .u8 2, .int .u8 29, .int .u8 14, .int .u8 24, .int .u8 3, .int .u8 30, .int .u8 22, .int .u8 20, .int .u8 15, .int .u8 25, .int .u8 17, .int .u8 4, .int .u8 8, .int .u8 31, .int .u8 27, .int .u8 13, .int .u8 23, .int .u8 21, .int .u8 19, .int .u8 16, .int .u8 7, .int .u8 26, .int .u8 12, .int .u8 18, .int .u8 6, .int .u8 11, .int .u8 5, .int .u8 10, .int .u8 9] t frozen
  | o => o
def lay2 : Obj → Obj
  | .cells _ t frozen => .cells #[.int .u8 0, .int .u8 1, .int .u8 56, .int .u8 2, .int .u8 57, .int .u8 49, .int .u8 28, .int .u8 3, .int .u8 61, .int .u8 58, .int .u8 42, .int .u8 50, .int .u8 38, .int .u8 29, .int .u8 17, .int .u8 4, .int .u8 62, .int .u8 47, .int .u8 59, .int .u8 36, .int .u8 45, .int .u8 43, .int .u8 51, .int .u8 22, .int .u8 53, .int .u8 39, .int .u8 33, .int .u8 30, .int .u8 24, .int .u8 18, .int .u8 12, .int .u8 5, .int .u8 63, .int .u8 55, .int .u8 48, .int .u8 27, .int .u8 60, .int .u8 41, .int .u8 37, .int .u8 16, .int .u8 46, .int .u8 35, .int .u8 44, .int .u8 21, .int .u8 52, .int .u8 32, .int .u8 23, .int .u8 11, .int .u8 54, .int .u8 26, .int .u8 40, .int .u8 15, .int .u8 34, .int .u8 20, .int .u8 31, .int .u8 10, .int .u8 25, .int .u8 14, .int .u8 19, .int .u8 9, .int .u8 13, .int .u8 8, .int .u8 7, .int .u8 6] t frozen
  | o => o
set_option maxRecDepth 100000 in
theorem laid_met (os : Os) : laidMet Tryd.prog Rows.matchSelfRow.laid (({ World.holding Tryd.prog os ⟨#[], #[], []⟩ with heap := (((World.holding Tryd.prog os ⟨#[], #[], []⟩).heap.modify 0 lay0).modify 1 lay1).modify 2 lay2 } : World).forCall (fun _ _ => 0) ⟨#[], #[.slice none 0 0], []⟩).memory :=
  laidMet_of_run' 8 (by kernel_rfl) (by kernel_rfl)
theorem reads (os : Os) {H : Type} (enc : TypeId × Value → H) : ∃ places, DataW.whole enc Tryd.prog (({ World.holding Tryd.prog os ⟨#[], #[], []⟩ with heap := (((World.holding Tryd.prog os ⟨#[], #[], []⟩).heap.modify 0 lay0).modify 1 lay1).modify 2 lay2 } : World).forCall (fun _ _ => 0) ⟨#[], #[.slice none 0 0], []⟩).memory Tryd.f6.params.toList Rows.matchSelfSpec.vars false #[Value.slice none 0 0].toList 8 = some ([.nil], [], places) :=
  ⟨[], by kernel_rfl⟩

set_option maxRecDepth 100000 in
theorem lifted (os : Os) (started : os.Started) (H : Type) (enc : TypeId × Value → H) (F : Stop.Interp) :
    ReturnsInHanded {} Tryd.checked os 6 .any ((OpenSpec.ofChange Rows.matchSelfSpec).preRow enc Tryd.prog Tryd.f6 Rows.matchSelfRow.domain false Rows.matchSelfRow.laid) (((OpenSpec.ofChange Rows.matchSelfSpec).at F).post enc Tryd.prog Tryd.f6 false true false false) := by
  obtain ⟨places, hx⟩ := reads os enc
  refine returnsInHanded_of_row (C := Tryd.checked) (s := OpenSpec.ofChange Rows.matchSelfSpec) own started (by kernel_rfl) Tryd.func6
    (witness_row_at (enc := enc) (C := Tryd.checked) false ({ World.holding Tryd.prog os ⟨#[], #[], []⟩ with heap := (((World.holding Tryd.prog os ⟨#[], #[], []⟩).heap.modify 0 lay0).modify 1 lay1).modify 2 lay2 } : World) #[.slice none 0 0] rfl (by kernel_rfl) (by kernel_rfl) (by kernel_rfl)
      (OpenSpec.preRow_of_cond 8 hx (by kernel_rfl) (fun k hk => by cases hk) (by kernel_rfl) (laid_met os))) ?_
  intro W base args ds gs before hval hW _ _ _ hL _ _
  exact contract H enc W base args ds gs before hval hW hL

theorem said : Rows.MatchSelfSaid :=
  OpenClaim.holds_of_cond 6 Tryd.f6 rfl rfl rfl rfl rfl rfl rfl ⟨rfl, rfl, rfl, rfl, rfl⟩ rfl rfl rfl rfl rfl (by kernel_rfl) Tryd.func6 (by kernel_rfl)
    (of_decide_eq_true (by kernel_rfl)) (by unfold Func.isWrapper; first | (rw [if_pos (by decide +kernel)]; kernel_rfl) | (rw [if_neg (by decide +kernel)]; exact ⟨rfl, rfl⟩))
    (fun os started H enc _ F => by rw [OpenClaim.pre_eq_preRow]; exact lifted os started H enc F)

theorem plain (f : FuncId) (fn : Func) (hf : Tryd.pinned.checked.prog.funcNamed "recto/rectolaw20.MatchSelf" = some f) (hfn : Tryd.pinned.checked.prog.funcs[f]? = some fn) :
    false = Tryd.pinned.checked.prog.looks [] ∧ ∀ (j : Nat) t, fn.params[j]? = some t → Tryd.pinned.checked.prog.wantsStandIn t = false := by
  obtain rfl : f = 6 := Option.some.inj ((show Tryd.prog.funcNamed "recto/rectolaw20.MatchSelf" = some 6 by kernel_rfl).symm.trans hf) |>.symm
  obtain rfl : fn = Tryd.f6 := (Option.some.inj (Tryd.func6.symm.trans hfn)).symm
  refine ⟨by kernel_rfl, fun j t ht => ?_⟩
  rw [Tryd.params6] at ht
  obtain rfl : t = 22 := by simpa using Array.mem_of_getElem? ht
  exact (show Tryd.prog.wantsStandIn 22 = false by kernel_rfl)

theorem card : Rows.MatchSelfCardSaid :=
  Claim7.holds_tied_plain_at .later [] _ _ _ _ said (fun _ h => by cases h) (by kernel_rfl) (fun _ h => by cases h) matchSelf_row_tie rfl ⟨rfl, rfl⟩ (by kernel_rfl) rfl plain (by kernel_rfl)
end Go.Proofs.YtbabmkilbbbmoaaDoor.matchSelfF

namespace Go.Proofs.YtbabmkilbbbmoaaDoor
theorem matchSelf_card : Rows.MatchSelfCardSaid := matchSelfF.card
end Go.Proofs.YtbabmkilbbbmoaaDoor
