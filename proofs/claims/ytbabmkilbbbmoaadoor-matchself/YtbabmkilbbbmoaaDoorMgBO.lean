/-
  Several texts in one: what the functions of the program and of the document's answer do.
-/
import Derived.Test.YtbabmkilbbbmoaaDoorMRb
import Derived.Test.YtbabmkilbbbmoaaDoorMgBC
import Derived.Deep.RegionHeld

/-
  What the reference's Line of layer 20 does.
-/
namespace Go.Proofs.YtbabmkilbbbmoaaDoor
open Go.RowKit Go.Maps
set_option linter.unusedVariables false
set_option linter.unusedSimpArgs false

theorem infoRPair0 : (Tryd.prog.info? 63).map (fun i => (i.zero, i.size, i.bytes)) = some (some (.agg #[.int .i64 0, .int .i64 0, .bool false]), 3, 24) := by kernel_rfl
theorem infoRPair : ∃ i, Tryd.prog.info? 63 = some i ∧ i.zero = some (.agg #[.int .i64 0, .int .i64 0, .bool false]) ∧ i.size = 3 ∧ i.bytes = 24 := by
  have h := infoRPair0
  cases hi : Tryd.prog.info? 63 with
  | none => rw [hi] at h; cases h
  | some i =>
    rw [hi] at h
    simp only [Option.map_some, Option.some.injEq, Prod.mk.injEq] at h
    exact ⟨i, rfl, h.1, h.2.1, h.2.2⟩
def RPairsV (w : World) (base : Nat) (u : Value) (L : List (Int × Int × Bool)) : Prop := w.ownsRow base 63 3 u L.length (flatP L)
theorem whP_snoc (L : List (Nat × Nat)) (i j : Nat) : whP (L ++ [(i, j)]) = whP L ++ [((i : Int), (j : Int), true)] := by unfold whP; rw [List.map_append]; rfl
theorem ln_len (E : Nat → Nat → Bool) (n m i j : Nat) (L : List (Nat × Nat)) (h : L ++ lnP E n m i j = lnP E n m 0 0) : L.length ≤ n := by
  have h1 := congrArg List.length h
  have h2 := lnP_small E n m 0 0
  rw [List.length_append] at h1
  omega
def RLineSaid (ss tt : List ByteArray) (w : World) (e : Ending) (w' : World) : Prop := ∃ u, e = .returned u ∧ RPairsV w' w.heap.size u (whP (lnP (eqT ss tt) ss.length tt.length 0 0)) ∧ Below w.heap.size w w'

set_option maxHeartbeats 4000000 in
set_option maxRecDepth 100000 in
theorem rline_any (va vb : Value) (ss tt : List ByteArray) (w : World) (ha : View w va ss) (hb : View w vb tt) (hn : ss.length ≤ 1000) (hm : tt.length ≤ 1000) :
    Calls Tryd.prog 67 #[va, vb] w (RLineSaid ss tt w) := by
  have CB := hide (best_any va vb ss tt w ha hb hn hm)
  obtain ⟨i0, hi0, hi1, hi2, hi3⟩ := infoRPair
  have HVA := hide ha
  have HVB := hide hb
  obtain ⟨a1, c1, rfl⟩ := view_slice ha
  obtain ⟨a2, c2, rfl⟩ := view_slice hb
  unfold RLineSaid
  clear ha hb
  go_enter Tryd.func67, Tryd.ntmps67
  go_wp2_with fail
  refine (unhide CB).mono ?_
  rintro e w1 ⟨u1, rfl, hrs, hb1⟩
  have HRS := hide hrs
  have HB1 := hide hb1
  have hz1 := hb1.size
  obtain ⟨ug, uo, uc, rfl, huc, _⟩ := hrs
  clear CB hb1
  go_wp2
  go_loopw [7, 8, 6] (fun iv jv u wr => ∃ i j L, i ≤ ss.length ∧ j ≤ tt.length ∧ iv = .int .i64 (i : Int) ∧ jv = .int .i64 (j : Int) ∧ RPairsV wr w1.heap.size u (whP L) ∧ L ++ lnP (eqT ss tt) ss.length tt.length i j = lnP (eqT ss tt) ss.length tt.length 0 0 ∧ Below w1.heap.size w1 wr) (fun iv jv _ _ => (ss.length - (intOf iv).toNat) + (tt.length - (intOf jv).toNat))
  case atStart => exact ⟨0, 0, [], Nat.zero_le _, Nat.zero_le _, rfl, rfl, World.ownsRow_nil _ _ _ _, rfl, Below.refl _ _⟩
  case round =>
    obtain ⟨i, j, L, hin, hjm, rfl, rfl, hrow, heq, hbx⟩ := hrel
    have HR := hide hrow
    have HEQ := hide heq
    have HBX := hide hbx
    have hxz := hbx.size
    have hll := ln_len _ _ _ _ _ _ heq
    have hBW : Below w.heap.size w wr := (unhide HB1).trans (hbx.mono hz1)
    obtain ⟨xq, xn, xc, hu⟩ := slice_of hrow
    subst hu
    by_cases hcc : i < ss.length ∧ j < tt.length
    · obtain ⟨h1, h2⟩ := hcc
      have h1i : (i : Int) < (ss.length : Int) := by omega
      have h2i : (j : Int) < (tt.length : Int) := by omega
      obtain ⟨ba, oba, hqa, cS⟩ := view_atR (unhide HVA) hBW i h1
      obtain ⟨bb, obb, hqb, cT⟩ := view_atR (unhide HVB) hBW j h2
      subst hqa
      subst hqb
      have hE0 : Hid (eqT ss tt i j = decide ((tx ss i).data.toList = (tx tt j).data.toList)) := hide rfl
      by_cases e1 : tx ss i = tx tt j
      · have hE : eqT ss tt i j = true := by rw [unhide hE0, e1]; simp
        have HEQ2 : Hid ((L ++ [(i, j)]) ++ lnP (eqT ss tt) ss.length tt.length (i + 1) (j + 1) = lnP (eqT ss tt) ss.length tt.length 0 0) := hide (by rw [← heq, lnP_yes _ _ _ _ _ h1 h2 hE, List.append_assoc]; rfl)
        have hwl : (whP L).length ≤ 1000 := by unfold whP; rw [List.length_map]; omega
        rw [e1] at cS
        generalize tx tt j = s2 at *
        unfold RPairsV at HR
        clear hE hE0 e1 heq hrow hbx hBW HEQ
        go_wp2
        go_region
        go_wp2_with (at_builtin; refine wpList_append_own_at _ rfl _ _ 28 rfl w1.heap.size 63 i0 (.agg #[.int .i64 0, .int .i64 0, .bool false]) 3 24 Tryd.underlying28 hi0 hi1 hi2 hi3 rfl (by decide) (.slice xq xn xc) _ _ rfl ((unhide HR).alloc _) ⟨wr.heap.size, 0, none⟩ 1 1 [.int .i64 (i : Int), .int .i64 (j : Int), .bool true] rfl rfl (cell_three_new _ _ _ _ _) (by simp [Value.oneCell']) (by simp only [maxLen]; omega) (by omega) (by simp; omega) ?_)
        intro u' w3 hown hgr _ _
        have hrb : ∀ q, some q = (Value.slice xq xn xc).ownBlock → w1.heap.size ≤ q := fun q hq => ((unhide HR).lt q hq.symm).1
        have HO : Hid (RPairsV w3 w1.heap.size u' (whP (L ++ [(i, j)]))) := hide (by unfold RPairsV; rw [whP_snoc, List.length_append, flatP_app]; exact hown)
        have HB3 : Hid (Below w1.heap.size w1 w3) := hide ((((unhide HBX).drew.alloc (by show w1.heap.size ≤ wr.heap.size; omega) _).grown hgr (by simp; omega) (fun q hq => hrb q hq.symm)))
        clear hown hgr
        go_wp2
        go_roundw
        case rel => exact ⟨i + 1, j + 1, _, by omega, by omega, by go_num, by go_num, unhide HO, unhide HEQ2, unhide HB3⟩
        case measure => simp [intOf]; omega
      · have e1b : ((tx ss i).toList == (tx tt j).toList) = false := beq_no e1
        have hE : eqT ss tt i j = false := by rw [unhide hE0, decide_eq_false (fun x => e1 (by cases h1 : tx ss i; cases h2 : tx tt j; rw [h1, h2] at x; simpa using x))]
        obtain ⟨ug', uo', uc', hue, _, hrows⟩ := (unhide HRS).below hbx
        cases hue
        obtain ⟨q1, d1, m1, g1, o1, rfl, f1⟩ := hrows (i + 1) (by omega)
        obtain ⟨q2, d2, m2, g2, o2, rfl, f2⟩ := hrows i (by omega)
        have x1 : wr.cell? ⟨g1, o1 + j, none⟩ = some (.int .i64 (lcI ss tt (i + 1) j)) := f1 j (by omega)
        have x2 : wr.cell? ⟨g2, o2 + (j + 1), none⟩ = some (.int .i64 (lcI ss tt i (j + 1))) := f2 (j + 1) (by omega)
        have GA : Hid (lcI ss tt i (j + 1) ≤ lcI ss tt (i + 1) j → L ++ lnP (eqT ss tt) ss.length tt.length (i + 1) j = lnP (eqT ss tt) ss.length tt.length 0 0) := hide (fun hg => by rw [← lnP_a _ _ _ _ _ h1 h2 hE (by unfold lcI at hg; omega)]; exact heq)
        have GB : Hid (¬ lcI ss tt i (j + 1) ≤ lcI ss tt (i + 1) j → L ++ lnP (eqT ss tt) ss.length tt.length i (j + 1) = lnP (eqT ss tt) ss.length tt.length 0 0) := hide (fun hg => by rw [← lnP_b _ _ _ _ _ h1 h2 hE (by unfold lcI at hg; omega)]; exact heq)
        generalize lcI ss tt i (j + 1) = A01 at *
        generalize lcI ss tt (i + 1) j = A10 at *
        generalize tx ss i = s1 at *
        generalize tx tt j = s2 at *
        clear hE hE0 e1 heq hrow hbx hBW HEQ hrows f1 f2
        by_cases hg : A01 ≤ A10
        · have HF := hide (unhide GA hg)
          clear GA GB
          go_wp2
          go_region
          go_wp2
          go_region
          go_wp2
          go_roundw
          case rel => exact ⟨i + 1, j, L, by omega, by omega, by go_num, rfl, unhide HR, unhide HF, (unhide HBX).drew.drew⟩
          case measure => simp [intOf]; omega
        · have HF := hide (unhide GB hg)
          clear GA GB
          go_wp2
          go_region
          go_wp2
          go_region
          go_wp2
          go_roundw
          case rel => exact ⟨i, j + 1, L, by omega, by omega, rfl, by go_num, unhide HR, unhide HF, (unhide HBX).drew.drew⟩
          case measure => simp [intOf]; omega
    · have hL : L = lnP (eqT ss tt) ss.length tt.length 0 0 := by
        have := heq
        rw [lnP_out _ _ _ _ _ hcc, List.append_nil] at this
        exact this
      have HO : Hid (RPairsV wr w.heap.size (.slice xq xn xc) (whP (lnP (eqT ss tt) ss.length tt.length 0 0))) := hide (by rw [← hL]; exact owns_mono hrow hz1)
      have HBW := hide hBW
      clear hL heq HEQ hrow hBW hbx
      by_cases h1 : i < ss.length
      · have h1i : (i : Int) < (ss.length : Int) := by omega
        have h2n : ¬ j < tt.length := fun x => hcc ⟨h1, x⟩
        have h2i : ¬ (j : Int) < (tt.length : Int) := by omega
        clear hcc
        go_wp2
        go_ret
        exact ⟨_, rfl, unhide HO, unhide HBW⟩
      · have h1i : ¬ (i : Int) < (ss.length : Int) := by omega
        clear hcc
        go_wp2
        go_ret
        exact ⟨_, rfl, unhide HO, unhide HBW⟩
end Go.Proofs.YtbabmkilbbbmoaaDoor

/-
  What the reference's classes of layer 20 does (made by mk_rcl.py).
-/
namespace Go.Proofs.YtbabmkilbbbmoaaDoor
open Go.RowKit Go.Maps
set_option linter.unusedVariables false
set_option linter.unusedSimpArgs false

def ClS (w wo : World) (gb ob b7 : Nat) (yb ya : NdC) (W : World) : Prop :=
  W.cell? ⟨gb, ob, none⟩ = some (Value.int .i64 yb.k) ∧ W.cell? ⟨gb, ob + 1, none⟩ = some (Value.int .i64 yb.sp) ∧ W.cell? ⟨gb, ob + 2, none⟩ = some (Value.string yb.n) ∧ W.cell? ⟨gb, ob + 3, none⟩ = some (Value.slice yb.qa yb.la yb.ca) ∧ W.cell? ⟨gb, ob + 4, none⟩ = some (Value.string yb.tx) ∧ W.cell? ⟨gb, ob + 5, none⟩ = some (Value.slice yb.qk yb.lk yb.ck) ∧ W.cell? ⟨b7, 0, none⟩ = some (Value.int .i64 ya.k) ∧ W.cell? ⟨b7, 1, none⟩ = some (Value.int .i64 ya.sp) ∧ W.cell? ⟨b7, 2, none⟩ = some (Value.string ya.n) ∧ W.cell? ⟨b7, 3, none⟩ = some (Value.slice ya.qa ya.la ya.ca) ∧ W.cell? ⟨b7, 4, none⟩ = some (Value.string ya.tx) ∧ W.cell? ⟨b7, 5, none⟩ = some (Value.slice ya.qk ya.lk ya.ck) ∧ Below w.heap.size w W ∧ Below wo.heap.size wo W ∧ Blk W b7 #[Value.int .i64 ya.k, Value.int .i64 ya.sp, Value.string ya.n, Value.slice ya.qa ya.la ya.ca, Value.string ya.tx, Value.slice ya.qk ya.lk ya.ck] 44
theorem ClS.below {w wo W W' : World} {gb ob b7 : Nat} {yb ya : NdC} (h : ClS w wo gb ob b7 yb ya W) (hb : Below W.heap.size W W') : ClS w wo gb ob b7 yb ya W' := by
  obtain ⟨s0, s1, s2, s3, s4, s5, t0, t1, t2, t3, t4, t5, h1, h2, h3⟩ := h
  exact ⟨cell_later hb s0, cell_later hb s1, cell_later hb s2, cell_later hb s3, cell_later hb s4, cell_later hb s5, cell_later hb t0, cell_later hb t1, cell_later hb t2, cell_later hb t3, cell_later hb t4, cell_later hb t5, tr2 h1 hb, tr2 h2 hb, h3.later hb⟩
theorem ClS.bel {w wo W : World} {gb ob b7 : Nat} {yb ya : NdC} (h : ClS w wo gb ob b7 yb ya W) : Below w.heap.size w W := h.2.2.2.2.2.2.2.2.2.2.2.2.1
theorem ClS.bo {w wo W : World} {gb ob b7 : Nat} {yb ya : NdC} (h : ClS w wo gb ob b7 yb ya W) : Below wo.heap.size wo W := h.2.2.2.2.2.2.2.2.2.2.2.2.2.1
theorem ClS.blk {w wo W : World} {gb ob b7 : Nat} {yb ya : NdC} (h : ClS w wo gb ob b7 yb ya W) : Blk W b7 #[Value.int .i64 ya.k, Value.int .i64 ya.sp, Value.string ya.n, Value.slice ya.qa ya.la ya.ca, Value.string ya.tx, Value.slice ya.qk ya.lk ya.ck] 44 := h.2.2.2.2.2.2.2.2.2.2.2.2.2.2
theorem cell_one_new1 (w : World) (x : Value) (t : TypeId) (o : Obj) (n : Nat) (h : n = (w.alloc o).heap.size) : ∀ j u, [x][j]? = some u → ((w.alloc o).alloc (Obj.cells #[x] t)).cell? ((⟨n, 0, none⟩ : Addr).add j) = some u := by
  subst h; exact cell_one_new _ x t
/-- The first alike one's place, or the end. -/
def fcN (q : Nat → Bool) (m : Nat) : Nat := (fdF q m 0).getD m
theorem fcN_some {q : Nat → Bool} {m k : Nat} (hk : k < m) (hn : ∀ y, y < k → q y = false) (h : q k = true) : fcN q m = k := by unfold fcN; rw [fdF_some q m 0 k (Nat.zero_le _) (by omega) (fun y _ b => hn y b) h]; rfl
theorem fcN_none {q : Nat → Bool} {m : Nat} (hn : ∀ y, y < m → q y = false) : fcN q m = m := by unfold fcN; rw [fdF_none q m 0 (fun y _ b => hn y (by omega))]; rfl
def clT (k : Nat) : ByteArray := str [(k : Int) / 256, (k : Int) % 256]
def clsT (E : Nat → Nat → Bool) (m n : Nat) : List ByteArray := (List.range n).map (fun i => clT (fcN (E i) m))
theorem clsT_len (E : Nat → Nat → Bool) (m n : Nat) : (clsT E m n).length = n := by unfold clsT; simp
theorem clsT_succ (E : Nat → Nat → Bool) (m n : Nat) : clsT E m (n + 1) = clsT E m n ++ [clT (fcN (E n) m)] := by unfold clsT; rw [List.range_succ, List.map_append]; rfl
set_option maxHeartbeats 8000000 in
set_option maxRecDepth 100000 in
theorem classes_any (qa qb : Option Addr) (n m ca cb : Nat) (va vb : Nat → NdC) (E : Nat → Nat → Bool) (w : World) (h1 : NdsV w qa n va) (h2 : NdsV w qb m vb) (hn : n ≤ 1000) (hm : m ≤ 2000)
    (hE : ∀ i k, i < n → k < m → ∀ W, Below w.heap.size w W → Calls Tryd.prog 20 #[(vb k).val, (va i).val] W fun e w' => e = .returned (.bool (E i k)) ∧ Below W.heap.size W w') :
    Calls Tryd.prog 68 #[.slice qa n ca, .slice qb m cb] w fun e w' => ∃ u, e = .returned u ∧ w'.ownsRow w.heap.size 9 1 u (clsT E m n).length ((clsT E m n).map Value.string) ∧ Below w.heap.size w w' := by
  obtain ⟨i0, hi0, hz0, hz1, hz2⟩ := info_parts Tryd.infoStr
  have H1 := hide h1
  have H2 := hide h2
  have HE := hide hE
  clear h1 h2 hE
  go_enter Tryd.func68, Tryd.ntmps68
  go_wp2
  go_loopw [11, 5] (fun x u wr => ∃ i : Nat, i ≤ n ∧ x = .int .i64 (i : Int) ∧ wr.ownsRow w.heap.size 9 1 u (clsT E m i).length ((clsT E m i).map Value.string) ∧ Below w.heap.size w wr) (fun x _ _ => n - (intOf x).toNat)
  case atStart => exact ⟨0, Nat.zero_le _, rfl, World.ownsRow_nil _ _ _ _, Below.refl _ _⟩
  case round =>
    obtain ⟨i, hi, rfl, hrow, hbl⟩ := hrel
    obtain ⟨uq, un, uc, hu⟩ := slice_of hrow
    subst hu
    by_cases hp : i < n
    · have hpi : (i : Int) < (n : Int) := by omega
      obtain ⟨ga, oa, hqa, ha⟩ := unhide H1 (by omega)
      subst hqa
      have hA : ∀ j, j < 6 → wr.cell? ⟨ga, oa + i * 6 + j, none⟩ = (va i).cs[j]? := fun j hj => by
        have h := ha i hp j hj
        cases hv : (va i).cs[j]? with
        | none => exact absurd hv (by rw [List.getElem?_eq_none_iff]; unfold NdC.cs; simp; omega)
        | some v => rw [hv] at h; exact cell_later hbl h
      have a0 := hA 0 (by decide)
      have a1 := hA 1 (by decide)
      have a2 := hA 2 (by decide)
      have a3 := hA 3 (by decide)
      have a4 := hA 4 (by decide)
      have a5 := hA 5 (by decide)
      have CE := hide (fun k (hk : k < m) => unhide HE i k hp hk)
      have HFS := hide (fun k => @fcN_some (E i) m k)
      have HFN := hide (@fcN_none (E i) m)
      have HSU := hide (clsT_succ E m i)
      have HROW := hide hrow
      have HBL := hide hbl
      have hcl : (clsT E m i).length ≤ 1000 := by rw [clsT_len]; omega
      generalize va i = ya at *
      simp only [NdC.cs, List.getElem?_cons_zero, List.getElem?_cons_succ, Nat.add_zero] at a0 a1 a2 a3 a4 a5
      clear hA ha hrow hbl
      go_wp2
      obtain ⟨wo, hwo⟩ : ∃ wo, wo = wr := ⟨_, rfl⟩
      subst hwo
      go_loopw [8] (fun x wx => ∃ k : Nat, k ≤ m ∧ x = .int .i64 (k : Int) ∧ Below w.heap.size w wx ∧ Below wo.heap.size wo wx ∧ Blk wx wo.heap.size #[Value.int .i64 ya.k, Value.int .i64 ya.sp, Value.string ya.n, Value.slice ya.qa ya.la ya.ca, Value.string ya.tx, Value.slice ya.qk ya.lk ya.ck] 44 ∧ ∀ y, y < k → E i y = false) (fun x _ => m - (intOf x).toNat)
      case atStart => exact ⟨0, Nat.zero_le _, rfl, (unhide HBL).alloc (unhide HBL).size _, (Below.refl _ _).alloc (Nat.le_refl _) _, Blk.new _ _ _, fun y h => absurd h (Nat.not_lt_zero _)⟩
      case round =>
        obtain ⟨k, hk, rfl, hbw, hbo, hblk, hno⟩ := hrel
        by_cases hq : k < m
        · have hqi : (k : Int) < (m : Int) := by omega
          have hmn : ¬ m ≤ k := by omega
          obtain ⟨gb, ob, hqb, hb⟩ := unhide H2 (by omega)
          subst hqb
          have hB : ∀ j, j < 6 → wr.cell? ⟨gb, ob + k * 6 + j, none⟩ = (vb k).cs[j]? := fun j hj => by
            have h := hb k hq j hj
            cases hv : (vb k).cs[j]? with
            | none => exact absurd hv (by rw [List.getElem?_eq_none_iff]; unfold NdC.cs; simp; omega)
            | some v => rw [hv] at h; exact cell_later hbw h
          have b0 := hB 0 (by decide)
          have b1 := hB 1 (by decide)
          have b2 := hB 2 (by decide)
          have b3 := hB 3 (by decide)
          have b4 := hB 4 (by decide)
          have b5 := hB 5 (by decide)
          have CE2 := hide (unhide CE k hq)
          have HNO := hide hno
          obtain ⟨bb, hbb⟩ : ∃ bb, E i k = bb := ⟨_, rfl⟩
          rw [hbb] at CE2
          have HBB := hide hbb
          generalize vb k = yb at *
          simp only [NdC.cs, List.getElem?_cons_zero, List.getElem?_cons_succ, Nat.add_zero] at b0 b1 b2 b3 b4 b5
          unfold NdC.val at CE2
          have hS0 : ClS w wo gb (ob + k * 6) wo.heap.size yb ya wr := ⟨b0, b1, b2, b3, b4, b5, hblk.cell 0, hblk.cell 1, hblk.cell 2, hblk.cell 3, hblk.cell 4, hblk.cell 5, hbw, hbo, hblk⟩
          have hSa : ClS w wo gb (ob + k * 6) wo.heap.size yb ya wr.drew := hS0.below (Below.drew (Below.refl _ _))
          clear hB hb b0 b1 b2 b3 b4 b5 hbw hbo hblk hno hbb hS0 a0 a1 a2 a3 a4 a5
          go_wp2_with fail
          refine wp_region_held (S := ClS w wo gb (ob + k * 6) wo.heap.size yb ya) (by kernel_rfl) ?_
          change wpAnyH _ _ _ _ _ _ _ _ (World.drew _)
          refine wpAnyH_take (i := 0) (oi := { dst := some 15, op := _, type := _, pos := _, after := _, guard := _ }) (v := ?va0) rfl (by kernel_rfl) (by kernel_rfl) (by kernel_rfl) (fun _ _ _ h => h) (Or.inl ⟨by kernel_rfl, ?ha0⟩) hSa ?ra0
          case ha0 => first | (intro w hSw; obtain ⟨s0, s1, s2, s3, s4, s5, t0, t1, t2, t3, t4, t5, _⟩ := hSw; go_simp; done) | (intro w hSw; obtain ⟨s0, s1, s2, s3, s4, s5, t0, t1, t2, t3, t4, t5, _⟩ := hSw; go_simp; with_reducible rfl)
          try simp only [Act.put, List.setIfInBounds_toArray, List.set_cons_zero, List.set_cons_succ]
          refine wpAnyH_take (i := 1) (oi := { dst := some 16, op := _, type := _, pos := _, after := _, guard := _ }) (v := ?va1) rfl (by kernel_rfl) (by kernel_rfl) (by kernel_rfl) (fun _ _ _ h => h) (Or.inl ⟨by kernel_rfl, ?ha1⟩) hSa ?ra1
          case ha1 => first | (intro w hSw; obtain ⟨s0, s1, s2, s3, s4, s5, t0, t1, t2, t3, t4, t5, _⟩ := hSw; go_simp; done) | (intro w hSw; obtain ⟨s0, s1, s2, s3, s4, s5, t0, t1, t2, t3, t4, t5, _⟩ := hSw; go_simp; with_reducible rfl)
          try simp only [Act.put, List.setIfInBounds_toArray, List.set_cons_zero, List.set_cons_succ]
          refine wpAnyH_take (i := 2) (oi := { dst := some 17, op := _, type := _, pos := _, after := _, guard := _ }) (v := ?va2) rfl (by kernel_rfl) (by kernel_rfl) (by kernel_rfl) (fun _ _ _ h => h) (Or.inl ⟨by kernel_rfl, ?ha2⟩) hSa ?ra2
          case ha2 => first | (intro w hSw; obtain ⟨s0, s1, s2, s3, s4, s5, t0, t1, t2, t3, t4, t5, _⟩ := hSw; go_simp; done) | (intro w hSw; obtain ⟨s0, s1, s2, s3, s4, s5, t0, t1, t2, t3, t4, t5, _⟩ := hSw; go_simp; with_reducible rfl)
          try simp only [Act.put, List.setIfInBounds_toArray, List.set_cons_zero, List.set_cons_succ]
          refine wpAnyH_take (i := 3) (oi := { dst := some 18, op := _, type := _, pos := _, after := _, guard := _ }) (v := ?va3) rfl (by kernel_rfl) (by kernel_rfl) (by kernel_rfl) (fun _ _ _ h => h) (Or.inl ⟨by kernel_rfl, ?ha3⟩) hSa ?ra3
          case ha3 => first | (intro w hSw; obtain ⟨s0, s1, s2, s3, s4, s5, t0, t1, t2, t3, t4, t5, _⟩ := hSw; go_simp; done) | (intro w hSw; obtain ⟨s0, s1, s2, s3, s4, s5, t0, t1, t2, t3, t4, t5, _⟩ := hSw; go_simp; with_reducible rfl)
          try simp only [Act.put, List.setIfInBounds_toArray, List.set_cons_zero, List.set_cons_succ]
          refine wpAnyH_take (i := 4) (oi := { dst := some 19, op := _, type := _, pos := _, after := _, guard := _ }) (v := ?va4) rfl (by kernel_rfl) (by kernel_rfl) (by kernel_rfl) (fun _ _ _ h => h) (Or.inl ⟨by kernel_rfl, ?ha4⟩) hSa ?ra4
          case ha4 => first | (intro w hSw; obtain ⟨s0, s1, s2, s3, s4, s5, t0, t1, t2, t3, t4, t5, _⟩ := hSw; go_simp; done) | (intro w hSw; obtain ⟨s0, s1, s2, s3, s4, s5, t0, t1, t2, t3, t4, t5, _⟩ := hSw; go_simp; with_reducible rfl)
          try simp only [Act.put, List.setIfInBounds_toArray, List.set_cons_zero, List.set_cons_succ]
          refine wpAnyH_take (i := 5) (oi := { dst := some 20, op := _, type := _, pos := _, after := _, guard := _ }) (v := ?va5) rfl (by kernel_rfl) (by kernel_rfl) (by kernel_rfl) (fun _ _ _ h => h) (Or.inl ⟨by kernel_rfl, ?ha5⟩) hSa ?ra5
          case ha5 => first | (intro w hSw; obtain ⟨s0, s1, s2, s3, s4, s5, t0, t1, t2, t3, t4, t5, _⟩ := hSw; go_simp; done) | (intro w hSw; obtain ⟨s0, s1, s2, s3, s4, s5, t0, t1, t2, t3, t4, t5, _⟩ := hSw; go_simp; with_reducible rfl)
          try simp only [Act.put, List.setIfInBounds_toArray, List.set_cons_zero, List.set_cons_succ]
          refine wpAnyH_take (i := 6) (oi := { dst := some 21, op := _, type := _, pos := _, after := _, guard := _ }) (v := ?va6) rfl (by kernel_rfl) (by kernel_rfl) (by kernel_rfl) (fun _ _ _ h => h) (Or.inl ⟨by kernel_rfl, ?ha6⟩) hSa ?ra6
          case ha6 => first | (intro w hSw; obtain ⟨s0, s1, s2, s3, s4, s5, t0, t1, t2, t3, t4, t5, _⟩ := hSw; go_simp; done) | (intro w hSw; obtain ⟨s0, s1, s2, s3, s4, s5, t0, t1, t2, t3, t4, t5, _⟩ := hSw; go_simp; with_reducible rfl)
          try simp only [Act.put, List.setIfInBounds_toArray, List.set_cons_zero, List.set_cons_succ]
          refine wpAnyH_take (i := 7) (oi := { dst := some 22, op := _, type := _, pos := _, after := _, guard := _ }) (v := ?va7) rfl (by kernel_rfl) (by kernel_rfl) (by kernel_rfl) (fun _ _ _ h => h) (Or.inl ⟨by kernel_rfl, ?ha7⟩) hSa ?ra7
          case ha7 => first | (intro w hSw; obtain ⟨s0, s1, s2, s3, s4, s5, t0, t1, t2, t3, t4, t5, _⟩ := hSw; go_simp; done) | (intro w hSw; obtain ⟨s0, s1, s2, s3, s4, s5, t0, t1, t2, t3, t4, t5, _⟩ := hSw; go_simp; with_reducible rfl)
          try simp only [Act.put, List.setIfInBounds_toArray, List.set_cons_zero, List.set_cons_succ]
          refine wpAnyH_take (i := 8) (oi := { dst := some 23, op := _, type := _, pos := _, after := _, guard := _ }) (v := ?va8) rfl (by kernel_rfl) (by kernel_rfl) (by kernel_rfl) (fun _ _ _ h => h) (Or.inl ⟨by kernel_rfl, ?ha8⟩) hSa ?ra8
          case ha8 => first | (intro w hSw; obtain ⟨s0, s1, s2, s3, s4, s5, t0, t1, t2, t3, t4, t5, _⟩ := hSw; go_simp; done) | (intro w hSw; obtain ⟨s0, s1, s2, s3, s4, s5, t0, t1, t2, t3, t4, t5, _⟩ := hSw; go_simp; with_reducible rfl)
          try simp only [Act.put, List.setIfInBounds_toArray, List.set_cons_zero, List.set_cons_succ]
          refine wpAnyH_take (i := 9) (oi := { dst := some 24, op := _, type := _, pos := _, after := _, guard := _ }) (v := ?va9) rfl (by kernel_rfl) (by kernel_rfl) (by kernel_rfl) (fun _ _ _ h => h) (Or.inl ⟨by kernel_rfl, ?ha9⟩) hSa ?ra9
          case ha9 => first | (intro w hSw; obtain ⟨s0, s1, s2, s3, s4, s5, t0, t1, t2, t3, t4, t5, _⟩ := hSw; go_simp; done) | (intro w hSw; obtain ⟨s0, s1, s2, s3, s4, s5, t0, t1, t2, t3, t4, t5, _⟩ := hSw; go_simp; with_reducible rfl)
          try simp only [Act.put, List.setIfInBounds_toArray, List.set_cons_zero, List.set_cons_succ]
          refine wpAnyH_ready (rs := [10]) (by kernel_rfl) (by simp) ?_
          refine AllReadyH.cons rfl (fun K hK => ?_) AllReadyH.nil
          go_simp
          refine (unhide CE2 _ hSa.bel).mono ?_
          rintro e2 W2 ⟨rfl, hb2⟩
          have hSa' := hSa.below hb2
          clear hb2
          refine hK _ _ hSa' (fun _ => ?_)
          clear hK K hSa
          have hSa := hSa'
          clear hSa'
          refine wpAnyH_take (i := 11) (oi := { dst := some 26, op := _, type := _, pos := _, after := _, guard := _ }) (v := ?va11) rfl (by kernel_rfl) (by kernel_rfl) (by kernel_rfl) (fun _ _ _ h => h) (Or.inl ⟨by kernel_rfl, ?ha11⟩) hSa ?ra11
          case ha11 => first | (intro w hSw; obtain ⟨s0, s1, s2, s3, s4, s5, t0, t1, t2, t3, t4, t5, _⟩ := hSw; go_simp; done) | (intro w hSw; obtain ⟨s0, s1, s2, s3, s4, s5, t0, t1, t2, t3, t4, t5, _⟩ := hSw; go_simp; with_reducible rfl)
          try simp only [Act.put, List.setIfInBounds_toArray, List.set_cons_zero, List.set_cons_succ]
          refine wpAnyH_take (i := 12) (oi := { dst := some 27, op := _, type := _, pos := _, after := _, guard := _ }) (v := ?va12) rfl (by kernel_rfl) (by kernel_rfl) (by kernel_rfl) (fun _ _ _ h => h) (Or.inl ⟨by kernel_rfl, ?ha12⟩) hSa ?ra12
          case ha12 => first | (intro w hSw; obtain ⟨s0, s1, s2, s3, s4, s5, t0, t1, t2, t3, t4, t5, _⟩ := hSw; go_simp; done) | (intro w hSw; obtain ⟨s0, s1, s2, s3, s4, s5, t0, t1, t2, t3, t4, t5, _⟩ := hSw; go_simp; with_reducible rfl)
          try simp only [Act.put, List.setIfInBounds_toArray, List.set_cons_zero, List.set_cons_succ]
          refine wpAnyH_done (by kernel_rfl) ?_ _
          have HB1 := hide hSa.bel
          have HB2 := hide hSa.bo
          have HB3 := hide hSa.blk
          clear hSa CE2
          cases bb with
          | false =>
            have HNO2 : Hid (∀ y, y < k + 1 → E i y = false) := hide (fun y h => by
              by_cases e : y = k
              · rw [e]; exact unhide HBB
              · exact unhide HNO y (by omega))
            go_wp2
            go_roundw
            case rel => exact ⟨k + 1, by omega, by go_num, unhide HB1, unhide HB2, unhide HB3, unhide HNO2⟩
            case measure => simp [intOf]; omega
          | true =>
            have HFC := hide (unhide HFS k hq (unhide HNO) (unhide HBB))
            have hcv : Sem.run Tryd.prog (convert 120 9 (Value.slice (some { block := W2.heap.size, off := 0 }) 2 2)) (W2.alloc (Obj.cells #[.int .u8 ((k : Int) / 256), .int .u8 ((k : Int) % 256)] 5)) = .ok (.string (clT k)) (W2.alloc (Obj.cells #[.int .u8 ((k : Int) / 256), .int .u8 ((k : Int) % 256)] 5)) := convL W2 W2.heap.size [(k : Int) / 256, (k : Int) % 256] rfl
            have HR2 := hide (ownsRow_below (unhide HROW) (unhide HB2))
            have hz := (unhide HB1).size
            clear HB3 HBL
            go_wp2_with (at_builtin; refine wpList_append_own_at _ rfl _ _ 62 rfl w.heap.size 9 i0 (.string ⟨#[]⟩) 1 16 Tryd.underlying62 hi0 hz0 hz1 hz2 rfl (by decide) (.slice uq un uc) _ _ rfl (((unhide HR2).alloc _).alloc _) ⟨W2.heap.size + 1, 0, none⟩ 1 1 [.string (clT k)] rfl rfl (cell_one_new1 _ _ _ _ _ (by simp)) (by simp [Value.oneCell']) (by simp only [maxLen]; omega) (by omega) (by simp; omega) ?_)
            intro u' w3 hown hgr _ _
            have HO : Hid (w3.ownsRow w.heap.size 9 1 u' (clsT E m (i + 1)).length ((clsT E m (i + 1)).map Value.string)) := hide (by rw [unhide HSU, unhide HFC, List.length_append, List.map_append]; exact hown)
            have HB4 : Hid (Below w.heap.size w w3) := hide (((((unhide HB1).alloc hz _).alloc (by simp; omega) _).grown hgr (by simp; omega) (fun q hq => ((unhide HR2).lt q hq).1)))
            clear hown hgr
            go_wp2
            go_roundw
            case rel => exact ⟨i + 1, by omega, by go_num, unhide HO, unhide HB4⟩
            case measure => simp [intOf]; omega
        · have hqi : ¬ (k : Int) < (m : Int) := by omega
          have hmn : m ≤ k := by omega
          have he : k = m := by omega
          subst he
          have HFC := hide (unhide HFN hno)
          have HB10 := hide (fun nq => _root_.Go.below_drewN hbw nq)
          have HB20 := hide (fun nq => _root_.Go.below_drewN hbo nq)
          clear HFN HFS CE hblk hno hbw hbo HBL
          go_wp2
          go_quiet (fail)
          have HB1 := hide (unhide HB10 nq)
          have HB2 := hide (unhide HB20 nq)
          clear HB10 HB20
          generalize wr.drewN nq = W2 at *
          have hcv : Sem.run Tryd.prog (convert 120 9 (Value.slice (some { block := W2.heap.size, off := 0 }) 2 2)) (W2.alloc (Obj.cells #[.int .u8 ((k : Int) / 256), .int .u8 ((k : Int) % 256)] 5)) = .ok (.string (clT k)) (W2.alloc (Obj.cells #[.int .u8 ((k : Int) / 256), .int .u8 ((k : Int) % 256)] 5)) := convL W2 W2.heap.size [(k : Int) / 256, (k : Int) % 256] rfl
          have HR2 := hide (ownsRow_below (unhide HROW) (unhide HB2))
          have hz := (unhide HB1).size
          go_wp2_with (at_builtin; refine wpList_append_own_at _ rfl _ _ 62 rfl w.heap.size 9 i0 (.string ⟨#[]⟩) 1 16 Tryd.underlying62 hi0 hz0 hz1 hz2 rfl (by decide) (.slice uq un uc) _ _ rfl (((unhide HR2).alloc _).alloc _) ⟨W2.heap.size + 1, 0, none⟩ 1 1 [.string (clT k)] rfl rfl (cell_one_new1 _ _ _ _ _ (by simp)) (by simp [Value.oneCell']) (by simp only [maxLen]; omega) (by omega) (by simp; omega) ?_)
          intro u' w3 hown hgr _ _
          have HO : Hid (w3.ownsRow w.heap.size 9 1 u' (clsT E k (i + 1)).length ((clsT E k (i + 1)).map Value.string)) := hide (by rw [unhide HSU, unhide HFC, List.length_append, List.map_append]; exact hown)
          have HB4 : Hid (Below w.heap.size w w3) := hide (((((unhide HB1).alloc hz _).alloc (by simp; omega) _).grown hgr (by simp; omega) (fun q hq => ((unhide HR2).lt q hq).1)))
          clear hown hgr
          go_wp2
          go_roundw
          case rel => exact ⟨i + 1, by omega, by go_num, unhide HO, unhide HB4⟩
          case measure => simp [intOf]; omega
    · have hpi : ¬ (i : Int) < (n : Int) := by omega
      have he : i = n := by omega
      subst he
      go_wp2
      go_ret
      exact ⟨_, rfl, hrow, hbl⟩
end Go.Proofs.YtbabmkilbbbmoaaDoor
