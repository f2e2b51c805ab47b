/-
  What the reference's Line of layer 20 does.
-/
import Derived.Test.YtbabmkilbbbmoaaDoorMRb
namespace Go.Proofs.YtbabmkilbbbmoaaDoor
open Go.RowKit Go.Maps
set_option linter.unusedVariables false
set_option linter.unusedSimpArgs false

theorem infoRPair0 : (Tryd.prog.info? 63).map (fun i => (i.zero, i.size, i.bytes)) = some (some (.agg #[.int .i64 0, .int .i64 0, .bool false]), 3, 24) := by kernel_rfl
theorem infoRPair : ∃ i, Tryd.prog.info? 63 = some i ∧ i.zero = some (.agg #[.int .i64 0, .int .i64 0, .bool false]) ∧ i.size = 3 ∧ i.bytes = 24 := by
  have h := infoRPair0
  cases hi : Tryd.prog.info? 63 with
  | none => rw [hi] at h; cases h
  | some i =>
    rw [hi] at h
    simp only [Option.map_some, Option.some.injEq, Prod.mk.injEq] at h
    exact ⟨i, rfl, h.1, h.2.1, h.2.2⟩
def RPairsV (w : World) (base : Nat) (u : Value) (L : List (Int × Int × Bool)) : Prop := w.ownsRow base 63 3 u L.length (flatP L)
theorem whP_snoc (L : List (Nat × Nat)) (i j : Nat) : whP (L ++ [(i, j)]) = whP L ++ [((i : Int), (j : Int), true)] := by unfold whP; rw [List.map_append]; rfl
theorem ln_len (E : Nat → Nat → Bool) (n m i j : Nat) (L : List (Nat × Nat)) (h : L ++ lnP E n m i j = lnP E n m 0 0) : L.length ≤ n := by
  have h1 := congrArg List.length h
  have h2 := lnP_small E n m 0 0
  rw [List.length_append] at h1
  omega
def RLineSaid (ss tt : List ByteArray) (w : World) (e : Ending) (w' : World) : Prop := ∃ u, e = .returned u ∧ RPairsV w' w.heap.size u (whP (lnP (eqT ss tt) ss.length tt.length 0 0)) ∧ Below w.heap.size w w'

set_option maxHeartbeats 4000000 in
set_option maxRecDepth 100000 in
theorem rline_any (va vb : Value) (ss tt : List ByteArray) (w : World) (ha : View w va ss) (hb : View w vb tt) (hn : ss.length ≤ 1000) (hm : tt.length ≤ 1000) :
    Calls Tryd.prog 67 #[va, vb] w (RLineSaid ss tt w) := by
  have CB := hide (best_any va vb ss tt w ha hb hn hm)
  obtain ⟨i0, hi0, hi1, hi2, hi3⟩ := infoRPair
  have HVA := hide ha
  have HVB := hide hb
  obtain ⟨a1, c1, rfl⟩ := view_slice ha
  obtain ⟨a2, c2, rfl⟩ := view_slice hb
  unfold RLineSaid
  clear ha hb
  go_enter Tryd.func67, Tryd.ntmps67
  go_wp2_with fail
  refine (unhide CB).mono ?_
  rintro e w1 ⟨u1, rfl, hrs, hb1⟩
  have HRS := hide hrs
  have HB1 := hide hb1
  have hz1 := hb1.size
  obtain ⟨ug, uo, uc, rfl, huc, _⟩ := hrs
  clear CB hb1
  go_wp2
  go_loopw [7, 8, 6] (fun iv jv u wr => ∃ i j L, i ≤ ss.length ∧ j ≤ tt.length ∧ iv = .int .i64 (i : Int) ∧ jv = .int .i64 (j : Int) ∧ RPairsV wr w1.heap.size u (whP L) ∧ L ++ lnP (eqT ss tt) ss.length tt.length i j = lnP (eqT ss tt) ss.length tt.length 0 0 ∧ Below w1.heap.size w1 wr) (fun iv jv _ _ => (ss.length - (intOf iv).toNat) + (tt.length - (intOf jv).toNat))
  case atStart => exact ⟨0, 0, [], Nat.zero_le _, Nat.zero_le _, rfl, rfl, World.ownsRow_nil _ _ _ _, rfl, Below.refl _ _⟩
  case round =>
    obtain ⟨i, j, L, hin, hjm, rfl, rfl, hrow, heq, hbx⟩ := hrel
    have HR := hide hrow
    have HEQ := hide heq
    have HBX := hide hbx
    have hxz := hbx.size
    have hll := ln_len _ _ _ _ _ _ heq
    have hBW : Below w.heap.size w wr := (unhide HB1).trans (hbx.mono hz1)
    obtain ⟨xq, xn, xc, hu⟩ := slice_of hrow
    subst hu
    by_cases hcc : i < ss.length ∧ j < tt.length
    · obtain ⟨h1, h2⟩ := hcc
      have h1i : (i : Int) < (ss.length : Int) := by omega
      have h2i : (j : Int) < (tt.length : Int) := by omega
      obtain ⟨ba, oba, hqa, cS⟩ := view_atR (unhide HVA) hBW i h1
      obtain ⟨bb, obb, hqb, cT⟩ := view_atR (unhide HVB) hBW j h2
      subst hqa
      subst hqb
      have hE0 : Hid (eqT ss tt i j = decide ((tx ss i).data.toList = (tx tt j).data.toList)) := hide rfl
      by_cases e1 : tx ss i = tx tt j
      · have hE : eqT ss tt i j = true := by rw [unhide hE0, e1]; simp
        have HEQ2 : Hid ((L ++ [(i, j)]) ++ lnP (eqT ss tt) ss.length tt.length (i + 1) (j + 1) = lnP (eqT ss tt) ss.length tt.length 0 0) := hide (by rw [← heq, lnP_yes _ _ _ _ _ h1 h2 hE, List.append_assoc]; rfl)
        have hwl : (whP L).length ≤ 1000 := by unfold whP; rw [List.length_map]; omega
        rw [e1] at cS
        generalize tx tt j = s2 at *
        unfold RPairsV at HR
        clear hE hE0 e1 heq hrow hbx hBW HEQ
        go_wp2
        go_region
        go_wp2_with (at_builtin; refine wpList_append_own_at _ rfl _ _ 28 rfl w1.heap.size 63 i0 (.agg #[.int .i64 0, .int .i64 0, .bool false]) 3 24 Tryd.underlying28 hi0 hi1 hi2 hi3 rfl (by decide) (.slice xq xn xc) _ _ rfl ((unhide HR).alloc _) ⟨wr.heap.size, 0, none⟩ 1 1 [.int .i64 (i : Int), .int .i64 (j : Int), .bool true] rfl rfl (cell_three_new _ _ _ _ _) (by simp [Value.oneCell']) (by simp only [maxLen]; omega) (by omega) (by simp; omega) ?_)
        intro u' w3 hown hgr _ _
        have hrb : ∀ q, some q = (Value.slice xq xn xc).ownBlock → w1.heap.size ≤ q := fun q hq => ((unhide HR).lt q hq.symm).1
        have HO : Hid (RPairsV w3 w1.heap.size u' (whP (L ++ [(i, j)]))) := hide (by unfold RPairsV; rw [whP_snoc, List.length_append, flatP_app]; exact hown)
        have HB3 : Hid (Below w1.heap.size w1 w3) := hide ((((unhide HBX).drew.alloc (by show w1.heap.size ≤ wr.heap.size; omega) _).grown hgr (by simp; omega) (fun q hq => hrb q hq.symm)))
        clear hown hgr
        go_wp2
        go_roundw
        case rel => exact ⟨i + 1, j + 1, _, by omega, by omega, by go_num, by go_num, unhide HO, unhide HEQ2, unhide HB3⟩
        case measure => simp [intOf]; omega
      · have e1b : ((tx ss i).toList == (tx tt j).toList) = false := beq_no e1
        have hE : eqT ss tt i j = false := by rw [unhide hE0, decide_eq_false (fun x => e1 (by cases h1 : tx ss i; cases h2 : tx tt j; rw [h1, h2] at x; simpa using x))]
        obtain ⟨ug', uo', uc', hue, _, hrows⟩ := (unhide HRS).below hbx
        cases hue
        obtain ⟨q1, d1, m1, g1, o1, rfl, f1⟩ := hrows (i + 1) (by omega)
        obtain ⟨q2, d2, m2, g2, o2, rfl, f2⟩ := hrows i (by omega)
        have x1 : wr.cell? ⟨g1, o1 + j, none⟩ = some (.int .i64 (lcI ss tt (i + 1) j)) := f1 j (by omega)
        have x2 : wr.cell? ⟨g2, o2 + (j + 1), none⟩ = some (.int .i64 (lcI ss tt i (j + 1))) := f2 (j + 1) (by omega)
        have GA : Hid (lcI ss tt i (j + 1) ≤ lcI ss tt (i + 1) j → L ++ lnP (eqT ss tt) ss.length tt.length (i + 1) j = lnP (eqT ss tt) ss.length tt.length 0 0) := hide (fun hg => by rw [← lnP_a _ _ _ _ _ h1 h2 hE (by unfold lcI at hg; omega)]; exact heq)
        have GB : Hid (¬ lcI ss tt i (j + 1) ≤ lcI ss tt (i + 1) j → L ++ lnP (eqT ss tt) ss.length tt.length i (j + 1) = lnP (eqT ss tt) ss.length tt.length 0 0) := hide (fun hg => by rw [← lnP_b _ _ _ _ _ h1 h2 hE (by unfold lcI at hg; omega)]; exact heq)
        generalize lcI ss tt i (j + 1) = A01 at *
        generalize lcI ss tt (i + 1) j = A10 at *
        generalize tx ss i = s1 at *
        generalize tx tt j = s2 at *
        clear hE hE0 e1 heq hrow hbx hBW HEQ hrows f1 f2
        by_cases hg : A01 ≤ A10
        · have HF := hide (unhide GA hg)
          clear GA GB
          go_wp2
          go_region
          go_wp2
          go_region
          go_wp2
          go_roundw
          case rel => exact ⟨i + 1, j, L, by omega, by omega, by go_num, rfl, unhide HR, unhide HF, (unhide HBX).drew.drew⟩
          case measure => simp [intOf]; omega
        · have HF := hide (unhide GB hg)
          clear GA GB
          go_wp2
          go_region
          go_wp2
          go_region
          go_wp2
          go_roundw
          case rel => exact ⟨i, j + 1, L, by omega, by omega, rfl, by go_num, unhide HR, unhide HF, (unhide HBX).drew.drew⟩
          case measure => simp [intOf]; omega
    · have hL : L = lnP (eqT ss tt) ss.length tt.length 0 0 := by
        have := heq
        rw [lnP_out _ _ _ _ _ hcc, List.append_nil] at this
        exact this
      have HO : Hid (RPairsV wr w.heap.size (.slice xq xn xc) (whP (lnP (eqT ss tt) ss.length tt.length 0 0))) := hide (by rw [← hL]; exact owns_mono hrow hz1)
      have HBW := hide hBW
      clear hL heq HEQ hrow hBW hbx
      by_cases h1 : i < ss.length
      · have h1i : (i : Int) < (ss.length : Int) := by omega
        have h2n : ¬ j < tt.length := fun x => hcc ⟨h1, x⟩
        have h2i : ¬ (j : Int) < (tt.length : Int) := by omega
        clear hcc
        go_wp2
        go_ret
        exact ⟨_, rfl, unhide HO, unhide HBW⟩
      · have h1i : ¬ (i : Int) < (ss.length : Int) := by omega
        clear hcc
        go_wp2
        go_ret
        exact ⟨_, rfl, unhide HO, unhide HBW⟩
end Go.Proofs.YtbabmkilbbbmoaaDoor
