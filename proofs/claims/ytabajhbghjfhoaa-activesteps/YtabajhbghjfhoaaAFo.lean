/-
  The small case that each statement on lists asks: four that are alike.
-/
import Derived.Test.YtabajhbghjfhoaaACu
namespace Go.Proofs.Ytabajhbghjfhoaa
open Go.RowKit
set_option linter.unusedVariables false
set_option linter.unusedSimpArgs false

def bE (k : Int) : AEnt := mkE false k ⟨#[98]⟩
def L1 : List AEnt := [bE 0]
def L2 : List AEnt := [bE 0, bE 1]
def L3 : List AEnt := [bE 0, bE 1, bE 2]
def L4 : List AEnt := [bE 1, bE 2, bE 3]
theorem nmB_b (a b : Int) : nmB (bE a) (bE b) = true := by simp [nmB, bE, mkE]
theorem el_b (k : Int) (h : 0 ≤ k) : isElB (bE k) = true := by simp [isElB, bE, mkE, h]
theorem add0 (base p : Nat) (v : Value) (W : World) (h : Stk base p v [] W) (hb : base ≤ W.heap.size) : Calls Try.prog 33 #[ptr p, entV (bE 0)] W fun e w' => e = .returned (.int .i64 0) ∧ Upd base p v L1 W w' :=
  add_few base p v false 0 ⟨#[98]⟩ [] [] W h hb (by decide) (el_b 0 (by decide)) (hide fun W' hW => alikeTo_none base p v (bE 0) [] W' (h.later hW) (by decide) (by decide)) (by decide)
theorem lastM (L : List AEnt) (h : ∀ x ∈ L, x.mr = false) : lastE isMk L = -1 := by
  induction hl : L.length generalizing L with
  | zero => obtain rfl := List.eq_nil_of_length_eq_zero hl; rfl
  | succ n ih =>
    obtain ⟨a, x, rfl⟩ := snoc_of L (by omega)
    rw [lastE_app]
    have hx : isMk x = false := h x (by simp)
    rw [hx]
    exact ih a (fun y hy => h y (by simp [hy])) (by simpa using hl)
theorem add1 (base p : Nat) (v : Value) (W : World) (h : Stk base p v L1 W) (hb : base ≤ W.heap.size) : Calls Try.prog 33 #[ptr p, entV (bE 1)] W fun e w' => e = .returned (.int .i64 0) ∧ Upd base p v L2 W w' :=
  add_few base p v false 1 ⟨#[98]⟩ [0] L1 W h hb (by decide) (el_b 1 (by decide)) (hide fun W' hW => by
    have hm : lastE isMk L1 + 1 = ((0 : Nat) : Int) := by rw [lastM L1 (by simp [L1, bE, mkE])]; rfl
    have := alikeTo_some base p 0 v (bE 1) L1 W' (h.later hW) (by decide) hm (by decide) rfl (by simp [L1, bE, mkE])
    have e : plcs (bE 1) (L1.drop 0) 0 = [0] := by simp [L1, plcs, nmB_b]
    rw [e] at this
    exact this) (by decide)
theorem add2 (base p : Nat) (v : Value) (W : World) (h : Stk base p v L2 W) (hb : base ≤ W.heap.size) : Calls Try.prog 33 #[ptr p, entV (bE 2)] W fun e w' => e = .returned (.int .i64 0) ∧ Upd base p v L3 W w' :=
  add_few base p v false 2 ⟨#[98]⟩ [0, 1] L2 W h hb (by decide) (el_b 2 (by decide)) (hide fun W' hW => by
    have hm : lastE isMk L2 + 1 = ((0 : Nat) : Int) := by rw [lastM L2 (by simp [L2, bE, mkE])]; rfl
    have := alikeTo_some base p 0 v (bE 2) L2 W' (h.later hW) (by decide) hm (by decide) rfl (by simp [L2, bE, mkE])
    have e : plcs (bE 2) (L2.drop 0) 0 = [0, 1] := by simp [L2, plcs, nmB_b]
    rw [e] at this
    exact this) (by decide)
theorem add3 (base p : Nat) (v : Value) (W : World) (h : Stk base p v L3 W) (hb : base ≤ W.heap.size) : Calls Try.prog 33 #[ptr p, entV (bE 3)] W fun e w' => e = .returned (.int .i64 0) ∧ Upd base p v L4 W w' :=
  add_three base p v false 3 ⟨#[98]⟩ [0, 1, 2] L3 W h hb (by decide) (el_b 3 (by decide)) (hide fun W' hW => by
    have hm : lastE isMk L3 + 1 = ((0 : Nat) : Int) := by rw [lastM L3 (by simp [L3, bE, mkE])]; rfl
    have := alikeTo_some base p 0 v (bE 3) L3 W' (h.later hW) (by decide) hm (by decide) rfl (by simp [L3, bE, mkE])
    have e : plcs (bE 3) (L3.drop 0) 0 = [0, 1, 2] := by simp [L3, plcs, nmB_b]
    rw [e] at this
    exact this) (by decide) (by decide)
theorem four_cut : lastE (cutB 2) L4 = 1 := by simp [lastE, lastR, cutB, L4, bE, mkE]
theorem four_find : lastE (isId 0) L4 = -1 := by simp [lastE, lastR, isId, L4, bE, mkE]
theorem four_plain : Plain L4 := by
  intro k hk
  have : k = 0 ∨ k = 1 ∨ k = 2 := by simp [L4] at hk; omega
  rcases this with rfl | rfl | rfl <;> rfl
theorem cellB {w w1 w2 : World} {v : Value} {L : List AEnt} (hb : Below w.heap.size w w1) (hs : Stk w.heap.size w.heap.size v L w1) (ht : Tch w.heap.size v.ownBlock w1 w2) : Below w.heap.size w w2 :=
  hb.trans (ht.below hb.size (Nat.le_refl _) (fun k hk => (hs.2.1.lt k hk).1))

set_option maxHeartbeats 8000000 in
set_option maxRecDepth 100000 in
theorem four_any (w : World) : Calls Try.prog 21 #[] w fun e w' => e = .returned (.bool true) ∧ Below w.heap.size w w' := by
  have CN := hide (new_any w.heap.size w (Nat.le_refl _))
  have A0 := hide (fun v W h hb => add0 w.heap.size w.heap.size v W h hb)
  have A1 := hide (fun v W h hb => add1 w.heap.size w.heap.size v W h hb)
  have A2 := hide (fun v W h hb => add2 w.heap.size w.heap.size v W h hb)
  have A3 := hide (fun v W h hb => add3 w.heap.size w.heap.size v W h hb)
  have CA := hide (fun v W h => all_plain w.heap.size w.heap.size v L4 W h four_plain (by decide) (by decide))
  have CC := hide (fun v k W h hk => cut_one w.heap.size w.heap.size k v 2 1 L4 W h hk four_cut (by decide) (by decide))
  have CI := hide (fun g c k d W h1 h2 => ints_one g c k d 2 W h1 h2)
  have CF := hide (fun v W h => find_any w.heap.size w.heap.size v 0 L4 W h)
  rw [four_find] at CF
  simp only [show (1 : Int) + 1 = 2 from rfl] at CC
  unfold entV bE mkE at A0 A1 A2 A3
  dsimp only at A0 A1 A2 A3
  unfold ptr at *
  go_enter Try.func21, Try.ntmps21
  go_wp2_with fail
  refine (unhide CN).mono ?_
  rintro e w1 ⟨rfl, hs1, hb1⟩
  have hz1 := hb1.size
  have S1 := hide hs1
  have B1 := hide hb1
  clear hs1 hb1
  go_wp2
  refine wp_loop_rounds 5 ?_
  rw [rounds_succ]
  go_wp2_with fail
  refine (unhide A0 _ _ (unhide S1) (by omega)).mono ?_
  rintro e w2 ⟨rfl, v2, hs, ht, ho⟩
  have hz2 := ht.size
  have B2 := hide (cellB (unhide B1) (unhide S1) ht)
  have S2 := hide hs
  clear hs ht ho
  go_wp2
  rw [rounds_succ]
  go_wp2_with fail
  refine (unhide A1 _ _ (unhide S2) (by omega)).mono ?_
  rintro e w3 ⟨rfl, v3, hs, ht, ho⟩
  have hz3 := ht.size
  have B3 := hide (cellB (unhide B2) (unhide S2) ht)
  have S3 := hide hs
  clear hs ht ho
  go_wp2
  rw [rounds_succ]
  go_wp2_with fail
  refine (unhide A2 _ _ (unhide S3) (by omega)).mono ?_
  rintro e w4 ⟨rfl, v4, hs, ht, ho⟩
  have hz4 := ht.size
  have B4 := hide (cellB (unhide B3) (unhide S3) ht)
  have S4 := hide hs
  clear hs ht ho
  go_wp2
  rw [rounds_succ]
  go_wp2_with fail
  refine (unhide A3 _ _ (unhide S4) (by omega)).mono ?_
  rintro e w5 ⟨rfl, v5, hs, ht, ho⟩
  have hz5 := ht.size
  have B5 := hide (cellB (unhide B4) (unhide S4) ht)
  have S5 := hide hs
  clear hs ht ho
  go_wp2
  rw [rounds_succ]
  go_wp2_with fail
  refine (unhide CA _ _ (unhide S5)).mono ?_
  rintro e w6 ⟨u, rfl, hu, hb⟩
  have S6 := hide ((unhide S5).later hb)
  have B6 := hide (cellC (unhide B5) hb)
  have hsl : ∃ g cap, u = .slice (some ⟨g, 0, none⟩) 3 cap := by
    rcases hu.2 with ⟨_, h0⟩ | ⟨g, cap, cur, h, _⟩
    · exact absurd h0 (by decide)
    · exact ⟨g, cap, h⟩
  obtain ⟨g, cap, rfl⟩ := hsl
  obtain ⟨_, c1, _, _⟩ := cells4_of_row hu 0 (by decide)
  have c1' : w6.cell? ⟨g, 1, none⟩ = some (.int .i64 1) := c1
  clear hu hb c1
  go_wp2_with fail
  have al : Below w6.heap.size w6 (w6.alloc (Obj.cells #[.int .i64 2] 3)) := (Below.refl _ _).alloc (Nat.le_refl _) _
  refine (unhide CC _ _ _ ((unhide S6).later al) ((Blk.new w6 _ _).cell 0)).mono ?_
  rintro e w7 ⟨g7, c7, rfl, hg7, hb7⟩
  have b7 := tr2 al hb7
  have S7 := hide ((unhide S6).later b7)
  have B7 := hide (cellC (unhide B6) b7)
  clear al hb7 b7
  go_wp2_with fail
  have al : Below w7.heap.size w7 (w7.alloc (Obj.cells #[.int .i64 2] 3)) := (Below.refl _ _).alloc (Nat.le_refl _) _
  refine (unhide CI _ _ _ _ _ ((al.cell (p := ⟨g7, 0, none⟩) (World.block_lt_of_cell? _ _ hg7)).trans hg7) ((Blk.new w7 _ _).cell 0)).mono ?_
  rintro e w8 ⟨rfl, hb8⟩
  have b8 := tr2 al hb8
  have S8 := hide ((unhide S7).later b8)
  have B8 := hide (cellC (unhide B7) b8)
  clear al hb8 b8
  go_wp2_with fail
  refine (unhide CF _ _ (unhide S8)).mono ?_
  rintro e w9 ⟨rfl, hb9⟩
  have B9 := hide (cellC (unhide B8) hb9)
  clear hb9
  go_wp2
  go_ret
  exact ⟨rfl, unhide B9⟩
end Go.Proofs.Ytabajhbghjfhoaa
