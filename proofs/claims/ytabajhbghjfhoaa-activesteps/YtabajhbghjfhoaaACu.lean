/-
  What a list's Cut does of one open element, All of entries without attributes, and rectoplain.Ints of one number each.
-/
import Derived.Test.YtabajhbghjfhoaaAAa
namespace Go.Proofs.Ytabajhbghjfhoaa
open Go.RowKit
set_option linter.unusedVariables false
set_option linter.unusedSimpArgs false

theorem contains1 (k : Nat) (y z : Int) (w : World) (hc : w.cell? ⟨k, 0, none⟩ = some (.int .i64 y)) : Calls Try.prog 73 #[.slice (some ⟨k, 0, none⟩) 1 1, .int .i64 z] w fun e w' => e = .returned (.bool (z == y)) ∧ w' = w := by
  have C : Hid (Calls Try.prog 96 #[.slice (some ⟨k, 0, none⟩) 1 1, .int .i64 z] w fun e w' => e = .returned (.int .i64 (if z = y then 0 else -1)) ∧ w' = w) := hide (by
    by_cases h : z = y
    · have h1 : (z == y) = true := by simp [h]
      rw [if_pos h]
      clear h
      go_enter Try.func96, Try.ntmps96
      go_wp2
      refine wp_loop_rounds 1 ?_
      rw [rounds_succ]; go_wp2
      go_ret
      exact ⟨rfl, rfl⟩
    · have h1 : (z == y) = false := beq_eq_false_iff_ne.2 h
      rw [if_neg h]
      go_enter Try.func96, Try.ntmps96
      go_wp2
      refine wp_loop_rounds 2 ?_
      rw [rounds_succ]; go_wp2
      rw [rounds_succ]; go_wp2
      go_ret
      exact ⟨rfl, rfl⟩)
  by_cases h : z = y
  · rw [if_pos h] at C
    have h1 : (z == y) = true := by simp [h]
    rw [h1]
    clear h h1 hc
    go_enter Try.func73, Try.ntmps73
    go_wp2_with fail
    refine (unhide C).mono ?_
    rintro e w1 ⟨rfl, rfl⟩
    go_wp2
    go_ret
    exact ⟨rfl, rfl⟩
  · rw [if_neg h] at C
    have h1 : (z == y) = false := beq_eq_false_iff_ne.2 h
    rw [h1]
    clear h h1 hc
    go_enter Try.func73, Try.ntmps73
    go_wp2_with fail
    refine (unhide C).mono ?_
    rintro e w1 ⟨rfl, rfl⟩
    go_wp2
    go_ret
    exact ⟨rfl, rfl⟩
def cutB (y : Int) (x : AEnt) : Bool := x.mr || (x.id == y)
theorem cut1_any (x : AEnt) (c k : Nat) (y : Int) (w : World) (hc : Blk w c #[.slice (some ⟨k, 0, none⟩) 1 1] 49) (hk : w.cell? ⟨k, 0, none⟩ = some (.int .i64 y)) : Calls Try.prog 72 #[entV x, ptr c] w fun r w' => r = .returned (.bool (cutB y x)) ∧ Below w.heap.size w w' := by
  obtain ⟨xm, xi, xn, xq, xl, xc⟩ := x
  have c0 : (w.alloc (Obj.cells #[.bool xm, .int .i64 xi, .string xn, .slice xq xl xc] 58)).cell? ⟨c, 0, none⟩ = some (.slice (some ⟨k, 0, none⟩) 1 1) := (hc.alloc _).cell 0
  have C := hide (contains1 k y xi (w.alloc (Obj.cells #[.bool xm, .int .i64 xi, .string xn, .slice xq xl xc] 58)) ((((Below.refl w.heap.size w).alloc (Nat.le_refl _) _).cell (p := ⟨k, 0, none⟩) (World.block_lt_of_cell? _ _ hk)).trans hk))
  clear hc hk
  unfold entV ptr cutB
  dsimp only
  cases xm with
  | true =>
    go_enter Try.func72, Try.ntmps72
    go_wp2
    go_ret
    exact ⟨rfl, (Below.refl _ _).alloc (Nat.le_refl _) _⟩
  | false =>
    generalize (xi == y) = b at *
    go_enter Try.func72, Try.ntmps72
    go_wp2_with fail
    refine (unhide C).mono ?_
    rintro r w1 ⟨rfl, rfl⟩
    go_wp2
    go_ret
    exact ⟨by simp, (Below.refl _ _).alloc (Nat.le_refl _) _⟩
set_option maxHeartbeats 2000000 in
set_option maxRecDepth 100000 in
theorem cut_one (base p k : Nat) (v : Value) (y at' : Int) (L : List AEnt) (w : World) (h : Stk base p v L w) (hk : w.cell? ⟨k, 0, none⟩ = some (.int .i64 y)) (hat : lastE (cutB y) L = at') (hone : (L.length : Int) - 1 - at' = 1) (hN : L.length ≤ 1000) :
    Calls Try.prog 30 #[ptr p, .slice (some ⟨k, 0, none⟩) 1 1] w fun e w' => ∃ g c, e = .returned (.slice (some ⟨g, 0, none⟩) 1 c) ∧ w'.cell? ⟨g, 0, none⟩ = some (.int .i64 (at' + 1)) ∧ Below w.heap.size w w' := by
  obtain ⟨i0, hi0, hi1, hi2, hi3⟩ := infoI
  have b1 : Below w.heap.size w (w.alloc (Obj.cells #[.slice (some ⟨k, 0, none⟩) 1 1] 49)) := (Below.refl _ _).alloc (Nat.le_refl _) _
  have C := hide (last_cut base p v w.heap.size (cutB y) L (w.alloc (Obj.cells #[.slice (some ⟨k, 0, none⟩) 1 1] 49)) (h.later b1) (hide fun x W hW => cut1_any x w.heap.size k y W ((Blk.new w _ _).later hW) ((hW.cell (p := ⟨k, 0, none⟩) (by simp; exact Nat.lt_succ_of_lt (World.block_lt_of_cell? _ _ hk))).trans ((b1.cell (p := ⟨k, 0, none⟩) (World.block_lt_of_cell? _ _ hk)).trans hk))))
  rw [hat] at C
  have CE := hide (fun W (hW : Stk base p v L W) => entries_at p v W hW.1 (by obtain ⟨q, cap, e, _⟩ := h.slice; exact ⟨_, _, _, e⟩))
  have H := hide h
  have HB := hide b1
  obtain ⟨q, cap, hv, hc, hm, hg⟩ := h.slice
  subst hv
  clear h b1 hat hk hg
  unfold ptr at *
  generalize L.length = n at *
  have ha : at' = (n : Int) - 2 := by omega
  have hw1 : (n : Int) - 1 - at' = 1 := hone
  have hr1 : at' + 1 ≤ 2000 := by omega
  have hr2 : -2 ≤ at' := by omega
  have hw2 : IntKind.i64.wrap ((n : Int) - 1) = (n : Int) - 1 := by rw [IntKind.wrap_i64]; omega
  have hw3 : IntKind.i64.wrap ((n : Int) - 1 - at') = 1 := by rw [hone]; rfl
  have hw4 : IntKind.i64.wrap (at' + 1) = at' + 1 := by rw [IntKind.wrap_i64]; omega
  have hw5 : IntKind.i64.wrap (at' + 1 + 0) = at' + 1 := by rw [Int.add_zero]; exact hw4
  clear ha hone
  go_enter Try.func30, Try.ntmps30
  go_wp2_with fail
  refine (unhide C).mono ?_
  rintro e w1 ⟨rfl, hb⟩
  have B1 := hide (cellC (unhide HB) hb)
  clear hb
  go_wp2_with fail
  refine (unhide CE _ ((unhide H).later (unhide B1))).mono ?_
  rintro e w2 ⟨rfl, hw⟩
  obtain rfl : w1 = w2 := hw.symm
  clear hw
  have hz1 := (unhide B1).size
  go_wp2_with fail
  refine wp_loop_rounds 2 ?_
  rw [rounds_succ]
  go_wp2_with (at_builtin; refine wpList_append_own_at _ rfl _ _ 49 rfl w.heap.size 3 i0 (.int .i64 0) 1 8 Try.underlying49 hi0 hi1 hi2 hi3 rfl (by decide) _ 0 [] rfl (World.ownsRow_nil _ _ _ _) ⟨w1.heap.size, 0, none⟩ 1 1 [.int .i64 (at' + 1)] rfl rfl ?c1 ?c2 ?c3 ?c4 ?c5 ?_)
  case c1 => exact cell_one_new _ _ _
  case c2 => simp [Value.oneCell']
  case c3 => simp only [maxLen]; omega
  case c4 => omega
  case c5 => simp; omega
  intro u' w3 hown hgr hnil hat
  rcases hown.2 with ⟨rfl, h0⟩ | ⟨g, cap', cur, rfl, hbg, hblk, _, _, _, htk⟩
  · omega
  have hcell : w3.cell? ⟨g, 0, none⟩ = some (.int .i64 (at' + 1)) := by
    have := hown.cells (g := g) rfl 0 (.int .i64 (at' + 1)) (by simp)
    rw [Addr.add_lit] at this
    exact this
  have B3 := hide (((unhide B1).alloc (unhide B1).size _).grown hgr (by simp; omega) (fun j hj => by simp [Value.ownBlock] at hj))
  clear hown hgr hnil hat hblk htk
  go_wp2
  rw [rounds_succ]; go_wp2
  go_ret
  exact ⟨g, cap', rfl, hcell, unhide B3⟩
set_option maxHeartbeats 2000000 in
set_option maxRecDepth 100000 in
theorem ints_one (g c k d : Nat) (y : Int) (w : World) (h1 : w.cell? ⟨g, 0, none⟩ = some (.int .i64 y)) (h2 : w.cell? ⟨k, 0, none⟩ = some (.int .i64 y)) :
    Calls Try.prog 29 #[.slice (some ⟨g, 0, none⟩) 1 c, .slice (some ⟨k, 0, none⟩) 1 d] w fun e w' => e = .returned (.bool true) ∧ Below w.heap.size w w' := by
  have e1 : (y == y) = true := by simp
  go_enter Try.func29, Try.ntmps29
  go_wp2
  refine wp_loop_rounds 2 ?_
  rw [rounds_succ]; go_wp2
  go_quiet (fail)
  go_wp2
  rw [rounds_succ]; go_wp2
  go_ret
  exact ⟨rfl, _root_.Go.below_drewN (Below.refl _ _) _⟩

/-! ### All -/
def Plain (L : List AEnt) : Prop := ∀ k, k < L.length → L.getD k e0 = mkE (L.getD k e0).mr (L.getD k e0).id (L.getD k e0).nm
def AllAt (L : List AEnt) (w : World) (u i : Value) (wr : World) : Prop :=
  ∃ k : Nat, k ≤ L.length ∧ i = .int .i64 k ∧ wr.ownsRow w.heap.size 58 4 u k (flatE (L.take k)) ∧ Below w.heap.size w wr
theorem take_push (L : List AEnt) (k : Nat) (h : k < L.length) : L.take (k + 1) = L.take k ++ [L.getD k e0] := by
  rw [List.take_add_one, List.getElem?_eq_getElem h, getD_get h]; rfl
set_option maxHeartbeats 4000000 in
set_option maxRecDepth 100000 in
theorem all_plain (base p : Nat) (v : Value) (L : List AEnt) (w : World) (h : Stk base p v L w) (hP : Plain L) (hN : L.length ≤ 1000) (hN0 : 0 < L.length) :
    Calls Try.prog 25 #[ptr p] w fun e w' => ∃ u, e = .returned u ∧ w'.ownsRow w.heap.size 58 4 u L.length (flatE L) ∧ Below w.heap.size w w' := by
  obtain ⟨i0, hi0, hi1, hi2, hi3⟩ := infoA
  obtain ⟨q, cap, hv, hc, hm, hg⟩ := h.slice
  obtain ⟨g, rfl, _⟩ := hg (by omega)
  subst hv
  have C := hide (entries_at p _ w h.1 ⟨_, _, _, rfl⟩)
  have HC := hide h.cells
  have HP := hide hP
  have OW := hide (fun xm xi xn w => own_none xm xi xn w)
  obtain ⟨n, hn⟩ : ∃ n, L.length = n := ⟨_, rfl⟩
  have HN := hide hn
  rw [hn] at hN hN0 C ⊢
  clear h hg hn hP hc hm
  unfold ptr at *
  have HAT : Hid (AllAt L w (.slice none 0 0) (.int .i64 0) w) := hide ⟨0, Nat.zero_le _, rfl, World.ownsRow_nil _ _ _ _, Below.refl _ _⟩
  go_enter Try.func25, Try.ntmps25
  go_wp2_with fail
  refine (unhide C).mono ?_
  rintro e w1 ⟨rfl, hw1⟩
  obtain rfl : w = w1 := hw1.symm
  go_wp2
  go_loopw [3, 9] (fun u i wr => AllAt L w u i wr) (fun _ i _ => n - (intOf i).toNat)
  case atStart => exact unhide HAT
  case round =>
    clear HAT
    obtain ⟨k, hk, rfl, hrow, hbw⟩ := hrel
    rw [unhide HN] at hk
    have HR := hide hrow
    have HB := hide hbw
    obtain ⟨qu, nu, cu, rfl⟩ := slice_of hrow
    by_cases hlt : k < n
    · have hlti : (k : Int) < (n : Int) := by omega
      have hkL : k < L.length := by rw [unhide HN]; exact hlt
      obtain ⟨c1, c2, c3, c4⟩ := (unhide HC).below hbw k hkL
      have hx := unhide HP k hkL
      have HT := hide (take_push L k hkL)
      rw [Nat.zero_add] at c1 c2 c3 c4
      generalize L.getD k e0 = x at *
      obtain ⟨xm, xi, xn, xq, xl, xc⟩ := x
      unfold mkE at hx
      simp only [AEnt.mk.injEq, true_and] at hx
      obtain ⟨rfl, rfl, rfl⟩ := hx
      dsimp only at *
      have hsz := hbw.size
      clear hrow hbw hkL
      go_wp2_with fail
      refine (unhide OW _ _ _ _).mono ?_
      rintro e w2 ⟨rfl, hb2⟩
      have b2 := hide (bel_of hb2)
      have R2 := hide (ownsRow_below (unhide HR) (unhide b2))
      have B2 := hide (cellC (unhide HB) (unhide b2))
      have hz2 := (unhide B2).size
      have HS : Hid (∀ j u, (entL (mkE xm xi xn))[j]? = some u → (w2.alloc (Obj.cells #[.bool xm, .int .i64 xi, .string xn, .slice none 0 0] 58)).cell? ((⟨w2.heap.size, 0, none⟩ : Addr).add j) = some u) := hide fun j u hj => by
        rw [Addr.add_lit, Nat.zero_add, (Blk.new w2 _ _).cell j]
        simpa [entL, mkE] using hj
      clear hb2
      go_wp2_with (at_builtin; refine wpList_append_own_at _ rfl _ _ 62 rfl w.heap.size 58 i0 (.agg #[.bool false, .int .i64 0, .string ⟨#[]⟩, .slice none 0 0]) 4 56 Try.underlying62 hi0 hi1 hi2 hi3 rfl (by decide) _ _ _ rfl ((unhide R2).alloc _) ⟨w2.heap.size, 0, none⟩ 1 1 (entL (mkE xm xi xn)) rfl rfl (unhide HS) ?c2 ?c3 ?c4 ?c5 ?_)
      case c2 => simp [entL, mkE, Value.oneCell']
      case c3 => simp only [maxLen]; omega
      case c4 => omega
      case c5 => simp; omega
      intro u' w3 hown hgr _ hat
      obtain ⟨q3, n3, c3', rfl⟩ := slice_of hown
      go_wp2
      go_roundw
      case rel =>
        refine ⟨k + 1, by rw [unhide HN]; omega, by go_num, ?_, ?_⟩
        · rw [unhide HT, flatE_app, flatE_one1]; exact hown
        · exact ((unhide B2).alloc (unhide B2).size _).grown hgr (by simp; omega) (fun j hj => ((unhide R2).lt j hj).1)
      case measure => simp [intOf]; omega
    · have hkn : k = n := by omega
      have hlti : ¬ (k : Int) < (n : Int) := by omega
      have HRR : Hid (wr.ownsRow w.heap.size 58 4 (.slice qu nu cu) n (flatE L)) := hide (by
        rw [hkn, List.take_of_length_le (by rw [unhide HN]; omega)] at hrow
        exact hrow)
      clear hkn hlt hrow hbw
      go_wp2
      go_ret
      exact ⟨_, rfl, unhide HRR, unhide HB⟩
end Go.Proofs.Ytabajhbghjfhoaa
