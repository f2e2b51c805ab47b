/-
  What Last and All do of a list of one entry with one attribute.
-/
import Derived.Test.YtabajhbghjfhoaaAOa
namespace Go.Proofs.Ytabajhbghjfhoaa
open Go.RowKit
set_option linter.unusedVariables false
set_option linter.unusedSimpArgs false

def nameB (nm : ByteArray) (x : AEnt) : Bool := x.mr || (x.nm.toList == nm.toList)
theorem last1_any (x : AEnt) (c : Nat) (nm : ByteArray) (w : World) (hc : Blk w c #[.string nm] 9) : Calls Try.prog 70 #[entV x, ptr c] w fun r w' => r = .returned (.bool (nameB nm x)) ∧ Below w.heap.size w w' := by
  obtain ⟨xm, xi, xn, xq, xl, xc⟩ := x
  have c0 : (w.alloc (Obj.cells #[.bool xm, .int .i64 xi, .string xn, .slice xq xl xc] 58)).cell? ⟨c, 0, none⟩ = some (.string nm) := (hc.alloc _).cell 0
  clear hc
  unfold entV ptr nameB
  dsimp only
  cases xm with
  | true =>
    go_enter Try.func70, Try.ntmps70
    go_wp2
    go_ret
    exact ⟨rfl, (Below.refl _ _).alloc (Nat.le_refl _) _⟩
  | false =>
    go_enter Try.func70, Try.ntmps70
    go_wp2
    go_ret
    exact ⟨by simp, (Below.refl _ _).alloc (Nat.le_refl _) _⟩
theorem one_slice {base p : Nat} {v : Value} {y : AEnt} {w : World} (h : Stk base p v [y] w) : ∃ g cap, v = .slice (some ⟨g, 0, none⟩) 1 cap ∧ 1 ≤ cap ∧ cap ≤ 9223372036854775807 := by
  obtain ⟨q, cap, hv, hc, hm, hg⟩ := h.slice
  obtain ⟨g, rfl, _⟩ := hg (by simp)
  exact ⟨g, cap, hv, hc, hm⟩
set_option maxHeartbeats 2000000 in
set_option maxRecDepth 100000 in
theorem last_one (base p : Nat) (v : Value) (xi : Int) (xn s t : ByteArray) (g c : Nat) (w : World) (h : Stk base p v [yE xi xn g c] w) (hA : At1 w g s t) :
    Calls Try.prog 27 #[ptr p, .string xn] w fun e w' => ∃ g2 c2, e = .returned (.tuple #[.agg #[.bool false, .int .i64 xi, .string xn, .slice (some ⟨g2, 0, none⟩) 1 c2], .bool true]) ∧ At1 w' g2 s t ∧ w.heap.size ≤ g2 ∧ Below w.heap.size w w' := by
  have b2 : Below w.heap.size w ((w.alloc (Obj.cells #[.string xn] 9)).alloc (Obj.cells #[.bool false, .int .i64 0, .string ⟨#[]⟩, .slice none 0 0] 58)) := ((Below.refl w.heap.size w).alloc (Nat.le_refl _) _).alloc (by simp) _
  have C := hide (last_name base p v w.heap.size (nameB xn) [yE xi xn g c] _ (h.later b2) (hide fun x W hW => last1_any x w.heap.size xn W (((Blk.new w _ _).alloc _).later hW)))
  rw [show lastE (nameB xn) [yE xi xn g c] = 0 by simp [lastE, lastR, nameB, yE]] at C
  have OW := hide (fun w h => own_one false xi xn s t g c w h)
  have K1 : Hid (Blk ((w.alloc (Obj.cells #[.string xn] 9)).alloc (Obj.cells #[.bool false, .int .i64 0, .string ⟨#[]⟩, .slice none 0 0] 58)) (w.heap.size + 1) #[.bool false, .int .i64 0, .string ⟨#[]⟩, .slice none 0 0] 58) := by
    have h1 := Blk.new (w.alloc (Obj.cells #[.string xn] 9)) #[.bool false, .int .i64 0, .string ⟨#[]⟩, .slice none 0 0] 58
    rw [show (w.alloc (Obj.cells #[.string xn] 9)).heap.size = w.heap.size + 1 by simp] at h1
    exact h1
  have HB := hide b2
  have H := hide h
  have HA := hide hA
  obtain ⟨r, cap, hv, hc, hm⟩ := one_slice h
  subst hv
  clear h hA b2
  unfold ptr at *
  go_enter Try.func27, Try.ntmps27
  go_wp2_with fail
  refine (unhide C).mono ?_
  rintro e w1 ⟨rfl, hb⟩
  have B1 := hide ((unhide HB).trans (hb.mono (unhide HB).size))
  have S1 := (unhide H).later (unhide B1)
  have K2 := hide ((unhide K1).later hb)
  have cp : w1.cell? ⟨p, 0, none⟩ = some (.slice (some ⟨r, 0, none⟩) 1 cap) := S1.1.cell 0
  obtain ⟨c0, c1, c2, c3⟩ := S1.cells 0 (by simp)
  have c0' : w1.cell? ⟨r, 0, none⟩ = some (.bool false) := c0
  have c1' : w1.cell? ⟨r, 1, none⟩ = some (.int .i64 xi) := c1
  have c2' : w1.cell? ⟨r, 2, none⟩ = some (.string xn) := c2
  have c3' : w1.cell? ⟨r, 3, none⟩ = some (.slice (some ⟨g, 0, none⟩) 1 c) := c3
  clear hb S1 c0 c1 c2 c3
  go_wp2_with fail
  refine (unhide OW _ ((unhide HA).later (unhide B1))).mono ?_
  rintro e w2 ⟨g2, d2, rfl, hA2, hg2, hb2⟩
  have hz2 : w.heap.size + 1 < g2 := by have := (unhide K2).lt; omega
  have k1 := (unhide K2).later hb2
  have r0 : w2.cell? ⟨w.heap.size + 1, 0, none⟩ = some (.bool false) := k1.cell 0
  have r1 : w2.cell? ⟨w.heap.size + 1, 1, none⟩ = some (.int .i64 0) := k1.cell 1
  have r2 : w2.cell? ⟨w.heap.size + 1, 2, none⟩ = some (.string ⟨#[]⟩) := k1.cell 2
  have r3 : w2.cell? ⟨w.heap.size + 1, 3, none⟩ = some (.slice none 0 0) := k1.cell 3
  have e0 : w2.frozen? ⟨w.heap.size + 1, 0, none⟩ = false := k1.frozen 0
  have e1 : w2.frozen? ⟨w.heap.size + 1, 1, none⟩ = false := k1.frozen 1
  have e2 : w2.frozen? ⟨w.heap.size + 1, 2, none⟩ = false := k1.frozen 2
  have e3 : w2.frozen? ⟨w.heap.size + 1, 3, none⟩ = false := k1.frozen 3
  have B2 := hide (cellC (unhide B1) hb2)
  have HA2 := hide hA2
  have kF := hide ((((k1.set 0 (by simp) (.bool false)).set 1 (by simp) (.int .i64 xi)).set 2 (by simp) (.string xn)).set 3 (by simp) (.slice (some ⟨g2, 0, none⟩) 1 d2))
  clear hA2 hb2 k1
  go_wp2
  have g0 := (unhide kF).cell 0
  have g1 := (unhide kF).cell 1
  have g2c := (unhide kF).cell 2
  have g3 := (unhide kF).cell 3
  refine bodyPost_ret (v := .tuple #[.agg #[.bool false, .int .i64 xi, .string xn, .slice (some ⟨g2, 0, none⟩) 1 d2], .bool true]) (by simp [results, Try.results27, go_sem, g0, g1, g2c, g3]) rfl ?_
  exact ⟨g2, d2, rfl, ((((unhide HA2).away (by omega) _).away (by omega) _).away (by omega) _).away (by omega) _, by omega, ((((unhide B2).setCell (by simp) _).setCell (by simp) _).setCell (by simp) _).setCell (by simp) _⟩

set_option maxHeartbeats 2000000 in
set_option maxRecDepth 100000 in
theorem all_one (base p : Nat) (v : Value) (xi : Int) (xn s t : ByteArray) (g c : Nat) (w : World) (h : Stk base p v [yE xi xn g c] w) (hA : At1 w g s t) :
    Calls Try.prog 25 #[ptr p] w fun e w' => ∃ r d g2 c2, e = .returned (.slice (some ⟨r, 0, none⟩) 1 d) ∧ w'.cell? ⟨r, 3, none⟩ = some (.slice (some ⟨g2, 0, none⟩) 1 c2) ∧ At1 w' g2 s t ∧ w.heap.size ≤ g2 ∧ r ≠ g2 ∧ Below w.heap.size w w' := by
  obtain ⟨i0, hi0, hi1, hi2, hi3⟩ := infoA
  obtain ⟨r, cap, hv, hc, hm⟩ := one_slice h
  subst hv
  have C := hide (entries_at p _ w h.1 ⟨_, _, _, rfl⟩)
  have OW := hide (fun w h => own_one false xi xn s t g c w h)
  have HA := hide hA
  obtain ⟨c0, c1, c2, c3⟩ := h.cells 0 (by simp)
  have c0' : w.cell? ⟨r, 0, none⟩ = some (.bool false) := c0
  have c1' : w.cell? ⟨r, 1, none⟩ = some (.int .i64 xi) := c1
  have c2' : w.cell? ⟨r, 2, none⟩ = some (.string xn) := c2
  have c3' : w.cell? ⟨r, 3, none⟩ = some (.slice (some ⟨g, 0, none⟩) 1 c) := c3
  clear h hA c0 c1 c2 c3
  unfold ptr at *
  go_enter Try.func25, Try.ntmps25
  go_wp2_with fail
  refine (unhide C).mono ?_
  rintro e w1 ⟨rfl, hw1⟩
  obtain rfl : w = w1 := hw1.symm
  clear hw1
  go_wp2
  refine wp_loop_rounds 2 ?_
  rw [rounds_succ]
  go_wp2_with fail
  have al : Below w.heap.size w (w.alloc (Obj.cells #[.bool false, .int .i64 xi, .string xn, .slice (some ⟨g, 0, none⟩) 1 c] 58)) := (Below.refl _ _).alloc (Nat.le_refl _) _
  refine (unhide OW _ ((unhide HA).later al)).mono ?_
  rintro e w2 ⟨g2, d2, rfl, hA2, hg2, hb2⟩
  have b2 := hide (tr2 al hb2)
  have HA2 := hide hA2
  have hgl := hA2.lt
  have hg2' : w.heap.size ≤ g2 := by simp at hg2; omega
  have hz2 := (unhide b2).size
  have HS : Hid (∀ j u, (entL (yE xi xn g2 d2))[j]? = some u → (w2.alloc (Obj.cells #[.bool false, .int .i64 xi, .string xn, .slice (some ⟨g2, 0, none⟩) 1 d2] 58)).cell? ((⟨w2.heap.size, 0, none⟩ : Addr).add j) = some u) := hide fun j u hj => by
    rw [Addr.add_lit, Nat.zero_add, (Blk.new w2 _ _).cell j]
    simpa [entL, yE] using hj
  clear hA2 hb2 hg2 al
  go_wp2_with (at_builtin; refine wpList_append_own_at _ rfl _ _ 62 rfl w.heap.size 58 i0 (.agg #[.bool false, .int .i64 0, .string ⟨#[]⟩, .slice none 0 0]) 4 56 Try.underlying62 hi0 hi1 hi2 hi3 rfl (by decide) _ 0 [] rfl (World.ownsRow_nil _ _ _ _) ⟨w2.heap.size, 0, none⟩ 1 1 (entL (yE xi xn g2 d2)) rfl rfl (unhide HS) ?c2 ?c3 ?c4 ?c5 ?_)
  case c2 => simp [entL, yE, Value.oneCell']
  case c3 => simp only [maxLen]; omega
  case c4 => omega
  case c5 => simp; omega
  intro u' w3 hown hgr hnil hat
  rcases hown.2 with ⟨rfl, h0⟩ | ⟨r3, d3, cur, rfl, hbg, hblk, _, _, _, htk⟩
  · omega
  have hcell : w3.cell? ⟨r3, 3, none⟩ = some (.slice (some ⟨g2, 0, none⟩) 1 d2) := by
    have := hown.cells (g := r3) rfl 3 (.slice (some ⟨g2, 0, none⟩) 1 d2) (by simp [entL, yE])
    rw [Addr.add_lit] at this
    exact this
  have hr3 : r3 ≠ g2 := by
    rcases hat with h | h
    · simp [Value.ownBlock] at h
    · simp [Value.ownBlock] at h; omega
  have HA3 : Hid (At1 w3 g2 s t) := hide (by
    obtain ⟨cr, hb, h3⟩ := unhide HA2
    exact ⟨cr, ((hb.alloc _).grown hgr (by simp [Value.ownBlock])), h3⟩)
  have B3 := hide (((unhide b2).alloc (unhide b2).size (Obj.cells #[.bool false, .int .i64 xi, .string xn, .slice (some ⟨g2, 0, none⟩) 1 d2] 58)).grown hgr (by simp; omega) (fun j hj => by simp [Value.ownBlock] at hj))
  have HQ := hide (And.intro hcell (And.intro hg2' hr3))
  clear hown hgr hnil hat hblk htk hcell hr3 hbg
  go_wp2
  rw [rounds_succ]; go_wp2
  go_ret
  exact ⟨r3, d3, g2, d2, rfl, (unhide HQ).1, unhide HA3, (unhide HQ).2.1, (unhide HQ).2.2, unhide B3⟩
end Go.Proofs.Ytabajhbghjfhoaa
