/-
  What Add does to an empty list of an entry with one attribute.
-/
import Derived.Test.YtabajhbghjfhoaaAOn
namespace Go.Proofs.Ytabajhbghjfhoaa
open Go.RowKit
set_option linter.unusedVariables false
set_option linter.unusedSimpArgs false

def yE (xi : Int) (xn : ByteArray) (g c : Nat) : AEnt := ⟨false, xi, xn, some ⟨g, 0, none⟩, 1, c⟩
set_option maxHeartbeats 4000000 in
set_option maxRecDepth 100000 in
theorem add_own (base p : Nat) (xi : Int) (xn s t : ByteArray) (gA : Nat) (w : World) (h : Stk base p (.slice none 0 0) [] w) (hbase : base ≤ w.heap.size) (hx : 0 ≤ xi) (hA : At1 w gA s t) (hpA : gA ≠ p) :
    Calls Try.prog 33 #[ptr p, entV (yE xi xn gA 1)] w fun e w' => e = .returned (.int .i64 0) ∧ ∃ g2 c2 v', Stk base p v' [yE xi xn g2 c2] w' ∧ At1 w' g2 s t ∧ w.heap.size ≤ g2 ∧ Tch p none w w' ∧ v'.ownBlock ≠ some g2 ∧ (∀ k, v'.ownBlock = some k → w.heap.size ≤ k) := by
  obtain ⟨i0, hi0, hi1, hi2, hi3⟩ := infoA
  have C := hide (fun w => element_any (yE xi xn gA 1) w)
  rw [show isElB (yE xi xn gA 1) = true by simp [isElB, yE, hx]] at C
  have CR := hide (fun W (hW : Stk base p (.slice none 0 0) [] W) => room_any base p (.slice none 0 0) [] W hW)
  simp only [List.length_nil, Nat.reduceLeDiff, if_false] at CR
  have CT := hide (fun W (hW : Stk base p (.slice none 0 0) [] W) => alikeTo_none base p (.slice none 0 0) (yE xi xn gA 1) [] W hW (by decide) (by decide))
  have OW := hide (fun w h => own_one false xi xn s t gA 1 w h)
  have hpl := h.lt
  have H := hide h
  have HA := hide hA
  have AP : Hid (∀ (g2 c2 : Nat) (W : World), base ≤ W.heap.size → ∃ v' w', (Builtin.append_ #[62, 62] 62 #[.slice none 0 0, .slice (some ⟨W.heap.size, 0, none⟩) 1 1]).run Try.prog (W.alloc (Obj.cells #[.bool false, .int .i64 xi, .string xn, .slice (some ⟨g2, 0, none⟩) 1 c2] 58)) = .ok v' w' ∧ w'.ownsRow base 58 4 v' (0 + 1) ([] ++ entL (yE xi xn g2 c2)) ∧ (W.alloc (Obj.cells #[.bool false, .int .i64 xi, .string xn, .slice (some ⟨g2, 0, none⟩) 1 c2] 58)).grownBy w' none ∧ (v' = .slice none 0 0 ↔ (.slice none 0 0 : Value) = .slice none 0 0 ∧ 1 = 0) ∧ (v'.ownBlock = none ∨ v'.ownBlock = some (W.alloc (Obj.cells #[.bool false, .int .i64 xi, .string xn, .slice (some ⟨g2, 0, none⟩) 1 c2] 58)).heap.size)) := hide fun g2 c2 W hb =>
    run_append_own_at (P := Try.prog) (W.alloc (Obj.cells #[.bool false, .int .i64 xi, .string xn, .slice (some ⟨g2, 0, none⟩) 1 c2] 58)) base 62 62 58 i0 (.agg #[.bool false, .int .i64 0, .string ⟨#[]⟩, .slice none 0 0]) 4 56 Try.underlying62 hi0 hi1 hi2 hi3 rfl (by decide) (.slice none 0 0) 0 [] (World.ownsRow_nil _ _ _ _) ⟨W.heap.size, 0, none⟩ 1 1 (entL (yE xi xn g2 c2)) rfl (fun j u hj => by
      rw [Addr.add_lit, Nat.zero_add, (Blk.new W _ _).cell j]
      simpa [entL, yE] using hj) (by simp [entL, yE, Value.oneCell']) (by simp only [maxLen]; omega) (by omega) (by simp; omega)
  clear h hx hA hi0 hi1 hi2 hi3
  unfold entV yE at C CT
  dsimp only at C CT
  unfold ptr at *
  unfold entV
  rw [show (yE xi xn gA 1).mr = false from rfl, show (yE xi xn gA 1).id = xi from rfl, show (yE xi xn gA 1).nm = xn from rfl, show (yE xi xn gA 1).q = some ⟨gA, 0, none⟩ from rfl, show (yE xi xn gA 1).n = 1 from rfl, show (yE xi xn gA 1).c = 1 from rfl]
  go_enter Try.func33, Try.ntmps33
  go_wp2_with fail
  refine (unhide C _).mono ?_
  rintro e w1 ⟨rfl, hb⟩
  have B1 := hide (bel_of hb)
  have K1 : Hid (Blk w1 w.heap.size #[.bool false, .int .i64 xi, .string xn, .slice (some ⟨gA, 0, none⟩) 1 1] 58) := hide ((Blk.new w _ _).later hb)
  have S1 := hide ((unhide H).later (unhide B1))
  clear hb
  go_wp2_with fail
  refine (unhide CR _ (unhide S1)).mono ?_
  rintro e w2 ⟨rfl, hw⟩
  obtain rfl : w1 = w2 := hw.symm
  have k0 : w1.cell? ⟨w.heap.size, 0, none⟩ = some (.bool false) := (unhide K1).cell 0
  have k1 : w1.cell? ⟨w.heap.size, 1, none⟩ = some (.int .i64 xi) := (unhide K1).cell 1
  have k2 : w1.cell? ⟨w.heap.size, 2, none⟩ = some (.string xn) := (unhide K1).cell 2
  have k3 : w1.cell? ⟨w.heap.size, 3, none⟩ = some (.slice (some ⟨gA, 0, none⟩) 1 1) := (unhide K1).cell 3
  clear hw
  go_wp2_with fail
  refine (unhide CT _ (unhide S1)).mono ?_
  rintro e w3 ⟨u, rfl, hu, hb⟩
  have B3 := hide (cellC (unhide B1) hb)
  have K3 := hide ((unhide K1).later hb)
  have S3 := hide ((unhide S1).later hb)
  have hlu : ∃ qu cu, u = .slice qu 0 cu := by
    rcases hu.2 with ⟨rfl, h0⟩ | ⟨g, cap, cur, rfl, _⟩
    · exact ⟨none, 0, rfl⟩
    · exact ⟨_, cap, rfl⟩
  obtain ⟨qu, cu, rfl⟩ := hlu
  have hz3 : base ≤ w3.heap.size := by have := (unhide B3).size; omega
  have m0 : w3.cell? ⟨w.heap.size, 0, none⟩ = some (.bool false) := (unhide K3).cell 0
  have m1 : w3.cell? ⟨w.heap.size, 1, none⟩ = some (.int .i64 xi) := (unhide K3).cell 1
  have m2 : w3.cell? ⟨w.heap.size, 2, none⟩ = some (.string xn) := (unhide K3).cell 2
  have m3 : w3.cell? ⟨w.heap.size, 3, none⟩ = some (.slice (some ⟨gA, 0, none⟩) 1 1) := (unhide K3).cell 3
  have mp : w3.cell? ⟨p, 0, none⟩ = some (.slice none 0 0) := (unhide S3).1.cell 0
  have HSL : Hid (Stk base p (.slice none 0 0) [] w3.drew) := unhide S3
  have HA3 : Hid (At1 w3.drew gA s t) := hide ((unhide HA).later ((unhide B3).drew))
  clear hu hb k0 k1 k2 k3
  go_wp2_with fail
  go_region_law (first
    | (obtain ⟨v6, w6, hr, hown, hgr, hnil, hat⟩ := unhide AP g2 c2 w4 (unhide hz4); refine step_append_run rfl (.tmp 30) (.tmp 33) 62 62 rfl (.slice none 0 0) (.slice (some ⟨w4.heap.size, 0, none⟩) 1 1) (by simp [Act.eval, Act.put]) (by simp [Act.eval, Act.put]) hr ?_; have kb : Blk w6 p _ _ := (hgr.block p (by simp; exact Nat.lt_succ_of_lt (unhide S4).lt) (by simp)).trans ((unhide S4).1.alloc _); have d0 : w6.cell? ⟨p, 0, none⟩ = some (.slice none 0 0) := kb.cell 0; have fz : w6.frozen? ⟨p, 0, none⟩ = false := kb.frozen 0; have KB := hide kb; clear kb; obtain ⟨q6, n6, c6, rfl⟩ := slice_of hown)
    | (go_simp; go_wp2_with (go_at_call 68; refine (unhide OW _ (unhide HA3)).mono ?_; rintro e w4 ⟨g2, c2, rfl, hA4, hg4, hb4⟩; have S4 := hide ((unhide HSL).later hb4); have HB4 := hide hb4; have HA4 := hide hA4; have HG4 := hide hg4; have hz4 : Hid (base ≤ w4.heap.size) := hide (Nat.le_trans hz3 hb4.size); have mp4 : w4.cell? ⟨p, 0, none⟩ = some (.slice none 0 0) := (unhide S4).1.cell 0; have hp4 : p < w4.heap.size := (unhide S4).lt; clear hb4 hA4 hg4)))
  all_goals (
    go_wp2
    go_ret
    refine ⟨rfl, g2, c2, .slice q6 n6 c6, ?_⟩
    have hg2 : w.heap.size ≤ g2 := Nat.le_trans (unhide B3).size (unhide HG4)
    have hg2l := (unhide HA4).lt
    have hbW : Below w.heap.size w (w4.alloc (Obj.cells #[.bool false, .int .i64 xi, .string xn, .slice (some ⟨g2, 0, none⟩) 1 c2] 58)) := by
      have h1 : Below w.heap.size w w3.drew := (unhide B3).drew
      have h2 : Below w.heap.size w w4 := h1.trans ((unhide HB4).mono h1.size)
      exact h2.alloc h2.size _
    have hc := app_close (L' := [yE xi xn g2 c2]) (xs := [] ++ entL (yE xi xn g2 c2)) (n := 0 + 1) hbW ((unhide S4).later ((Below.refl _ _).alloc (Nat.le_refl _) _)) hgr hown rfl (by rw [flatE_one1]; rfl) hat (unhide KB)
    have hown6 : ∀ k, (Value.slice q6 n6 c6).ownBlock = some k → w4.heap.size + 1 = k := fun k hk => by
      rcases hat with h | h
      · rw [h] at hk; cases hk
      · rw [h] at hk; simp at hk; exact hk
    obtain ⟨v7, hs7, ht7, ho7⟩ := hc
    have hv7 : Stk base p (.slice q6 n6 c6) [yE xi xn g2 c2] (w6.setCell ⟨p, 0, none⟩ (.slice q6 n6 c6)) := by
      have hne : (Value.slice q6 n6 c6).ownBlock ≠ some p := fun e => by have := hown6 _ e; omega
      exact ⟨(unhide KB).set 0 (by simp) _, by rw [show flatE [yE xi xn g2 c2] = [] ++ entL (yE xi xn g2 c2) by rw [flatE_one1]; rfl]; exact ownsRow_away hown hne _, hne⟩
    have hA6 : At1 w6 g2 s t := by
      obtain ⟨cur, hb, h3⟩ := unhide HA4
      exact ⟨cur, ((hb.alloc _).grown hgr (by simp)), h3⟩
    refine ⟨hv7, hA6.away (by omega) _, hg2, ht7, fun e => by have := hown6 _ e; omega, fun k hk => by have := hown6 k hk; have := hbW.size; simp at this; omega⟩)
end Go.Proofs.Ytabajhbghjfhoaa
