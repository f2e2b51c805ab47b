/-
  What an arena's add does.
-/
import Derived.Test.YtabajhbghjfhoabGOp
import Derived.Test.YtabajhbghjfhoabKSt
namespace Go.Proofs.Ytabajhbghjfhoab
open Go.RowKit
set_option linter.unusedVariables false
set_option linter.unusedSimpArgs false

theorem infoN0 : (Try.prog.info? 65).map (fun i => (i.zero, i.size, i.bytes)) = some (some (.agg #[.int .i64 0, .int .i64 0, .string ⟨#[]⟩, .slice none 0 0, .slice none 0 0, .int .i64 0, .slice none 0 0]), 7, 112) := by kernel_rfl
theorem infoN : ∃ i, Try.prog.info? 65 = some i ∧ i.zero = some (.agg #[.int .i64 0, .int .i64 0, .string ⟨#[]⟩, .slice none 0 0, .slice none 0 0, .int .i64 0, .slice none 0 0]) ∧ i.size = 7 ∧ i.bytes = 112 := by
  have h := infoN0
  cases hi : Try.prog.info? 65 with
  | none => rw [hi] at h; cases h
  | some i =>
    rw [hi] at h
    simp only [Option.map_some, Option.some.injEq, Prod.mk.injEq] at h
    exact ⟨i, rfl, h.1, h.2.1, h.2.2⟩
def looseN (e : NEnt) : NEnt := ⟨e.kd, e.sp, e.nm, e.a, e.t, -1, e.k⟩
/-- What add leaves. -/
def AddSaid (base p : Nat) (v : Value) (L : List NEnt) (e : NEnt) (w : World) (r : Ending) (w' : World) : Prop :=
  ∃ v', r = .returned (.tuple #[.int .i64 (L.length : Int), .int .i64 0]) ∧ Arn base p v' (L ++ [looseN e]) w' ∧ Chg (fun k => k = p ∨ v.ownBlock = some k) w w' ∧ (∀ k, v'.ownBlock = some k → v.ownBlock = some k ∨ w.heap.size ≤ k)
theorem add_close {base p : Nat} {v v' : Value} {L : List NEnt} {e : NEnt} {w W w3 : World} {r : Ending} (hb : Below w.heap.size w W) (hs : Arn base p v L W) (hgr : W.grownBy w3 v.ownBlock) (hown : w3.ownsRow base 65 7 v' (L.length + 1) (flatN L ++ nodL (looseN e))) (hat : v'.ownBlock = v.ownBlock ∨ v'.ownBlock = some W.heap.size) (kb : Blk w3 p #[v] 68) (hr : r = .returned (.tuple #[.int .i64 (L.length : Int), .int .i64 0])) :
    AddSaid base p v L e w r (w3.setCell ⟨p, 0, none⟩ v') := by
  have hp := hs.lt
  have hne : v'.ownBlock ≠ some p := by
    rcases hat with h | h
    · rw [h]; exact hs.ne
    · rw [h]; simp; omega
  refine ⟨v', hr, ⟨kb.set 0 (by simp) v', ?_, hne⟩, Chg.ahead hb (((Chg.of_grown hgr).mono (S' := fun k => k = p ∨ v.ownBlock = some k) fun k hk => Or.inr hk).set (p := p) (Or.inl rfl) _ _), fun k hk => ?_⟩
  · rw [List.length_append, List.length_singleton, flatN_app, show flatN [looseN e] = nodL (looseN e) by simp [flatN]]
    exact ownsRow_away hown hne _
  · rcases hat with h | h
    · exact Or.inl (by rw [← h]; exact hk)
    · rw [h] at hk; cases hk; exact Or.inr hb.size
set_option maxHeartbeats 4000000 in
set_option maxRecDepth 100000 in
theorem add_ok (base p : Nat) (v : Value) (L : List NEnt) (e : NEnt) (w : World) (h : Arn base p v L w) (hbase : base ≤ w.heap.size) (h0 : 0 < L.length) (hN : L.length < 600) :
    Calls Try.prog 49 #[ptr p, .agg (nodA e)] w (AddSaid base p v L e w) := by
  obtain ⟨i0, hi0, hi1, hi2, hi3⟩ := infoN
  obtain ⟨kd, sp, nm, ⟨aq, an, ac⟩, ⟨tq, tn, tc⟩, pr, ⟨kq, kn, kc⟩⟩ := e
  have b1 : Below w.heap.size w (w.alloc (Obj.cells #[.int .i64 kd, .int .i64 sp, .string nm, .slice aq an ac, .slice tq tn tc, .int .i64 pr, .slice kq kn kc] 65)) := (Below.refl _ _).alloc (Nat.le_refl _) _
  have S1 := hide (h.later b1)
  have S0 := hide h
  have C := hide (fun W (hW : Arn base p v L W) => len_any base p v L W hW)
  obtain ⟨n, hn⟩ : ∃ n, L.length = n := ⟨_, rfl⟩
  have HN := hide hn
  rw [hn] at C h0 hN
  have e1 : ((n : Int) == 0) = false := by apply beq_eq_false_iff_ne.2; omega
  have e2 : ((n : Int) == 600) = false := by apply beq_eq_false_iff_ne.2; omega
  have K1 := hide (Blk.new w #[.int .i64 kd, .int .i64 sp, .string nm, .slice aq an ac, .slice tq tn tc, .int .i64 pr, .slice kq kn kc] 65)
  have HB1 := hide b1
  have hpl := h.lt
  have HOW : Hid (∀ k, v.ownBlock = some k → k < w.heap.size) := hide fun k hk => (h.row.lt k hk).2
  have AP : Hid (∀ (W : World), Arn base p v L W → base ≤ W.heap.size → ∃ v' w', (Builtin.append_ #[66, 66] 66 #[v, .slice (some ⟨W.heap.size, 0, none⟩) 1 1]).run Try.prog (W.alloc (Obj.cells #[.int .i64 kd, .int .i64 sp, .string nm, .slice aq an ac, .slice tq tn tc, .int .i64 (-1), .slice kq kn kc] 65)) = .ok v' w' ∧ w'.ownsRow base 65 7 v' (L.length + 1) (flatN L ++ nodL (looseN ⟨kd, sp, nm, ⟨aq, an, ac⟩, ⟨tq, tn, tc⟩, pr, ⟨kq, kn, kc⟩⟩)) ∧ (W.alloc (Obj.cells #[.int .i64 kd, .int .i64 sp, .string nm, .slice aq an ac, .slice tq tn tc, .int .i64 (-1), .slice kq kn kc] 65)).grownBy w' v.ownBlock ∧ (v' = .slice none 0 0 ↔ v = .slice none 0 0 ∧ 1 = 0) ∧ (v'.ownBlock = v.ownBlock ∨ v'.ownBlock = some (W.alloc (Obj.cells #[.int .i64 kd, .int .i64 sp, .string nm, .slice aq an ac, .slice tq tn tc, .int .i64 (-1), .slice kq kn kc] 65)).heap.size)) := hide fun W hW hb =>
    run_append_own_at (P := Try.prog) (W.alloc (Obj.cells #[.int .i64 kd, .int .i64 sp, .string nm, .slice aq an ac, .slice tq tn tc, .int .i64 (-1), .slice kq kn kc] 65)) base 66 66 65 i0 (.agg #[.int .i64 0, .int .i64 0, .string ⟨#[]⟩, .slice none 0 0, .slice none 0 0, .int .i64 0, .slice none 0 0]) 7 112 Try.underlying66 hi0 hi1 hi2 hi3 rfl (by decide) v L.length (flatN L) (hW.row.alloc _) ⟨W.heap.size, 0, none⟩ 1 1 (nodL (looseN ⟨kd, sp, nm, ⟨aq, an, ac⟩, ⟨tq, tn, tc⟩, pr, ⟨kq, kn, kc⟩⟩)) rfl (fun j u hj => by
      rw [Addr.add_lit, Nat.zero_add, (Blk.new W _ _).cell j]
      simpa [nodL, looseN] using hj) (by simp [nodL, looseN, Value.oneCell']) (by simp only [maxLen]; omega) (by omega) (by simp; omega)
  obtain ⟨q5, cap, hv5, _⟩ := h.slice
  have hv6 : v = .slice q5 n cap := by rw [← hn]; exact hv5
  clear h b1 hv5 hi0 hi1 hi2 hi3 hn
  subst hv6
  unfold ptr nodA at *
  dsimp only at *
  go_enter Try.func49, Try.ntmps49
  go_wp2_with fail
  refine (unhide C _ (unhide S1)).mono ?_
  rintro r w1 ⟨rfl, hw1⟩
  subst hw1
  have f5 : (w.alloc (Obj.cells #[.int .i64 kd, .int .i64 sp, .string nm, .slice aq an ac, .slice tq tn tc, .int .i64 pr, .slice kq kn kc] 65)).frozen? ⟨w.heap.size, 5, none⟩ = false := (unhide K1).frozen 5
  have c5 : (w.alloc (Obj.cells #[.int .i64 kd, .int .i64 sp, .string nm, .slice aq an ac, .slice tq tn tc, .int .i64 pr, .slice kq kn kc] 65)).cell? ⟨w.heap.size, 5, none⟩ = some (.int .i64 pr) := (unhide K1).cell 5
  have K2 : Hid (Blk (w.alloc (Obj.cells #[.int .i64 kd, .int .i64 sp, .string nm, .slice aq an ac, .slice tq tn tc, .int .i64 (-1), .slice kq kn kc] 65)) w.heap.size #[.int .i64 kd, .int .i64 sp, .string nm, .slice aq an ac, .slice tq tn tc, .int .i64 (-1), .slice kq kn kc] 65) := hide (Blk.new w _ _)
  have S2 : Hid (Arn base p (.slice q5 n cap) L (w.alloc (Obj.cells #[.int .i64 kd, .int .i64 sp, .string nm, .slice aq an ac, .slice tq tn tc, .int .i64 (-1), .slice kq kn kc] 65))) := hide ((unhide S0).later ((Below.refl _ _).alloc (Nat.le_refl _) _))
  have HB2 : Hid (Below w.heap.size w (w.alloc (Obj.cells #[.int .i64 kd, .int .i64 sp, .string nm, .slice aq an ac, .slice tq tn tc, .int .i64 (-1), .slice kq kn kc] 65))) := hide ((Below.refl _ _).alloc (Nat.le_refl _) _)
  go_wp2_with fail
  generalize (w.alloc (Obj.cells #[.int .i64 kd, .int .i64 sp, .string nm, .slice aq an ac, .slice tq tn tc, .int .i64 (-1), .slice kq kn kc] 65)) = W2 at *
  have m0 : W2.cell? ⟨w.heap.size, 0, none⟩ = some (.int .i64 kd) := (unhide K2).cell 0
  have m1 : W2.cell? ⟨w.heap.size, 1, none⟩ = some (.int .i64 sp) := (unhide K2).cell 1
  have m2 : W2.cell? ⟨w.heap.size, 2, none⟩ = some (.string nm) := (unhide K2).cell 2
  have m3 : W2.cell? ⟨w.heap.size, 3, none⟩ = some (.slice aq an ac) := (unhide K2).cell 3
  have m4 : W2.cell? ⟨w.heap.size, 4, none⟩ = some (.slice tq tn tc) := (unhide K2).cell 4
  have m5 : W2.cell? ⟨w.heap.size, 5, none⟩ = some (.int .i64 (-1)) := (unhide K2).cell 5
  have m6 : W2.cell? ⟨w.heap.size, 6, none⟩ = some (.slice kq kn kc) := (unhide K2).cell 6
  have mp : W2.cell? ⟨p, 0, none⟩ = some (.slice q5 n cap) := (unhide S2).blk.cell 0
  have hp4 : p < W2.heap.size := (unhide S2).lt
  have hz4 : Hid (base ≤ W2.heap.size) := hide (by have := (unhide HB2).size; omega)
  have S4 : Hid (Arn base p (.slice q5 n cap) L W2.drew) := hide ((unhide S2).later (below_draws _ 1))
  clear f5 c5
  go_region_law (obtain ⟨v6, w6, hr, hown, hgr, hnil, hat⟩ := unhide AP W2.drew (unhide S4) (unhide hz4); refine step_append_run rfl (.tmp 17) (.tmp 19) 66 66 rfl (.slice q5 n cap) (.slice (some ⟨W2.drew.heap.size, 0, none⟩) 1 1) (by simp [Act.eval, Act.put]) (by simp [Act.eval, Act.put]) hr ?_; have kb : Blk w6 p _ _ := (hgr.block p (by simp; exact Nat.lt_succ_of_lt (unhide S4).lt) (fun e => (unhide S4).ne e.symm)).trans ((unhide S4).blk.alloc _); have d0 : w6.cell? ⟨p, 0, none⟩ = some (.slice q5 n cap) := kb.cell 0; have fz : w6.frozen? ⟨p, 0, none⟩ = false := kb.frozen 0; have KB := hide kb; clear kb; obtain ⟨q6, n6, c6, rfl⟩ := slice_of hown)
  all_goals (
    have hn6 : n6 = L.length + 1 := by
      rcases hown.2 with ⟨h1, h2⟩ | ⟨g, cap', cur, h1, _⟩
      · omega
      · injection h1 with _ h1
    rw [unhide HN] at hn6
    subst hn6
    have hi1 : (1 : Int) ≤ (n : Int) + 1 := by omega
    have hwr : IntKind.i64.wrap ((n : Int) + 1 - 1) = n := by rw [IntKind.wrap_i64]; omega
    go_wp2
    go_ret2
    exact add_close (w := w) (W := W2.drew.alloc (Obj.cells #[.int .i64 kd, .int .i64 sp, .string nm, .slice aq an ac, .slice tq tn tc, .int .i64 (-1), .slice kq kn kc] 65)) (tr2 (unhide HB2) (tr2 (below_draws _ 1) ((Below.refl _ _).alloc (Nat.le_refl _) _))) ((unhide S4).later ((Below.refl _ _).alloc (Nat.le_refl _) _)) hgr hown hat (unhide KB) (by rw [unhide HN]; simp))
theorem add_no (q : Value) (n : Nat) (e : NEnt) (w : World) (r : Int) (hr : (n = 0 ∧ r = 7) ∨ (n = 600 ∧ r = 5)) (hC : Hid (∀ W, Below w.heap.size w W → Calls Try.prog 14 #[q] W fun e w' => e = .returned (.int .i64 (n : Int)) ∧ w' = W)) :
    Calls Try.prog 49 #[q, .agg (nodA e)] w fun e w' => e = .returned (.tuple #[.int .i64 0, .int .i64 r]) ∧ Below w.heap.size w w' := by
  have b1 : Below w.heap.size w (w.alloc (Obj.cells (nodA e) 65)) := (Below.refl _ _).alloc (Nat.le_refl _) _
  have HB := hide b1
  have C := hide (unhide hC _ b1)
  clear b1 hC
  obtain ⟨kd, sp, nm, ⟨aq, an, ac⟩, ⟨tq, tn, tc⟩, pr, ⟨kq, kn, kc⟩⟩ := e
  unfold nodA at *
  dsimp only at *
  rcases hr with ⟨rfl, rfl⟩ | ⟨rfl, rfl⟩
  · go_enter Try.func49, Try.ntmps49
    go_wp2_with fail
    refine (unhide C).mono ?_
    rintro r w1 ⟨rfl, hw1⟩
    subst hw1
    go_wp2
    go_ret2
    exact ⟨rfl, unhide HB⟩
  · go_enter Try.func49, Try.ntmps49
    go_wp2_with fail
    refine (unhide C).mono ?_
    rintro r w1 ⟨rfl, hw1⟩
    subst hw1
    go_wp2
    go_ret2
    exact ⟨rfl, unhide HB⟩
theorem add_full (base p : Nat) (v : Value) (L : List NEnt) (e : NEnt) (w : World) (h : Arn base p v L w) (hN : L.length = 600) :
    Calls Try.prog 49 #[ptr p, .agg (nodA e)] w fun e w' => e = .returned (.tuple #[.int .i64 0, .int .i64 5]) ∧ Below w.heap.size w w' :=
  add_no (ptr p) L.length e w 5 (Or.inr ⟨hN, rfl⟩) (hide fun W hW => len_any base p v L W (h.later hW))
theorem add_nil (e : NEnt) (w : World) : Calls Try.prog 49 #[.pointer none, .agg (nodA e)] w fun e w' => e = .returned (.tuple #[.int .i64 0, .int .i64 7]) ∧ Below w.heap.size w w' :=
  add_no (.pointer none) 0 e w 7 (Or.inl ⟨rfl, rfl⟩) (hide fun W hW => len_nil W)
end Go.Proofs.Ytabajhbghjfhoab
