/-
  Several texts in one: what the functions of the program and of the document's answer do.
-/
import Derived.Test.YtabajhbghjfhoaaBTm
import Derived.Test.YtabajhbghjfhoaaBOp
import Derived.Laws.AppendOwnNone

/-
  The reference's list in memory.
-/
namespace Go.Proofs.Ytabajhbghjfhoaa
open Go.RowKit
set_option linter.unusedVariables false
set_option linter.unusedSimpArgs false

theorem infoR0 : (Try.prog.info? 65).map (fun i => (i.zero, i.size, i.bytes)) = some (some (.agg #[.bool false, .int .i64 0, .string ⟨#[]⟩, .slice none 0 0]), 4, 56) := by kernel_rfl
theorem infoR : ∃ i, Try.prog.info? 65 = some i ∧ i.zero = some (.agg #[.bool false, .int .i64 0, .string ⟨#[]⟩, .slice none 0 0]) ∧ i.size = 4 ∧ i.bytes = 56 := by
  have h := infoR0
  cases hi : Try.prog.info? 65 with
  | none => rw [hi] at h; cases h
  | some i =>
    rw [hi] at h
    simp only [Option.map_some, Option.some.injEq, Prod.mk.injEq] at h
    exact ⟨i, rfl, h.1, h.2.1, h.2.2⟩
/-- A stack in memory: its pointer's block, its row. -/
def RStk (base p : Nat) (v : Value) (L : List AEnt) (w : World) : Prop :=
  Blk w p #[v] 55 ∧ w.ownsRow base 65 4 v L.length (flatE L) ∧ v.ownBlock ≠ some p
/-- What an operation leaves of a stack: the new entries; nothing else is touched. -/
def RUpd (base p : Nat) (v : Value) (L' : List AEnt) (w w' : World) : Prop :=
  ∃ v', RStk base p v' L' w' ∧ Tch p v.ownBlock w w' ∧ (∀ k, v'.ownBlock = some k → v.ownBlock = some k ∨ w.heap.size ≤ k)
theorem RStk.lt {base p : Nat} {v : Value} {L : List AEnt} {w : World} (h : RStk base p v L w) : p < w.heap.size := h.1.lt
theorem RStk.later {base p : Nat} {v : Value} {L : List AEnt} {w w' : World} (h : RStk base p v L w) (hb : Below w.heap.size w w') : RStk base p v L w' :=
  ⟨h.1.later hb, ownsRow_below h.2.1 hb, h.2.2⟩
theorem RUpd.same {base p : Nat} {v : Value} {L : List AEnt} {w w' : World} (h : RStk base p v L w) (hb : Below w.heap.size w w') : RUpd base p v L w w' :=
  ⟨v, h.later hb, Tch.of_below hb, fun k hk => Or.inl hk⟩
theorem RUpd.after {base p : Nat} {v : Value} {L : List AEnt} {w w' w'' : World} (h : RUpd base p v L w w') (hb : Below w'.heap.size w' w'') : RUpd base p v L w w'' := by
  obtain ⟨v', hs, ht, ho⟩ := h
  exact ⟨v', hs.later hb, ⟨hb.os.trans ht.os, hb.tape.trans ht.tape, hb.output.trans ht.output, Nat.le_trans ht.size hb.size, fun k hk h1 h2 => (hb.block k (Nat.lt_of_lt_of_le hk ht.size)).trans (ht.block k hk h1 h2)⟩, ho⟩
theorem RUpd.ahead {base p : Nat} {v : Value} {L : List AEnt} {w w' w'' : World} (hb : Below w.heap.size w w') (h : RUpd base p v L w' w'') : RUpd base p v L w w'' := by
  obtain ⟨v', hs, ht, ho⟩ := h
  refine ⟨v', hs, ⟨ht.os.trans hb.os, ht.tape.trans hb.tape, ht.output.trans hb.output, Nat.le_trans hb.size ht.size, fun k hk h1 h2 => (ht.block k (Nat.lt_of_lt_of_le hk hb.size) h1 h2).trans (hb.block k hk)⟩, fun k hk => ?_⟩
  rcases ho k hk with h | h
  · exact Or.inl h
  · exact Or.inr (Nat.le_trans hb.size h)
theorem RUpd.trans {base p : Nat} {v v' : Value} {L L' : List AEnt} {w w' w'' : World} (ht : Tch p v.ownBlock w w') (ho : ∀ k, v'.ownBlock = some k → v.ownBlock = some k ∨ w.heap.size ≤ k) (h : RUpd base p v' L' w' w'') : RUpd base p v L' w w'' := by
  obtain ⟨v'', hs, ht', ho'⟩ := h
  refine ⟨v'', hs, ⟨ht'.os.trans ht.os, ht'.tape.trans ht.tape, ht'.output.trans ht.output, Nat.le_trans ht.size ht'.size, fun k hk h1 h2 => ?_⟩, fun k hk => ?_⟩
  · refine (ht'.block k (Nat.lt_of_lt_of_le hk ht.size) h1 (fun e => ?_)).trans (ht.block k hk h1 h2)
    rcases ho k e.symm with h | h
    · exact h2 h.symm
    · omega
  · rcases ho' k hk with h | h
    · exact ho k h
    · exact Or.inr (Nat.le_trans ht.size h)
/-- The row of a stack as cells. -/
theorem RStk.slice {base p : Nat} {v : Value} {L : List AEnt} {w : World} (h : RStk base p v L w) : ∃ q cap, v = .slice q L.length cap ∧ L.length ≤ cap ∧ cap ≤ 9223372036854775807 ∧ (0 < L.length → ∃ g, q = some ⟨g, 0, none⟩ ∧ g < w.heap.size) := by
  rcases h.2.1.2 with ⟨rfl, h0⟩ | ⟨g, cap, cur, rfl, hb, hg, hc, hm, _, _⟩
  · exact ⟨none, 0, by rw [h0], by omega, by omega, fun h => by omega⟩
  · exact ⟨_, cap, rfl, hc, by simp only [maxLen] at hm; omega, fun _ => ⟨g, rfl, (Array.getElem?_eq_some_iff.1 hg).1⟩⟩
theorem RStk.cells {base p g n cap : Nat} {L : List AEnt} {w : World} (h : RStk base p (.slice (some ⟨g, 0, none⟩) n cap) L w) : Cells4 g 0 L w := cells4_of_row h.2.1
theorem RStk.own {base p : Nat} {v : Value} {L : List AEnt} {w : World} (h : RStk base p v L w) : ∀ k, v.ownBlock = some k → k < w.heap.size := fun k hk => (h.2.1.lt k hk).2
theorem row_slice {w : World} {base size n : Nat} {e : TypeId} {v : Value} {xs : List Value} (h : w.ownsRow base e size v n xs) : ∃ q n' cap, v = .slice q n' cap := by
  rcases h.2 with ⟨rfl, _⟩ | ⟨g, cap, cur, rfl, _⟩
  · exact ⟨_, _, _, rfl⟩
  · exact ⟨_, _, _, rfl⟩
end Go.Proofs.Ytabajhbghjfhoaa

/-
  The reference's drop.
-/
namespace Go.Proofs.Ytabajhbghjfhoaa
open Go.RowKit
set_option linter.unusedVariables false
set_option linter.unusedSimpArgs false

theorem rnew_close2 {base p n : Nat} {v v' : Value} {L L' : List AEnt} {xs : List Value} {w w3 : World} (hs : RStk base p v L w) (hgr : w.grownBy w3 none) (hown : w3.ownsRow base 65 4 v' n xs) (hn : L'.length = n) (hx : flatE L' = xs) (hat : ∀ k, v'.ownBlock = some k → w.heap.size ≤ k) (kb : Blk w3 p #[v] 55) :
    RUpd base p v L' w (w3.setCell ⟨p, 0, none⟩ v') := by
  have hp := hs.lt
  have hne : v'.ownBlock ≠ some p := fun e => by have := hat p e; omega
  have hgr' : w.grownBy w3 v.ownBlock := ⟨hgr.os, hgr.tape, hgr.output, hgr.size, fun k hk _ => hgr.block k hk (by simp)⟩
  refine ⟨v', ⟨kb.set 0 (by simp) v', ?_, hne⟩, (Tch.of_grown hgr').set _ _, fun k hk => Or.inr (hat k hk)⟩
  rw [hn, hx]; exact ownsRow_away hown hne _
theorem grown_two {w w1 w2 : World} {o : Option Nat} (h1 : w.grownBy w1 none) (h2 : w1.grownBy w2 o) (ho : ∀ k, o = some k → w.heap.size ≤ k) : w.grownBy w2 none :=
  ⟨h2.os.trans h1.os, h2.tape.trans h1.tape, h2.output.trans h1.output, Nat.le_trans h1.size h2.size, fun k hk _ => (h2.block k (Nat.lt_of_lt_of_le hk h1.size) (fun e => by have := ho k e.symm; omega)).trans (h1.block k hk (by simp))⟩
theorem at_ge {w w1 : World} {v1 : Value} (hat : v1.ownBlock = none ∨ v1.ownBlock = some w.heap.size) : ∀ k, v1.ownBlock = some k → w.heap.size ≤ k := fun k hk => by
  rcases hat with h | h
  · rw [h] at hk; cases hk
  · rw [h] at hk; cases hk; exact Nat.le_refl _
theorem at_ge2 {w w1 : World} {v1 v2 : Value} (h1 : ∀ k, v1.ownBlock = some k → w.heap.size ≤ k) (hz : w.heap.size ≤ w1.heap.size) (hat : v2.ownBlock = v1.ownBlock ∨ v2.ownBlock = some w1.heap.size) : ∀ k, v2.ownBlock = some k → w.heap.size ≤ k := fun k hk => by
  rcases hat with h | h
  · rw [h] at hk; exact h1 k hk
  · rw [h] at hk; cases hk; exact hz
theorem grown_cell {w w1 : World} (h : w.grownBy w1 none) {g : Nat} (hg : g < w.heap.size) (o : Nat) : w1.cell? ⟨g, o, none⟩ = w.cell? ⟨g, o, none⟩ := by
  have := h.block g hg (by simp)
  unfold World.cell?
  simp only [this]
theorem getD_split (L : List AEnt) (i : Nat) : L.eraseIdx i = L.take i ++ L.drop (i + 1) := List.eraseIdx_eq_take_drop_succ ..

set_option maxHeartbeats 2000000 in
set_option maxRecDepth 100000 in
theorem rdrop_pos (base p g cap m : Nat) (L : List AEnt) (n : Nat) (w : World) (hn : Hid (L.length = n)) (h : RStk base p (.slice (some ⟨g, 0, none⟩) n cap) L w) (hg : g < w.heap.size) (hbase : base ≤ w.heap.size) (hN : n ≤ 1000000) (hc : n ≤ cap) (hm : cap ≤ 9223372036854775807) (hmn : m < n) :
    Calls Try.prog 91 #[ptr p, .int .i64 (m : Int)] w fun e w' => e = .returned (.tuple #[]) ∧ RUpd base p (.slice (some ⟨g, 0, none⟩) n cap) (L.eraseIdx m) w w' := by
  obtain ⟨i0, hi0, hi1, hi2, hi3⟩ := infoR
  have hle : m ≤ L.length := by rw [unhide hn]; omega
  have hle1 : m + 1 ≤ L.length := by rw [unhide hn]; omega
  have H := hide h
  have HC1 : Hid (∀ j u, (flatE (L.take m))[j]? = some u → w.cell? ((⟨g, 0, none⟩ : Addr).add j) = some u) := hide fun j u hj => by
    refine h.2.1.cells rfl j u ?_
    rw [← flatE_take L m hle, List.getElem?_take] at hj
    split at hj
    · exact hj
    · cases hj
  have HC2 : Hid (∀ j u, (flatE (L.drop (m + 1)))[j]? = some u → w.cell? ((⟨g, (m + 1) * 4, none⟩ : Addr).add j) = some u) := hide fun j u hj => by
    rw [← flatE_drop L (m + 1) hle1, List.getElem?_drop] at hj
    have := h.2.1.cells rfl _ u hj
    rw [Addr.add_lit] at this ⊢
    rw [Nat.zero_add] at this
    exact this
  have HL1 : Hid ((flatE (L.take m)).length = m * 4) := hide (by rw [flatE_len, List.length_take, Nat.min_eq_left hle])
  have HL2 : Hid ((flatE (L.drop (m + 1))).length = (n - (m + 1)) * 4) := hide (by rw [flatE_len, List.length_drop, unhide hn])
  have HE : Hid ((L.eraseIdx m).length = n - 1) := hide (by rw [List.length_eraseIdx, if_pos (by rw [unhide hn]; exact hmn), unhide hn])
  have HF : Hid (flatE (L.eraseIdx m) = flatE (L.take m) ++ flatE (L.drop (m + 1))) := hide (by rw [getD_split, flatE_app])
  have H1 := hide (flatE_one (L.take m))
  have H2 := hide (flatE_one (L.drop (m + 1)))
  have hmi : ¬ (m : Int) < 0 := by omega
  have hmc : (m : Int) ≤ (cap : Int) := by omega
  have hmi2 : (m : Int) + 1 ≤ (n : Int) := by omega
  have hmi0 : (0 : Int) ≤ (m : Int) := by omega
  clear h hle hle1
  generalize L.eraseIdx m = T at *
  unfold ptr at *
  by_cases hz : m + 1 = n
  · have HD : Hid (flatE (L.drop (m + 1)) = []) := hide (List.eq_nil_of_length_eq_zero (by rw [unhide HL2]; omega))
    subst hz
    by_cases hcap : cap = m + 1
    · subst hcap
      go_enter Try.func91, Try.ntmps91
      have hb0 : Below w.heap.size w w := Below.refl _ _
      have H0 := hide ((unhide H).later hb0)
      have c0 : w.cell? ⟨p, 0, none⟩ = some (.slice (some ⟨g, 0, none⟩) (m + 1) (m + 1)) := (unhide H0).1.cell 0
      have HB0 := hide hb0
      have HC1' : Hid (∀ j u, (flatE (L.take m))[j]? = some u → w.cell? ((⟨g, 0, none⟩ : Addr).add j) = some u) := hide fun j u hj => by
        have := unhide HC1 j u hj
        rw [Addr.add_lit] at this ⊢
        exact (hb0.cell (p := ⟨g, 0 + j, none⟩) hg).trans this
      have HC2' : Hid (∀ j u, (flatE (L.drop (m + 1)))[j]? = some u → w.cell? ((⟨g, (m + 1) * 4, none⟩ : Addr).add j) = some u) := hide fun j u hj => by
        have := unhide HC2 j u hj
        rw [Addr.add_lit] at this ⊢
        exact (hb0.cell (p := ⟨g, (m + 1) * 4 + j, none⟩) hg).trans this
      clear hb0
      go_wp2_with (at_builtin; refine wpList_append_own_at _ rfl _ _ 53 rfl base 65 i0 (.agg #[.bool false, .int .i64 0, .string ⟨#[]⟩, .slice none 0 0]) 4 56 Try.underlying53 hi0 hi1 hi2 hi3 rfl (by decide) _ 0 [] rfl (World.ownsRow_nil _ _ _ _) ⟨g, 0, none⟩ m (m + 1) (flatE (L.take m)) rfl ?c1 (unhide HC1') ?c2 ?c3 ?c4 ?c5 ?_)
      case c1 => exact unhide HL1
      case c2 => exact unhide H1
      case c3 => simp only [maxLen]; omega
      case c4 => omega
      intro v1 w1 hown1 hg1 _ hat1
      have kb1 : Blk w1 p #[.slice (some ⟨g, 0, none⟩) (m + 1) (m + 1)] 55 := (hg1.block p (unhide H0).1.lt (by simp [Value.ownBlock])).trans (unhide H0).1
      have d0 : w1.cell? ⟨p, 0, none⟩ = some (.slice (some ⟨g, 0, none⟩) (m + 1) (m + 1)) := kb1.cell 0
      have KB1 := hide kb1
      have hz1 := hg1.size
      have AG := hide (at_ge (w1 := w1) hat1)
      have G1 := hide hg1
      have HC2'' : Hid (∀ j u, (flatE (L.drop (m + 1)))[j]? = some u → w1.cell? ((⟨g, (m + 1) * 4, none⟩ : Addr).add j) = some u) := hide fun j u hj => by
        have := unhide HC2' j u hj
        rw [Addr.add_lit] at this ⊢
        exact (grown_cell hg1 (by omega) _).trans this
      have O1 := hide hown1
      have OV := hide hown1.lt
      obtain ⟨q1, n1, k1, rfl⟩ := row_slice hown1
      clear hown1 hat1 hg1 kb1
      go_wp2_with (at_builtin; refine wpList_append_own_at _ rfl _ _ 53 rfl base 65 i0 (.agg #[.bool false, .int .i64 0, .string ⟨#[]⟩, .slice none 0 0]) 4 56 Try.underlying53 hi0 hi1 hi2 hi3 rfl (by decide) _ _ _ rfl (unhide O1) _ 0 _ [] rfl ?e1 ?e6 ?e2 ?e3 ?e4 ?e5 ?_)
      case e1 => rfl
      case e6 => intro j u hj; simp at hj
      case e2 => simp
      case e3 => simp only [maxLen]; omega
      case e4 => omega
      case e5 => omega
      intro v2 w2 hown2 hg2 _ hat2
      have kb2 : Blk w2 p #[.slice (some ⟨g, 0, none⟩) (m + 1) (m + 1)] 55 := (hg2.block p (unhide KB1).lt (fun e => by have := unhide AG p e.symm; have := (unhide H0).lt; omega)).trans (unhide KB1)
      have d2 : w2.cell? ⟨p, 0, none⟩ = some (.slice (some ⟨g, 0, none⟩) (m + 1) (m + 1)) := kb2.cell 0
      have f2 : w2.frozen? ⟨p, 0, none⟩ = false := kb2.frozen 0
      have K2 := hide kb2
      have G2 := hide (grown_two (unhide G1) hg2 (unhide AG))
      have A2 := hide (at_ge2 (unhide AG) hz1 hat2)
      have O2 := hide hown2
      obtain ⟨q2, n2, k2, rfl⟩ := row_slice hown2
      clear hown2 hg2 hat2 kb2
      go_wp2
      refine bodyPost_end (v := .tuple #[]) (results_none Try.results91 _ _ _) rfl ?_
      refine ⟨rfl, RUpd.ahead (unhide HB0) (rnew_close2 (unhide H0) (unhide G2) (unhide O2) ?_ ?_ (unhide A2) (unhide K2))⟩
      · exact (unhide HE).trans (by omega)
      · rw [unhide HF]; rw [unhide HD]; simp
    · 
      go_enter Try.func91, Try.ntmps91
      have hb0 : Below w.heap.size w w := Below.refl _ _
      have H0 := hide ((unhide H).later hb0)
      have c0 : w.cell? ⟨p, 0, none⟩ = some (.slice (some ⟨g, 0, none⟩) (m + 1) cap) := (unhide H0).1.cell 0
      have HB0 := hide hb0
      have HC1' : Hid (∀ j u, (flatE (L.take m))[j]? = some u → w.cell? ((⟨g, 0, none⟩ : Addr).add j) = some u) := hide fun j u hj => by
        have := unhide HC1 j u hj
        rw [Addr.add_lit] at this ⊢
        exact (hb0.cell (p := ⟨g, 0 + j, none⟩) hg).trans this
      have HC2' : Hid (∀ j u, (flatE (L.drop (m + 1)))[j]? = some u → w.cell? ((⟨g, (m + 1) * 4, none⟩ : Addr).add j) = some u) := hide fun j u hj => by
        have := unhide HC2 j u hj
        rw [Addr.add_lit] at this ⊢
        exact (hb0.cell (p := ⟨g, (m + 1) * 4 + j, none⟩) hg).trans this
      clear hb0
      go_wp2_with (at_builtin; refine wpList_append_own_at _ rfl _ _ 53 rfl base 65 i0 (.agg #[.bool false, .int .i64 0, .string ⟨#[]⟩, .slice none 0 0]) 4 56 Try.underlying53 hi0 hi1 hi2 hi3 rfl (by decide) _ 0 [] rfl (World.ownsRow_nil _ _ _ _) ⟨g, 0, none⟩ m cap (flatE (L.take m)) rfl ?c1 (unhide HC1') ?c2 ?c3 ?c4 ?c5 ?_)
      case c1 => exact unhide HL1
      case c2 => exact unhide H1
      case c3 => simp only [maxLen]; omega
      case c4 => omega
      intro v1 w1 hown1 hg1 _ hat1
      have kb1 : Blk w1 p #[.slice (some ⟨g, 0, none⟩) (m + 1) cap] 55 := (hg1.block p (unhide H0).1.lt (by simp [Value.ownBlock])).trans (unhide H0).1
      have d0 : w1.cell? ⟨p, 0, none⟩ = some (.slice (some ⟨g, 0, none⟩) (m + 1) cap) := kb1.cell 0
      have KB1 := hide kb1
      have hz1 := hg1.size
      have AG := hide (at_ge (w1 := w1) hat1)
      have G1 := hide hg1
      have HC2'' : Hid (∀ j u, (flatE (L.drop (m + 1)))[j]? = some u → w1.cell? ((⟨g, (m + 1) * 4, none⟩ : Addr).add j) = some u) := hide fun j u hj => by
        have := unhide HC2' j u hj
        rw [Addr.add_lit] at this ⊢
        exact (grown_cell hg1 (by omega) _).trans this
      have O1 := hide hown1
      have OV := hide hown1.lt
      obtain ⟨q1, n1, k1, rfl⟩ := row_slice hown1
      clear hown1 hat1 hg1 kb1
      go_wp2_with (at_builtin; refine wpList_append_own_at _ rfl _ _ 53 rfl base 65 i0 (.agg #[.bool false, .int .i64 0, .string ⟨#[]⟩, .slice none 0 0]) 4 56 Try.underlying53 hi0 hi1 hi2 hi3 rfl (by decide) _ _ _ rfl (unhide O1) _ 0 _ [] rfl ?e1 ?e6 ?e2 ?e3 ?e4 ?e5 ?_)
      case e1 => rfl
      case e6 => intro j u hj; simp at hj
      case e2 => simp
      case e3 => simp only [maxLen]; omega
      case e4 => omega
      case e5 => omega
      intro v2 w2 hown2 hg2 _ hat2
      have kb2 : Blk w2 p #[.slice (some ⟨g, 0, none⟩) (m + 1) cap] 55 := (hg2.block p (unhide KB1).lt (fun e => by have := unhide AG p e.symm; have := (unhide H0).lt; omega)).trans (unhide KB1)
      have d2 : w2.cell? ⟨p, 0, none⟩ = some (.slice (some ⟨g, 0, none⟩) (m + 1) cap) := kb2.cell 0
      have f2 : w2.frozen? ⟨p, 0, none⟩ = false := kb2.frozen 0
      have K2 := hide kb2
      have G2 := hide (grown_two (unhide G1) hg2 (unhide AG))
      have A2 := hide (at_ge2 (unhide AG) hz1 hat2)
      have O2 := hide hown2
      obtain ⟨q2, n2, k2, rfl⟩ := row_slice hown2
      clear hown2 hg2 hat2 kb2
      go_wp2
      refine bodyPost_end (v := .tuple #[]) (results_none Try.results91 _ _ _) rfl ?_
      refine ⟨rfl, RUpd.ahead (unhide HB0) (rnew_close2 (unhide H0) (unhide G2) (unhide O2) ?_ ?_ (unhide A2) (unhide K2))⟩
      · exact (unhide HE).trans (by omega)
      · rw [unhide HF]; rw [unhide HD]; simp
  · have hzi : (m : Int) + 1 < (n : Int) := by omega
    go_enter Try.func91, Try.ntmps91
    have hb0 : Below w.heap.size w w := Below.refl _ _
    have H0 := hide ((unhide H).later hb0)
    have c0 : w.cell? ⟨p, 0, none⟩ = some (.slice (some ⟨g, 0, none⟩) n cap) := (unhide H0).1.cell 0
    have HB0 := hide hb0
    have HC1' : Hid (∀ j u, (flatE (L.take m))[j]? = some u → w.cell? ((⟨g, 0, none⟩ : Addr).add j) = some u) := hide fun j u hj => by
      have := unhide HC1 j u hj
      rw [Addr.add_lit] at this ⊢
      exact (hb0.cell (p := ⟨g, 0 + j, none⟩) hg).trans this
    have HC2' : Hid (∀ j u, (flatE (L.drop (m + 1)))[j]? = some u → w.cell? ((⟨g, (m + 1) * 4, none⟩ : Addr).add j) = some u) := hide fun j u hj => by
      have := unhide HC2 j u hj
      rw [Addr.add_lit] at this ⊢
      exact (hb0.cell (p := ⟨g, (m + 1) * 4 + j, none⟩) hg).trans this
    clear hb0
    go_wp2_with (at_builtin; refine wpList_append_own_at _ rfl _ _ 53 rfl base 65 i0 (.agg #[.bool false, .int .i64 0, .string ⟨#[]⟩, .slice none 0 0]) 4 56 Try.underlying53 hi0 hi1 hi2 hi3 rfl (by decide) _ 0 [] rfl (World.ownsRow_nil _ _ _ _) ⟨g, 0, none⟩ m cap (flatE (L.take m)) rfl ?c1 (unhide HC1') ?c2 ?c3 ?c4 ?c5 ?_)
    case c1 => exact unhide HL1
    case c2 => exact unhide H1
    case c3 => simp only [maxLen]; omega
    case c4 => omega
    intro v1 w1 hown1 hg1 _ hat1
    have kb1 : Blk w1 p #[.slice (some ⟨g, 0, none⟩) n cap] 55 := (hg1.block p (unhide H0).1.lt (by simp [Value.ownBlock])).trans (unhide H0).1
    have d0 : w1.cell? ⟨p, 0, none⟩ = some (.slice (some ⟨g, 0, none⟩) n cap) := kb1.cell 0
    have KB1 := hide kb1
    have hz1 := hg1.size
    have AG := hide (at_ge (w1 := w1) hat1)
    have G1 := hide hg1
    have HC2'' : Hid (∀ j u, (flatE (L.drop (m + 1)))[j]? = some u → w1.cell? ((⟨g, (m + 1) * 4, none⟩ : Addr).add j) = some u) := hide fun j u hj => by
      have := unhide HC2' j u hj
      rw [Addr.add_lit] at this ⊢
      exact (grown_cell hg1 (by omega) _).trans this
    have O1 := hide hown1
    have OV := hide hown1.lt
    obtain ⟨q1, n1, k1, rfl⟩ := row_slice hown1
    clear hown1 hat1 hg1 kb1
    go_wp2_with (at_builtin; refine wpList_append_own_at _ rfl _ _ 53 rfl base 65 i0 (.agg #[.bool false, .int .i64 0, .string ⟨#[]⟩, .slice none 0 0]) 4 56 Try.underlying53 hi0 hi1 hi2 hi3 rfl (by decide) _ _ _ rfl (unhide O1) ⟨g, (m + 1) * 4, none⟩ (n - (m + 1)) _ (flatE (L.drop (m + 1))) rfl ?e1 ?e6 ?e2 ?e3 ?e4 ?e5 ?_)
    case e1 => exact unhide HL2
    case e6 => exact unhide HC2''
    case e2 => exact unhide H2
    case e3 => simp only [maxLen]; omega
    case e4 => omega
    case e5 => omega
    intro v2 w2 hown2 hg2 _ hat2
    have kb2 : Blk w2 p #[.slice (some ⟨g, 0, none⟩) n cap] 55 := (hg2.block p (unhide KB1).lt (fun e => by have := unhide AG p e.symm; have := (unhide H0).lt; omega)).trans (unhide KB1)
    have d2 : w2.cell? ⟨p, 0, none⟩ = some (.slice (some ⟨g, 0, none⟩) n cap) := kb2.cell 0
    have f2 : w2.frozen? ⟨p, 0, none⟩ = false := kb2.frozen 0
    have K2 := hide kb2
    have G2 := hide (grown_two (unhide G1) hg2 (unhide AG))
    have A2 := hide (at_ge2 (unhide AG) hz1 hat2)
    have O2 := hide hown2
    obtain ⟨q2, n2, k2, rfl⟩ := row_slice hown2
    clear hown2 hg2 hat2 kb2
    go_wp2
    refine bodyPost_end (v := .tuple #[]) (results_none Try.results91 _ _ _) rfl ?_
    refine ⟨rfl, RUpd.ahead (unhide HB0) (rnew_close2 (unhide H0) (unhide G2) (unhide O2) ?_ ?_ (unhide A2) (unhide K2))⟩
    · exact (unhide HE).trans (by omega)
    · exact unhide HF

theorem rdrop_any (base p m : Nat) (v : Value) (L : List AEnt) (w : World) (h : RStk base p v L w) (hbase : base ≤ w.heap.size) (hN : L.length ≤ 1000000) (hm : m < L.length) :
    Calls Try.prog 91 #[ptr p, .int .i64 (m : Int)] w fun e w' => e = .returned (.tuple #[]) ∧ RUpd base p v (L.eraseIdx m) w w' := by
  obtain ⟨q, cap, rfl, hc, hm2, hg⟩ := h.slice
  obtain ⟨g, rfl, hgl⟩ := hg (by omega)
  exact rdrop_pos base p g cap m L L.length w (hide rfl) h hgl hbase hN hc hm2 hm
end Go.Proofs.Ytabajhbghjfhoaa

/-
  The reference's put.
-/
namespace Go.Proofs.Ytabajhbghjfhoaa
open Go.RowKit
set_option linter.unusedVariables false
set_option linter.unusedSimpArgs false

theorem grown_below {w w' : World} (hb : Below w.heap.size w w') : w.grownBy w' none := ⟨hb.os, hb.tape, hb.output, hb.size, fun k hk _ => hb.block k hk⟩
set_option maxHeartbeats 4000000 in
set_option maxRecDepth 100000 in
theorem rput_pos (base p g cap i : Nat) (x : AEnt) (L : List AEnt) (n : Nat) (w : World) (hn : Hid (L.length = n)) (h : RStk base p (.slice (some ⟨g, 0, none⟩) n cap) L w) (hg : g < w.heap.size) (hbase : base ≤ w.heap.size) (hN : n ≤ 1000) (hc : n ≤ cap) (hm : cap ≤ 9223372036854775807) (hi : i ≤ n) :
    Calls Try.prog 92 #[ptr p, .int .i64 (i : Int), entV x] w fun e w' => e = .returned (.tuple #[]) ∧ RUpd base p (.slice (some ⟨g, 0, none⟩) n cap) (L.take i ++ [x] ++ L.drop i) w w' := by
  obtain ⟨i0, hi0, hi1, hi2, hi3⟩ := infoR
  obtain ⟨xm, xi, xn, xq, xl, xc⟩ := x
  have hle : i ≤ L.length := by rw [unhide hn]; omega
  have b1 : Below w.heap.size w (w.alloc (Obj.cells #[.bool xm, .int .i64 xi, .string xn, .slice xq xl xc] 65)) := (Below.refl _ _).alloc (Nat.le_refl _) _
  have H0 := hide (h.later b1)
  have B1 := hide b1
  have kx : Hid (Blk (w.alloc (Obj.cells #[.bool xm, .int .i64 xi, .string xn, .slice xq xl xc] 65)) w.heap.size #[.bool xm, .int .i64 xi, .string xn, .slice xq xl xc] 65) := hide (Blk.new w _ _)
  have HC1 : Hid (∀ j u, (flatE (L.take i))[j]? = some u → (w.alloc (Obj.cells #[.bool xm, .int .i64 xi, .string xn, .slice xq xl xc] 65)).cell? ((⟨g, 0, none⟩ : Addr).add j) = some u) := hide fun j u hj => by
    refine (unhide H0).2.1.cells rfl j u ?_
    rw [← flatE_take L i hle, List.getElem?_take] at hj
    split at hj
    · exact hj
    · cases hj
  have HC2 : Hid (∀ j u, (flatE (L.drop i))[j]? = some u → (w.alloc (Obj.cells #[.bool xm, .int .i64 xi, .string xn, .slice xq xl xc] 65)).cell? ((⟨g, i * 4, none⟩ : Addr).add j) = some u) := hide fun j u hj => by
    rw [← flatE_drop L i hle, List.getElem?_drop] at hj
    have := (unhide H0).2.1.cells rfl _ u hj
    rw [Addr.add_lit] at this ⊢
    rw [Nat.zero_add] at this
    exact this
  have HL1 : Hid ((flatE (L.take i)).length = i * 4) := hide (by rw [flatE_len, List.length_take, Nat.min_eq_left hle])
  have HL2 : Hid ((flatE (L.drop i)).length = (n - i) * 4) := hide (by rw [flatE_len, List.length_drop, unhide hn])
  have HE : Hid ((L.take i ++ [(⟨xm, xi, xn, xq, xl, xc⟩ : AEnt)] ++ L.drop i).length = n + 1) := hide (by have := unhide hn; simp; omega)
  have HF : Hid (flatE (L.take i ++ [⟨xm, xi, xn, xq, xl, xc⟩] ++ L.drop i) = flatE (L.take i) ++ [.bool xm, .int .i64 xi, .string xn, .slice xq xl xc] ++ flatE (L.drop i)) := hide (by rw [flatE_app, flatE_app]; rfl)
  have H1 := hide (flatE_one (L.take i))
  have H2 := hide (flatE_one (L.drop i))
  have hd : decide ((i : Int) < 0) = false := decide_eq_false (by omega)
  have hd2 : ¬ (n : Int) < (i : Int) := by omega
  have hmc : (i : Int) ≤ (cap : Int) := by omega
  have hmi0 : (0 : Int) ≤ (i : Int) := by omega
  have hmn : (i : Int) ≤ (n : Int) := by omega
  have hsz : (w.alloc (Obj.cells #[.bool xm, .int .i64 xi, .string xn, .slice xq xl xc] 65)).heap.size = w.heap.size + 1 := by simp
  have c0 : (w.alloc (Obj.cells #[.bool xm, .int .i64 xi, .string xn, .slice xq xl xc] 65)).cell? ⟨p, 0, none⟩ = some (.slice (some ⟨g, 0, none⟩) n cap) := (unhide H0).1.cell 0
  have hpl := hide h.lt
  clear h hle b1
  generalize L.take i ++ [(⟨xm, xi, xn, xq, xl, xc⟩ : AEnt)] ++ L.drop i = T at *
  unfold ptr entV at *
  dsimp only
  by_cases hz : i = n
  · have HD : Hid (flatE (L.drop i) = []) := hide (List.eq_nil_of_length_eq_zero (by rw [unhide HL2]; omega))
    subst hz
    by_cases hcap : cap = i
    · subst hcap
      go_enter Try.func92, Try.ntmps92
      go_wp2_with (at_builtin; refine wpList_append_own_at _ rfl _ _ 53 rfl base 65 i0 (.agg #[.bool false, .int .i64 0, .string ⟨#[]⟩, .slice none 0 0]) 4 56 Try.underlying53 hi0 hi1 hi2 hi3 rfl (by decide) _ 0 [] rfl (World.ownsRow_nil _ _ _ _) ⟨g, 0, none⟩ cap cap (flatE (L.take cap)) rfl ?c1 (unhide HC1) ?c2 ?c3 ?c4 ?c5 ?_)
      case c1 => exact unhide HL1
      case c2 => exact unhide H1
      case c3 => simp only [maxLen]; omega
      case c4 => omega
      case c5 => first | omega | (rw [hsz]; omega)
      intro v1 w1 hown1 hg1 _ hat1
      have kx1 : Blk w1 w.heap.size #[.bool xm, .int .i64 xi, .string xn, .slice xq xl xc] 65 := (hg1.block w.heap.size (by rw [hsz]; omega) (by simp [Value.ownBlock])).trans (unhide kx)
      have x0 : w1.cell? ⟨w.heap.size, 0, none⟩ = some (.bool xm) := kx1.cell 0
      have x1 : w1.cell? ⟨w.heap.size, 1, none⟩ = some (.int .i64 xi) := kx1.cell 1
      have x2 : w1.cell? ⟨w.heap.size, 2, none⟩ = some (.string xn) := kx1.cell 2
      have x3 : w1.cell? ⟨w.heap.size, 3, none⟩ = some (.slice xq xl xc) := kx1.cell 3
      have AG := hide (at_ge (w := w.alloc (Obj.cells #[.bool xm, .int .i64 xi, .string xn, .slice xq xl xc] 65)) (w1 := w1) (v1 := v1) (by rw [hsz]; exact hat1))
      have G1 := hide hg1
      have hz1 : w.heap.size + 1 ≤ w1.heap.size := by rw [← hsz]; exact hg1.size
      have O1 := hide (hown1.alloc (Obj.cells #[.bool xm, .int .i64 xi, .string xn, .slice xq xl xc] 65))
      have SX : Hid (∀ j u, ([.bool xm, .int .i64 xi, .string xn, .slice xq xl xc] : List Value)[j]? = some u → (w1.alloc (Obj.cells #[.bool xm, .int .i64 xi, .string xn, .slice xq xl xc] 65)).cell? ((⟨w1.heap.size, 0, none⟩ : Addr).add j) = some u) := hide fun j u hj => by
        rw [Addr.add_lit, Nat.zero_add, (Blk.new w1 #[.bool xm, .int .i64 xi, .string xn, .slice xq xl xc] 65).cell j]
        simpa using hj
      have BA := hide (grown_below ((Below.refl w1.heap.size w1).alloc (Nat.le_refl _) (Obj.cells #[.bool xm, .int .i64 xi, .string xn, .slice xq xl xc] 65)))
      have hs1 : (w1.alloc (Obj.cells #[.bool xm, .int .i64 xi, .string xn, .slice xq xl xc] 65)).heap.size = w1.heap.size + 1 := by simp
      obtain ⟨q1, n1, k1, rfl⟩ := row_slice hown1
      clear hown1 hat1 hg1 kx1
      go_wp2_with (at_builtin; refine wpList_append_own_at _ rfl _ _ 53 rfl base 65 i0 (.agg #[.bool false, .int .i64 0, .string ⟨#[]⟩, .slice none 0 0]) 4 56 Try.underlying53 hi0 hi1 hi2 hi3 rfl (by decide) _ _ _ rfl (unhide O1) ⟨w1.heap.size, 0, none⟩ 1 1 [.bool xm, .int .i64 xi, .string xn, .slice xq xl xc] rfl ?d1 (unhide SX) ?d2 ?d3 ?d4 ?d5 ?_)
      case d1 => rfl
      case d2 => simp [Value.oneCell']
      case d3 => simp only [maxLen]; omega
      case d4 => omega
      case d5 => first | omega | (rw [hs1]; omega)
      intro v2 w2 hown2 hg2 _ hat2
      have G2 := hide (grown_two (grown_two (unhide G1) (unhide BA) (by simp)) hg2 (unhide AG))
      have A2 := hide (at_ge2 (w1 := w1.alloc (Obj.cells #[.bool xm, .int .i64 xi, .string xn, .slice xq xl xc] 65)) (v2 := v2) (unhide AG) (by rw [hsz, hs1]; omega) (by rw [hs1]; exact hat2))
      have hz2 : w.heap.size + 1 ≤ w2.heap.size := by rw [← hsz]; exact (unhide G2).size
      have kb2 : Blk w2 p #[.slice (some ⟨g, 0, none⟩) cap cap] 55 := ((unhide G2).block p (unhide H0).1.lt (by simp)).trans (unhide H0).1
      have d2 : w2.cell? ⟨p, 0, none⟩ = some (.slice (some ⟨g, 0, none⟩) cap cap) := kb2.cell 0
      have K2 := hide kb2
      have HC2' : Hid (∀ j u, (flatE (L.drop cap))[j]? = some u → w2.cell? ((⟨g, cap * 4, none⟩ : Addr).add j) = some u) := hide fun j u hj => by
        have := unhide HC2 j u hj
        rw [Addr.add_lit] at this ⊢
        exact (grown_cell (unhide G2) (by rw [hsz]; omega) _).trans this
      have O2 := hide hown2
      obtain ⟨q2, n2, k2, rfl⟩ := row_slice hown2
      clear hown2 hg2 hat2 kb2
      go_wp2_with (at_builtin; refine wpList_append_own_at _ rfl _ _ 53 rfl base 65 i0 (.agg #[.bool false, .int .i64 0, .string ⟨#[]⟩, .slice none 0 0]) 4 56 Try.underlying53 hi0 hi1 hi2 hi3 rfl (by decide) _ _ _ rfl (unhide O2) _ 0 _ [] rfl ?e1 ?e6 ?e2 ?e3 ?e4 ?e5 ?_)
      case e1 => rfl
      case e6 => intro j u hj; simp at hj
      case e2 => simp
      case e3 => simp only [maxLen]; omega
      case e4 => omega
      case e5 => omega
      intro v3 w3 hown3 hg3 _ hat3
      have G3 := hide (grown_two (unhide G2) hg3 (unhide A2))
      have A3 := hide (at_ge2 (unhide A2) (by rw [hsz]; omega) hat3)
      have kb3 : Blk w3 p #[.slice (some ⟨g, 0, none⟩) cap cap] 55 := ((unhide G3).block p (unhide H0).1.lt (by simp)).trans (unhide H0).1
      have d3 : w3.cell? ⟨p, 0, none⟩ = some (.slice (some ⟨g, 0, none⟩) cap cap) := kb3.cell 0
      have f3 : w3.frozen? ⟨p, 0, none⟩ = false := kb3.frozen 0
      have K3 := hide kb3
      have O3 := hide hown3
      obtain ⟨q3, n3, k3, rfl⟩ := row_slice hown3
      clear hown3 hg3 hat3 kb3
      go_wp2
      refine bodyPost_end (v := .tuple #[]) (results_none Try.results92 _ _ _) rfl ?_
      refine ⟨rfl, RUpd.ahead (unhide B1) (rnew_close2 (unhide H0) (unhide G3) (unhide O3) ?_ ?_ (unhide A3) (unhide K3))⟩
      · exact (unhide HE).trans (by omega)
      · rw [unhide HF, unhide HD]; simp
    · have hcl : (i : Int) < (cap : Int) := by omega
      go_enter Try.func92, Try.ntmps92
      go_wp2_with (at_builtin; refine wpList_append_own_at _ rfl _ _ 53 rfl base 65 i0 (.agg #[.bool false, .int .i64 0, .string ⟨#[]⟩, .slice none 0 0]) 4 56 Try.underlying53 hi0 hi1 hi2 hi3 rfl (by decide) _ 0 [] rfl (World.ownsRow_nil _ _ _ _) ⟨g, 0, none⟩ i cap (flatE (L.take i)) rfl ?c1 (unhide HC1) ?c2 ?c3 ?c4 ?c5 ?_)
      case c1 => exact unhide HL1
      case c2 => exact unhide H1
      case c3 => simp only [maxLen]; omega
      case c4 => omega
      case c5 => first | omega | (rw [hsz]; omega)
      intro v1 w1 hown1 hg1 _ hat1
      have kx1 : Blk w1 w.heap.size #[.bool xm, .int .i64 xi, .string xn, .slice xq xl xc] 65 := (hg1.block w.heap.size (by rw [hsz]; omega) (by simp [Value.ownBlock])).trans (unhide kx)
      have x0 : w1.cell? ⟨w.heap.size, 0, none⟩ = some (.bool xm) := kx1.cell 0
      have x1 : w1.cell? ⟨w.heap.size, 1, none⟩ = some (.int .i64 xi) := kx1.cell 1
      have x2 : w1.cell? ⟨w.heap.size, 2, none⟩ = some (.string xn) := kx1.cell 2
      have x3 : w1.cell? ⟨w.heap.size, 3, none⟩ = some (.slice xq xl xc) := kx1.cell 3
      have AG := hide (at_ge (w := w.alloc (Obj.cells #[.bool xm, .int .i64 xi, .string xn, .slice xq xl xc] 65)) (w1 := w1) (v1 := v1) (by rw [hsz]; exact hat1))
      have G1 := hide hg1
      have hz1 : w.heap.size + 1 ≤ w1.heap.size := by rw [← hsz]; exact hg1.size
      have O1 := hide (hown1.alloc (Obj.cells #[.bool xm, .int .i64 xi, .string xn, .slice xq xl xc] 65))
      have SX : Hid (∀ j u, ([.bool xm, .int .i64 xi, .string xn, .slice xq xl xc] : List Value)[j]? = some u → (w1.alloc (Obj.cells #[.bool xm, .int .i64 xi, .string xn, .slice xq xl xc] 65)).cell? ((⟨w1.heap.size, 0, none⟩ : Addr).add j) = some u) := hide fun j u hj => by
        rw [Addr.add_lit, Nat.zero_add, (Blk.new w1 #[.bool xm, .int .i64 xi, .string xn, .slice xq xl xc] 65).cell j]
        simpa using hj
      have BA := hide (grown_below ((Below.refl w1.heap.size w1).alloc (Nat.le_refl _) (Obj.cells #[.bool xm, .int .i64 xi, .string xn, .slice xq xl xc] 65)))
      have hs1 : (w1.alloc (Obj.cells #[.bool xm, .int .i64 xi, .string xn, .slice xq xl xc] 65)).heap.size = w1.heap.size + 1 := by simp
      obtain ⟨q1, n1, k1, rfl⟩ := row_slice hown1
      clear hown1 hat1 hg1 kx1
      go_wp2_with (at_builtin; refine wpList_append_own_at _ rfl _ _ 53 rfl base 65 i0 (.agg #[.bool false, .int .i64 0, .string ⟨#[]⟩, .slice none 0 0]) 4 56 Try.underlying53 hi0 hi1 hi2 hi3 rfl (by decide) _ _ _ rfl (unhide O1) ⟨w1.heap.size, 0, none⟩ 1 1 [.bool xm, .int .i64 xi, .string xn, .slice xq xl xc] rfl ?d1 (unhide SX) ?d2 ?d3 ?d4 ?d5 ?_)
      case d1 => rfl
      case d2 => simp [Value.oneCell']
      case d3 => simp only [maxLen]; omega
      case d4 => omega
      case d5 => first | omega | (rw [hs1]; omega)
      intro v2 w2 hown2 hg2 _ hat2
      have G2 := hide (grown_two (grown_two (unhide G1) (unhide BA) (by simp)) hg2 (unhide AG))
      have A2 := hide (at_ge2 (w1 := w1.alloc (Obj.cells #[.bool xm, .int .i64 xi, .string xn, .slice xq xl xc] 65)) (v2 := v2) (unhide AG) (by rw [hsz, hs1]; omega) (by rw [hs1]; exact hat2))
      have hz2 : w.heap.size + 1 ≤ w2.heap.size := by rw [← hsz]; exact (unhide G2).size
      have kb2 : Blk w2 p #[.slice (some ⟨g, 0, none⟩) i cap] 55 := ((unhide G2).block p (unhide H0).1.lt (by simp)).trans (unhide H0).1
      have d2 : w2.cell? ⟨p, 0, none⟩ = some (.slice (some ⟨g, 0, none⟩) i cap) := kb2.cell 0
      have K2 := hide kb2
      have HC2' : Hid (∀ j u, (flatE (L.drop i))[j]? = some u → w2.cell? ((⟨g, i * 4, none⟩ : Addr).add j) = some u) := hide fun j u hj => by
        have := unhide HC2 j u hj
        rw [Addr.add_lit] at this ⊢
        exact (grown_cell (unhide G2) (by rw [hsz]; omega) _).trans this
      have O2 := hide hown2
      obtain ⟨q2, n2, k2, rfl⟩ := row_slice hown2
      clear hown2 hg2 hat2 kb2
      go_wp2_with (at_builtin; refine wpList_append_own_at _ rfl _ _ 53 rfl base 65 i0 (.agg #[.bool false, .int .i64 0, .string ⟨#[]⟩, .slice none 0 0]) 4 56 Try.underlying53 hi0 hi1 hi2 hi3 rfl (by decide) _ _ _ rfl (unhide O2) _ 0 _ [] rfl ?e1 ?e6 ?e2 ?e3 ?e4 ?e5 ?_)
      case e1 => rfl
      case e6 => intro j u hj; simp at hj
      case e2 => simp
      case e3 => simp only [maxLen]; omega
      case e4 => omega
      case e5 => omega
      intro v3 w3 hown3 hg3 _ hat3
      have G3 := hide (grown_two (unhide G2) hg3 (unhide A2))
      have A3 := hide (at_ge2 (unhide A2) (by rw [hsz]; omega) hat3)
      have kb3 : Blk w3 p #[.slice (some ⟨g, 0, none⟩) i cap] 55 := ((unhide G3).block p (unhide H0).1.lt (by simp)).trans (unhide H0).1
      have d3 : w3.cell? ⟨p, 0, none⟩ = some (.slice (some ⟨g, 0, none⟩) i cap) := kb3.cell 0
      have f3 : w3.frozen? ⟨p, 0, none⟩ = false := kb3.frozen 0
      have K3 := hide kb3
      have O3 := hide hown3
      obtain ⟨q3, n3, k3, rfl⟩ := row_slice hown3
      clear hown3 hg3 hat3 kb3
      go_wp2
      refine bodyPost_end (v := .tuple #[]) (results_none Try.results92 _ _ _) rfl ?_
      refine ⟨rfl, RUpd.ahead (unhide B1) (rnew_close2 (unhide H0) (unhide G3) (unhide O3) ?_ ?_ (unhide A3) (unhide K3))⟩
      · exact (unhide HE).trans (by omega)
      · rw [unhide HF, unhide HD]; simp
  · have hzi : (i : Int) < (n : Int) := by omega
    go_enter Try.func92, Try.ntmps92
    go_wp2_with (at_builtin; refine wpList_append_own_at _ rfl _ _ 53 rfl base 65 i0 (.agg #[.bool false, .int .i64 0, .string ⟨#[]⟩, .slice none 0 0]) 4 56 Try.underlying53 hi0 hi1 hi2 hi3 rfl (by decide) _ 0 [] rfl (World.ownsRow_nil _ _ _ _) ⟨g, 0, none⟩ i cap (flatE (L.take i)) rfl ?c1 (unhide HC1) ?c2 ?c3 ?c4 ?c5 ?_)
    case c1 => exact unhide HL1
    case c2 => exact unhide H1
    case c3 => simp only [maxLen]; omega
    case c4 => omega
    case c5 => first | omega | (rw [hsz]; omega)
    intro v1 w1 hown1 hg1 _ hat1
    have kx1 : Blk w1 w.heap.size #[.bool xm, .int .i64 xi, .string xn, .slice xq xl xc] 65 := (hg1.block w.heap.size (by rw [hsz]; omega) (by simp [Value.ownBlock])).trans (unhide kx)
    have x0 : w1.cell? ⟨w.heap.size, 0, none⟩ = some (.bool xm) := kx1.cell 0
    have x1 : w1.cell? ⟨w.heap.size, 1, none⟩ = some (.int .i64 xi) := kx1.cell 1
    have x2 : w1.cell? ⟨w.heap.size, 2, none⟩ = some (.string xn) := kx1.cell 2
    have x3 : w1.cell? ⟨w.heap.size, 3, none⟩ = some (.slice xq xl xc) := kx1.cell 3
    have AG := hide (at_ge (w := w.alloc (Obj.cells #[.bool xm, .int .i64 xi, .string xn, .slice xq xl xc] 65)) (w1 := w1) (v1 := v1) (by rw [hsz]; exact hat1))
    have G1 := hide hg1
    have hz1 : w.heap.size + 1 ≤ w1.heap.size := by rw [← hsz]; exact hg1.size
    have O1 := hide (hown1.alloc (Obj.cells #[.bool xm, .int .i64 xi, .string xn, .slice xq xl xc] 65))
    have SX : Hid (∀ j u, ([.bool xm, .int .i64 xi, .string xn, .slice xq xl xc] : List Value)[j]? = some u → (w1.alloc (Obj.cells #[.bool xm, .int .i64 xi, .string xn, .slice xq xl xc] 65)).cell? ((⟨w1.heap.size, 0, none⟩ : Addr).add j) = some u) := hide fun j u hj => by
      rw [Addr.add_lit, Nat.zero_add, (Blk.new w1 #[.bool xm, .int .i64 xi, .string xn, .slice xq xl xc] 65).cell j]
      simpa using hj
    have BA := hide (grown_below ((Below.refl w1.heap.size w1).alloc (Nat.le_refl _) (Obj.cells #[.bool xm, .int .i64 xi, .string xn, .slice xq xl xc] 65)))
    have hs1 : (w1.alloc (Obj.cells #[.bool xm, .int .i64 xi, .string xn, .slice xq xl xc] 65)).heap.size = w1.heap.size + 1 := by simp
    obtain ⟨q1, n1, k1, rfl⟩ := row_slice hown1
    clear hown1 hat1 hg1 kx1
    go_wp2_with (at_builtin; refine wpList_append_own_at _ rfl _ _ 53 rfl base 65 i0 (.agg #[.bool false, .int .i64 0, .string ⟨#[]⟩, .slice none 0 0]) 4 56 Try.underlying53 hi0 hi1 hi2 hi3 rfl (by decide) _ _ _ rfl (unhide O1) ⟨w1.heap.size, 0, none⟩ 1 1 [.bool xm, .int .i64 xi, .string xn, .slice xq xl xc] rfl ?d1 (unhide SX) ?d2 ?d3 ?d4 ?d5 ?_)
    case d1 => rfl
    case d2 => simp [Value.oneCell']
    case d3 => simp only [maxLen]; omega
    case d4 => omega
    case d5 => first | omega | (rw [hs1]; omega)
    intro v2 w2 hown2 hg2 _ hat2
    have G2 := hide (grown_two (grown_two (unhide G1) (unhide BA) (by simp)) hg2 (unhide AG))
    have A2 := hide (at_ge2 (w1 := w1.alloc (Obj.cells #[.bool xm, .int .i64 xi, .string xn, .slice xq xl xc] 65)) (v2 := v2) (unhide AG) (by rw [hsz, hs1]; omega) (by rw [hs1]; exact hat2))
    have hz2 : w.heap.size + 1 ≤ w2.heap.size := by rw [← hsz]; exact (unhide G2).size
    have kb2 : Blk w2 p #[.slice (some ⟨g, 0, none⟩) n cap] 55 := ((unhide G2).block p (unhide H0).1.lt (by simp)).trans (unhide H0).1
    have d2 : w2.cell? ⟨p, 0, none⟩ = some (.slice (some ⟨g, 0, none⟩) n cap) := kb2.cell 0
    have K2 := hide kb2
    have HC2' : Hid (∀ j u, (flatE (L.drop i))[j]? = some u → w2.cell? ((⟨g, i * 4, none⟩ : Addr).add j) = some u) := hide fun j u hj => by
      have := unhide HC2 j u hj
      rw [Addr.add_lit] at this ⊢
      exact (grown_cell (unhide G2) (by rw [hsz]; omega) _).trans this
    have O2 := hide hown2
    obtain ⟨q2, n2, k2, rfl⟩ := row_slice hown2
    clear hown2 hg2 hat2 kb2
    go_wp2_with (at_builtin; refine wpList_append_own_at _ rfl _ _ 53 rfl base 65 i0 (.agg #[.bool false, .int .i64 0, .string ⟨#[]⟩, .slice none 0 0]) 4 56 Try.underlying53 hi0 hi1 hi2 hi3 rfl (by decide) _ _ _ rfl (unhide O2) ⟨g, i * 4, none⟩ (n - i) _ (flatE (L.drop i)) rfl ?e1 ?e6 ?e2 ?e3 ?e4 ?e5 ?_)
    case e1 => exact unhide HL2
    case e6 => exact unhide HC2'
    case e2 => exact unhide H2
    case e3 => simp only [maxLen]; omega
    case e4 => omega
    case e5 => omega
    intro v3 w3 hown3 hg3 _ hat3
    have G3 := hide (grown_two (unhide G2) hg3 (unhide A2))
    have A3 := hide (at_ge2 (unhide A2) (by rw [hsz]; omega) hat3)
    have kb3 : Blk w3 p #[.slice (some ⟨g, 0, none⟩) n cap] 55 := ((unhide G3).block p (unhide H0).1.lt (by simp)).trans (unhide H0).1
    have d3 : w3.cell? ⟨p, 0, none⟩ = some (.slice (some ⟨g, 0, none⟩) n cap) := kb3.cell 0
    have f3 : w3.frozen? ⟨p, 0, none⟩ = false := kb3.frozen 0
    have K3 := hide kb3
    have O3 := hide hown3
    obtain ⟨q3, n3, k3, rfl⟩ := row_slice hown3
    clear hown3 hg3 hat3 kb3
    go_wp2
    refine bodyPost_end (v := .tuple #[]) (results_none Try.results92 _ _ _) rfl ?_
    refine ⟨rfl, RUpd.ahead (unhide B1) (rnew_close2 (unhide H0) (unhide G3) (unhide O3) ?_ ?_ (unhide A3) (unhide K3))⟩
    · exact (unhide HE).trans (by omega)
    · refine (unhide HF).trans ?_; simp

set_option maxHeartbeats 4000000 in
set_option maxRecDepth 100000 in
theorem rput_nil (base p : Nat) (x : AEnt) (w : World) (h : RStk base p (.slice none 0 0) [] w) (hbase : base ≤ w.heap.size) :
    Calls Try.prog 92 #[ptr p, .int .i64 0, entV x] w fun e w' => e = .returned (.tuple #[]) ∧ RUpd base p (.slice none 0 0) [x] w w' := by
  obtain ⟨i0, hi0, hi1, hi2, hi3⟩ := infoR
  obtain ⟨xm, xi, xn, xq, xl, xc⟩ := x
  have b1 : Below w.heap.size w (w.alloc (Obj.cells #[.bool xm, .int .i64 xi, .string xn, .slice xq xl xc] 65)) := (Below.refl _ _).alloc (Nat.le_refl _) _
  have H0 := hide (h.later b1)
  have B1 := hide b1
  have hsz : (w.alloc (Obj.cells #[.bool xm, .int .i64 xi, .string xn, .slice xq xl xc] 65)).heap.size = w.heap.size + 1 := by simp
  have c0 : (w.alloc (Obj.cells #[.bool xm, .int .i64 xi, .string xn, .slice xq xl xc] 65)).cell? ⟨p, 0, none⟩ = some (.slice none 0 0) := (unhide H0).1.cell 0
  have kx : Blk (w.alloc (Obj.cells #[.bool xm, .int .i64 xi, .string xn, .slice xq xl xc] 65)) w.heap.size #[.bool xm, .int .i64 xi, .string xn, .slice xq xl xc] 65 := Blk.new w _ _
  clear h b1
  have SX : Hid (∀ j u, ([.bool xm, .int .i64 xi, .string xn, .slice xq xl xc] : List Value)[j]? = some u → ((w.alloc (Obj.cells #[.bool xm, .int .i64 xi, .string xn, .slice xq xl xc] 65)).alloc (Obj.cells #[.bool xm, .int .i64 xi, .string xn, .slice xq xl xc] 65)).cell? ((⟨w.heap.size + 1, 0, none⟩ : Addr).add j) = some u) := hide fun j u hj => by
    have hb := Blk.new (w.alloc (Obj.cells #[.bool xm, .int .i64 xi, .string xn, .slice xq xl xc] 65)) #[.bool xm, .int .i64 xi, .string xn, .slice xq xl xc] 65
    rw [hsz] at hb
    rw [Addr.add_lit, Nat.zero_add, hb.cell j]
    simpa using hj
  have BA := hide (grown_below ((Below.refl (w.alloc (Obj.cells #[.bool xm, .int .i64 xi, .string xn, .slice xq xl xc] 65)).heap.size (w.alloc (Obj.cells #[.bool xm, .int .i64 xi, .string xn, .slice xq xl xc] 65))).alloc (Nat.le_refl _) (Obj.cells #[.bool xm, .int .i64 xi, .string xn, .slice xq xl xc] 65)))
  have hs1 : ((w.alloc (Obj.cells #[.bool xm, .int .i64 xi, .string xn, .slice xq xl xc] 65)).alloc (Obj.cells #[.bool xm, .int .i64 xi, .string xn, .slice xq xl xc] 65)).heap.size = w.heap.size + 2 := by simp
  unfold ptr entV at *
  dsimp only
  go_enter Try.func92, Try.ntmps92
  go_wp2_with (at_builtin; first | refine wpList_append_own_none rfl _ _ 53 rfl base 65 i0 4 Try.underlying53 hi0 (.slice none 0 0) 0 [] rfl (World.ownsRow_nil _ _ _ _) rfl ?_ | refine wpList_append_own_at _ rfl _ _ 53 rfl base 65 i0 (.agg #[.bool false, .int .i64 0, .string ⟨#[]⟩, .slice none 0 0]) 4 56 Try.underlying53 hi0 hi1 hi2 hi3 rfl (by decide) _ 0 [] rfl (World.ownsRow_nil _ _ _ _) ⟨w.heap.size + 1, 0, none⟩ 1 1 [.bool xm, .int .i64 xi, .string xn, .slice xq xl xc] rfl ?d1 (unhide SX) ?d2 ?d3 ?d4 ?d5 ?_)
  case d1 => rfl
  case d2 => simp [Value.oneCell']
  case d3 => simp only [maxLen]; omega
  case d4 => omega
  case d5 => first | omega | (rw [hs1]; omega)
  intro v2 w2 hown2 hg2 _ hat2
  have G2 := hide (grown_two (unhide BA) hg2 (by simp [Value.ownBlock]))
  have A2 : Hid (∀ k, v2.ownBlock = some k → (w.alloc (Obj.cells #[.bool xm, .int .i64 xi, .string xn, .slice xq xl xc] 65)).heap.size ≤ k) := hide fun k hk => by
    rcases hat2 with h | h
    · rw [h] at hk; cases hk
    · rw [h] at hk; simp at hk; rw [hsz]; omega
  have kb2 : Blk w2 p #[.slice none 0 0] 55 := ((unhide G2).block p (unhide H0).1.lt (by simp)).trans (unhide H0).1
  have d2 : w2.cell? ⟨p, 0, none⟩ = some (.slice none 0 0) := kb2.cell 0
  have f2 : w2.frozen? ⟨p, 0, none⟩ = false := kb2.frozen 0
  have K2 := hide kb2
  have O2 := hide hown2
  obtain ⟨q2, n2, k2, rfl⟩ := row_slice hown2
  clear hown2 hg2 hat2 kb2
  go_wp2_with (at_builtin; refine wpList_append_own_none rfl _ _ 53 rfl base 65 i0 4 Try.underlying53 hi0 _ _ _ rfl (unhide O2) rfl ?_)
  go_wp2
  refine bodyPost_end (v := .tuple #[]) (results_none Try.results92 _ _ _) rfl ?_
  exact ⟨rfl, RUpd.ahead (unhide B1) (rnew_close2 (unhide H0) (unhide G2) (unhide O2) rfl rfl (unhide A2) (unhide K2))⟩
theorem rput_any (base p i : Nat) (v : Value) (x : AEnt) (L : List AEnt) (w : World) (h : RStk base p v L w) (hbase : base ≤ w.heap.size) (hN : L.length ≤ 1000) (hi : i ≤ L.length) :
    Calls Try.prog 92 #[ptr p, .int .i64 (i : Int), entV x] w fun e w' => e = .returned (.tuple #[]) ∧ RUpd base p v (L.take i ++ [x] ++ L.drop i) w w' := by
  rcases h.2.1.2 with ⟨rfl, h0⟩ | ⟨g, cap, cur, rfl, hb, hgg, hc, hm, hcs, htk⟩
  · obtain rfl := List.eq_nil_of_length_eq_zero h0
    obtain rfl : i = 0 := by simp at hi; omega
    exact rput_nil base p x w h hbase
  · exact rput_pos base p g cap i x L L.length w (hide rfl) h (Array.getElem?_eq_some_iff.1 hgg).1 hbase hN hc (by simp only [maxLen] at hm; omega) hi
end Go.Proofs.Ytabajhbghjfhoaa

/-
  The reference's Part and Find.
-/
namespace Go.Proofs.Ytabajhbghjfhoaa
open Go.RowKit
set_option linter.unusedVariables false
set_option linter.unusedSimpArgs false

/-- The last place of what holds, and d; else what was. -/
def plN (f : AEnt → Bool) (d : Int) : List AEnt → Nat → Int → Int
  | [], _, a => a
  | e :: r, i, a => plN f d r (i + 1) (if f e = true then (i : Int) + d else a)
theorem plN_step (f : AEnt → Bool) (d : Int) (L : List AEnt) (k : Nat) (a : Int) (h : k < L.length) : plN f d (L.drop k) k a = plN f d (L.drop (k + 1)) (k + 1) (if f (L.getD k e0) = true then (k : Int) + d else a) := by
  rw [List.drop_eq_getElem_cons h, show L.getD k e0 = L[k] by simp [List.getD, h], plN]
theorem plN_snoc (f : AEnt → Bool) (d : Int) (L : List AEnt) (x : AEnt) (k : Nat) (a : Int) : plN f d (L ++ [x]) k a = if f x = true then ((k + L.length : Nat) : Int) + d else plN f d L k a := by
  induction L generalizing k a with
  | nil => simp [plN]
  | cons y r ih =>
    rw [List.cons_append, plN, plN, ih, List.length_cons, show k + 1 + r.length = k + (r.length + 1) by omega]
theorem plN_eq (f : AEnt → Bool) (d : Int) (L : List AEnt) : plN f d L 0 (-1 + d) = lastE f L + d := by
  induction h : L.length generalizing L with
  | zero => obtain rfl := List.eq_nil_of_length_eq_zero h; rw [lastE_nil]; rfl
  | succ n ih =>
    obtain ⟨a, x, rfl⟩ := snoc_of L (by omega)
    rw [plN_snoc, lastE_app, ih a (by simp at h; exact h), Nat.zero_add]
    split <;> rfl

set_option maxHeartbeats 2000000 in
theorem rpart_loop (g cap p : Nat) (L : List AEnt) (n : Nat) (w : World) (hn : Hid (L.length = n)) (h0 : 0 < n) (hn2 : n ≤ 1000000) (hb : Blk w p #[.slice (some ⟨g, 0, none⟩) n cap] 55) (hc : Cells4 g 0 L w) :
    Calls Try.prog 71 #[ptr p] w fun e w' => e = .returned (.int .i64 (plN (fun x => x.mr) 1 L 0 0)) ∧ Below w.heap.size w w' := by
  have c0 : w.cell? ⟨p, 0, none⟩ = some (.slice (some ⟨g, 0, none⟩) n cap) := hb.cell 0
  have HC := hide hc
  clear hb hc
  unfold ptr
  go_enter Try.func71, Try.ntmps71
  go_wp2
  go_loopw [3, 11] (fun a i wr => ∃ (k : Nat) (x : Int), k ≤ n ∧ i = .int .i64 k ∧ a = .int .i64 x ∧ Below w.heap.size w wr ∧ plN (fun x => x.mr) 1 L 0 0 = plN (fun x => x.mr) 1 (L.drop k) k x) (fun _ i _ => n - (intOf i).toNat)
  case atStart => exact ⟨0, 0, Nat.zero_le _, rfl, rfl, Below.refl _ _, by simp⟩
  case round =>
    obtain ⟨k, x, hk, rfl, rfl, hbw, hr⟩ := hrel
    have HR := hide hr
    have HB := hide hbw
    clear hr
    by_cases hlt : k < n
    · have hlti : (k : Int) < (n : Int) := by omega
      have hkl : k < L.length := by rw [unhide hn]; exact hlt
      obtain ⟨c1, c2, c3, c4⟩ := (unhide HC).below hbw k hkl
      have HE := hide ((unhide HR).trans (plN_step (fun x => x.mr) 1 L k x hkl))
      rw [Nat.zero_add] at c1 c2 c3 c4
      generalize L.getD k e0 = y at *
      obtain ⟨ym, yi, yn, yq, yl, yc⟩ := y
      dsimp only at *
      clear hkl hbw
      cases ym
      case true =>
        have hk1 : (k : Int) + 1 ≤ 9223372036854775807 := by omega
        have HX : Hid (plN (fun x => x.mr) 1 L 0 0 = plN (fun x => x.mr) 1 (L.drop (k + 1)) (k + 1) ((k : Int) + 1)) := hide (by rw [unhide HE]; simp)
        go_wp2
        go_roundw
        case rel => exact ⟨k + 1, (k : Int) + 1, by omega, by go_num, by first | rfl | go_num | simp, (unhide HB).alloc (unhide HB).size _, unhide HX⟩
        case measure => simp [intOf]; omega
      case false =>
        have HX : Hid (plN (fun x => x.mr) 1 L 0 0 = plN (fun x => x.mr) 1 (L.drop (k + 1)) (k + 1) x) := hide (by rw [unhide HE]; simp)
        go_wp2
        go_roundw
        case rel => exact ⟨k + 1, x, by omega, by go_num, rfl, (unhide HB).alloc (unhide HB).size _, unhide HX⟩
        case measure => simp [intOf]; omega
    · have hlti : ¬ (k : Int) < (n : Int) := by omega
      have HX : Hid (plN (fun x => x.mr) 1 L 0 0 = x) := hide (by
        have := unhide HR
        rw [List.drop_eq_nil_of_le (by rw [unhide hn]; omega), plN] at this
        exact this)
      clear hlt hbw
      go_wp2
      go_ret
      exact ⟨by rw [unhide HX]; rfl, unhide HB⟩
set_option maxHeartbeats 1000000 in
theorem rpart_zero (p : Nat) (c : Option Addr) (cap : Nat) (w : World) (hb : Blk w p #[.slice c 0 cap] 55) :
    Calls Try.prog 71 #[ptr p] w fun e w' => e = .returned (.int .i64 0) ∧ Below w.heap.size w w' := by
  have c0 : w.cell? ⟨p, 0, none⟩ = some (.slice c 0 cap) := hb.cell 0
  clear hb
  unfold ptr
  go_enter Try.func71, Try.ntmps71
  go_wp2
  refine wp_loop_rounds 1 ?_
  rw [rounds_succ]; go_wp2
  go_ret
  exact ⟨rfl, Below.refl _ _⟩
theorem rpart_any (base p : Nat) (v : Value) (L : List AEnt) (w : World) (h : RStk base p v L w) (hN : L.length ≤ 1000000) :
    Calls Try.prog 71 #[ptr p] w fun e w' => e = .returned (.int .i64 (lastE (fun x => x.mr) L + 1)) ∧ Below w.heap.size w w' := by
  obtain ⟨q, cap, rfl, hc, hm, hg⟩ := h.slice
  by_cases h0 : L.length = 0
  · obtain rfl := List.eq_nil_of_length_eq_zero h0
    rw [lastE_nil]
    exact rpart_zero p q cap w h.1
  · obtain ⟨g, rfl, hgl⟩ := hg (by omega)
    rw [← plN_eq]
    exact rpart_loop g cap p L L.length w (hide rfl) (by omega) hN h.1 h.cells
set_option maxHeartbeats 2000000 in
theorem rfind_loop (g cap p : Nat) (id : Int) (L : List AEnt) (n : Nat) (w : World) (hn : Hid (L.length = n)) (h0 : 0 < n) (hn2 : n ≤ 1000000) (hb : Blk w p #[.slice (some ⟨g, 0, none⟩) n cap] 55) (hc : Cells4 g 0 L w) :
    Calls Try.prog 24 #[ptr p, .int .i64 id] w fun e w' => e = .returned (.int .i64 (plN (isId id) 0 L 0 (-1))) ∧ Below w.heap.size w w' := by
  have c0 : w.cell? ⟨p, 0, none⟩ = some (.slice (some ⟨g, 0, none⟩) n cap) := hb.cell 0
  have HC := hide hc
  clear hb hc
  unfold ptr
  go_enter Try.func24, Try.ntmps24
  go_wp2
  go_loopw [5, 13] (fun a i wr => ∃ (k : Nat) (x : Int), k ≤ n ∧ i = .int .i64 k ∧ a = .int .i64 x ∧ Below w.heap.size w wr ∧ plN (isId id) 0 L 0 (-1) = plN (isId id) 0 (L.drop k) k x) (fun _ i _ => n - (intOf i).toNat)
  case atStart => exact ⟨0, (-1), Nat.zero_le _, rfl, rfl, Below.refl _ _, by simp⟩
  case round =>
    obtain ⟨k, x, hk, rfl, rfl, hbw, hr⟩ := hrel
    have HR := hide hr
    have HB := hide hbw
    clear hr
    by_cases hlt : k < n
    · have hlti : (k : Int) < (n : Int) := by omega
      have hkl : k < L.length := by rw [unhide hn]; exact hlt
      obtain ⟨c1, c2, c3, c4⟩ := (unhide HC).below hbw k hkl
      have HE := hide ((unhide HR).trans (plN_step (isId id) 0 L k x hkl))
      rw [Nat.zero_add] at c1 c2 c3 c4
      generalize L.getD k e0 = y at *
      obtain ⟨ym, yi, yn, yq, yl, yc⟩ := y
      dsimp only at *
      clear hkl hbw
      cases ym
      case true =>
        have HX : Hid (plN (isId id) 0 L 0 (-1) = plN (isId id) 0 (L.drop (k + 1)) (k + 1) x) := hide (by rw [unhide HE]; simp [isId])
        go_wp2
        go_roundw
        case rel => exact ⟨k + 1, x, by omega, by go_num, rfl, (unhide HB).alloc (unhide HB).size _, unhide HX⟩
        case measure => simp [intOf]; omega
      case false =>
       by_cases hxi : yi = id
       ·
        have f1 : (yi == id) = true := by simp [hxi]
        have HX : Hid (plN (isId id) 0 L 0 (-1) = plN (isId id) 0 (L.drop (k + 1)) (k + 1) ((k : Int) + 0)) := hide (by rw [unhide HE]; simp [isId, hxi])
        go_wp2
        go_roundw
        case rel => exact ⟨k + 1, (k : Int) + 0, by omega, by go_num, by first | rfl | go_num | simp, (unhide HB).alloc (unhide HB).size _, unhide HX⟩
        case measure => simp [intOf]; omega
       ·
        have f1 : (yi == id) = false := beq_eq_false_iff_ne.2 hxi
        have HX : Hid (plN (isId id) 0 L 0 (-1) = plN (isId id) 0 (L.drop (k + 1)) (k + 1) x) := hide (by rw [unhide HE]; simp [isId, hxi])
        go_wp2
        go_roundw
        case rel => exact ⟨k + 1, x, by omega, by go_num, rfl, (unhide HB).alloc (unhide HB).size _, unhide HX⟩
        case measure => simp [intOf]; omega
    · have hlti : ¬ (k : Int) < (n : Int) := by omega
      have HX : Hid (plN (isId id) 0 L 0 (-1) = x) := hide (by
        have := unhide HR
        rw [List.drop_eq_nil_of_le (by rw [unhide hn]; omega), plN] at this
        exact this)
      clear hlt hbw
      go_wp2
      go_ret
      exact ⟨by rw [unhide HX]; rfl, unhide HB⟩
set_option maxHeartbeats 1000000 in
theorem rfind_zero (p : Nat) (c : Option Addr) (cap : Nat) (id : Int) (w : World) (hb : Blk w p #[.slice c 0 cap] 55) :
    Calls Try.prog 24 #[ptr p, .int .i64 id] w fun e w' => e = .returned (.int .i64 (-1)) ∧ Below w.heap.size w w' := by
  have c0 : w.cell? ⟨p, 0, none⟩ = some (.slice c 0 cap) := hb.cell 0
  clear hb
  unfold ptr
  go_enter Try.func24, Try.ntmps24
  go_wp2
  refine wp_loop_rounds 1 ?_
  rw [rounds_succ]; go_wp2
  go_ret
  exact ⟨rfl, Below.refl _ _⟩
theorem rfind_any (base p : Nat) (v : Value) (id : Int) (L : List AEnt) (w : World) (h : RStk base p v L w) (hN : L.length ≤ 1000000) :
    Calls Try.prog 24 #[ptr p, .int .i64 id] w fun e w' => e = .returned (.int .i64 (lastE (isId id) L + 0)) ∧ Below w.heap.size w w' := by
  obtain ⟨q, cap, rfl, hc, hm, hg⟩ := h.slice
  by_cases h0 : L.length = 0
  · obtain rfl := List.eq_nil_of_length_eq_zero h0
    rw [lastE_nil]
    exact rfind_zero p q cap id w h.1
  · obtain ⟨g, rfl, hgl⟩ := hg (by omega)
    rw [← plN_eq]
    exact rfind_loop g cap p id L L.length w (hide rfl) (by omega) hN h.1 h.cells
end Go.Proofs.Ytabajhbghjfhoaa

/-
  The reference's Remove, Mark, Insert and Swap.
-/
namespace Go.Proofs.Ytabajhbghjfhoaa
open Go.RowKit
set_option linter.unusedVariables false
set_option linter.unusedSimpArgs false

theorem rwrong_any (x : AEnt) (w : World) : Calls Try.prog 90 #[entV x] w fun r w' => r = .returned (.bool (!isElB x)) ∧ Below w.heap.size w w' := by
  obtain ⟨xm, xi, xn, xq, xl, xc⟩ := x
  unfold entV isElB
  dsimp only
  cases xm with
  | true =>
    go_enter Try.func90, Try.ntmps90
    go_wp2
    go_ret
    exact ⟨rfl, (Below.refl _ _).alloc (Nat.le_refl _) _⟩
  | false =>
   by_cases h0 : 0 ≤ xi
   · rw [decide_eq_true h0]
     have h1 : ¬ xi < 0 := by omega
     clear h0
     go_enter Try.func90, Try.ntmps90
     go_wp2
     go_ret
     exact ⟨rfl, (Below.refl _ _).alloc (Nat.le_refl _) _⟩
   · rw [decide_eq_false h0]
     have h1 : xi < 0 := by omega
     clear h0
     go_enter Try.func90, Try.ntmps90
     go_wp2
     go_ret
     exact ⟨rfl, (Below.refl _ _).alloc (Nat.le_refl _) _⟩
set_option maxHeartbeats 1000000 in
theorem rremove_any (base p : Nat) (v : Value) (id : Int) (L : List AEnt) (w : World) (h : RStk base p v L w) (hbase : base ≤ w.heap.size) (hN : L.length ≤ 1000000) :
    Calls Try.prog 61 #[ptr p, .int .i64 id] w fun e w' => e = .returned (.bool (decide (0 ≤ lastE (isId id) L))) ∧ RUpd base p v (if 0 ≤ lastE (isId id) L then L.eraseIdx (lastE (isId id) L).toNat else L) w w' := by
  have C := hide (rfind_any base p v id L w h hN)
  rw [Int.add_zero] at C
  have hlt := lastE_lt (isId id) L
  by_cases h0 : 0 ≤ lastE (isId id) L
  · rw [if_pos h0, decide_eq_true h0]
    have e : (((lastE (isId id) L).toNat : Nat) : Int) = lastE (isId id) L := by omega
    have D : Hid (∀ W, Below w.heap.size w W → Calls Try.prog 91 #[ptr p, .int .i64 (lastE (isId id) L)] W fun e w' => e = .returned (.tuple #[]) ∧ RUpd base p v (L.eraseIdx (lastE (isId id) L).toNat) w w') := hide fun W hW => by
      have := rdrop_any base p (lastE (isId id) L).toNat v L W (h.later hW) (Nat.le_trans hbase hW.size) hN (by omega)
      rw [e] at this
      refine this.mono ?_
      rintro e w' ⟨rfl, hu⟩
      exact ⟨rfl, RUpd.ahead hW hu⟩
    generalize lastE (isId id) L = k at *
    have h1 : ¬ k < 0 := by omega
    clear e h hlt
    unfold ptr at *
    go_enter Try.func61, Try.ntmps61
    go_wp2_with fail
    refine (unhide C).mono ?_
    rintro e w1 ⟨rfl, hb1⟩
    have HB1 := hide hb1
    clear hb1
    go_wp2_with fail
    refine (unhide D _ (unhide HB1)).mono ?_
    rintro e w2 ⟨rfl, hu⟩
    have HU := hide hu
    clear hu
    go_wp2
    go_ret
    exact ⟨rfl, unhide HU⟩
  · rw [if_neg h0, decide_eq_false h0]
    have H := hide h
    generalize lastE (isId id) L = k at *
    have h1 : k < 0 := by omega
    clear h hlt
    unfold ptr at *
    go_enter Try.func61, Try.ntmps61
    go_wp2_with fail
    refine (unhide C).mono ?_
    rintro e w1 ⟨rfl, hb1⟩
    have HB1 := hide hb1
    clear hb1
    go_wp2
    go_ret
    exact ⟨rfl, RUpd.same (unhide H) (unhide HB1)⟩
set_option maxHeartbeats 1000000 in
theorem rmark_any (base p : Nat) (v : Value) (L : List AEnt) (w : World) (h : RStk base p v L w) (hbase : base ≤ w.heap.size) :
    Calls Try.prog 57 #[ptr p] w fun e w' => e = .returned (.int .i64 (if 100 ≤ L.length then 5 else 0)) ∧ RUpd base p v (if 100 ≤ L.length then L else L ++ [⟨true, 0, ⟨#[]⟩, none, 0, 0⟩]) w w' := by
  obtain ⟨q, cap, hv, hc, hm, _⟩ := h.slice
  have c0 : w.cell? ⟨p, 0, none⟩ = some (.slice q L.length cap) := (h.1.cell 0).trans (by rw [hv]; rfl)
  have H := hide h
  by_cases hl : 100 ≤ L.length
  · rw [if_pos hl, if_pos hl]
    have hli : (99 : Int) < (L.length : Int) := by omega
    clear h hv
    generalize L.length = n at *
    unfold ptr
    go_enter Try.func57, Try.ntmps57
    go_wp2
    go_ret
    exact ⟨rfl, RUpd.same (unhide H) (Below.refl _ _)⟩
  · rw [if_neg hl, if_neg hl]
    have hli : ¬ (99 : Int) < (L.length : Int) := by omega
    have C := hide (rput_any base p L.length v ⟨true, 0, ⟨#[]⟩, none, 0, 0⟩ L w h hbase (by omega) (Nat.le_refl _))
    rw [List.take_length, List.drop_length, List.append_nil] at C
    clear h hv
    generalize L.length = n at *
    unfold ptr entV at *
    dsimp only at *
    go_enter Try.func57, Try.ntmps57
    go_wp2_with fail
    refine (unhide C).mono ?_
    rintro e w1 ⟨rfl, hu⟩
    have HU := hide hu
    clear hu
    go_wp2
    go_ret
    exact ⟨rfl, unhide HU⟩
end Go.Proofs.Ytabajhbghjfhoaa

/-
  The reference's Insert and Swap.
-/
namespace Go.Proofs.Ytabajhbghjfhoaa
open Go.RowKit
set_option linter.unusedVariables false
set_option linter.unusedSimpArgs false

set_option maxHeartbeats 2000000 in
theorem rinsert_any (base p : Nat) (v : Value) (at' : Int) (x : AEnt) (L : List AEnt) (w : World) (h : RStk base p v L w) (hbase : base ≤ w.heap.size) :
    Calls Try.prog 64 #[ptr p, .int .i64 at', entV x] w fun e w' => e = .returned (.int .i64 (if isElB x = false ∨ at' < 0 ∨ (L.length : Int) < at' then 1 else if 100 ≤ L.length then 5 else 0)) ∧
      RUpd base p v (if isElB x = false ∨ at' < 0 ∨ (L.length : Int) < at' then L else if 100 ≤ L.length then L else L.take at'.toNat ++ [x] ++ L.drop at'.toNat) w w' := by
  obtain ⟨q, cap, hv, hc, hm, _⟩ := h.slice
  have CP : Hid (∀ W, Below w.heap.size w W → W.cell? ⟨p, 0, none⟩ = some (.slice q L.length cap)) := hide fun W hW => ((h.later hW).1.cell 0).trans (by rw [hv]; rfl)
  have H := hide h
  have C := hide (fun w => rwrong_any x w)
  have DD : Hid (¬ (isElB x = false ∨ at' < 0 ∨ (L.length : Int) < at') → ¬ 100 ≤ L.length → ∀ W, Below w.heap.size w W → Calls Try.prog 92 #[ptr p, .int .i64 at', entV x] W fun e w' => e = .returned (.tuple #[]) ∧ RUpd base p v (L.take at'.toNat ++ [x] ++ L.drop at'.toNat) w w') := hide fun h1 h2 W hW => by
    have e : ((at'.toNat : Nat) : Int) = at' := by omega
    have := rput_any base p at'.toNat v x L W (h.later hW) (Nat.le_trans hbase hW.size) (by omega) (by omega)
    rw [e] at this
    refine this.mono ?_
    rintro e w' ⟨rfl, hu⟩
    exact ⟨rfl, RUpd.ahead hW hu⟩
  clear h hv
  by_cases hb : isElB x = false ∨ at' < 0 ∨ (L.length : Int) < at'
  · rw [if_pos hb, if_pos hb]
    clear DD
    cases hE : isElB x with
    | false =>
      rw [hE] at C
      obtain ⟨xm, xi, xn, xq, xl, xc⟩ := x
      clear hE hb
      generalize L.length = n at *
      unfold ptr entV at *
      dsimp only at *
      go_enter Try.func64, Try.ntmps64
      go_wp2_with fail
      refine (unhide C _).mono ?_
      rintro e w1 ⟨rfl, hb⟩
      have HB := hide (bel_of hb)
      have K1 := hide ((Blk.new w #[.bool xm, .int .i64 xi, .string xn, .slice xq xl xc] 65).later hb)
      have c0 : w1.cell? ⟨p, 0, none⟩ = some (.slice q n cap) := unhide CP w1 (unhide HB)
      have m0 : w1.cell? ⟨w.heap.size, 0, none⟩ = some (.bool xm) := (unhide K1).cell 0
      have m1 : w1.cell? ⟨w.heap.size, 1, none⟩ = some (.int .i64 xi) := (unhide K1).cell 1
      have m2 : w1.cell? ⟨w.heap.size, 2, none⟩ = some (.string xn) := (unhide K1).cell 2
      have m3 : w1.cell? ⟨w.heap.size, 3, none⟩ = some (.slice xq xl xc) := (unhide K1).cell 3
      clear hb
      go_wp2
      go_ret
      exact ⟨rfl, RUpd.same (unhide H) (unhide HB)⟩
    | true =>
      rw [hE] at C
      by_cases ha : at' < 0
      · have hd : decide (at' < 0) = true := decide_eq_true ha
        obtain ⟨xm, xi, xn, xq, xl, xc⟩ := x
        clear hE hb
        generalize L.length = n at *
        unfold ptr entV at *
        dsimp only at *
        go_enter Try.func64, Try.ntmps64
        go_wp2_with fail
        refine (unhide C _).mono ?_
        rintro e w1 ⟨rfl, hb⟩
        have HB := hide (bel_of hb)
        have K1 := hide ((Blk.new w #[.bool xm, .int .i64 xi, .string xn, .slice xq xl xc] 65).later hb)
        have c0 : w1.cell? ⟨p, 0, none⟩ = some (.slice q n cap) := unhide CP w1 (unhide HB)
        have m0 : w1.cell? ⟨w.heap.size, 0, none⟩ = some (.bool xm) := (unhide K1).cell 0
        have m1 : w1.cell? ⟨w.heap.size, 1, none⟩ = some (.int .i64 xi) := (unhide K1).cell 1
        have m2 : w1.cell? ⟨w.heap.size, 2, none⟩ = some (.string xn) := (unhide K1).cell 2
        have m3 : w1.cell? ⟨w.heap.size, 3, none⟩ = some (.slice xq xl xc) := (unhide K1).cell 3
        clear hb
        go_wp2
        go_ret
        exact ⟨rfl, RUpd.same (unhide H) (unhide HB)⟩
      · have hf : (L.length : Int) < at' := by
          rcases hb with h | h | h
          · rw [hE] at h; cases h
          · exact absurd h ha
          · exact h
        have hd : decide (at' < 0) = false := decide_eq_false ha
        obtain ⟨xm, xi, xn, xq, xl, xc⟩ := x
        clear hE hb
        generalize L.length = n at *
        unfold ptr entV at *
        dsimp only at *
        go_enter Try.func64, Try.ntmps64
        go_wp2_with fail
        refine (unhide C _).mono ?_
        rintro e w1 ⟨rfl, hb⟩
        have HB := hide (bel_of hb)
        have K1 := hide ((Blk.new w #[.bool xm, .int .i64 xi, .string xn, .slice xq xl xc] 65).later hb)
        have c0 : w1.cell? ⟨p, 0, none⟩ = some (.slice q n cap) := unhide CP w1 (unhide HB)
        have m0 : w1.cell? ⟨w.heap.size, 0, none⟩ = some (.bool xm) := (unhide K1).cell 0
        have m1 : w1.cell? ⟨w.heap.size, 1, none⟩ = some (.int .i64 xi) := (unhide K1).cell 1
        have m2 : w1.cell? ⟨w.heap.size, 2, none⟩ = some (.string xn) := (unhide K1).cell 2
        have m3 : w1.cell? ⟨w.heap.size, 3, none⟩ = some (.slice xq xl xc) := (unhide K1).cell 3
        clear hb
        go_wp2
        go_ret
        exact ⟨rfl, RUpd.same (unhide H) (unhide HB)⟩
  · rw [if_neg hb, if_neg hb]
    have hE : isElB x = true := by
      cases hx : isElB x with
      | true => rfl
      | false => exact absurd (Or.inl hx) hb
    have ha : ¬ at' < 0 := fun h => hb (Or.inr (Or.inl h))
    have hf : ¬ (L.length : Int) < at' := fun h => hb (Or.inr (Or.inr h))
    have hd : decide (at' < 0) = false := decide_eq_false ha
    rw [hE] at C
    by_cases hl : 100 ≤ L.length
    · rw [if_pos hl, if_pos hl]
      have hli : (99 : Int) < (L.length : Int) := by omega
      obtain ⟨xm, xi, xn, xq, xl, xc⟩ := x
      clear hE hb DD
      generalize L.length = n at *
      unfold ptr entV at *
      dsimp only at *
      go_enter Try.func64, Try.ntmps64
      go_wp2_with fail
      refine (unhide C _).mono ?_
      rintro e w1 ⟨rfl, hb⟩
      have HB := hide (bel_of hb)
      have K1 := hide ((Blk.new w #[.bool xm, .int .i64 xi, .string xn, .slice xq xl xc] 65).later hb)
      have c0 : w1.cell? ⟨p, 0, none⟩ = some (.slice q n cap) := unhide CP w1 (unhide HB)
      have m0 : w1.cell? ⟨w.heap.size, 0, none⟩ = some (.bool xm) := (unhide K1).cell 0
      have m1 : w1.cell? ⟨w.heap.size, 1, none⟩ = some (.int .i64 xi) := (unhide K1).cell 1
      have m2 : w1.cell? ⟨w.heap.size, 2, none⟩ = some (.string xn) := (unhide K1).cell 2
      have m3 : w1.cell? ⟨w.heap.size, 3, none⟩ = some (.slice xq xl xc) := (unhide K1).cell 3
      clear hb
      go_wp2
      go_ret
      exact ⟨rfl, RUpd.same (unhide H) (unhide HB)⟩
    · rw [if_neg hl, if_neg hl]
      have hli : ¬ (99 : Int) < (L.length : Int) := by omega
      have D := hide (unhide DD hb hl)
      obtain ⟨xm, xi, xn, xq, xl, xc⟩ := x
      clear hE hb DD
      generalize L.length = n at *
      unfold ptr entV at *
      dsimp only at *
      go_enter Try.func64, Try.ntmps64
      go_wp2_with fail
      refine (unhide C _).mono ?_
      rintro e w1 ⟨rfl, hb⟩
      have HB := hide (bel_of hb)
      have K1 := hide ((Blk.new w #[.bool xm, .int .i64 xi, .string xn, .slice xq xl xc] 65).later hb)
      have c0 : w1.cell? ⟨p, 0, none⟩ = some (.slice q n cap) := unhide CP w1 (unhide HB)
      have m0 : w1.cell? ⟨w.heap.size, 0, none⟩ = some (.bool xm) := (unhide K1).cell 0
      have m1 : w1.cell? ⟨w.heap.size, 1, none⟩ = some (.int .i64 xi) := (unhide K1).cell 1
      have m2 : w1.cell? ⟨w.heap.size, 2, none⟩ = some (.string xn) := (unhide K1).cell 2
      have m3 : w1.cell? ⟨w.heap.size, 3, none⟩ = some (.slice xq xl xc) := (unhide K1).cell 3
      clear hb
      go_wp2_with fail
      refine (unhide D _ (unhide HB)).mono ?_
      rintro e w2 ⟨rfl, hu⟩
      have HU := hide hu
      clear hu
      go_wp2
      go_ret
      exact ⟨rfl, unhide HU⟩
set_option maxHeartbeats 2000000 in
theorem rswap_any (base p : Nat) (v : Value) (id : Int) (x : AEnt) (L : List AEnt) (w : World) (h : RStk base p v L w) (hbase : base ≤ w.heap.size) (hN : L.length ≤ 1000) :
    Calls Try.prog 63 #[ptr p, .int .i64 id, entV x] w fun e w' => e = .returned (.bool (decide (0 ≤ lastE (isId id) L ∧ isElB x = true))) ∧
      RUpd base p v (if 0 ≤ lastE (isId id) L ∧ isElB x = true then (L.eraseIdx (lastE (isId id) L).toNat).take (lastE (isId id) L).toNat ++ [x] ++ (L.eraseIdx (lastE (isId id) L).toNat).drop (lastE (isId id) L).toNat else L) w w' := by
  have hlt := lastE_lt (isId id) L
  have H := hide h
  have C := hide (fun w => rwrong_any x w)
  obtain ⟨xm, xi, xn, xq, xl, xc⟩ := x
  have BA : Hid (Below w.heap.size w (w.alloc (Obj.cells #[.bool xm, .int .i64 xi, .string xn, .slice xq xl xc] 65))) := hide ((Below.refl _ _).alloc (Nat.le_refl _) _)
  have CF := hide (rfind_any base p v id L _ (h.later (unhide BA)) (by omega))
  rw [Int.add_zero] at CF
  by_cases h0 : 0 ≤ lastE (isId id) L
  · have e : (((lastE (isId id) L).toNat : Nat) : Int) = lastE (isId id) L := by omega
    cases hE : isElB ⟨xm, xi, xn, xq, xl, xc⟩ with
    | false =>
      rw [if_neg (by simp), decide_eq_false (by simp)]
      rw [hE] at C
      generalize lastE (isId id) L = k at *
      have h1 : ¬ k < 0 := by omega
      clear h hE e hlt
      unfold ptr entV at *
      dsimp only at *
      go_enter Try.func63, Try.ntmps63
      go_wp2_with fail
      refine (unhide CF).mono ?_
      rintro e w1 ⟨rfl, hb⟩
      have HB := hide ((unhide BA).trans (hb.mono (unhide BA).size))
      have K1 := hide ((Blk.new w #[.bool xm, .int .i64 xi, .string xn, .slice xq xl xc] 65).later hb)
      have m0 : w1.cell? ⟨w.heap.size, 0, none⟩ = some (.bool xm) := (unhide K1).cell 0
      have m1 : w1.cell? ⟨w.heap.size, 1, none⟩ = some (.int .i64 xi) := (unhide K1).cell 1
      have m2 : w1.cell? ⟨w.heap.size, 2, none⟩ = some (.string xn) := (unhide K1).cell 2
      have m3 : w1.cell? ⟨w.heap.size, 3, none⟩ = some (.slice xq xl xc) := (unhide K1).cell 3
      clear hb
      go_wp2_with fail
      refine (unhide C _).mono ?_
      rintro e w2 ⟨rfl, hb⟩
      have HB2 := hide ((unhide HB).trans (hb.mono (unhide HB).size))
      have K2 := hide ((unhide K1).later hb)
      clear hb m0 m1 m2 m3
      go_wp2
      go_ret
      exact ⟨rfl, RUpd.same (unhide H) (unhide HB2)⟩
    | true =>
      rw [if_pos ⟨h0, rfl⟩, decide_eq_true ⟨h0, rfl⟩]
      rw [hE] at C
      have DR : Hid (∀ W, Below w.heap.size w W → Calls Try.prog 91 #[ptr p, .int .i64 (lastE (isId id) L)] W fun e w' => e = .returned (.tuple #[]) ∧ RUpd base p v (L.eraseIdx (lastE (isId id) L).toNat) W w') := hide fun W hW => by
        have := rdrop_any base p (lastE (isId id) L).toNat v L W (h.later hW) (Nat.le_trans hbase hW.size) (by omega) (by omega)
        rw [e] at this
        exact this
      have DP : Hid (∀ W v3, w.heap.size ≤ W.heap.size → RStk base p v3 (L.eraseIdx (lastE (isId id) L).toNat) W → Calls Try.prog 92 #[ptr p, .int .i64 (lastE (isId id) L), entV ⟨xm, xi, xn, xq, xl, xc⟩] W fun e w' => e = .returned (.tuple #[]) ∧ RUpd base p v3 ((L.eraseIdx (lastE (isId id) L).toNat).take (lastE (isId id) L).toNat ++ [⟨xm, xi, xn, xq, xl, xc⟩] ++ (L.eraseIdx (lastE (isId id) L).toNat).drop (lastE (isId id) L).toNat) W w') := hide fun W v3 hz hs => by
        have hl : (L.eraseIdx (lastE (isId id) L).toNat).length = L.length - 1 := by rw [List.length_eraseIdx, if_pos (by omega)]
        have := rput_any base p (lastE (isId id) L).toNat v3 ⟨xm, xi, xn, xq, xl, xc⟩ _ W hs (Nat.le_trans hbase hz) (by omega) (by omega)
        rw [e] at this
        exact this
      generalize hT : (L.eraseIdx (lastE (isId id) L).toNat).take (lastE (isId id) L).toNat ++ [(⟨xm, xi, xn, xq, xl, xc⟩ : AEnt)] ++ (L.eraseIdx (lastE (isId id) L).toNat).drop (lastE (isId id) L).toNat = T at *
      clear hT
      generalize L.eraseIdx (lastE (isId id) L).toNat = T1 at *
      generalize lastE (isId id) L = k at *
      have h1 : ¬ k < 0 := by omega
      clear h hE e hlt
      unfold ptr entV at *
      dsimp only at *
      go_enter Try.func63, Try.ntmps63
      go_wp2_with fail
      refine (unhide CF).mono ?_
      rintro e w1 ⟨rfl, hb⟩
      have HB := hide ((unhide BA).trans (hb.mono (unhide BA).size))
      have K1 := hide ((Blk.new w #[.bool xm, .int .i64 xi, .string xn, .slice xq xl xc] 65).later hb)
      have m0 : w1.cell? ⟨w.heap.size, 0, none⟩ = some (.bool xm) := (unhide K1).cell 0
      have m1 : w1.cell? ⟨w.heap.size, 1, none⟩ = some (.int .i64 xi) := (unhide K1).cell 1
      have m2 : w1.cell? ⟨w.heap.size, 2, none⟩ = some (.string xn) := (unhide K1).cell 2
      have m3 : w1.cell? ⟨w.heap.size, 3, none⟩ = some (.slice xq xl xc) := (unhide K1).cell 3
      clear hb
      go_wp2_with fail
      refine (unhide C _).mono ?_
      rintro e w2 ⟨rfl, hb⟩
      have HB2 := hide ((unhide HB).trans (hb.mono (unhide HB).size))
      have K2 := hide ((unhide K1).later hb)
      clear hb m0 m1 m2 m3
      go_wp2_with fail
      refine (unhide DR _ (unhide HB2)).mono ?_
      rintro e w3 ⟨rfl, v3, hs3, ht3, ho3⟩
      have K3 := hide (ht3.blk_new (unhide K2) (unhide H).lt (unhide H).own)
      have HP := hide (unhide DP _ v3 (Nat.le_trans (unhide HB2).size ht3.size) hs3)
      have HT := hide ht3
      have HO := hide ho3
      have m0 : w3.cell? ⟨w.heap.size, 0, none⟩ = some (.bool xm) := (unhide K3).cell 0
      have m1 : w3.cell? ⟨w.heap.size, 1, none⟩ = some (.int .i64 xi) := (unhide K3).cell 1
      have m2 : w3.cell? ⟨w.heap.size, 2, none⟩ = some (.string xn) := (unhide K3).cell 2
      have m3 : w3.cell? ⟨w.heap.size, 3, none⟩ = some (.slice xq xl xc) := (unhide K3).cell 3
      clear hs3 ht3 ho3
      go_wp2_with fail
      refine (unhide HP).mono ?_
      rintro e w4 ⟨rfl, hu⟩
      have HU := hide (RUpd.ahead (unhide HB2) (RUpd.trans (L := L) (unhide HT) (unhide HO) hu))
      clear hu
      go_wp2
      go_ret
      exact ⟨rfl, unhide HU⟩
  · rw [if_neg (fun h => h0 h.1), decide_eq_false (fun h => h0 h.1)]
    generalize lastE (isId id) L = k at *
    have h1 : k < 0 := by omega
    clear h hlt
    unfold ptr entV at *
    dsimp only at *
    go_enter Try.func63, Try.ntmps63
    go_wp2_with fail
    refine (unhide CF).mono ?_
    rintro e w1 ⟨rfl, hb⟩
    have HB := hide ((unhide BA).trans (hb.mono (unhide BA).size))
    have K1 := hide ((Blk.new w #[.bool xm, .int .i64 xi, .string xn, .slice xq xl xc] 65).later hb)
    have m0 : w1.cell? ⟨w.heap.size, 0, none⟩ = some (.bool xm) := (unhide K1).cell 0
    have m1 : w1.cell? ⟨w.heap.size, 1, none⟩ = some (.int .i64 xi) := (unhide K1).cell 1
    have m2 : w1.cell? ⟨w.heap.size, 2, none⟩ = some (.string xn) := (unhide K1).cell 2
    have m3 : w1.cell? ⟨w.heap.size, 3, none⟩ = some (.slice xq xl xc) := (unhide K1).cell 3
    clear hb
    go_wp2
    go_ret
    exact ⟨rfl, RUpd.same (unhide H) (unhide HB)⟩
end Go.Proofs.Ytabajhbghjfhoaa

/-
  The reference's Clear.
-/
namespace Go.Proofs.Ytabajhbghjfhoaa
open Go.RowKit
set_option linter.unusedVariables false
set_option linter.unusedSimpArgs false

theorem rnew_close {base p n : Nat} {v v' : Value} {L L' : List AEnt} {xs : List Value} {w w3 : World} (hs : RStk base p v L w) (hgr : w.grownBy w3 none) (hown : w3.ownsRow base 65 4 v' n xs) (hn : L'.length = n) (hx : flatE L' = xs) (hat : v'.ownBlock = none ∨ v'.ownBlock = some w.heap.size) (kb : Blk w3 p #[v] 55) :
    RUpd base p v L' w (w3.setCell ⟨p, 0, none⟩ v') := by
  have hp := hs.lt
  have hne : v'.ownBlock ≠ some p := by
    rcases hat with h | h
    · rw [h]; simp
    · rw [h]; simp; omega
  have hgr' : w.grownBy w3 v.ownBlock := ⟨hgr.os, hgr.tape, hgr.output, hgr.size, fun k hk _ => hgr.block k hk (by simp)⟩
  refine ⟨v', ⟨kb.set 0 (by simp) v', ?_, hne⟩, (Tch.of_grown hgr').set _ _, fun k hk => ?_⟩
  · rw [hn, hx]; exact ownsRow_away hown hne _
  · rcases hat with h | h
    · rw [h] at hk; cases hk
    · rw [h] at hk; cases hk; exact Or.inr (Nat.le_refl _)

set_option maxHeartbeats 2000000 in
theorem rclear_mark (base p g cap : Nat) (n : Nat) (L : List AEnt) (w : World) (h : RStk base p (.slice (some ⟨g, 0, none⟩) L.length cap) L w) (hg : g < w.heap.size) (hbase : base ≤ w.heap.size) (hN : L.length ≤ 1000000) (hn : n ≤ L.length) (hc : L.length ≤ cap) (hm : cap ≤ 9223372036854775807) (hp : lastE (fun x => x.mr) L + 1 = (n : Int) + 1) :
    Calls Try.prog 59 #[ptr p] w fun e w' => e = .returned (.tuple #[]) ∧ RUpd base p (.slice (some ⟨g, 0, none⟩) L.length cap) (L.take n) w w' := by
  obtain ⟨i0, hi0, hi1, hi2, hi3⟩ := infoR
  have H := hide h
  have C := hide (rpart_any base p _ L w h hN)
  rw [hp] at C
  have HC : Hid (∀ j u, (flatE (L.take n))[j]? = some u → w.cell? ((⟨g, 0, none⟩ : Addr).add j) = some u) := hide fun j u hj => by
    refine h.2.1.cells rfl j u ?_
    rw [← flatE_take L n hn, List.getElem?_take] at hj
    split at hj
    · exact hj
    · cases hj
  have HL : Hid ((flatE (L.take n)).length = n * 4) := hide (by rw [flatE_len, List.length_take, Nat.min_eq_left hn])
  have HT : Hid ((L.take n).length = n) := hide (by rw [List.length_take, Nat.min_eq_left hn])
  have H1 := hide (flatE_one (L.take n))
  have hnc : n ≤ cap := by omega
  have hnI : (n : Int) ≤ (cap : Int) := by omega
  have hn0 : (0 : Int) ≤ (n : Int) := by omega
  have hn1 : (0 : Int) < (n : Int) + 1 := by omega
  clear h hp
  unfold ptr at *
  go_enter Try.func59, Try.ntmps59
  go_wp2_with fail
  refine (unhide C).mono ?_
  rintro e w0 ⟨rfl, hb⟩
  have HB := hide hb
  have HS := hide ((unhide H).later hb)
  have c0 : w0.cell? ⟨p, 0, none⟩ = some (.slice (some ⟨g, 0, none⟩) L.length cap) := (unhide HS).1.cell 0
  have HC1 : Hid (∀ j u, (flatE (L.take n))[j]? = some u → w0.cell? ((⟨g, 0, none⟩ : Addr).add j) = some u) := hide fun j u hj => by
    have := unhide HC j u hj
    rw [Addr.add_lit] at this ⊢
    exact (hb.cell (p := ⟨g, 0 + j, none⟩) hg).trans this
  have hz0 := hb.size
  clear hb
  go_wp2_with (at_builtin; refine wpList_append_own_at _ rfl _ _ 53 rfl base 65 i0 (.agg #[.bool false, .int .i64 0, .string ⟨#[]⟩, .slice none 0 0]) 4 56 Try.underlying53 hi0 hi1 hi2 hi3 rfl (by decide) _ 0 [] rfl (World.ownsRow_nil _ _ _ _) ⟨g, 0, none⟩ n cap (flatE (L.take n)) rfl ?c1 (unhide HC1) ?c2 ?c3 ?c4 ?c5 ?_)
  case c1 => exact unhide HL
  case c2 => exact unhide H1
  case c3 => simp only [maxLen]; omega
  case c4 => omega
  case c5 => omega
  intro v' w1 hown' hgrow _ hat
  have HAT : Hid (v'.ownBlock = none ∨ v'.ownBlock = some w0.heap.size) := by first | exact hide hat | exact hide (by simpa using hat) | (rcases hat with h | h; · exact hide (Or.inl h); · exact hide (Or.inr h))
  clear hat
  have kb : Blk w1 p #[.slice (some ⟨g, 0, none⟩) L.length cap] 55 := (hgrow.block p (unhide HS).1.lt (by simp [Value.ownBlock])).trans (unhide HS).1
  have d0 : w1.cell? ⟨p, 0, none⟩ = some (.slice (some ⟨g, 0, none⟩) L.length cap) := kb.cell 0
  have f1 : w1.frozen? ⟨p, 0, none⟩ = false := kb.frozen 0
  obtain ⟨q', n', cap', rfl⟩ := row_slice hown'
  go_wp2
  refine bodyPost_end (v := .tuple #[]) (results_none Try.results59 _ _ _) rfl ?_
  refine ⟨rfl, RUpd.ahead (unhide HB) (rnew_close (unhide HS) hgrow hown' ?_ ?_ (unhide HAT) kb)⟩
  · exact (unhide HT).trans (by omega)
  · simp
set_option maxHeartbeats 2000000 in
theorem rclear_all (base p g cap : Nat) (L : List AEnt) (w : World) (h : RStk base p (.slice (some ⟨g, 0, none⟩) L.length cap) L w) (hg : g < w.heap.size) (hbase : base ≤ w.heap.size) (hN : L.length ≤ 1000000) (hn : 0 ≤ L.length) (hc : L.length ≤ cap) (hm : cap ≤ 9223372036854775807) (hp : lastE (fun x => x.mr) L + 1 = 0) :
    Calls Try.prog 59 #[ptr p] w fun e w' => e = .returned (.tuple #[]) ∧ RUpd base p (.slice (some ⟨g, 0, none⟩) L.length cap) (L.take 0) w w' := by
  obtain ⟨i0, hi0, hi1, hi2, hi3⟩ := infoR
  have H := hide h
  have C := hide (rpart_any base p _ L w h hN)
  rw [hp] at C
  have HC : Hid (∀ j u, (flatE (L.take 0))[j]? = some u → w.cell? ((⟨g, 0, none⟩ : Addr).add j) = some u) := hide fun j u hj => by
    refine h.2.1.cells rfl j u ?_
    rw [← flatE_take L 0 hn, List.getElem?_take] at hj
    split at hj
    · exact hj
    · cases hj
  have HL : Hid ((flatE (L.take 0)).length = 0 * 4) := hide (by rw [flatE_len, List.length_take, Nat.min_eq_left hn])
  have HT : Hid ((L.take 0).length = 0) := hide (by rw [List.length_take, Nat.min_eq_left hn])
  have H1 := hide (flatE_one (L.take 0))
  clear h hp
  unfold ptr at *
  go_enter Try.func59, Try.ntmps59
  go_wp2_with fail
  refine (unhide C).mono ?_
  rintro e w0 ⟨rfl, hb⟩
  have HB := hide hb
  have HS := hide ((unhide H).later hb)
  have c0 : w0.cell? ⟨p, 0, none⟩ = some (.slice (some ⟨g, 0, none⟩) L.length cap) := (unhide HS).1.cell 0
  have HC1 : Hid (∀ j u, (flatE (L.take 0))[j]? = some u → w0.cell? ((⟨g, 0, none⟩ : Addr).add j) = some u) := hide fun j u hj => by
    have := unhide HC j u hj
    rw [Addr.add_lit] at this ⊢
    exact (hb.cell (p := ⟨g, 0 + j, none⟩) hg).trans this
  have hz0 := hb.size
  clear hb
  go_wp2_with (at_builtin; refine wpList_append_own_at _ rfl _ _ 53 rfl base 65 i0 (.agg #[.bool false, .int .i64 0, .string ⟨#[]⟩, .slice none 0 0]) 4 56 Try.underlying53 hi0 hi1 hi2 hi3 rfl (by decide) _ 0 [] rfl (World.ownsRow_nil _ _ _ _) ⟨g, 0, none⟩ 0 cap (flatE (L.take 0)) rfl ?c1 (unhide HC1) ?c2 ?c3 ?c4 ?c5 ?_)
  case c1 => exact unhide HL
  case c2 => exact unhide H1
  case c3 => simp only [maxLen]; omega
  case c4 => omega
  case c5 => omega
  intro v' w1 hown' hgrow _ hat
  have HAT : Hid (v'.ownBlock = none ∨ v'.ownBlock = some w0.heap.size) := by first | exact hide hat | exact hide (by simpa using hat) | (rcases hat with h | h; · exact hide (Or.inl h); · exact hide (Or.inr h))
  clear hat
  have kb : Blk w1 p #[.slice (some ⟨g, 0, none⟩) L.length cap] 55 := (hgrow.block p (unhide HS).1.lt (by simp [Value.ownBlock])).trans (unhide HS).1
  have d0 : w1.cell? ⟨p, 0, none⟩ = some (.slice (some ⟨g, 0, none⟩) L.length cap) := kb.cell 0
  have f1 : w1.frozen? ⟨p, 0, none⟩ = false := kb.frozen 0
  obtain ⟨q', n', cap', rfl⟩ := row_slice hown'
  go_wp2
  refine bodyPost_end (v := .tuple #[]) (results_none Try.results59 _ _ _) rfl ?_
  refine ⟨rfl, RUpd.ahead (unhide HB) (rnew_close (unhide HS) hgrow hown' ?_ ?_ (unhide HAT) kb)⟩
  · exact (unhide HT).trans (by omega)
  · simp
set_option maxHeartbeats 2000000 in
theorem rclear_nil (base p : Nat) (w : World) (h : RStk base p (.slice none 0 0) [] w) (hbase : base ≤ w.heap.size) :
    Calls Try.prog 59 #[ptr p] w fun e w' => e = .returned (.tuple #[]) ∧ RUpd base p (.slice none 0 0) [] w w' := by
  obtain ⟨i0, hi0, hi1, hi2, hi3⟩ := infoR
  have H := hide h
  have C := hide (rpart_any base p _ [] w h (by simp))
  rw [show lastE (fun x => x.mr) [] + 1 = 0 from rfl] at C
  clear h
  unfold ptr at *
  go_enter Try.func59, Try.ntmps59
  go_wp2_with fail
  refine (unhide C).mono ?_
  rintro e w0 ⟨rfl, hb⟩
  have HB := hide hb
  have HS := hide ((unhide H).later hb)
  have c0 : w0.cell? ⟨p, 0, none⟩ = some (.slice none 0 0) := (unhide HS).1.cell 0
  have f0 : w0.frozen? ⟨p, 0, none⟩ = false := (unhide HS).1.frozen 0
  clear hb
  go_wp2_with (at_builtin; refine wpList_append_own_none rfl _ _ 53 rfl base 65 i0 4 Try.underlying53 hi0 (.slice none 0 0) 0 [] rfl (World.ownsRow_nil _ _ _ _) rfl ?_)
  go_wp2
  refine bodyPost_end (v := .tuple #[]) (results_none Try.results59 _ _ _) rfl ?_
  exact ⟨rfl, RUpd.ahead (unhide HB) (rnew_close (unhide HS) (grown_refl _ _) (World.ownsRow_nil _ _ _ _) rfl rfl (Or.inl rfl) (unhide HS).1)⟩
theorem rclear_any (base p : Nat) (v : Value) (L : List AEnt) (w : World) (h : RStk base p v L w) (hbase : base ≤ w.heap.size) (hN : L.length ≤ 1000000) :
    Calls Try.prog 59 #[ptr p] w fun e w' => e = .returned (.tuple #[]) ∧ RUpd base p v (L.take (lastE (fun x => x.mr) L).toNat) w w' := by
  have hlt := lastE_lt (fun x => x.mr) L
  rcases h.2.1.2 with ⟨rfl, h0⟩ | ⟨g, cap, cur, rfl, hb, hg, hc, hm, hcs, htk⟩
  · obtain rfl := List.eq_nil_of_length_eq_zero h0
    rw [List.take_nil]
    exact rclear_nil base p w h hbase
  · have hm' : cap ≤ 9223372036854775807 := by simp only [maxLen] at hm; omega
    have hgl := (Array.getElem?_eq_some_iff.1 hg).1
    by_cases h0 : lastE (fun x => x.mr) L < 0
    · have e : lastE (fun x => x.mr) L = -1 := by omega
      have e2 : (lastE (fun x => x.mr) L).toNat = 0 := by rw [e]; rfl
      rw [e2]
      exact rclear_all base p g cap L w h hgl hbase hN (by omega) hc hm' (by rw [e]; rfl)
    · exact rclear_mark base p g cap (lastE (fun x => x.mr) L).toNat L w h hgl hbase hN (by omega) hc hm' (by omega)
end Go.Proofs.Ytabajhbghjfhoaa

/-
  The reference's Last.
-/
namespace Go.Proofs.Ytabajhbghjfhoaa
open Go.RowKit
set_option linter.unusedVariables false
set_option linter.unusedSimpArgs false

/-- The last place of what holds there; else what was. -/
def plI (f : Nat → AEnt → Bool) : List AEnt → Nat → Int → Int
  | [], _, a => a
  | e :: r, i, a => plI f r (i + 1) (if f i e = true then (i : Int) else a)
theorem plI_step (f : Nat → AEnt → Bool) (L : List AEnt) (k : Nat) (a : Int) (h : k < L.length) : plI f (L.drop k) k a = plI f (L.drop (k + 1)) (k + 1) (if f k (L.getD k e0) = true then (k : Int) else a) := by
  rw [List.drop_eq_getElem_cons h, getD_get h, plI]
def rlB (nm : ByteArray) (pt : Int) (i : Nat) (x : AEnt) : Bool := decide (pt ≤ (i : Int)) && (x.nm.toList == nm.toList)
set_option maxHeartbeats 2000000 in
theorem rlast_loop (base g cap p : Nat) (nm : ByteArray) (L : List AEnt) (n : Nat) (pt : Int) (w : World) (hn : Hid (L.length = n)) (h0 : 0 < n) (hn2 : n ≤ 1000000) (h : RStk base p (.slice (some ⟨g, 0, none⟩) n cap) L w) (hpt : lastE (fun x => x.mr) L + 1 = pt) :
    Calls Try.prog 28 #[ptr p, .string nm] w fun e w' => e = .returned (.int .i64 (plI (rlB nm pt) L 0 (-1))) ∧ Below w.heap.size w w' := by
  have c0 : w.cell? ⟨p, 0, none⟩ = some (.slice (some ⟨g, 0, none⟩) n cap) := h.1.cell 0
  have HC := hide h.cells
  have CP : Hid (∀ W, Below w.heap.size w W → Calls Try.prog 71 #[ptr p] W fun e w' => e = .returned (.int .i64 pt) ∧ Below W.heap.size W w') := hide fun W hW => by
    have := rpart_any base p _ L W (h.later hW) (by rw [unhide hn]; exact hn2)
    rw [hpt] at this
    exact this
  clear h hpt
  unfold ptr at *
  go_enter Try.func28, Try.ntmps28
  go_wp2
  go_loopw [5, 13] (fun a i wr => ∃ (k : Nat) (x : Int), k ≤ n ∧ i = .int .i64 k ∧ a = .int .i64 x ∧ Below w.heap.size w wr ∧ plI (rlB nm pt) L 0 (-1) = plI (rlB nm pt) (L.drop k) k x) (fun _ i _ => n - (intOf i).toNat)
  case atStart => exact ⟨0, -1, Nat.zero_le _, rfl, rfl, Below.refl _ _, by simp⟩
  case round =>
    obtain ⟨k, x, hk, rfl, rfl, hbw, hr⟩ := hrel
    obtain ⟨wr, hbw1, hwr⟩ : ∃ wr', Below w.heap.size w wr' ∧ wr' = _ := ⟨_, hbw, rfl⟩
    subst hwr
    clear hbw1
    have HR := hide hr
    have HB := hide hbw
    clear hr
    by_cases hlt : k < n
    · have hlti : (k : Int) < (n : Int) := by omega
      have hkl : k < L.length := by rw [unhide hn]; exact hlt
      obtain ⟨c1, c2, c3, c4⟩ := (unhide HC).below hbw k hkl
      have HE := hide ((unhide HR).trans (plI_step (rlB nm pt) L k x hkl))
      rw [Nat.zero_add] at c1 c2 c3 c4
      generalize L.getD k e0 = y at *
      obtain ⟨ym, yi, yn, yq, yl, yc⟩ := y
      dsimp only at *
      have HA : Hid (Below w.heap.size w (wr.alloc (Obj.cells #[.bool ym, .int .i64 yi, .string yn, .slice yq yl yc] 65))) := hide (hbw.alloc hbw.size _)
      have KY : Hid (Blk (wr.alloc (Obj.cells #[.bool ym, .int .i64 yi, .string yn, .slice yq yl yc] 65)) wr.heap.size #[.bool ym, .int .i64 yi, .string yn, .slice yq yl yc] 65) := hide (Blk.new wr _ _)
      clear hkl hbw
      by_cases hp : pt ≤ (k : Int)
      · by_cases hxi : (yn.toList == nm.toList) = true
        · have hxj : yn.toList = nm.toList := by simpa using hxi
          have HX : Hid (plI (rlB nm pt) L 0 (-1) = plI (rlB nm pt) (L.drop (k + 1)) (k + 1) (k : Int)) := hide (by rw [unhide HE]; simp [rlB, hp, hxi])
          go_wp2_with fail
          refine (unhide CP _ (unhide HA)).mono ?_
          rintro e w2 ⟨rfl, hb2⟩
          have HB2 := hide ((unhide HA).trans (hb2.mono (unhide HA).size))
          have K2 := (unhide KY).later hb2
          have y2 : w2.cell? ⟨wr.heap.size, 2, none⟩ = some (.string yn) := K2.cell 2
          clear hb2 K2
          go_wp2
          go_roundw
          case rel => exact ⟨k + 1, k, by omega, by go_num, rfl, unhide HB2, unhide HX⟩
          case measure => simp [intOf]; omega
        · have f2 : (yn.toList == nm.toList) = false := by simpa using hxi
          have f3 : ¬ yn.toList = nm.toList := by simpa using hxi
          clear hxi
          have HX : Hid (plI (rlB nm pt) L 0 (-1) = plI (rlB nm pt) (L.drop (k + 1)) (k + 1) x) := hide (by rw [unhide HE]; simp [rlB, f2])
          go_wp2_with fail
          refine (unhide CP _ (unhide HA)).mono ?_
          rintro e w2 ⟨rfl, hb2⟩
          have HB2 := hide ((unhide HA).trans (hb2.mono (unhide HA).size))
          have K2 := (unhide KY).later hb2
          have y2 : w2.cell? ⟨wr.heap.size, 2, none⟩ = some (.string yn) := K2.cell 2
          clear hb2 K2
          go_wp2
          go_roundw
          case rel => exact ⟨k + 1, x, by omega, by go_num, rfl, unhide HB2, unhide HX⟩
          case measure => simp [intOf]; omega
      · have hp1 : (k : Int) < pt := by omega
        have HX : Hid (plI (rlB nm pt) L 0 (-1) = plI (rlB nm pt) (L.drop (k + 1)) (k + 1) x) := hide (by rw [unhide HE]; simp [rlB, hp])
        go_wp2_with fail
        refine (unhide CP _ (unhide HA)).mono ?_
        rintro e w2 ⟨rfl, hb2⟩
        have HB2 := hide ((unhide HA).trans (hb2.mono (unhide HA).size))
        have K2 := (unhide KY).later hb2
        have y2 : w2.cell? ⟨wr.heap.size, 2, none⟩ = some (.string yn) := K2.cell 2
        clear hb2 K2
        go_wp2
        go_roundw
        case rel => exact ⟨k + 1, x, by omega, by go_num, rfl, unhide HB2, unhide HX⟩
        case measure => simp [intOf]; omega
    · have hlti : ¬ (k : Int) < (n : Int) := by omega
      have HX : Hid (plI (rlB nm pt) L 0 (-1) = x) := hide (by
        have := unhide HR
        rw [List.drop_eq_nil_of_le (by rw [unhide hn]; omega), plI] at this
        exact this)
      clear hlt hbw
      go_wp2
      go_ret
      exact ⟨by rw [unhide HX]; rfl, unhide HB⟩
set_option maxHeartbeats 1000000 in
theorem rlast_zero (p : Nat) (c : Option Addr) (cap : Nat) (nm : ByteArray) (w : World) (hb : Blk w p #[.slice c 0 cap] 55) :
    Calls Try.prog 28 #[ptr p, .string nm] w fun e w' => e = .returned (.int .i64 (-1)) ∧ Below w.heap.size w w' := by
  have c0 : w.cell? ⟨p, 0, none⟩ = some (.slice c 0 cap) := hb.cell 0
  clear hb
  unfold ptr
  go_enter Try.func28, Try.ntmps28
  go_wp2
  refine wp_loop_rounds 1 ?_
  rw [rounds_succ]; go_wp2
  go_ret
  exact ⟨rfl, Below.refl _ _⟩
theorem rlast_any (base p : Nat) (v : Value) (nm : ByteArray) (L : List AEnt) (w : World) (h : RStk base p v L w) (hN : L.length ≤ 1000000) :
    Calls Try.prog 28 #[ptr p, .string nm] w fun e w' => e = .returned (.int .i64 (plI (rlB nm (lastE (fun x => x.mr) L + 1)) L 0 (-1))) ∧ Below w.heap.size w w' := by
  obtain ⟨q, cap, rfl, hc, hm, hg⟩ := h.slice
  by_cases h0 : L.length = 0
  · obtain rfl := List.eq_nil_of_length_eq_zero h0
    exact rlast_zero p q cap nm w h.1
  · obtain ⟨g, rfl, hgl⟩ := hg (by omega)
    exact rlast_loop base g cap p nm L L.length _ w (hide rfl) (by omega) hN h rfl
end Go.Proofs.Ytabajhbghjfhoaa
