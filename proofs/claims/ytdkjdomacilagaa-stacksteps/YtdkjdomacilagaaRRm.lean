/-
  The reference's Remove.
-/
import Derived.Test.YtdkjdomacilagaaRIn
namespace Go.Proofs.Ytdkjdomacilagaa
open Go.RowKit
set_option linter.unusedVariables false
set_option linter.unusedSimpArgs false

theorem rnew_close2 {base p n : Nat} {v v' : Value} {L L' : List Ent} {xs : List Value} {w w3 : World} (hs : RStk base p v L w) (hgr : w.grownBy w3 none) (hown : w3.ownsRow base 42 3 v' n xs) (hn : L'.length = n) (hx : flatE L' = xs) (hat : ∀ k, v'.ownBlock = some k → w.heap.size ≤ k) (kb : Blk w3 p #[v] 30) :
    RUpd base p v L' w (w3.setCell ⟨p, 0, none⟩ v') := by
  have hp := hs.lt
  have hne : v'.ownBlock ≠ some p := fun e => by have := hat p e; omega
  have hgr' : w.grownBy w3 v.ownBlock := ⟨hgr.os, hgr.tape, hgr.output, hgr.size, fun k hk _ => hgr.block k hk (by simp)⟩
  refine ⟨v', ⟨kb.set 0 (by simp) v', ?_, hne⟩, (Tch.of_grown hgr').set _ _, fun k hk => Or.inr (hat k hk)⟩
  rw [hn, hx]; exact ownsRow_away hown hne _
theorem grown_two {w w1 w2 : World} {o : Option Nat} (h1 : w.grownBy w1 none) (h2 : w1.grownBy w2 o) (ho : ∀ k, o = some k → w.heap.size ≤ k) : w.grownBy w2 none :=
  ⟨h2.os.trans h1.os, h2.tape.trans h1.tape, h2.output.trans h1.output, Nat.le_trans h1.size h2.size, fun k hk _ => (h2.block k (Nat.lt_of_lt_of_le hk h1.size) (fun e => by have := ho k e.symm; omega)).trans (h1.block k hk (by simp))⟩
theorem at_ge {w w1 : World} {v1 : Value} (hat : v1.ownBlock = none ∨ v1.ownBlock = some w.heap.size) : ∀ k, v1.ownBlock = some k → w.heap.size ≤ k := fun k hk => by
  rcases hat with h | h
  · rw [h] at hk; cases hk
  · rw [h] at hk; cases hk; exact Nat.le_refl _
theorem at_ge2 {w w1 : World} {v1 v2 : Value} (h1 : ∀ k, v1.ownBlock = some k → w.heap.size ≤ k) (hz : w.heap.size ≤ w1.heap.size) (hat : v2.ownBlock = v1.ownBlock ∨ v2.ownBlock = some w1.heap.size) : ∀ k, v2.ownBlock = some k → w.heap.size ≤ k := fun k hk => by
  rcases hat with h | h
  · rw [h] at hk; exact h1 k hk
  · rw [h] at hk; cases hk; exact hz
theorem grown_cell {w w1 : World} (h : w.grownBy w1 none) {g : Nat} (hg : g < w.heap.size) (o : Nat) : w1.cell? ⟨g, o, none⟩ = w.cell? ⟨g, o, none⟩ := by
  have := h.block g hg (by simp)
  unfold World.cell?
  simp only [this]
theorem getD_split (L : List Ent) (i : Nat) : L.eraseIdx i = L.take i ++ L.drop (i + 1) := List.eraseIdx_eq_take_drop_succ ..

set_option maxHeartbeats 2000000 in
set_option maxRecDepth 100000 in
theorem rremove_pos (base p g cap m : Nat) (id : Int) (L : List Ent) (n : Nat) (w : World) (hn : Hid (L.length = n)) (h : RStk base p (.slice (some ⟨g, 0, none⟩) n cap) L w) (hg : g < w.heap.size) (hbase : base ≤ w.heap.size) (hN : n ≤ 1000000) (hc : n ≤ cap) (hm : cap ≤ 9223372036854775807) (hf : findE id L = (m : Int)) (hmn : m < n) :
    Calls Try.prog 49 #[ptr p, .int .i64 id] w fun e w' => e = .returned (.bool true) ∧ RUpd base p (.slice (some ⟨g, 0, none⟩) n cap) (L.eraseIdx m) w w' := by
  obtain ⟨i0, hi0, hi1, hi2, hi3⟩ := infoR
  have hle : m ≤ L.length := by rw [unhide hn]; omega
  have hle1 : m + 1 ≤ L.length := by rw [unhide hn]; omega
  have C := hide (rfind_any base p _ id L w h)
  rw [hf] at C
  have H := hide h
  have HC1 : Hid (∀ j u, (flatE (L.take m))[j]? = some u → w.cell? ((⟨g, 0, none⟩ : Addr).add j) = some u) := hide fun j u hj => by
    refine h.2.1.cells rfl j u ?_
    rw [← flatE_take L m hle, List.getElem?_take] at hj
    split at hj
    · exact hj
    · cases hj
  have HC2 : Hid (∀ j u, (flatE (L.drop (m + 1)))[j]? = some u → w.cell? ((⟨g, (m + 1) * 3, none⟩ : Addr).add j) = some u) := hide fun j u hj => by
    rw [← flatE_drop L (m + 1) hle1, List.getElem?_drop] at hj
    have := h.2.1.cells rfl _ u hj
    rw [Addr.add_lit] at this ⊢
    rw [Nat.zero_add] at this
    exact this
  have HL1 : Hid ((flatE (L.take m)).length = m * 3) := hide (by rw [flatE_len, List.length_take, Nat.min_eq_left hle])
  have HL2 : Hid ((flatE (L.drop (m + 1))).length = (n - (m + 1)) * 3) := hide (by rw [flatE_len, List.length_drop, unhide hn])
  have HE : Hid ((L.eraseIdx m).length = n - 1) := hide (by rw [List.length_eraseIdx, if_pos (by rw [unhide hn]; exact hmn), unhide hn])
  have HF : Hid (flatE (L.eraseIdx m) = flatE (L.take m) ++ flatE (L.drop (m + 1))) := hide (by rw [getD_split, flatE_app])
  have H1 := hide (flatE_one (L.take m))
  have H2 := hide (flatE_one (L.drop (m + 1)))
  have hmi : ¬ (m : Int) < 0 := by omega
  have hmc : (m : Int) ≤ (cap : Int) := by omega
  have hmi2 : (m : Int) + 1 ≤ (n : Int) := by omega
  have hmi0 : (0 : Int) ≤ (m : Int) := by omega
  clear h hf hle hle1
  generalize L.eraseIdx m = T at *
  unfold ptr at *
  by_cases hz : m + 1 = n
  · have HD : Hid (flatE (L.drop (m + 1)) = []) := hide (List.eq_nil_of_length_eq_zero (by rw [unhide HL2]; omega))
    subst hz
    by_cases hcap : cap = m + 1
    · subst hcap
      go_enter Try.func49, Try.ntmps49
      go_wp2_with fail
      refine (unhide C).mono ?_
      rintro e w0 ⟨rfl, hb0⟩
      have hz0 := hb0.size
      have H0 := hide ((unhide H).later hb0)
      have c0 : w0.cell? ⟨p, 0, none⟩ = some (.slice (some ⟨g, 0, none⟩) (m + 1) (m + 1)) := (unhide H0).1.cell 0
      have HB0 := hide hb0
      have HC1' : Hid (∀ j u, (flatE (L.take m))[j]? = some u → w0.cell? ((⟨g, 0, none⟩ : Addr).add j) = some u) := hide fun j u hj => by
        have := unhide HC1 j u hj
        rw [Addr.add_lit] at this ⊢
        exact (hb0.cell (p := ⟨g, 0 + j, none⟩) hg).trans this
      have HC2' : Hid (∀ j u, (flatE (L.drop (m + 1)))[j]? = some u → w0.cell? ((⟨g, (m + 1) * 3, none⟩ : Addr).add j) = some u) := hide fun j u hj => by
        have := unhide HC2 j u hj
        rw [Addr.add_lit] at this ⊢
        exact (hb0.cell (p := ⟨g, (m + 1) * 3 + j, none⟩) hg).trans this
      clear hb0
      go_wp2_with (at_builtin; refine wpList_append_own_at _ rfl _ _ 28 rfl base 42 i0 (.agg #[.int .i64 0, .int .i64 0, .string ⟨#[]⟩]) 3 32 Try.underlying28 hi0 hi1 hi2 hi3 rfl (by decide) _ 0 [] rfl (World.ownsRow_nil _ _ _ _) ⟨g, 0, none⟩ m (m + 1) (flatE (L.take m)) rfl ?c1 (unhide HC1') ?c2 ?c3 ?c4 ?c5 ?_)
      case c1 => exact unhide HL1
      case c2 => exact unhide H1
      case c3 => simp only [maxLen]; omega
      case c4 => omega
      case c5 => omega
      intro v1 w1 hown1 hg1 _ hat1
      have kb1 : Blk w1 p #[.slice (some ⟨g, 0, none⟩) (m + 1) (m + 1)] 30 := (hg1.block p (unhide H0).1.lt (by simp [Value.ownBlock])).trans (unhide H0).1
      have d0 : w1.cell? ⟨p, 0, none⟩ = some (.slice (some ⟨g, 0, none⟩) (m + 1) (m + 1)) := kb1.cell 0
      have KB1 := hide kb1
      have hz1 := hg1.size
      have AG := hide (at_ge (w1 := w1) hat1)
      have G1 := hide hg1
      have HC2'' : Hid (∀ j u, (flatE (L.drop (m + 1)))[j]? = some u → w1.cell? ((⟨g, (m + 1) * 3, none⟩ : Addr).add j) = some u) := hide fun j u hj => by
        have := unhide HC2' j u hj
        rw [Addr.add_lit] at this ⊢
        exact (grown_cell hg1 (by omega) _).trans this
      have O1 := hide hown1
      have OV := hide hown1.lt
      obtain ⟨q1, n1, k1, rfl⟩ := row_slice hown1
      clear hown1 hat1 hg1 kb1
      go_wp2_with (at_builtin; refine wpList_append_own_at _ rfl _ _ 28 rfl base 42 i0 (.agg #[.int .i64 0, .int .i64 0, .string ⟨#[]⟩]) 3 32 Try.underlying28 hi0 hi1 hi2 hi3 rfl (by decide) _ _ _ rfl (unhide O1) _ 0 _ [] rfl ?e1 ?e6 ?e2 ?e3 ?e4 ?e5 ?_)
      case e1 => rfl
      case e6 => intro j u hj; simp at hj
      case e2 => simp
      case e3 => simp only [maxLen]; omega
      case e4 => omega
      case e5 => omega
      intro v2 w2 hown2 hg2 _ hat2
      have kb2 : Blk w2 p #[.slice (some ⟨g, 0, none⟩) (m + 1) (m + 1)] 30 := (hg2.block p (unhide KB1).lt (fun e => by have := unhide AG p e.symm; have := (unhide H0).lt; omega)).trans (unhide KB1)
      have d2 : w2.cell? ⟨p, 0, none⟩ = some (.slice (some ⟨g, 0, none⟩) (m + 1) (m + 1)) := kb2.cell 0
      have f2 : w2.frozen? ⟨p, 0, none⟩ = false := kb2.frozen 0
      have K2 := hide kb2
      have G2 := hide (grown_two (unhide G1) hg2 (unhide AG))
      have A2 := hide (at_ge2 (unhide AG) hz1 hat2)
      have O2 := hide hown2
      obtain ⟨q2, n2, k2, rfl⟩ := row_slice hown2
      clear hown2 hg2 hat2 kb2
      go_wp2
      go_ret
      refine ⟨rfl, RUpd.ahead (unhide HB0) (rnew_close2 (unhide H0) (unhide G2) (unhide O2) ?_ ?_ (unhide A2) (unhide K2))⟩
      · exact (unhide HE).trans (by omega)
      · rw [unhide HF]; rw [unhide HD]; simp
    · 
      go_enter Try.func49, Try.ntmps49
      go_wp2_with fail
      refine (unhide C).mono ?_
      rintro e w0 ⟨rfl, hb0⟩
      have hz0 := hb0.size
      have H0 := hide ((unhide H).later hb0)
      have c0 : w0.cell? ⟨p, 0, none⟩ = some (.slice (some ⟨g, 0, none⟩) (m + 1) cap) := (unhide H0).1.cell 0
      have HB0 := hide hb0
      have HC1' : Hid (∀ j u, (flatE (L.take m))[j]? = some u → w0.cell? ((⟨g, 0, none⟩ : Addr).add j) = some u) := hide fun j u hj => by
        have := unhide HC1 j u hj
        rw [Addr.add_lit] at this ⊢
        exact (hb0.cell (p := ⟨g, 0 + j, none⟩) hg).trans this
      have HC2' : Hid (∀ j u, (flatE (L.drop (m + 1)))[j]? = some u → w0.cell? ((⟨g, (m + 1) * 3, none⟩ : Addr).add j) = some u) := hide fun j u hj => by
        have := unhide HC2 j u hj
        rw [Addr.add_lit] at this ⊢
        exact (hb0.cell (p := ⟨g, (m + 1) * 3 + j, none⟩) hg).trans this
      clear hb0
      go_wp2_with (at_builtin; refine wpList_append_own_at _ rfl _ _ 28 rfl base 42 i0 (.agg #[.int .i64 0, .int .i64 0, .string ⟨#[]⟩]) 3 32 Try.underlying28 hi0 hi1 hi2 hi3 rfl (by decide) _ 0 [] rfl (World.ownsRow_nil _ _ _ _) ⟨g, 0, none⟩ m cap (flatE (L.take m)) rfl ?c1 (unhide HC1') ?c2 ?c3 ?c4 ?c5 ?_)
      case c1 => exact unhide HL1
      case c2 => exact unhide H1
      case c3 => simp only [maxLen]; omega
      case c4 => omega
      case c5 => omega
      intro v1 w1 hown1 hg1 _ hat1
      have kb1 : Blk w1 p #[.slice (some ⟨g, 0, none⟩) (m + 1) cap] 30 := (hg1.block p (unhide H0).1.lt (by simp [Value.ownBlock])).trans (unhide H0).1
      have d0 : w1.cell? ⟨p, 0, none⟩ = some (.slice (some ⟨g, 0, none⟩) (m + 1) cap) := kb1.cell 0
      have KB1 := hide kb1
      have hz1 := hg1.size
      have AG := hide (at_ge (w1 := w1) hat1)
      have G1 := hide hg1
      have HC2'' : Hid (∀ j u, (flatE (L.drop (m + 1)))[j]? = some u → w1.cell? ((⟨g, (m + 1) * 3, none⟩ : Addr).add j) = some u) := hide fun j u hj => by
        have := unhide HC2' j u hj
        rw [Addr.add_lit] at this ⊢
        exact (grown_cell hg1 (by omega) _).trans this
      have O1 := hide hown1
      have OV := hide hown1.lt
      obtain ⟨q1, n1, k1, rfl⟩ := row_slice hown1
      clear hown1 hat1 hg1 kb1
      go_wp2_with (at_builtin; refine wpList_append_own_at _ rfl _ _ 28 rfl base 42 i0 (.agg #[.int .i64 0, .int .i64 0, .string ⟨#[]⟩]) 3 32 Try.underlying28 hi0 hi1 hi2 hi3 rfl (by decide) _ _ _ rfl (unhide O1) _ 0 _ [] rfl ?e1 ?e6 ?e2 ?e3 ?e4 ?e5 ?_)
      case e1 => rfl
      case e6 => intro j u hj; simp at hj
      case e2 => simp
      case e3 => simp only [maxLen]; omega
      case e4 => omega
      case e5 => omega
      intro v2 w2 hown2 hg2 _ hat2
      have kb2 : Blk w2 p #[.slice (some ⟨g, 0, none⟩) (m + 1) cap] 30 := (hg2.block p (unhide KB1).lt (fun e => by have := unhide AG p e.symm; have := (unhide H0).lt; omega)).trans (unhide KB1)
      have d2 : w2.cell? ⟨p, 0, none⟩ = some (.slice (some ⟨g, 0, none⟩) (m + 1) cap) := kb2.cell 0
      have f2 : w2.frozen? ⟨p, 0, none⟩ = false := kb2.frozen 0
      have K2 := hide kb2
      have G2 := hide (grown_two (unhide G1) hg2 (unhide AG))
      have A2 := hide (at_ge2 (unhide AG) hz1 hat2)
      have O2 := hide hown2
      obtain ⟨q2, n2, k2, rfl⟩ := row_slice hown2
      clear hown2 hg2 hat2 kb2
      go_wp2
      go_ret
      refine ⟨rfl, RUpd.ahead (unhide HB0) (rnew_close2 (unhide H0) (unhide G2) (unhide O2) ?_ ?_ (unhide A2) (unhide K2))⟩
      · exact (unhide HE).trans (by omega)
      · rw [unhide HF]; rw [unhide HD]; simp
  · have hzi : (m : Int) + 1 < (n : Int) := by omega
    go_enter Try.func49, Try.ntmps49
    go_wp2_with fail
    refine (unhide C).mono ?_
    rintro e w0 ⟨rfl, hb0⟩
    have hz0 := hb0.size
    have H0 := hide ((unhide H).later hb0)
    have c0 : w0.cell? ⟨p, 0, none⟩ = some (.slice (some ⟨g, 0, none⟩) n cap) := (unhide H0).1.cell 0
    have HB0 := hide hb0
    have HC1' : Hid (∀ j u, (flatE (L.take m))[j]? = some u → w0.cell? ((⟨g, 0, none⟩ : Addr).add j) = some u) := hide fun j u hj => by
      have := unhide HC1 j u hj
      rw [Addr.add_lit] at this ⊢
      exact (hb0.cell (p := ⟨g, 0 + j, none⟩) hg).trans this
    have HC2' : Hid (∀ j u, (flatE (L.drop (m + 1)))[j]? = some u → w0.cell? ((⟨g, (m + 1) * 3, none⟩ : Addr).add j) = some u) := hide fun j u hj => by
      have := unhide HC2 j u hj
      rw [Addr.add_lit] at this ⊢
      exact (hb0.cell (p := ⟨g, (m + 1) * 3 + j, none⟩) hg).trans this
    clear hb0
    go_wp2_with (at_builtin; refine wpList_append_own_at _ rfl _ _ 28 rfl base 42 i0 (.agg #[.int .i64 0, .int .i64 0, .string ⟨#[]⟩]) 3 32 Try.underlying28 hi0 hi1 hi2 hi3 rfl (by decide) _ 0 [] rfl (World.ownsRow_nil _ _ _ _) ⟨g, 0, none⟩ m cap (flatE (L.take m)) rfl ?c1 (unhide HC1') ?c2 ?c3 ?c4 ?c5 ?_)
    case c1 => exact unhide HL1
    case c2 => exact unhide H1
    case c3 => simp only [maxLen]; omega
    case c4 => omega
    case c5 => omega
    intro v1 w1 hown1 hg1 _ hat1
    have kb1 : Blk w1 p #[.slice (some ⟨g, 0, none⟩) n cap] 30 := (hg1.block p (unhide H0).1.lt (by simp [Value.ownBlock])).trans (unhide H0).1
    have d0 : w1.cell? ⟨p, 0, none⟩ = some (.slice (some ⟨g, 0, none⟩) n cap) := kb1.cell 0
    have KB1 := hide kb1
    have hz1 := hg1.size
    have AG := hide (at_ge (w1 := w1) hat1)
    have G1 := hide hg1
    have HC2'' : Hid (∀ j u, (flatE (L.drop (m + 1)))[j]? = some u → w1.cell? ((⟨g, (m + 1) * 3, none⟩ : Addr).add j) = some u) := hide fun j u hj => by
      have := unhide HC2' j u hj
      rw [Addr.add_lit] at this ⊢
      exact (grown_cell hg1 (by omega) _).trans this
    have O1 := hide hown1
    have OV := hide hown1.lt
    obtain ⟨q1, n1, k1, rfl⟩ := row_slice hown1
    clear hown1 hat1 hg1 kb1
    go_wp2_with (at_builtin; refine wpList_append_own_at _ rfl _ _ 28 rfl base 42 i0 (.agg #[.int .i64 0, .int .i64 0, .string ⟨#[]⟩]) 3 32 Try.underlying28 hi0 hi1 hi2 hi3 rfl (by decide) _ _ _ rfl (unhide O1) ⟨g, (m + 1) * 3, none⟩ (n - (m + 1)) _ (flatE (L.drop (m + 1))) rfl ?e1 ?e6 ?e2 ?e3 ?e4 ?e5 ?_)
    case e1 => exact unhide HL2
    case e6 => exact unhide HC2''
    case e2 => exact unhide H2
    case e3 => simp only [maxLen]; omega
    case e4 => omega
    case e5 => omega
    intro v2 w2 hown2 hg2 _ hat2
    have kb2 : Blk w2 p #[.slice (some ⟨g, 0, none⟩) n cap] 30 := (hg2.block p (unhide KB1).lt (fun e => by have := unhide AG p e.symm; have := (unhide H0).lt; omega)).trans (unhide KB1)
    have d2 : w2.cell? ⟨p, 0, none⟩ = some (.slice (some ⟨g, 0, none⟩) n cap) := kb2.cell 0
    have f2 : w2.frozen? ⟨p, 0, none⟩ = false := kb2.frozen 0
    have K2 := hide kb2
    have G2 := hide (grown_two (unhide G1) hg2 (unhide AG))
    have A2 := hide (at_ge2 (unhide AG) hz1 hat2)
    have O2 := hide hown2
    obtain ⟨q2, n2, k2, rfl⟩ := row_slice hown2
    clear hown2 hg2 hat2 kb2
    go_wp2
    go_ret
    refine ⟨rfl, RUpd.ahead (unhide HB0) (rnew_close2 (unhide H0) (unhide G2) (unhide O2) ?_ ?_ (unhide A2) (unhide K2))⟩
    · exact (unhide HE).trans (by omega)
    · exact unhide HF

set_option maxHeartbeats 1000000 in
theorem rremove_neg (base p : Nat) (v : Value) (id : Int) (L : List Ent) (w : World) (h : RStk base p v L w) (hf : findE id L < 0) :
    Calls Try.prog 49 #[ptr p, .int .i64 id] w fun e w' => e = .returned (.bool false) ∧ RUpd base p v L w w' := by
  have C := hide (rfind_any base p _ id L w h)
  have H := hide h
  clear h
  generalize findE id L = x at *
  unfold ptr at *
  go_enter Try.func49, Try.ntmps49
  go_wp2_with fail
  refine (unhide C).mono ?_
  rintro e w1 ⟨rfl, hb⟩
  have HB := hide hb
  clear hb
  go_wp2
  go_ret
  exact ⟨rfl, RUpd.same (unhide H) (unhide HB)⟩
theorem rremove_any (base p : Nat) (v : Value) (id : Int) (L : List Ent) (w : World) (h : RStk base p v L w) (hbase : base ≤ w.heap.size) (hN : L.length ≤ 1000000) :
    Calls Try.prog 49 #[ptr p, .int .i64 id] w fun e w' => e = .returned (.bool (decide (0 ≤ findE id L))) ∧ RUpd base p v (if 0 ≤ findE id L then L.eraseIdx (findE id L).toNat else L) w w' := by
  have hb := findE_lt id L
  by_cases hm : findE id L < 0
  · rw [if_neg (by omega), decide_eq_false (by omega)]
    exact rremove_neg base p v id L w h hm
  · obtain ⟨m, hm'⟩ := Int.eq_ofNat_of_zero_le (Int.not_lt.1 hm)
    rw [if_pos (by omega), decide_eq_true (by omega), hm', Int.toNat_natCast]
    obtain ⟨q, cap, rfl, hc, hm2, hg⟩ := h.slice
    obtain ⟨g, rfl, hgl⟩ := hg (by omega)
    exact rremove_pos base p g cap m id L L.length w (hide rfl) h hgl hbase hN hc hm2 hm' (by omega)
end Go.Proofs.Ytdkjdomacilagaa
