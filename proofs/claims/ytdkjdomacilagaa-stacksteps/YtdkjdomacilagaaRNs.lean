/-
  The reference's Insert.
-/
import Derived.Test.YtdkjdomacilagaaRRm
namespace Go.Proofs.Ytdkjdomacilagaa
open Go.RowKit
set_option linter.unusedVariables false
set_option linter.unusedSimpArgs false

set_option maxHeartbeats 1000000 in
theorem rinsert_arg (p : Nat) (v : Value) (n : Nat) (at' : Int) (x : Ent) (w : World) (hb : Blk w p #[v] 30) (hv : ∃ q cap, v = .slice q n cap) (h : at' < 0 ∨ (n : Int) < at') :
    Calls Try.prog 40 #[ptr p, .int .i64 at', entV x] w fun e w' => e = .returned (.int .i64 1) ∧ Below w.heap.size w w' := by
  unfold entV
  obtain ⟨q, cap, rfl⟩ := hv
  have c0 : (w.alloc (Obj.cells #[.int .i64 x.id, .int .i64 x.sp, .string x.nm] 42)).cell? ⟨p, 0, none⟩ = some (.slice q n cap) := (hb.alloc _).cell 0
  clear hb
  unfold ptr
  by_cases h0 : at' < 0
  · have hd : decide (at' < 0) = true := decide_eq_true h0
    clear h
    go_enter Try.func40, Try.ntmps40
    go_wp2
    go_ret
    exact ⟨rfl, (Below.refl _ _).alloc (Nat.le_refl _) _⟩
  · have h1 : (n : Int) < at' := by omega
    have hd : decide (at' < 0) = false := decide_eq_false h0
    clear h
    go_enter Try.func40, Try.ntmps40
    go_wp2
    go_ret
    exact ⟨rfl, (Below.refl _ _).alloc (Nat.le_refl _) _⟩
set_option maxHeartbeats 1000000 in
theorem rinsert_full (p : Nat) (v : Value) (n : Nat) (at' : Int) (x : Ent) (w : World) (hb : Blk w p #[v] 30) (hv : ∃ q cap, v = .slice q n cap) (h0 : 0 ≤ at') (h1 : at' ≤ (n : Int)) (hn : 200 ≤ n) :
    Calls Try.prog 40 #[ptr p, .int .i64 at', entV x] w fun e w' => e = .returned (.int .i64 5) ∧ Below w.heap.size w w' := by
  unfold entV
  obtain ⟨q, cap, rfl⟩ := hv
  have c0 : (w.alloc (Obj.cells #[.int .i64 x.id, .int .i64 x.sp, .string x.nm] 42)).cell? ⟨p, 0, none⟩ = some (.slice q n cap) := (hb.alloc _).cell 0
  clear hb
  unfold ptr
  have hd : decide (at' < 0) = false := decide_eq_false (by omega)
  have hd2 : ¬ (n : Int) < at' := by omega
  have hd3 : (199 : Int) < (n : Int) := by omega
  go_enter Try.func40, Try.ntmps40
  go_wp2
  go_ret
  exact ⟨rfl, (Below.refl _ _).alloc (Nat.le_refl _) _⟩

theorem grown_below {w w' : World} (hb : Below w.heap.size w w') : w.grownBy w' none := ⟨hb.os, hb.tape, hb.output, hb.size, fun k hk _ => hb.block k hk⟩
set_option maxHeartbeats 4000000 in
set_option maxRecDepth 100000 in
theorem rinsert_pos (base p g cap i : Nat) (x : Ent) (L : List Ent) (n : Nat) (w : World) (hn : Hid (L.length = n)) (h : RStk base p (.slice (some ⟨g, 0, none⟩) n cap) L w) (hg : g < w.heap.size) (hbase : base ≤ w.heap.size) (hN : n < 200) (hc : n ≤ cap) (hm : cap ≤ 9223372036854775807) (hi : i ≤ n) :
    Calls Try.prog 40 #[ptr p, .int .i64 (i : Int), entV x] w fun e w' => e = .returned (.int .i64 0) ∧ RUpd base p (.slice (some ⟨g, 0, none⟩) n cap) (L.take i ++ [x] ++ L.drop i) w w' := by
  obtain ⟨i0, hi0, hi1, hi2, hi3⟩ := infoR
  obtain ⟨xi, xs, xn⟩ := x
  have hle : i ≤ L.length := by rw [unhide hn]; omega
  have b1 : Below w.heap.size w (w.alloc (Obj.cells #[.int .i64 xi, .int .i64 xs, .string xn] 42)) := (Below.refl _ _).alloc (Nat.le_refl _) _
  have H0 := hide (h.later b1)
  have B1 := hide b1
  have kx : Hid (Blk (w.alloc (Obj.cells #[.int .i64 xi, .int .i64 xs, .string xn] 42)) w.heap.size #[.int .i64 xi, .int .i64 xs, .string xn] 42) := hide (Blk.new w _ _)
  have HC1 : Hid (∀ j u, (flatE (L.take i))[j]? = some u → (w.alloc (Obj.cells #[.int .i64 xi, .int .i64 xs, .string xn] 42)).cell? ((⟨g, 0, none⟩ : Addr).add j) = some u) := hide fun j u hj => by
    refine (unhide H0).2.1.cells rfl j u ?_
    rw [← flatE_take L i hle, List.getElem?_take] at hj
    split at hj
    · exact hj
    · cases hj
  have HC2 : Hid (∀ j u, (flatE (L.drop i))[j]? = some u → (w.alloc (Obj.cells #[.int .i64 xi, .int .i64 xs, .string xn] 42)).cell? ((⟨g, i * 3, none⟩ : Addr).add j) = some u) := hide fun j u hj => by
    rw [← flatE_drop L i hle, List.getElem?_drop] at hj
    have := (unhide H0).2.1.cells rfl _ u hj
    rw [Addr.add_lit] at this ⊢
    rw [Nat.zero_add] at this
    exact this
  have HL1 : Hid ((flatE (L.take i)).length = i * 3) := hide (by rw [flatE_len, List.length_take, Nat.min_eq_left hle])
  have HL2 : Hid ((flatE (L.drop i)).length = (n - i) * 3) := hide (by rw [flatE_len, List.length_drop, unhide hn])
  have HE : Hid ((L.take i ++ [(⟨xi, xs, xn⟩ : Ent)] ++ L.drop i).length = n + 1) := hide (by have := unhide hn; simp; omega)
  have HF : Hid (flatE (L.take i ++ [⟨xi, xs, xn⟩] ++ L.drop i) = flatE (L.take i) ++ [.int .i64 xi, .int .i64 xs, .string xn] ++ flatE (L.drop i)) := hide (by rw [flatE_app, flatE_app]; rfl)
  have H1 := hide (flatE_one (L.take i))
  have H2 := hide (flatE_one (L.drop i))
  have hd : decide ((i : Int) < 0) = false := decide_eq_false (by omega)
  have hd2 : ¬ (n : Int) < (i : Int) := by omega
  have hd3 : ¬ (199 : Int) < (n : Int) := by omega
  have hmc : (i : Int) ≤ (cap : Int) := by omega
  have hmi0 : (0 : Int) ≤ (i : Int) := by omega
  have hmn : (i : Int) ≤ (n : Int) := by omega
  have hsz : (w.alloc (Obj.cells #[.int .i64 xi, .int .i64 xs, .string xn] 42)).heap.size = w.heap.size + 1 := by simp
  have c0 : (w.alloc (Obj.cells #[.int .i64 xi, .int .i64 xs, .string xn] 42)).cell? ⟨p, 0, none⟩ = some (.slice (some ⟨g, 0, none⟩) n cap) := (unhide H0).1.cell 0
  have hpl := hide h.lt
  clear h hle b1
  generalize L.take i ++ [(⟨xi, xs, xn⟩ : Ent)] ++ L.drop i = T at *
  unfold ptr entV at *
  dsimp only
  by_cases hz : i = n
  · have HD : Hid (flatE (L.drop i) = []) := hide (List.eq_nil_of_length_eq_zero (by rw [unhide HL2]; omega))
    subst hz
    by_cases hcap : cap = i
    · subst hcap
      go_enter Try.func40, Try.ntmps40
      go_wp2_with (at_builtin; refine wpList_append_own_at _ rfl _ _ 28 rfl base 42 i0 (.agg #[.int .i64 0, .int .i64 0, .string ⟨#[]⟩]) 3 32 Try.underlying28 hi0 hi1 hi2 hi3 rfl (by decide) _ 0 [] rfl (World.ownsRow_nil _ _ _ _) ⟨g, 0, none⟩ cap cap (flatE (L.take cap)) rfl ?c1 (unhide HC1) ?c2 ?c3 ?c4 ?c5 ?_)
      case c1 => exact unhide HL1
      case c2 => exact unhide H1
      case c3 => simp only [maxLen]; omega
      case c4 => omega
      case c5 => first | omega | (rw [hsz]; omega)
      intro v1 w1 hown1 hg1 _ hat1
      have kx1 : Blk w1 w.heap.size #[.int .i64 xi, .int .i64 xs, .string xn] 42 := (hg1.block w.heap.size (by rw [hsz]; omega) (by simp [Value.ownBlock])).trans (unhide kx)
      have x0 : w1.cell? ⟨w.heap.size, 0, none⟩ = some (.int .i64 xi) := kx1.cell 0
      have x1 : w1.cell? ⟨w.heap.size, 1, none⟩ = some (.int .i64 xs) := kx1.cell 1
      have x2 : w1.cell? ⟨w.heap.size, 2, none⟩ = some (.string xn) := kx1.cell 2
      have AG := hide (at_ge (w := w.alloc (Obj.cells #[.int .i64 xi, .int .i64 xs, .string xn] 42)) (w1 := w1) (v1 := v1) (by rw [hsz]; exact hat1))
      have G1 := hide hg1
      have hz1 : w.heap.size + 1 ≤ w1.heap.size := by rw [← hsz]; exact hg1.size
      have O1 := hide (hown1.alloc (Obj.cells #[.int .i64 xi, .int .i64 xs, .string xn] 42))
      have SX : Hid (∀ j u, ([.int .i64 xi, .int .i64 xs, .string xn] : List Value)[j]? = some u → (w1.alloc (Obj.cells #[.int .i64 xi, .int .i64 xs, .string xn] 42)).cell? ((⟨w1.heap.size, 0, none⟩ : Addr).add j) = some u) := hide fun j u hj => by
        rw [Addr.add_lit, Nat.zero_add, (Blk.new w1 #[.int .i64 xi, .int .i64 xs, .string xn] 42).cell j]
        simpa using hj
      have BA := hide (grown_below ((Below.refl w1.heap.size w1).alloc (Nat.le_refl _) (Obj.cells #[.int .i64 xi, .int .i64 xs, .string xn] 42)))
      have hs1 : (w1.alloc (Obj.cells #[.int .i64 xi, .int .i64 xs, .string xn] 42)).heap.size = w1.heap.size + 1 := by simp
      obtain ⟨q1, n1, k1, rfl⟩ := row_slice hown1
      clear hown1 hat1 hg1 kx1
      go_wp2_with (at_builtin; refine wpList_append_own_at _ rfl _ _ 28 rfl base 42 i0 (.agg #[.int .i64 0, .int .i64 0, .string ⟨#[]⟩]) 3 32 Try.underlying28 hi0 hi1 hi2 hi3 rfl (by decide) _ _ _ rfl (unhide O1) ⟨w1.heap.size, 0, none⟩ 1 1 [.int .i64 xi, .int .i64 xs, .string xn] rfl ?d1 (unhide SX) ?d2 ?d3 ?d4 ?d5 ?_)
      case d1 => rfl
      case d2 => simp [Value.oneCell']
      case d3 => simp only [maxLen]; omega
      case d4 => omega
      case d5 => first | omega | (rw [hs1]; omega)
      intro v2 w2 hown2 hg2 _ hat2
      have G2 := hide (grown_two (grown_two (unhide G1) (unhide BA) (by simp)) hg2 (unhide AG))
      have A2 := hide (at_ge2 (w1 := w1.alloc (Obj.cells #[.int .i64 xi, .int .i64 xs, .string xn] 42)) (v2 := v2) (unhide AG) (by rw [hsz, hs1]; omega) (by rw [hs1]; exact hat2))
      have hz2 : w.heap.size + 1 ≤ w2.heap.size := by rw [← hsz]; exact (unhide G2).size
      have kb2 : Blk w2 p #[.slice (some ⟨g, 0, none⟩) cap cap] 30 := ((unhide G2).block p (unhide H0).1.lt (by simp)).trans (unhide H0).1
      have d2 : w2.cell? ⟨p, 0, none⟩ = some (.slice (some ⟨g, 0, none⟩) cap cap) := kb2.cell 0
      have K2 := hide kb2
      have HC2' : Hid (∀ j u, (flatE (L.drop cap))[j]? = some u → w2.cell? ((⟨g, cap * 3, none⟩ : Addr).add j) = some u) := hide fun j u hj => by
        have := unhide HC2 j u hj
        rw [Addr.add_lit] at this ⊢
        exact (grown_cell (unhide G2) (by rw [hsz]; omega) _).trans this
      have O2 := hide hown2
      obtain ⟨q2, n2, k2, rfl⟩ := row_slice hown2
      clear hown2 hg2 hat2 kb2
      go_wp2_with (at_builtin; refine wpList_append_own_at _ rfl _ _ 28 rfl base 42 i0 (.agg #[.int .i64 0, .int .i64 0, .string ⟨#[]⟩]) 3 32 Try.underlying28 hi0 hi1 hi2 hi3 rfl (by decide) _ _ _ rfl (unhide O2) _ 0 _ [] rfl ?e1 ?e6 ?e2 ?e3 ?e4 ?e5 ?_)
      case e1 => rfl
      case e6 => intro j u hj; simp at hj
      case e2 => simp
      case e3 => simp only [maxLen]; omega
      case e4 => omega
      case e5 => omega
      intro v3 w3 hown3 hg3 _ hat3
      have G3 := hide (grown_two (unhide G2) hg3 (unhide A2))
      have A3 := hide (at_ge2 (unhide A2) (by rw [hsz]; omega) hat3)
      have kb3 : Blk w3 p #[.slice (some ⟨g, 0, none⟩) cap cap] 30 := ((unhide G3).block p (unhide H0).1.lt (by simp)).trans (unhide H0).1
      have d3 : w3.cell? ⟨p, 0, none⟩ = some (.slice (some ⟨g, 0, none⟩) cap cap) := kb3.cell 0
      have f3 : w3.frozen? ⟨p, 0, none⟩ = false := kb3.frozen 0
      have K3 := hide kb3
      have O3 := hide hown3
      obtain ⟨q3, n3, k3, rfl⟩ := row_slice hown3
      clear hown3 hg3 hat3 kb3
      go_wp2
      go_ret
      refine ⟨rfl, RUpd.ahead (unhide B1) (rnew_close2 (unhide H0) (unhide G3) (unhide O3) ?_ ?_ (unhide A3) (unhide K3))⟩
      · exact (unhide HE).trans (by omega)
      · rw [unhide HF, unhide HD]; simp
    · have hcl : (i : Int) < (cap : Int) := by omega
      go_enter Try.func40, Try.ntmps40
      go_wp2_with (at_builtin; refine wpList_append_own_at _ rfl _ _ 28 rfl base 42 i0 (.agg #[.int .i64 0, .int .i64 0, .string ⟨#[]⟩]) 3 32 Try.underlying28 hi0 hi1 hi2 hi3 rfl (by decide) _ 0 [] rfl (World.ownsRow_nil _ _ _ _) ⟨g, 0, none⟩ i cap (flatE (L.take i)) rfl ?c1 (unhide HC1) ?c2 ?c3 ?c4 ?c5 ?_)
      case c1 => exact unhide HL1
      case c2 => exact unhide H1
      case c3 => simp only [maxLen]; omega
      case c4 => omega
      case c5 => first | omega | (rw [hsz]; omega)
      intro v1 w1 hown1 hg1 _ hat1
      have kx1 : Blk w1 w.heap.size #[.int .i64 xi, .int .i64 xs, .string xn] 42 := (hg1.block w.heap.size (by rw [hsz]; omega) (by simp [Value.ownBlock])).trans (unhide kx)
      have x0 : w1.cell? ⟨w.heap.size, 0, none⟩ = some (.int .i64 xi) := kx1.cell 0
      have x1 : w1.cell? ⟨w.heap.size, 1, none⟩ = some (.int .i64 xs) := kx1.cell 1
      have x2 : w1.cell? ⟨w.heap.size, 2, none⟩ = some (.string xn) := kx1.cell 2
      have AG := hide (at_ge (w := w.alloc (Obj.cells #[.int .i64 xi, .int .i64 xs, .string xn] 42)) (w1 := w1) (v1 := v1) (by rw [hsz]; exact hat1))
      have G1 := hide hg1
      have hz1 : w.heap.size + 1 ≤ w1.heap.size := by rw [← hsz]; exact hg1.size
      have O1 := hide (hown1.alloc (Obj.cells #[.int .i64 xi, .int .i64 xs, .string xn] 42))
      have SX : Hid (∀ j u, ([.int .i64 xi, .int .i64 xs, .string xn] : List Value)[j]? = some u → (w1.alloc (Obj.cells #[.int .i64 xi, .int .i64 xs, .string xn] 42)).cell? ((⟨w1.heap.size, 0, none⟩ : Addr).add j) = some u) := hide fun j u hj => by
        rw [Addr.add_lit, Nat.zero_add, (Blk.new w1 #[.int .i64 xi, .int .i64 xs, .string xn] 42).cell j]
        simpa using hj
      have BA := hide (grown_below ((Below.refl w1.heap.size w1).alloc (Nat.le_refl _) (Obj.cells #[.int .i64 xi, .int .i64 xs, .string xn] 42)))
      have hs1 : (w1.alloc (Obj.cells #[.int .i64 xi, .int .i64 xs, .string xn] 42)).heap.size = w1.heap.size + 1 := by simp
      obtain ⟨q1, n1, k1, rfl⟩ := row_slice hown1
      clear hown1 hat1 hg1 kx1
      go_wp2_with (at_builtin; refine wpList_append_own_at _ rfl _ _ 28 rfl base 42 i0 (.agg #[.int .i64 0, .int .i64 0, .string ⟨#[]⟩]) 3 32 Try.underlying28 hi0 hi1 hi2 hi3 rfl (by decide) _ _ _ rfl (unhide O1) ⟨w1.heap.size, 0, none⟩ 1 1 [.int .i64 xi, .int .i64 xs, .string xn] rfl ?d1 (unhide SX) ?d2 ?d3 ?d4 ?d5 ?_)
      case d1 => rfl
      case d2 => simp [Value.oneCell']
      case d3 => simp only [maxLen]; omega
      case d4 => omega
      case d5 => first | omega | (rw [hs1]; omega)
      intro v2 w2 hown2 hg2 _ hat2
      have G2 := hide (grown_two (grown_two (unhide G1) (unhide BA) (by simp)) hg2 (unhide AG))
      have A2 := hide (at_ge2 (w1 := w1.alloc (Obj.cells #[.int .i64 xi, .int .i64 xs, .string xn] 42)) (v2 := v2) (unhide AG) (by rw [hsz, hs1]; omega) (by rw [hs1]; exact hat2))
      have hz2 : w.heap.size + 1 ≤ w2.heap.size := by rw [← hsz]; exact (unhide G2).size
      have kb2 : Blk w2 p #[.slice (some ⟨g, 0, none⟩) i cap] 30 := ((unhide G2).block p (unhide H0).1.lt (by simp)).trans (unhide H0).1
      have d2 : w2.cell? ⟨p, 0, none⟩ = some (.slice (some ⟨g, 0, none⟩) i cap) := kb2.cell 0
      have K2 := hide kb2
      have HC2' : Hid (∀ j u, (flatE (L.drop i))[j]? = some u → w2.cell? ((⟨g, i * 3, none⟩ : Addr).add j) = some u) := hide fun j u hj => by
        have := unhide HC2 j u hj
        rw [Addr.add_lit] at this ⊢
        exact (grown_cell (unhide G2) (by rw [hsz]; omega) _).trans this
      have O2 := hide hown2
      obtain ⟨q2, n2, k2, rfl⟩ := row_slice hown2
      clear hown2 hg2 hat2 kb2
      go_wp2_with (at_builtin; refine wpList_append_own_at _ rfl _ _ 28 rfl base 42 i0 (.agg #[.int .i64 0, .int .i64 0, .string ⟨#[]⟩]) 3 32 Try.underlying28 hi0 hi1 hi2 hi3 rfl (by decide) _ _ _ rfl (unhide O2) _ 0 _ [] rfl ?e1 ?e6 ?e2 ?e3 ?e4 ?e5 ?_)
      case e1 => rfl
      case e6 => intro j u hj; simp at hj
      case e2 => simp
      case e3 => simp only [maxLen]; omega
      case e4 => omega
      case e5 => omega
      intro v3 w3 hown3 hg3 _ hat3
      have G3 := hide (grown_two (unhide G2) hg3 (unhide A2))
      have A3 := hide (at_ge2 (unhide A2) (by rw [hsz]; omega) hat3)
      have kb3 : Blk w3 p #[.slice (some ⟨g, 0, none⟩) i cap] 30 := ((unhide G3).block p (unhide H0).1.lt (by simp)).trans (unhide H0).1
      have d3 : w3.cell? ⟨p, 0, none⟩ = some (.slice (some ⟨g, 0, none⟩) i cap) := kb3.cell 0
      have f3 : w3.frozen? ⟨p, 0, none⟩ = false := kb3.frozen 0
      have K3 := hide kb3
      have O3 := hide hown3
      obtain ⟨q3, n3, k3, rfl⟩ := row_slice hown3
      clear hown3 hg3 hat3 kb3
      go_wp2
      go_ret
      refine ⟨rfl, RUpd.ahead (unhide B1) (rnew_close2 (unhide H0) (unhide G3) (unhide O3) ?_ ?_ (unhide A3) (unhide K3))⟩
      · exact (unhide HE).trans (by omega)
      · rw [unhide HF, unhide HD]; simp
  · have hzi : (i : Int) < (n : Int) := by omega
    go_enter Try.func40, Try.ntmps40
    go_wp2_with (at_builtin; refine wpList_append_own_at _ rfl _ _ 28 rfl base 42 i0 (.agg #[.int .i64 0, .int .i64 0, .string ⟨#[]⟩]) 3 32 Try.underlying28 hi0 hi1 hi2 hi3 rfl (by decide) _ 0 [] rfl (World.ownsRow_nil _ _ _ _) ⟨g, 0, none⟩ i cap (flatE (L.take i)) rfl ?c1 (unhide HC1) ?c2 ?c3 ?c4 ?c5 ?_)
    case c1 => exact unhide HL1
    case c2 => exact unhide H1
    case c3 => simp only [maxLen]; omega
    case c4 => omega
    case c5 => first | omega | (rw [hsz]; omega)
    intro v1 w1 hown1 hg1 _ hat1
    have kx1 : Blk w1 w.heap.size #[.int .i64 xi, .int .i64 xs, .string xn] 42 := (hg1.block w.heap.size (by rw [hsz]; omega) (by simp [Value.ownBlock])).trans (unhide kx)
    have x0 : w1.cell? ⟨w.heap.size, 0, none⟩ = some (.int .i64 xi) := kx1.cell 0
    have x1 : w1.cell? ⟨w.heap.size, 1, none⟩ = some (.int .i64 xs) := kx1.cell 1
    have x2 : w1.cell? ⟨w.heap.size, 2, none⟩ = some (.string xn) := kx1.cell 2
    have AG := hide (at_ge (w := w.alloc (Obj.cells #[.int .i64 xi, .int .i64 xs, .string xn] 42)) (w1 := w1) (v1 := v1) (by rw [hsz]; exact hat1))
    have G1 := hide hg1
    have hz1 : w.heap.size + 1 ≤ w1.heap.size := by rw [← hsz]; exact hg1.size
    have O1 := hide (hown1.alloc (Obj.cells #[.int .i64 xi, .int .i64 xs, .string xn] 42))
    have SX : Hid (∀ j u, ([.int .i64 xi, .int .i64 xs, .string xn] : List Value)[j]? = some u → (w1.alloc (Obj.cells #[.int .i64 xi, .int .i64 xs, .string xn] 42)).cell? ((⟨w1.heap.size, 0, none⟩ : Addr).add j) = some u) := hide fun j u hj => by
      rw [Addr.add_lit, Nat.zero_add, (Blk.new w1 #[.int .i64 xi, .int .i64 xs, .string xn] 42).cell j]
      simpa using hj
    have BA := hide (grown_below ((Below.refl w1.heap.size w1).alloc (Nat.le_refl _) (Obj.cells #[.int .i64 xi, .int .i64 xs, .string xn] 42)))
    have hs1 : (w1.alloc (Obj.cells #[.int .i64 xi, .int .i64 xs, .string xn] 42)).heap.size = w1.heap.size + 1 := by simp
    obtain ⟨q1, n1, k1, rfl⟩ := row_slice hown1
    clear hown1 hat1 hg1 kx1
    go_wp2_with (at_builtin; refine wpList_append_own_at _ rfl _ _ 28 rfl base 42 i0 (.agg #[.int .i64 0, .int .i64 0, .string ⟨#[]⟩]) 3 32 Try.underlying28 hi0 hi1 hi2 hi3 rfl (by decide) _ _ _ rfl (unhide O1) ⟨w1.heap.size, 0, none⟩ 1 1 [.int .i64 xi, .int .i64 xs, .string xn] rfl ?d1 (unhide SX) ?d2 ?d3 ?d4 ?d5 ?_)
    case d1 => rfl
    case d2 => simp [Value.oneCell']
    case d3 => simp only [maxLen]; omega
    case d4 => omega
    case d5 => first | omega | (rw [hs1]; omega)
    intro v2 w2 hown2 hg2 _ hat2
    have G2 := hide (grown_two (grown_two (unhide G1) (unhide BA) (by simp)) hg2 (unhide AG))
    have A2 := hide (at_ge2 (w1 := w1.alloc (Obj.cells #[.int .i64 xi, .int .i64 xs, .string xn] 42)) (v2 := v2) (unhide AG) (by rw [hsz, hs1]; omega) (by rw [hs1]; exact hat2))
    have hz2 : w.heap.size + 1 ≤ w2.heap.size := by rw [← hsz]; exact (unhide G2).size
    have kb2 : Blk w2 p #[.slice (some ⟨g, 0, none⟩) n cap] 30 := ((unhide G2).block p (unhide H0).1.lt (by simp)).trans (unhide H0).1
    have d2 : w2.cell? ⟨p, 0, none⟩ = some (.slice (some ⟨g, 0, none⟩) n cap) := kb2.cell 0
    have K2 := hide kb2
    have HC2' : Hid (∀ j u, (flatE (L.drop i))[j]? = some u → w2.cell? ((⟨g, i * 3, none⟩ : Addr).add j) = some u) := hide fun j u hj => by
      have := unhide HC2 j u hj
      rw [Addr.add_lit] at this ⊢
      exact (grown_cell (unhide G2) (by rw [hsz]; omega) _).trans this
    have O2 := hide hown2
    obtain ⟨q2, n2, k2, rfl⟩ := row_slice hown2
    clear hown2 hg2 hat2 kb2
    go_wp2_with (at_builtin; refine wpList_append_own_at _ rfl _ _ 28 rfl base 42 i0 (.agg #[.int .i64 0, .int .i64 0, .string ⟨#[]⟩]) 3 32 Try.underlying28 hi0 hi1 hi2 hi3 rfl (by decide) _ _ _ rfl (unhide O2) ⟨g, i * 3, none⟩ (n - i) _ (flatE (L.drop i)) rfl ?e1 ?e6 ?e2 ?e3 ?e4 ?e5 ?_)
    case e1 => exact unhide HL2
    case e6 => exact unhide HC2'
    case e2 => exact unhide H2
    case e3 => simp only [maxLen]; omega
    case e4 => omega
    case e5 => omega
    intro v3 w3 hown3 hg3 _ hat3
    have G3 := hide (grown_two (unhide G2) hg3 (unhide A2))
    have A3 := hide (at_ge2 (unhide A2) (by rw [hsz]; omega) hat3)
    have kb3 : Blk w3 p #[.slice (some ⟨g, 0, none⟩) n cap] 30 := ((unhide G3).block p (unhide H0).1.lt (by simp)).trans (unhide H0).1
    have d3 : w3.cell? ⟨p, 0, none⟩ = some (.slice (some ⟨g, 0, none⟩) n cap) := kb3.cell 0
    have f3 : w3.frozen? ⟨p, 0, none⟩ = false := kb3.frozen 0
    have K3 := hide kb3
    have O3 := hide hown3
    obtain ⟨q3, n3, k3, rfl⟩ := row_slice hown3
    clear hown3 hg3 hat3 kb3
    go_wp2
    go_ret
    refine ⟨rfl, RUpd.ahead (unhide B1) (rnew_close2 (unhide H0) (unhide G3) (unhide O3) ?_ ?_ (unhide A3) (unhide K3))⟩
    · exact (unhide HE).trans (by omega)
    · refine (unhide HF).trans ?_; simp

set_option maxHeartbeats 4000000 in
set_option maxRecDepth 100000 in
theorem rinsert_nil (base p : Nat) (x : Ent) (w : World) (h : RStk base p (.slice none 0 0) [] w) (hbase : base ≤ w.heap.size) :
    Calls Try.prog 40 #[ptr p, .int .i64 0, entV x] w fun e w' => e = .returned (.int .i64 0) ∧ RUpd base p (.slice none 0 0) [x] w w' := by
  obtain ⟨i0, hi0, hi1, hi2, hi3⟩ := infoR
  obtain ⟨xi, xs, xn⟩ := x
  have b1 : Below w.heap.size w (w.alloc (Obj.cells #[.int .i64 xi, .int .i64 xs, .string xn] 42)) := (Below.refl _ _).alloc (Nat.le_refl _) _
  have H0 := hide (h.later b1)
  have B1 := hide b1
  have hsz : (w.alloc (Obj.cells #[.int .i64 xi, .int .i64 xs, .string xn] 42)).heap.size = w.heap.size + 1 := by simp
  have c0 : (w.alloc (Obj.cells #[.int .i64 xi, .int .i64 xs, .string xn] 42)).cell? ⟨p, 0, none⟩ = some (.slice none 0 0) := (unhide H0).1.cell 0
  have kx : Blk (w.alloc (Obj.cells #[.int .i64 xi, .int .i64 xs, .string xn] 42)) w.heap.size #[.int .i64 xi, .int .i64 xs, .string xn] 42 := Blk.new w _ _
  clear h b1
  have SX : Hid (∀ j u, ([.int .i64 xi, .int .i64 xs, .string xn] : List Value)[j]? = some u → ((w.alloc (Obj.cells #[.int .i64 xi, .int .i64 xs, .string xn] 42)).alloc (Obj.cells #[.int .i64 xi, .int .i64 xs, .string xn] 42)).cell? ((⟨w.heap.size + 1, 0, none⟩ : Addr).add j) = some u) := hide fun j u hj => by
    have hb := Blk.new (w.alloc (Obj.cells #[.int .i64 xi, .int .i64 xs, .string xn] 42)) #[.int .i64 xi, .int .i64 xs, .string xn] 42
    rw [hsz] at hb
    rw [Addr.add_lit, Nat.zero_add, hb.cell j]
    simpa using hj
  have BA := hide (grown_below ((Below.refl (w.alloc (Obj.cells #[.int .i64 xi, .int .i64 xs, .string xn] 42)).heap.size (w.alloc (Obj.cells #[.int .i64 xi, .int .i64 xs, .string xn] 42))).alloc (Nat.le_refl _) (Obj.cells #[.int .i64 xi, .int .i64 xs, .string xn] 42)))
  have hs1 : ((w.alloc (Obj.cells #[.int .i64 xi, .int .i64 xs, .string xn] 42)).alloc (Obj.cells #[.int .i64 xi, .int .i64 xs, .string xn] 42)).heap.size = w.heap.size + 2 := by simp
  unfold ptr entV at *
  dsimp only
  go_enter Try.func40, Try.ntmps40
  go_wp2_with (at_builtin; first | refine wpList_append_own_none rfl _ _ 28 rfl base 42 i0 3 Try.underlying28 hi0 (.slice none 0 0) 0 [] rfl (World.ownsRow_nil _ _ _ _) rfl ?_ | refine wpList_append_own_at _ rfl _ _ 28 rfl base 42 i0 (.agg #[.int .i64 0, .int .i64 0, .string ⟨#[]⟩]) 3 32 Try.underlying28 hi0 hi1 hi2 hi3 rfl (by decide) _ 0 [] rfl (World.ownsRow_nil _ _ _ _) ⟨w.heap.size + 1, 0, none⟩ 1 1 [.int .i64 xi, .int .i64 xs, .string xn] rfl ?d1 (unhide SX) ?d2 ?d3 ?d4 ?d5 ?_)
  case d1 => rfl
  case d2 => simp [Value.oneCell']
  case d3 => simp only [maxLen]; omega
  case d4 => omega
  case d5 => first | omega | (rw [hs1]; omega)
  intro v2 w2 hown2 hg2 _ hat2
  have G2 := hide (grown_two (unhide BA) hg2 (by simp [Value.ownBlock]))
  have A2 : Hid (∀ k, v2.ownBlock = some k → (w.alloc (Obj.cells #[.int .i64 xi, .int .i64 xs, .string xn] 42)).heap.size ≤ k) := hide fun k hk => by
    rcases hat2 with h | h
    · rw [h] at hk; cases hk
    · rw [h] at hk; simp at hk; rw [hsz]; omega
  have kb2 : Blk w2 p #[.slice none 0 0] 30 := ((unhide G2).block p (unhide H0).1.lt (by simp)).trans (unhide H0).1
  have d2 : w2.cell? ⟨p, 0, none⟩ = some (.slice none 0 0) := kb2.cell 0
  have f2 : w2.frozen? ⟨p, 0, none⟩ = false := kb2.frozen 0
  have K2 := hide kb2
  have O2 := hide hown2
  obtain ⟨q2, n2, k2, rfl⟩ := row_slice hown2
  clear hown2 hg2 hat2 kb2
  go_wp2_with (at_builtin; refine wpList_append_own_none rfl _ _ 28 rfl base 42 i0 3 Try.underlying28 hi0 _ _ _ rfl (unhide O2) rfl ?_)
  go_wp2
  go_ret
  exact ⟨rfl, RUpd.ahead (unhide B1) (rnew_close2 (unhide H0) (unhide G2) (unhide O2) rfl rfl (unhide A2) (unhide K2))⟩
/-- The reference's Insert is the program's. -/
theorem rinsert_any (base p : Nat) (v : Value) (at' : Int) (x : Ent) (L : List Ent) (w : World) (h : RStk base p v L w) (hbase : base ≤ w.heap.size) :
    Calls Try.prog 40 #[ptr p, .int .i64 at', entV x] w fun e w' => e = .returned (.int .i64 (insE at' L.length)) ∧ RUpd base p v (insL at' x L) w w' := by
  obtain ⟨q, cap, hv, hc, hm, hg⟩ := h.slice
  unfold insE insL
  by_cases h1 : at' < 0 ∨ (L.length : Int) < at'
  · rw [if_pos h1, if_pos h1]
    refine (rinsert_arg p v L.length at' x w h.1 ⟨_, _, hv⟩ h1).mono ?_
    rintro e w1 ⟨rfl, hb⟩
    exact ⟨rfl, RUpd.same h hb⟩
  · rw [if_neg h1, if_neg h1]
    by_cases h2 : 200 ≤ L.length
    · rw [if_pos h2, if_pos h2]
      refine (rinsert_full p v L.length at' x w h.1 ⟨_, _, hv⟩ (by omega) (by omega) h2).mono ?_
      rintro e w1 ⟨rfl, hb⟩
      exact ⟨rfl, RUpd.same h hb⟩
    · rw [if_neg h2, if_neg h2]
      rcases h.2.1.2 with ⟨rfl, h0⟩ | ⟨g, cap, cur, rfl, hb, hgg, hc, hm, hcs, htk⟩
      · obtain rfl := List.eq_nil_of_length_eq_zero h0
        obtain rfl : at' = 0 := by simp at h1; omega
        exact rinsert_nil base p x w h hbase
      · have e : ((at'.toNat : Nat) : Int) = at' := by omega
        have := rinsert_pos base p g cap at'.toNat x L L.length w (hide rfl) h (Array.getElem?_eq_some_iff.1 hgg).1 hbase (by omega) hc (by simp only [maxLen] at hm; omega) (by omega)
        rw [e] at this
        exact this
end Go.Proofs.Ytdkjdomacilagaa
