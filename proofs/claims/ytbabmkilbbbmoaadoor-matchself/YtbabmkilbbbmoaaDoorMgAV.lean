/-
  Several texts in one: what the functions of the program and of the document's answer do.
-/
import Derived.Test.YtbabmkilbbbmoaaDoorMgAU
import Derived.Deep.OwnRows

/-
  What match's choose does.
-/
namespace Go.Proofs.YtbabmkilbbbmoaaDoor
open Go.RowKit
set_option linter.unusedVariables false
set_option linter.unusedSimpArgs false

/-- A slice of numbers as it lies in memory. -/
def MtsV (q : Option Addr) (n : Nat) (zs : List Int) (w : World) : Prop :=
  n = zs.length ∧ (0 < n → ∃ g o, q = some ⟨g, o, none⟩ ∧ ∀ j, j < n → w.cell? ⟨g, o + j, none⟩ = some (.int .i64 (zs.getD j 0)))
theorem MtsV.below {q : Option Addr} {n : Nat} {zs : List Int} {w w' : World} (h : MtsV q n zs w) (hb : Below w.heap.size w w') : MtsV q n zs w' := by
  obtain ⟨h1, h3⟩ := h
  refine ⟨h1, fun h0 => ?_⟩
  obtain ⟨g, o, h4, h5⟩ := h3 h0
  exact ⟨g, o, h4, fun j hj => (hb.cell (p := ⟨g, o + j, none⟩) (World.block_lt_of_cell? w _ (h5 j hj))).trans (h5 j hj)⟩
/-- Are two numbers the same? -/
def eqZ (za zb : List Int) (i j : Nat) : Bool := za.getD i 0 == zb.getD j 0

/-- Does it go on in the first list, if these are no pair? -/
def goB (E : Nat → Nat → Bool) (n m i j : Nat) : Bool := !E i j && decide (lcB E n m i (j + 1) ≤ lcB E n m (i + 1) j)
def BitsAt (E : Nat → Nat → Bool) (n m P g : Nat) (wr : World) (T : Nat → Nat → Bool) : Prop :=
  ∃ X : Nat → Nat, wr.rowIs g 174 ((P + 63) / 64) (fun k => wordV (X k)) ∧ (∀ k, X k < 18446744073709551616) ∧ ∀ a b, a < n → b < m → (X ((a * m + b) / 64)).testBit ((a * m + b) % 64) = (T a b && goB E n m a b)
/-- What holds while a row is reckoned: from place j on it is. -/
structure ChSt (E : Nat → Nat → Bool) (n m P B0 : Nat) (w : World) (hb nb i j : Nat) (wr : World) : Prop where
  ne : hb ≠ nb ∧ B0 + 2 < hb ∧ B0 + 2 < nb
  nx : wr.rowIs nb 3 (m + 1) (fun k => .int .i64 (lcB E n m (i + 1) k : Int))
  hr : ∃ H : Nat → Int, wr.rowIs hb 3 (m + 1) (fun k => .int .i64 (H k)) ∧ ∀ k, j ≤ k → k ≤ m → H k = (lcB E n m i k : Int)
  bt : BitsAt E n m P (B0 + 1) wr (fun a b => decide (i < a ∨ i = a ∧ j ≤ b))
  k0 : Blk wr B0 #[.int .i64 0, .slice none 0 0] 151
  k2 : Blk wr (B0 + 2) #[.int .i64 (m : Int), .slice (some ⟨B0 + 1, 0, none⟩) ((P + 63) / 64) ((P + 63) / 64)] 151
  bl : Below B0 w wr
/-- .. between rows: those from i on are reckoned. -/
structure OuSt (E : Nat → Nat → Bool) (n m P B0 : Nat) (w : World) (hb nb i : Nat) (wr : World) : Prop where
  ne : hb ≠ nb ∧ B0 + 2 < hb ∧ B0 + 2 < nb
  nx : wr.rowIs nb 3 (m + 1) (fun k => .int .i64 (lcB E n m i k : Int))
  hr : ∃ H : Nat → Int, wr.rowIs hb 3 (m + 1) (fun k => .int .i64 (H k)) ∧ H m = 0
  bt : BitsAt E n m P (B0 + 1) wr (fun a b => decide (i ≤ a))
  k0 : Blk wr B0 #[.int .i64 0, .slice none 0 0] 151
  k2 : Blk wr (B0 + 2) #[.int .i64 (m : Int), .slice (some ⟨B0 + 1, 0, none⟩) ((P + 63) / 64) ((P + 63) / 64)] 151
  bl : Below B0 w wr
theorem BitsAt.congr {E : Nat → Nat → Bool} {n m P g : Nat} {wr : World} {T U : Nat → Nat → Bool} (h : BitsAt E n m P g wr T) (e : ∀ a b, a < n → b < m → (T a b && goB E n m a b) = (U a b && goB E n m a b)) : BitsAt E n m P g wr U := by
  obtain ⟨X, h1, h2, h3⟩ := h
  exact ⟨X, h1, h2, fun a b ha hb => (h3 a b ha hb).trans (e a b ha hb)⟩
theorem OuSt.row {E : Nat → Nat → Bool} {n m P B0 : Nat} {w : World} {hb nb i : Nat} {wr : World} (h : OuSt E n m P B0 w hb nb (i + 1) wr) : ChSt E n m P B0 w hb nb i m wr := by
  obtain ⟨h1, h2, ⟨H, h3, h3'⟩, h4, h5, h6, h7⟩ := h
  refine ⟨h1, h2, ⟨H, h3, fun k hk hk2 => ?_⟩, h4.congr (fun a b ha hb => ?_), h5, h6, h7⟩
  · obtain rfl : k = m := by omega
    rw [h3', lcB_out _ _ _ _ _ (by omega)]; rfl
  · congr 1
    apply decide_eq_decide.2
    omega
theorem ChSt.out {E : Nat → Nat → Bool} {n m P B0 : Nat} {w : World} {hb nb i : Nat} {wr : World} (h : ChSt E n m P B0 w hb nb i 0 wr) : OuSt E n m P B0 w nb hb i wr := by
  obtain ⟨h1, h2, ⟨H, h3, h3'⟩, h4, h5, h6, h7⟩ := h
  refine ⟨⟨h1.1.symm, h1.2.2, h1.2.1⟩, h3.congr (fun k hk => by rw [h3' k (Nat.zero_le _) (by omega)]), ⟨fun k => (lcB E n m (i + 1) k : Int), h2, ?_⟩, h4.congr (fun a b ha hb => ?_), h5, h6, h7⟩
  · show ((lcB E n m (i + 1) m : Nat) : Int) = 0
    rw [lcB_out _ _ _ _ _ (by omega)]; rfl
  · congr 1
    apply decide_eq_decide.2
    omega
theorem rowIs_later {w w' : World} {b : Nat} {t : TypeId} {n : Nat} {f : Nat → Value} (h : w.rowIs b t n f) (hb : Below w.heap.size w w') : w'.rowIs b t n f := h.of_block (hb.block b h.lt)
/-- A store at place j, and no bit. -/
theorem ChSt.put {E : Nat → Nat → Bool} {n m P B0 : Nat} {w : World} {hb nb i j : Nat} {wr : World} (h : ChSt E n m P B0 w hb nb i (j + 1) wr) (hj : j < m) (hi : i < n) (hg : goB E n m i j = false) :
    ChSt E n m P B0 w hb nb i j (wr.setCell ⟨hb, j, none⟩ (.int .i64 (lcB E n m i j : Int))) := by
  obtain ⟨h1, h2, ⟨H, h3, h3'⟩, ⟨X, x1, x2, x3⟩, h5, h6, h7⟩ := h
  refine ⟨h1, h2.setOther (fun e => h1.1 e.symm) _, ⟨fun k => if k = j then (lcB E n m i j : Int) else H k, (h3.set j _).congr (fun k hk => ?_), fun k hk hk2 => ?_⟩, ⟨X, x1.setOther (by show B0 + 1 ≠ hb; omega) _, x2, fun a b ha hb => ?_⟩, h5.away (by omega) _, h6.away (by omega) _, h7.setCell (by show B0 ≤ hb; omega) _⟩
  · by_cases e : k = j
    · simp only [if_pos e]
    · simp only [if_neg e]
  · by_cases e : k = j
    · simp only [if_pos e]; rw [e]
    · simp only [if_neg e]; exact h3' k (by omega) hk2
  · rw [x3 a b ha hb]
    by_cases e : a = i ∧ b = j
    · rw [e.1, e.2, hg, Bool.and_false, Bool.and_false]
    · congr 1
      apply decide_eq_decide.2
      omega
theorem bit_upd (X : Nat → Nat) (at' c : Nat) : ((fun k => if k = at' / 64 then X (at' / 64) ||| 2 ^ (at' % 64) else X k) (c / 64)).testBit (c % 64) = ((X (c / 64)).testBit (c % 64) || decide (c = at')) := by
  show (if c / 64 = at' / 64 then X (at' / 64) ||| 2 ^ (at' % 64) else X (c / 64)).testBit (c % 64) = _
  by_cases e : c / 64 = at' / 64
  · rw [if_pos e, Nat.testBit_or, Nat.testBit_two_pow, e]
    congr 1
    apply decide_eq_decide.2
    omega
  · rw [if_neg e, decide_eq_false (by intro x; exact e (by rw [x])), Bool.or_false]
theorem place_uniq {m a b i j : Nat} (hb : b < m) (hj : j < m) : a * m + b = i * m + j ↔ a = i ∧ b = j := by
  constructor
  · intro h
    have e1 : a = i := by
      have h1 : (a * m + b) / m = a := by rw [Nat.mul_comm, Nat.mul_add_div (by omega), Nat.div_eq_of_lt hb]; rfl
      have h2 : (i * m + j) / m = i := by rw [Nat.mul_comm, Nat.mul_add_div (by omega), Nat.div_eq_of_lt hj]; rfl
      rw [← h1, ← h2, h]
    subst e1
    exact ⟨rfl, by omega⟩
  · rintro ⟨rfl, rfl⟩; rfl
/-- A store at place j, and a bit. -/
theorem ChSt.bit {E : Nat → Nat → Bool} {n m P B0 : Nat} {w : World} {hb nb i j k : Nat} {wr : World} (h : ChSt E n m P B0 w hb nb i k wr) (hl : (i * m + j) / 64 < (P + 63) / 64) :
    ∃ x : Nat, x < 18446744073709551616 ∧ wr.cell? ⟨B0 + 1, (i * m + j) / 64, none⟩ = some (.int .u64 (x : Int)) ∧ wr.frozen? ⟨B0 + 1, (i * m + j) / 64, none⟩ = false := by
  obtain ⟨h1, h2, ⟨H, h3, h3'⟩, ⟨X, x1, x2, x3⟩, h5, h6, h7⟩ := h
  exact ⟨X ((i * m + j) / 64), x2 _, x1.cell hl, x1.frozen _⟩
theorem ChSt.putbit {E : Nat → Nat → Bool} {n m P B0 : Nat} {w : World} {hb nb i j : Nat} {wr : World} (h : ChSt E n m P B0 w hb nb i (j + 1) wr) (hj : j < m) (hi : i < n) (hg : goB E n m i j = true) (x : Nat) (hc : wr.cell? ⟨B0 + 1, (i * m + j) / 64, none⟩ = some (.int .u64 (x : Int))) (hl : (i * m + j) / 64 < (P + 63) / 64) :
    ChSt E n m P B0 w hb nb i j (((wr.setCell ⟨hb, j, none⟩ (.int .i64 (lcB E n m i j : Int))).setCell ⟨B0 + 1, (i * m + j) / 64, none⟩ (wordV (x ||| 2 ^ ((i * m + j) % 64)))).drew) := by
  obtain ⟨h1, h2, ⟨H, h3, h3'⟩, ⟨X, x1, x2, x3⟩, h5, h6, h7⟩ := h
  have hx : X ((i * m + j) / 64) = x := by
    have := (x1.cell hl).symm.trans hc
    unfold wordV at this
    injection this with this
    injection this with _ this
    omega
  refine ⟨h1, ((h2.setOther (fun e => h1.1 e.symm) _).setOther (by show nb ≠ B0 + 1; omega) _), ⟨fun k => if k = j then (lcB E n m i j : Int) else H k, ((h3.set j _).congr (fun k hk => ?_)).setOther (by show hb ≠ B0 + 1; omega) _, fun k hk hk2 => ?_⟩, ⟨fun k => if k = (i * m + j) / 64 then X ((i * m + j) / 64) ||| 2 ^ ((i * m + j) % 64) else X k, ((x1.setOther (by show B0 + 1 ≠ hb; omega) _).set ((i * m + j) / 64) _).congr (fun k hk => ?_), fun k => ?_, fun a b ha hb => ?_⟩, (h5.away (by omega) _).away (by omega) _, (h6.away (by omega) _).away (by omega) _, ((h7.setCell (p := ⟨hb, j, none⟩) (by show B0 ≤ hb; omega) _).setCell (p := ⟨B0 + 1, (i * m + j) / 64, none⟩) (by show B0 ≤ B0 + 1; omega) _).drew⟩
  · by_cases e : k = j
    · simp only [if_pos e]
    · simp only [if_neg e]
  · by_cases e : k = j
    · simp only [if_pos e]; rw [e]
    · simp only [if_neg e]; exact h3' k (by omega) hk2
  · by_cases e : k = (i * m + j) / 64
    · simp only [if_pos e]; rw [hx]
    · simp only [if_neg e]
  · show (if k = (i * m + j) / 64 then X ((i * m + j) / 64) ||| 2 ^ ((i * m + j) % 64) else X k) < _
    by_cases e : k = (i * m + j) / 64
    · rw [if_pos e]; exact or_lt (x2 _) (Nat.mod_lt _ (by decide))
    · rw [if_neg e]; exact x2 _
  · rw [bit_upd X, x3 a b ha hb]
    by_cases e : a = i ∧ b = j
    · rw [decide_eq_true ((place_uniq hb hj).2 e), e.1, e.2, hg, Bool.or_true]
      simp
    · rw [decide_eq_false (fun x => e ((place_uniq hb hj).1 x)), Bool.or_false]
      congr 1
      apply decide_eq_decide.2
      omega
end Go.Proofs.YtbabmkilbbbmoaaDoor

/-
  What match's choose does: the walk.
-/
namespace Go.Proofs.YtbabmkilbbbmoaaDoor
open Go.RowKit
set_option linter.unusedVariables false
set_option linter.unusedSimpArgs false

theorem MtsV.at {q : Option Addr} {n : Nat} {zs : List Int} {w w' : World} (h : MtsV q n zs w) (hb : Below w.heap.size w w') (i : Nat) (hi : i < n) : ∃ g o, q = some ⟨g, o, none⟩ ∧ w'.cell? ⟨g, o + i, none⟩ = some (.int .i64 (zs.getD i 0)) := by
  obtain ⟨g, o, h1, h2⟩ := (h.below hb).2 (by omega)
  exact ⟨g, o, h1, h2 i hi⟩
theorem made_at {W : World} {z : Value} {n k : Nat} {t : TypeId} (hk : k = W.heap.size) : (W.alloc (.cells (madeCells #[z] n) t)).rowIs k t n (fun _ => z) := by subst hk; exact World.rowIs_made W z n t
theorem blk_at {W : World} {vs : Array Value} {t : TypeId} {k : Nat} (hk : k = W.heap.size) : Blk (W.alloc (.cells vs t)) k vs t := by subst hk; exact Blk.new W vs t
theorem ChSt.drew {E : Nat → Nat → Bool} {n m P B0 : Nat} {w : World} {hb nb i j : Nat} {wr : World} (h : ChSt E n m P B0 w hb nb i j wr) : ChSt E n m P B0 w hb nb i j wr.drew := by
  obtain ⟨h1, h2, ⟨H, h3, h3'⟩, ⟨X, x1, x2, x3⟩, h5, h6, h7⟩ := h
  exact ⟨h1, h2.drew, ⟨H, h3.drew, h3'⟩, ⟨X, x1.drew, x2, x3⟩, h5, h6, h7.drew⟩
/-- What is handed back: a struct that tells of bits. -/
def ChoSaid (E : Nat → Nat → Bool) (n m : Nat) (w : World) (e : Ending) (w' : World) : Prop :=
  ∃ g P, n * m = P ∧ e = .returned (.agg #[.int .i64 (m : Int), .slice (some ⟨g, 0, none⟩) ((P + 63) / 64) ((P + 63) / 64)]) ∧ w.heap.size ≤ g ∧ BitsAt E n m P g w' (fun _ _ => true) ∧ Below w.heap.size w w'

set_option maxHeartbeats 2000000 in
theorem choose_any (qa qb : Option Addr) (n m ca cb : Nat) (za zb : List Int) (w : World) (ha : MtsV qa n za w) (hb : MtsV qb m zb w) (hn : n ≤ 1000) (hm : m ≤ 1000) :
    Calls Tryd.prog 83 #[.slice qa n ca, .slice qb m cb] w (ChoSaid (eqZ za zb) n m w) := by
  obtain ⟨P, hPn⟩ : ∃ P, n * m = P := ⟨_, rfl⟩
  have hP : (n : Int) * (m : Int) = (P : Int) := by rw [← hPn]; simp
  have hP2 : P ≤ 1000000 := by rw [← hPn]; exact Nat.mul_le_mul hn hm
  have hlt : Hid (∀ i j, i < n → j < m → i * m + j < P) := hide (fun i j hi hj => by
    have : (i + 1) * m ≤ n * m := Nat.mul_le_mul_right m hi
    rw [Nat.add_mul, Nat.one_mul] at this
    omega)
  have HA := hide ha
  have HB := hide hb
  have HPN := hide hPn
  have e1 : (((P + 63) / 64 : Nat) : Int) = ((P : Int) + 63) / 64 := by omega
  have e2 : ((m + 1 : Nat) : Int) = (m : Int) + 1 := by omega
  have hk1 := run_make_row' (P := Tryd.prog) 149 174 (.int .u64 0) 8 Tryd.underlying149 (by kernel_rfl) rfl .i64 .i64 ((P + 63) / 64) (by omega) (by omega)
  have hk2 := run_make_row' (P := Tryd.prog) 38 3 (.int .i64 0) 8 Tryd.underlying38 (by kernel_rfl) rfl .i64 .i64 (m + 1) (by omega) (by omega)
  rw [e1] at hk1
  rw [e2] at hk2
  clear e1 e2 ha hb hPn
  unfold ChoSaid
  go_enter Tryd.func83, Tryd.ntmps83
  go_wp2
  go_region
  all_goals go_wp2
  all_goals (
    go_loopw [8, 6, 7] (fun z hv nv wr => ∃ i hb nb : Nat, i ≤ n ∧ z = .int .i64 ((i : Int) - 1) ∧ hv = .slice (some ⟨hb, 0, none⟩) (m + 1) (m + 1) ∧ nv = .slice (some ⟨nb, 0, none⟩) (m + 1) (m + 1) ∧ OuSt (eqZ za zb) n m P w.heap.size w hb nb i wr) (fun z _ _ _ => (intOf z + 1).toNat)
    case atStart =>
      refine ⟨n, _, _, Nat.le_refl _, rfl, rfl, rfl, ⟨⟨by omega, by omega, by omega⟩, ?_, ⟨fun _ => 0, ?_, rfl⟩, ⟨fun _ => 0, ?_, fun _ => by show 0 < _; decide, fun a b ha hb => ?_⟩, ?_, ?_, ?_⟩⟩
      · refine World.rowIs.congr (f := fun _ => .int .i64 0) ?_ (fun k hk => by rw [lcB_out _ _ _ _ _ (by omega)]; rfl)
        first
          | (refine (made_at ?_).drew; simp; done)
          | (refine ((made_at ?_).alloc _).drew; simp; done)
      · first
          | (refine (made_at ?_).drew; simp; done)
          | (refine ((made_at ?_).alloc _).drew; simp; done)
      · exact ((((made_at (by simp)).alloc _).alloc _).alloc _).drew
      · show Nat.testBit 0 _ = (decide (n ≤ a) && _)
        rw [decide_eq_false (by omega)]; simp
      · exact ((((Blk.new _ _ _).alloc _).alloc _).alloc _).alloc _
      · exact ((blk_at (by simp)).alloc _).alloc _
      · exact ((((((Below.refl _ _).alloc (Nat.le_refl _) _).alloc (by simp) _).alloc (by simp; omega) _).alloc (by simp; omega) _).alloc (by simp; omega) _).drew
    case round =>
      obtain ⟨i1, hb, nb, hi1, rfl, rfl, rfl, hst⟩ := hrel
      by_cases h0 : i1 = 0
      · subst h0
        have k0 := hst.k0
        have k2 := hst.k2
        have d0 : wr.cell? ⟨w.heap.size, 0, none⟩ = some (.int .i64 0) := k0.cell 0
        have d1 : wr.cell? ⟨w.heap.size, 1, none⟩ = some (.slice none 0 0) := k0.cell 1
        have f0 := k0.frozen 0
        have f1 := k0.frozen 1
        have g0 : wr.cell? ⟨w.heap.size + 2, 0, none⟩ = some (.int .i64 (m : Int)) := k2.cell 0
        have g1 : wr.cell? ⟨w.heap.size + 2, 1, none⟩ = some (.slice (some ⟨w.heap.size + 1, 0, none⟩) ((P + 63) / 64) ((P + 63) / 64)) := k2.cell 1
        have HST := hide hst
        clear hst k2
        go_wp2
        have kk := (k0.set 0 (by simp) (.int .i64 (m : Int))).set 1 (by simp) (.slice (some ⟨w.heap.size + 1, 0, none⟩) ((P + 63) / 64) ((P + 63) / 64))
        have dd0 := kk.cell 0
        have dd1 := kk.cell 1
        refine bodyPost_ret (v := .agg #[.int .i64 (m : Int), .slice (some ⟨w.heap.size + 1, 0, none⟩) ((P + 63) / 64) ((P + 63) / 64)]) (by simp [results, Tryd.results83, go_sem, dd0, dd1]) rfl ?_
        have hs := unhide HST
        obtain ⟨X, x1, x2, x3⟩ := hs.bt
        refine ⟨w.heap.size + 1, P, unhide HPN, rfl, by omega, ⟨X, (x1.setOther (by show w.heap.size + 1 ≠ w.heap.size; omega) _).setOther (by show w.heap.size + 1 ≠ w.heap.size; omega) _, x2, fun a b ha hb => (x3 a b ha hb).trans (by show (decide (0 ≤ a) && _) = _; rw [decide_eq_true (Nat.zero_le a)])⟩, (hs.bl.setCell (Nat.le_refl _) _).setCell (Nat.le_refl _) _⟩
      · obtain ⟨i, rfl⟩ : ∃ i, i1 = i + 1 := ⟨i1 - 1, by omega⟩
        have ez : (((i + 1 : Nat) : Int) - 1) = (i : Int) := by omega
        rw [ez]
        have hin : i < n := by omega
        have hini : (i : Int) < (n : Int) := by omega
        have HS := hide hst.row
        clear hst ez h0
        go_wp2
        go_loopw [9] (fun z wr => ∃ j : Nat, j ≤ m ∧ z = .int .i64 ((j : Int) - 1) ∧ ChSt (eqZ za zb) n m P w.heap.size w hb nb i j wr) (fun z _ => (intOf z + 1).toNat)
        case atStart => exact ⟨m, Nat.le_refl _, rfl, unhide HS⟩
        case round =>
          obtain ⟨j1, hj1, rfl, hst⟩ := hrel
          by_cases h0 : j1 = 0
          · subst h0
            have HS2 := hide hst.out
            clear hst HS
            go_wp2
            go_roundw
            case rel => exact ⟨i, nb, hb, by omega, by go_num, rfl, rfl, unhide HS2⟩
            case measure => simp [intOf] <;> omega
          · obtain ⟨j, rfl⟩ : ∃ j, j1 = j + 1 := ⟨j1 - 1, by omega⟩
            have ez : (((j + 1 : Nat) : Int) - 1) = (j : Int) := by omega
            rw [ez]
            have hjm : j < m := by omega
            have hjmi : (j : Int) < (m : Int) := by omega
            obtain ⟨ga, oa, hqa, cA⟩ := (unhide HA).at hst.bl i hin
            obtain ⟨gb, ob, hqb, cB⟩ := (unhide HB).at hst.bl j hjm
            subst hqa
            subst hqb
            have hbl := unhide hlt i j hin hjm
            have n0 : wr.cell? ⟨nb, j, none⟩ = some (.int .i64 (lcB (eqZ za zb) n m (i + 1) j : Int)) := hst.nx.cell (by omega)
            have n1 : wr.cell? ⟨nb, j + 1, none⟩ = some (.int .i64 (lcB (eqZ za zb) n m (i + 1) (j + 1) : Int)) := hst.nx.cell (by omega)
            have hH : wr.cell? ⟨hb, j + 1, none⟩ = some (.int .i64 (lcB (eqZ za zb) n m i (j + 1) : Int)) := by
              obtain ⟨H, q1, q2⟩ := hst.hr
              rw [q1.cell (by omega), q2 (j + 1) (by omega) (by omega)]
            obtain ⟨hj0, hHj⟩ : ∃ z : Int, wr.cell? ⟨hb, j, none⟩ = some (.int .i64 z) := by
              obtain ⟨H, q1, q2⟩ := hst.hr
              exact ⟨_, q1.cell (by omega)⟩
            have fH : wr.frozen? ⟨hb, j, none⟩ = false := by
              obtain ⟨H, q1, q2⟩ := hst.hr
              exact q1.frozen j
            have HNE := hide hst.ne
            have HST := hide hst
            have hxe : Hid ((za.getD i 0 == zb.getD j 0) = eqZ za zb i j) := hide rfl
            have LL := hide (lcB_in (eqZ za zb) n m i j hin hjm)
            have l1 := (lcB_le (eqZ za zb) n m _ (i + 1) (j + 1) (Nat.le_refl _)).1
            have PU := hide (fun hg => (unhide HST).put hjm hin hg)
            have PB := hide (fun hg x hc hl => (unhide HST).putbit hjm hin hg x hc hl)
            have hl64 : (i * m + j) / 64 < (P + 63) / 64 := by omega
            obtain ⟨x, hx, cX, fX⟩ := hst.bit (j := j) hl64
            have K2 := hide hst.k2
            have hip : (i : Int) * (m : Int) = ((i * m : Nat) : Int) := by simp
            have GB : Hid (goB (eqZ za zb) n m i j = (!eqZ za zb i j && decide (lcB (eqZ za zb) n m i (j + 1) ≤ lcB (eqZ za zb) n m (i + 1) j))) := hide rfl
            have hne1 := (unhide HNE).1
            have hne2 := (unhide HNE).2
            clear hst ez h0 HS
            generalize lcB (eqZ za zb) n m (i + 1) (j + 1) = A11 at *
            generalize lcB (eqZ za zb) n m (i + 1) j = A10 at *
            generalize lcB (eqZ za zb) n m i (j + 1) = A01 at *
            generalize lcB (eqZ za zb) n m i j = A00 at *
            generalize goB (eqZ za zb) n m i j = gB at *
            generalize hE : eqZ za zb i j = Eb at *
            generalize za.getD i 0 = xa at *
            generalize zb.getD j 0 = xb at *
            generalize i * m = p at *
            have hl1 : A11 ≤ 1000 := by omega
            cases Eb with
            | true =>
              have he := unhide hxe
              have e00 : A00 = A11 + 1 := by rw [unhide LL]; simp
              have HG := hide (unhide PU (by rw [unhide GB]; rfl))
              rw [e00] at HG
              clear PU PB cX fX hx e00
              go_wp2
              go_region
              go_wp2
              go_roundw
              case rel => exact ⟨j, by omega, by go_num, (show ChSt _ _ _ _ _ _ _ _ _ _ (wr.setCell ⟨hb, j, none⟩ (.int .i64 ((A11 : Int) + 1))) from unhide HG).drew⟩
              case measure => simp [intOf] <;> omega
            | false =>
              have he := unhide hxe
              by_cases hge : A01 ≤ A10
              · have e00 : A00 = A10 := by rw [unhide LL]; simp; omega
                have hgi : (A01 : Int) ≤ (A10 : Int) := by omega
                have HG := hide (unhide PB (by rw [unhide GB, decide_eq_true hge]; rfl) x cX hl64)
                rw [e00] at HG
                have C15 := hide (fun W (k2 : Blk W (w.heap.size + 2) _ _) (cc : W.cell? ⟨w.heap.size + 1, (p + j) / 64, none⟩ = _) (ff : W.frozen? ⟨w.heap.size + 1, (p + j) / 64, none⟩ = false) => setOnInA_any (w.heap.size + 2) (w.heap.size + 1) ((P + 63) / 64) ((P + 63) / 64) m i j p x W k2 hip (by omega) hl64 cc ff hx (by omega))
                have k2' := hide ((unhide K2).away (b' := hb) (o := j) (by omega) (.int .i64 (A10 : Int)))
                have cX' : Hid ((wr.setCell ⟨hb, j, none⟩ (.int .i64 (A10 : Int))).cell? ⟨w.heap.size + 1, (p + j) / 64, none⟩ = some (.int .u64 (x : Int))) := hide ((World.cell?_of_block (w := wr) (a := ⟨w.heap.size + 1, (p + j) / 64, none⟩) (Below.heap_setCell wr ⟨hb, j, none⟩ _ _ (by show w.heap.size + 1 ≠ hb; omega))).trans cX)
                have fX' : Hid ((wr.setCell ⟨hb, j, none⟩ (.int .i64 (A10 : Int))).frozen? ⟨w.heap.size + 1, (p + j) / 64, none⟩ = false) := hide ((World.frozen?_of_block (w := wr) (a := ⟨w.heap.size + 1, (p + j) / 64, none⟩) (Below.heap_setCell wr ⟨hb, j, none⟩ _ _ (by show w.heap.size + 1 ≠ hb; omega))).trans fX)
                clear PU PB cX fX e00
                unfold ptr at C15
                go_wp2
                go_region
                go_wp2
                go_region
                go_wp2_with fail
                refine Calls.mono (unhide C15 _ ?q1 ?q2 ?q3) ?_
                case q1 => exact unhide k2'
                case q2 => exact unhide cX'
                case q3 => exact unhide fX'
                rintro e w2 ⟨rfl, rfl⟩
                clear C15 k2' cX' fX'
                go_wp2
                go_roundw
                case rel => exact ⟨j, by omega, by go_num, (unhide HG).drew.drew⟩
                case measure => simp [intOf] <;> omega
              · have e00 : A00 = A01 := by rw [unhide LL]; simp; omega
                have hgi : ¬ (A01 : Int) ≤ (A10 : Int) := by omega
                have HG := hide (unhide PU (by rw [unhide GB, decide_eq_false hge]; rfl))
                rw [e00] at HG
                clear PU PB cX fX hx e00
                go_wp2
                go_region
                go_wp2
                go_region
                go_wp2
                go_roundw
                case rel => exact ⟨j, by omega, by go_num, (unhide HG).drew.drew⟩
                case measure => simp [intOf] <;> omega)
end Go.Proofs.YtbabmkilbbbmoaaDoor
