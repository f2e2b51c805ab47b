/-
  What match's choose does.
-/
import Derived.Test.YtbaoomkdlbjhlaaMCh
import Derived.Deep.OwnRows
namespace Go.Proofs.Ytbaoomkdlbjhlaa
open Go.RowKit
set_option linter.unusedVariables false
set_option linter.unusedSimpArgs false

/-- A slice of numbers as it lies in memory. -/
def IntsV (q : Option Addr) (n : Nat) (zs : List Int) (w : World) : Prop :=
  n = zs.length ∧ (0 < n → ∃ g o, q = some ⟨g, o, none⟩ ∧ ∀ j, j < n → w.cell? ⟨g, o + j, none⟩ = some (.int .i64 (zs.getD j 0)))
theorem IntsV.below {q : Option Addr} {n : Nat} {zs : List Int} {w w' : World} (h : IntsV q n zs w) (hb : Below w.heap.size w w') : IntsV q n zs w' := by
  obtain ⟨h1, h3⟩ := h
  refine ⟨h1, fun h0 => ?_⟩
  obtain ⟨g, o, h4, h5⟩ := h3 h0
  exact ⟨g, o, h4, fun j hj => (hb.cell (p := ⟨g, o + j, none⟩) (World.block_lt_of_cell? w _ (h5 j hj))).trans (h5 j hj)⟩
/-- Are two numbers the same? -/
def eqZ (za zb : List Int) (i j : Nat) : Bool := za.getD i 0 == zb.getD j 0

/-- Does it go on in the first list, if these are no pair? -/
def goB (E : Nat → Nat → Bool) (n m i j : Nat) : Bool := !E i j && decide (lcB E n m i (j + 1) ≤ lcB E n m (i + 1) j)
def BitsAt (E : Nat → Nat → Bool) (n m P g : Nat) (wr : World) (T : Nat → Nat → Bool) : Prop :=
  ∃ X : Nat → Nat, wr.rowIs g 86 ((P + 63) / 64) (fun k => wordV (X k)) ∧ (∀ k, X k < 18446744073709551616) ∧ ∀ a b, a < n → b < m → (X ((a * m + b) / 64)).testBit ((a * m + b) % 64) = (T a b && goB E n m a b)
/-- What holds while a row is reckoned: from place j on it is. -/
structure ChSt (E : Nat → Nat → Bool) (n m P B0 : Nat) (w : World) (hb nb i j : Nat) (wr : World) : Prop where
  ne : hb ≠ nb ∧ B0 + 2 < hb ∧ B0 + 2 < nb
  nx : wr.rowIs nb 3 (m + 1) (fun k => .int .i64 (lcB E n m (i + 1) k : Int))
  hr : ∃ H : Nat → Int, wr.rowIs hb 3 (m + 1) (fun k => .int .i64 (H k)) ∧ ∀ k, j ≤ k → k ≤ m → H k = (lcB E n m i k : Int)
  bt : BitsAt E n m P (B0 + 1) wr (fun a b => decide (i < a ∨ i = a ∧ j ≤ b))
  k0 : Blk wr B0 #[.int .i64 0, .slice none 0 0] 80
  k2 : Blk wr (B0 + 2) #[.int .i64 (m : Int), .slice (some ⟨B0 + 1, 0, none⟩) ((P + 63) / 64) ((P + 63) / 64)] 80
  bl : Below B0 w wr
/-- .. between rows: those from i on are reckoned. -/
structure OuSt (E : Nat → Nat → Bool) (n m P B0 : Nat) (w : World) (hb nb i : Nat) (wr : World) : Prop where
  ne : hb ≠ nb ∧ B0 + 2 < hb ∧ B0 + 2 < nb
  nx : wr.rowIs nb 3 (m + 1) (fun k => .int .i64 (lcB E n m i k : Int))
  hr : ∃ H : Nat → Int, wr.rowIs hb 3 (m + 1) (fun k => .int .i64 (H k)) ∧ H m = 0
  bt : BitsAt E n m P (B0 + 1) wr (fun a b => decide (i ≤ a))
  k0 : Blk wr B0 #[.int .i64 0, .slice none 0 0] 80
  k2 : Blk wr (B0 + 2) #[.int .i64 (m : Int), .slice (some ⟨B0 + 1, 0, none⟩) ((P + 63) / 64) ((P + 63) / 64)] 80
  bl : Below B0 w wr
theorem BitsAt.congr {E : Nat → Nat → Bool} {n m P g : Nat} {wr : World} {T U : Nat → Nat → Bool} (h : BitsAt E n m P g wr T) (e : ∀ a b, a < n → b < m → (T a b && goB E n m a b) = (U a b && goB E n m a b)) : BitsAt E n m P g wr U := by
  obtain ⟨X, h1, h2, h3⟩ := h
  exact ⟨X, h1, h2, fun a b ha hb => (h3 a b ha hb).trans (e a b ha hb)⟩
theorem OuSt.row {E : Nat → Nat → Bool} {n m P B0 : Nat} {w : World} {hb nb i : Nat} {wr : World} (h : OuSt E n m P B0 w hb nb (i + 1) wr) : ChSt E n m P B0 w hb nb i m wr := by
  obtain ⟨h1, h2, ⟨H, h3, h3'⟩, h4, h5, h6, h7⟩ := h
  refine ⟨h1, h2, ⟨H, h3, fun k hk hk2 => ?_⟩, h4.congr (fun a b ha hb => ?_), h5, h6, h7⟩
  · obtain rfl : k = m := by omega
    rw [h3', lcB_out _ _ _ _ _ (by omega)]; rfl
  · congr 1
    apply decide_eq_decide.2
    omega
theorem ChSt.out {E : Nat → Nat → Bool} {n m P B0 : Nat} {w : World} {hb nb i : Nat} {wr : World} (h : ChSt E n m P B0 w hb nb i 0 wr) : OuSt E n m P B0 w nb hb i wr := by
  obtain ⟨h1, h2, ⟨H, h3, h3'⟩, h4, h5, h6, h7⟩ := h
  refine ⟨⟨h1.1.symm, h1.2.2, h1.2.1⟩, h3.congr (fun k hk => by rw [h3' k (Nat.zero_le _) (by omega)]), ⟨fun k => (lcB E n m (i + 1) k : Int), h2, ?_⟩, h4.congr (fun a b ha hb => ?_), h5, h6, h7⟩
  · show ((lcB E n m (i + 1) m : Nat) : Int) = 0
    rw [lcB_out _ _ _ _ _ (by omega)]; rfl
  · congr 1
    apply decide_eq_decide.2
    omega
theorem rowIs_later {w w' : World} {b : Nat} {t : TypeId} {n : Nat} {f : Nat → Value} (h : w.rowIs b t n f) (hb : Below w.heap.size w w') : w'.rowIs b t n f := h.of_block (hb.block b h.lt)
/-- A store at place j, and no bit. -/
theorem ChSt.put {E : Nat → Nat → Bool} {n m P B0 : Nat} {w : World} {hb nb i j : Nat} {wr : World} (h : ChSt E n m P B0 w hb nb i (j + 1) wr) (hj : j < m) (hi : i < n) (hg : goB E n m i j = false) :
    ChSt E n m P B0 w hb nb i j (wr.setCell ⟨hb, j, none⟩ (.int .i64 (lcB E n m i j : Int))) := by
  obtain ⟨h1, h2, ⟨H, h3, h3'⟩, ⟨X, x1, x2, x3⟩, h5, h6, h7⟩ := h
  refine ⟨h1, h2.setOther (fun e => h1.1 e.symm) _, ⟨fun k => if k = j then (lcB E n m i j : Int) else H k, (h3.set j _).congr (fun k hk => ?_), fun k hk hk2 => ?_⟩, ⟨X, x1.setOther (by show B0 + 1 ≠ hb; omega) _, x2, fun a b ha hb => ?_⟩, h5.away (by omega) _, h6.away (by omega) _, h7.setCell (by show B0 ≤ hb; omega) _⟩
  · by_cases e : k = j
    · simp only [if_pos e]
    · simp only [if_neg e]
  · by_cases e : k = j
    · simp only [if_pos e]; rw [e]
    · simp only [if_neg e]; exact h3' k (by omega) hk2
  · rw [x3 a b ha hb]
    by_cases e : a = i ∧ b = j
    · rw [e.1, e.2, hg, Bool.and_false, Bool.and_false]
    · congr 1
      apply decide_eq_decide.2
      omega
theorem bit_upd (X : Nat → Nat) (at' c : Nat) : ((fun k => if k = at' / 64 then X (at' / 64) ||| 2 ^ (at' % 64) else X k) (c / 64)).testBit (c % 64) = ((X (c / 64)).testBit (c % 64) || decide (c = at')) := by
  show (if c / 64 = at' / 64 then X (at' / 64) ||| 2 ^ (at' % 64) else X (c / 64)).testBit (c % 64) = _
  by_cases e : c / 64 = at' / 64
  · rw [if_pos e, Nat.testBit_or, Nat.testBit_two_pow, e]
    congr 1
    apply decide_eq_decide.2
    omega
  · rw [if_neg e, decide_eq_false (by intro x; exact e (by rw [x])), Bool.or_false]
theorem place_uniq {m a b i j : Nat} (hb : b < m) (hj : j < m) : a * m + b = i * m + j ↔ a = i ∧ b = j := by
  constructor
  · intro h
    have e1 : a = i := by
      have h1 : (a * m + b) / m = a := by rw [Nat.mul_comm, Nat.mul_add_div (by omega), Nat.div_eq_of_lt hb]; rfl
      have h2 : (i * m + j) / m = i := by rw [Nat.mul_comm, Nat.mul_add_div (by omega), Nat.div_eq_of_lt hj]; rfl
      rw [← h1, ← h2, h]
    subst e1
    exact ⟨rfl, by omega⟩
  · rintro ⟨rfl, rfl⟩; rfl
/-- A store at place j, and a bit. -/
theorem ChSt.bit {E : Nat → Nat → Bool} {n m P B0 : Nat} {w : World} {hb nb i j k : Nat} {wr : World} (h : ChSt E n m P B0 w hb nb i k wr) (hl : (i * m + j) / 64 < (P + 63) / 64) :
    ∃ x : Nat, x < 18446744073709551616 ∧ wr.cell? ⟨B0 + 1, (i * m + j) / 64, none⟩ = some (.int .u64 (x : Int)) ∧ wr.frozen? ⟨B0 + 1, (i * m + j) / 64, none⟩ = false := by
  obtain ⟨h1, h2, ⟨H, h3, h3'⟩, ⟨X, x1, x2, x3⟩, h5, h6, h7⟩ := h
  exact ⟨X ((i * m + j) / 64), x2 _, x1.cell hl, x1.frozen _⟩
theorem ChSt.putbit {E : Nat → Nat → Bool} {n m P B0 : Nat} {w : World} {hb nb i j : Nat} {wr : World} (h : ChSt E n m P B0 w hb nb i (j + 1) wr) (hj : j < m) (hi : i < n) (hg : goB E n m i j = true) (x : Nat) (hc : wr.cell? ⟨B0 + 1, (i * m + j) / 64, none⟩ = some (.int .u64 (x : Int))) (hl : (i * m + j) / 64 < (P + 63) / 64) :
    ChSt E n m P B0 w hb nb i j (((wr.setCell ⟨hb, j, none⟩ (.int .i64 (lcB E n m i j : Int))).setCell ⟨B0 + 1, (i * m + j) / 64, none⟩ (wordV (x ||| 2 ^ ((i * m + j) % 64)))).drew) := by
  obtain ⟨h1, h2, ⟨H, h3, h3'⟩, ⟨X, x1, x2, x3⟩, h5, h6, h7⟩ := h
  have hx : X ((i * m + j) / 64) = x := by
    have := (x1.cell hl).symm.trans hc
    unfold wordV at this
    injection this with this
    injection this with _ this
    omega
  refine ⟨h1, ((h2.setOther (fun e => h1.1 e.symm) _).setOther (by show nb ≠ B0 + 1; omega) _), ⟨fun k => if k = j then (lcB E n m i j : Int) else H k, ((h3.set j _).congr (fun k hk => ?_)).setOther (by show hb ≠ B0 + 1; omega) _, fun k hk hk2 => ?_⟩, ⟨fun k => if k = (i * m + j) / 64 then X ((i * m + j) / 64) ||| 2 ^ ((i * m + j) % 64) else X k, ((x1.setOther (by show B0 + 1 ≠ hb; omega) _).set ((i * m + j) / 64) _).congr (fun k hk => ?_), fun k => ?_, fun a b ha hb => ?_⟩, (h5.away (by omega) _).away (by omega) _, (h6.away (by omega) _).away (by omega) _, ((h7.setCell (p := ⟨hb, j, none⟩) (by show B0 ≤ hb; omega) _).setCell (p := ⟨B0 + 1, (i * m + j) / 64, none⟩) (by show B0 ≤ B0 + 1; omega) _).drew⟩
  · by_cases e : k = j
    · simp only [if_pos e]
    · simp only [if_neg e]
  · by_cases e : k = j
    · simp only [if_pos e]; rw [e]
    · simp only [if_neg e]; exact h3' k (by omega) hk2
  · by_cases e : k = (i * m + j) / 64
    · simp only [if_pos e]; rw [hx]
    · simp only [if_neg e]
  · show (if k = (i * m + j) / 64 then X ((i * m + j) / 64) ||| 2 ^ ((i * m + j) % 64) else X k) < _
    by_cases e : k = (i * m + j) / 64
    · rw [if_pos e]; exact or_lt (x2 _) (Nat.mod_lt _ (by decide))
    · rw [if_neg e]; exact x2 _
  · rw [bit_upd X, x3 a b ha hb]
    by_cases e : a = i ∧ b = j
    · rw [decide_eq_true ((place_uniq hb hj).2 e), e.1, e.2, hg, Bool.or_true]
      simp
    · rw [decide_eq_false (fun x => e ((place_uniq hb hj).1 x)), Bool.or_false]
      congr 1
      apply decide_eq_decide.2
      omega
end Go.Proofs.Ytbaoomkdlbjhlaa
