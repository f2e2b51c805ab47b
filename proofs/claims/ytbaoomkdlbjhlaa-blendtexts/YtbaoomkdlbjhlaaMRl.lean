/-
  What the reference's best of layer 20 keeps: rows of numbers, rows of rows.
-/
import Derived.Test.YtbaoomkdlbjhlaaMLl
namespace Go.Proofs.Ytbaoomkdlbjhlaa
open Go.RowKit Go.Maps
set_option linter.unusedVariables false
set_option linter.unusedSimpArgs false

theorem Blk.grown {w w' : World} {b : Nat} {vs : Array Value} {t : TypeId} {row : Option Nat} (h : Blk w b vs t) (hg : w.grownBy w' row) (hr : some b ≠ row) : Blk w' b vs t := (hg.block b h.lt hr).trans h
/-- A row of numbers, told by the place. -/
def IntsF (w : World) (q : Option Addr) (n : Nat) (f : Nat → Int) : Prop := ∃ g o, q = some ⟨g, o, none⟩ ∧ ∀ k, k < n → w.cell? ⟨g, o + k, none⟩ = some (.int .i64 (f k))
theorem cellB {w w' : World} {b o : Nat} {v : Value} (hb : Below w.heap.size w w') (h : w.cell? ⟨b, o, none⟩ = some v) : w'.cell? ⟨b, o, none⟩ = some v := (hb.cell (p := ⟨b, o, none⟩) (World.block_lt_of_cell? w _ h)).trans h
theorem IntsF.below {w w' : World} {q : Option Addr} {n : Nat} {f : Nat → Int} (h : IntsF w q n f) (hb : Below w.heap.size w w') : IntsF w' q n f := by
  obtain ⟨g, o, h1, h2⟩ := h
  exact ⟨g, o, h1, fun k hk => cellB hb (h2 k hk)⟩
theorem IntsF.congr {w : World} {q : Option Addr} {n : Nat} {f f' : Nat → Int} (h : IntsF w q n f) (e : ∀ k, k < n → f k = f' k) : IntsF w q n f' := by
  obtain ⟨g, o, h1, h2⟩ := h
  exact ⟨g, o, h1, fun k hk => by rw [← e k hk]; exact h2 k hk⟩
/-- Cells of an own row. -/
theorem owns_cells {w : World} {base : Nat} {e : TypeId} {v : Value} {n : Nat} {xs : List Value} (h : w.ownsRow base e 1 v n xs) (h0 : 0 < n) : ∃ g cap, v = .slice (some ⟨g, 0, none⟩) n cap ∧ base ≤ g ∧ n ≤ cap ∧ ∀ k, k < n → w.cell? ⟨g, k, none⟩ = xs[k]? := by
  obtain ⟨_, h⟩ := h
  rcases h with ⟨_, h1⟩ | ⟨g, cap, cur, h0, h1, h2, h3, h4, h5, h6⟩
  · omega
  · refine ⟨g, cap, h0, h1, h3, fun k hk => ?_⟩
    rw [Joins.cell_of_block h2, ← h6, List.getElem?_take, if_pos (by omega)]
    simp
theorem owns_lit (w : World) (x : Value) (t : TypeId) : (w.alloc (.cells #[x] t)).ownsRow w.heap.size t 1 (.slice (some ⟨w.heap.size, 0, none⟩) 1 1) 1 [x] :=
  ⟨rfl, .inr ⟨w.heap.size, 1, #[x], rfl, Nat.le_refl _, Blk.new w _ _, Nat.le_refl _, by decide, rfl, rfl⟩⟩
/-- Rows of rows: t of them. -/
def RestsV (w : World) (u : Value) (t : Nat) (m : Nat) (F : Nat → Nat → Int) : Prop :=
  ∃ g o c, u = .slice (some ⟨g, o, none⟩) t c ∧ t ≤ c ∧ ∀ i, i < t → ∃ q d, w.cell? ⟨g, o + i, none⟩ = some (.slice q (m + 1) d) ∧ IntsF w q (m + 1) (F i)
theorem RestsV.below {w w' : World} {u : Value} {t m : Nat} {F : Nat → Nat → Int} (h : RestsV w u t m F) (hb : Below w.heap.size w w') : RestsV w' u t m F := by
  obtain ⟨g, o, c, h1, h2, h3⟩ := h
  refine ⟨g, o, c, h1, h2, fun i hi => ?_⟩
  obtain ⟨q, d, h4, h5⟩ := h3 i hi
  exact ⟨q, d, cellB hb h4, h5.below hb⟩
/-- The values of a row's cells. -/
theorem RestsV.vals {w : World} {g o t m c : Nat} {F : Nat → Nat → Int} (h : RestsV w (.slice (some ⟨g, o, none⟩) t c) t m F) : ∃ vs : List Value, vs.length = t ∧ (∀ j u, vs[j]? = some u → w.cell? ⟨g, o + j, none⟩ = some u ∧ u.oneCell' = true) ∧ ∀ i, i < t → ∃ q d, vs[i]? = some (.slice q (m + 1) d) ∧ IntsF w q (m + 1) (F i) := by
  obtain ⟨g', o', c', h1, h2, h3⟩ := h
  cases h1
  have hch : ∃ f : Nat → Option Addr × Nat, ∀ i, i < t → w.cell? ⟨g, o + i, none⟩ = some (.slice (f i).1 (m + 1) (f i).2) ∧ IntsF w (f i).1 (m + 1) (F i) :=
    ⟨fun i => if hi : i < t then (Classical.choose (h3 i hi), Classical.choose (Classical.choose_spec (h3 i hi))) else (none, 0), fun i hi => by
      simp only [dif_pos hi]
      exact Classical.choose_spec (Classical.choose_spec (h3 i hi))⟩
  obtain ⟨f, hf⟩ := hch
  refine ⟨(List.range t).map (fun i => .slice (f i).1 (m + 1) (f i).2), by simp, fun j u hj => ?_, fun i hi => ?_⟩
  · have hjt : j < t := by
      have := (List.getElem?_eq_some_iff.1 hj).1
      simpa using this
    simp [hjt] at hj
    subst hj
    exact ⟨(hf j hjt).1, rfl⟩
  · exact ⟨(f i).1, (f i).2, by simp [hi], (hf i hi).2⟩
theorem vals_at {w w' : World} {g o : Nat} {vs : List Value} (h : ∀ j u, vs[j]? = some u → w.cell? ⟨g, o + j, none⟩ = some u ∧ u.oneCell' = true) (hb : Below w.heap.size w w') : ∀ j u, vs[j]? = some u → w'.cell? ((⟨g, o, none⟩ : Addr).add j) = some u := by
  intro j u hj
  have e : (⟨g, o, none⟩ : Addr).add j = ⟨g, o + j, none⟩ := by unfold Addr.add; split <;> simp_all
  rw [e]; exact cellB hb (h j u hj).1
theorem vals_one {w : World} {g o : Nat} {vs : List Value} (h : ∀ j u, vs[j]? = some u → w.cell? ⟨g, o + j, none⟩ = some u ∧ u.oneCell' = true) : ∀ u ∈ vs, u.oneCell' = true := by
  intro u hu
  obtain ⟨j, hj⟩ := List.mem_iff_getElem?.1 hu
  exact (h j u hj).2
theorem ints_vals {w : World} {g o n : Nat} {f : Nat → Int} (h : ∀ k, k < n → w.cell? ⟨g, o + k, none⟩ = some (.int .i64 (f k))) : ∀ j u, ((List.range n).map (fun k => Value.int .i64 (f k)))[j]? = some u → w.cell? ((⟨g, o, none⟩ : Addr).add j) = some u := by
  intro j u hj
  have hjn : j < n := by
    have := (List.getElem?_eq_some_iff.1 hj).1
    simpa using this
  simp [hjn] at hj
  subst hj
  have e : (⟨g, o, none⟩ : Addr).add j = ⟨g, o + j, none⟩ := by unfold Addr.add; split <;> simp_all
  rw [e]; exact h j hjn
theorem ints_one (n : Nat) (f : Nat → Int) : ∀ u ∈ (List.range n).map (fun k => Value.int .i64 (f k)), u.oneCell' = true := by
  intro u hu
  obtain ⟨k, _, rfl⟩ := List.mem_map.1 hu
  rfl
/-- A number put ahead of a row. -/
theorem ints_cons {w : World} {base : Nat} {v : Value} {n : Nat} {z : Int} {f : Nat → Int} (h : w.ownsRow base 3 1 v (1 + n) ([.int .i64 z] ++ (List.range n).map (fun k => Value.int .i64 (f k)))) : ∃ q c, v = .slice q (1 + n) c ∧ IntsF w q (1 + n) (fun k => if k = 0 then z else f (k - 1)) := by
  obtain ⟨g, cap, rfl, _, _, hc⟩ := owns_cells h (by omega)
  refine ⟨_, cap, rfl, g, 0, rfl, fun k hk => ?_⟩
  rw [Nat.zero_add, hc k hk]
  cases k with
  | zero => rfl
  | succ k =>
    have hk' : k < n := by omega
    simp [hk']
/-- A row put ahead of rows. -/
theorem rests_cons {w : World} {base : Nat} {v : Value} {t m d : Nat} {q : Option Addr} {vs : List Value} {F : Nat → Nat → Int} {f : Nat → Int} (h : w.ownsRow base 73 1 v (1 + t) ([.slice q (m + 1) d] ++ vs)) (hl : vs.length = t) (hq : IntsF w q (m + 1) f) (hv : ∀ i, i < t → ∃ q d, vs[i]? = some (.slice q (m + 1) d) ∧ IntsF w q (m + 1) (F i)) : RestsV w v (1 + t) m (fun i => if i = 0 then f else F (i - 1)) := by
  obtain ⟨g, cap, rfl, _, hcap, hc⟩ := owns_cells h (by omega)
  refine ⟨g, 0, cap, rfl, hcap, fun i hi => ?_⟩
  rw [Nat.zero_add, hc i hi]
  cases i with
  | zero => exact ⟨q, d, rfl, hq⟩
  | succ i =>
    obtain ⟨q', d', h1, h2⟩ := hv i (by omega)
    exact ⟨q', d', by simpa using h1, by simpa using h2⟩
theorem RestsV.congr {w : World} {u : Value} {t t' m : Nat} {F F' : Nat → Nat → Int} (h : RestsV w u t m F) (ht : t = t') (e : ∀ i k, i < t → k < m + 1 → F i k = F' i k) : RestsV w u t' m F' := by
  subst ht
  obtain ⟨g, o, c, h1, h2, h3⟩ := h
  refine ⟨g, o, c, h1, h2, fun i hi => ?_⟩
  obtain ⟨q, d, h4, h5⟩ := h3 i hi
  exact ⟨q, d, h4, h5.congr (fun k hk => e i k hi hk)⟩
end Go.Proofs.Ytbaoomkdlbjhlaa
