/-
  Several texts in one: what the functions of the program and of the document's answer do.
-/
import Derived.Test.YtbabmkilbbbmoaaDoorMgAW
import Derived.Lib.AppendZeros
import Derived.Test.YtbabmkilbbbmoaaDoorMgBA
import Derived.Deep.RegionWith
import Derived.Deep.LoopGhost

/-
  The small case of rectolaw20: lines.
-/
namespace Go.Proofs.YtbabmkilbbbmoaaDoor
open Go.RowKit Go.Maps
set_option linter.unusedVariables false
set_option linter.unusedSimpArgs false

def p0 : Int × Int × Bool := (0, 0, false)
theorem flatP_split (L : List (Int × Int × Bool)) (k : Nat) (h : k < L.length) (j : Nat) (hj : j < 3) : (flatP L)[k * 3 + j]? = (pairL (L.getD k p0))[j]? := by
  induction L generalizing k with
  | nil => simp at h
  | cons e r ih =>
    cases k with
    | zero =>
      simp only [flatP, Nat.zero_mul, Nat.zero_add]
      rw [List.getElem?_append_left (by simp [pairL]; omega)]
      rfl
    | succ k =>
      simp only [flatP]
      rw [List.getElem?_append_right (by simp [pairL]; omega)]
      have : (k + 1) * 3 + j - (pairL e).length = k * 3 + j := by simp [pairL]; omega
      rw [this, ih k (by simpa using h)]
      rfl
/-- Pairs in memory, cell by cell. -/
theorem PairsV.cells {w : World} {base : Nat} {u : Value} {L : List (Int × Int × Bool)} (h : PairsV w base u L) : ∃ q c, u = .slice q L.length c ∧ (0 < L.length → ∃ g, q = some ⟨g, 0, none⟩ ∧ g < w.heap.size ∧ ∀ k, k < L.length → w.cell? ⟨g, k * 3, none⟩ = some (.int .i64 (L.getD k p0).1) ∧ w.cell? ⟨g, k * 3 + 1, none⟩ = some (.int .i64 (L.getD k p0).2.1) ∧ w.cell? ⟨g, k * 3 + 2, none⟩ = some (.bool (L.getD k p0).2.2)) := by
  obtain ⟨_, h⟩ := h
  rcases h with ⟨h1, h0⟩ | ⟨g, cap, cur, h0, h1, h2, h3, h4, h5, h6⟩
  · exact ⟨none, 0, by rw [h0]; exact h1, fun x => by omega⟩
  · refine ⟨_, cap, h0, fun hp => ⟨g, rfl, ?_, fun k hk => ?_⟩⟩
    · rcases Nat.lt_or_ge g w.heap.size with h' | h'
      · exact h'
      · rw [Array.getElem?_eq_none h'] at h2; cases h2
    · have hc : ∀ j, j < 3 → w.cell? ⟨g, k * 3 + j, none⟩ = (pairL (L.getD k p0))[j]? := by
        intro j hj
        rw [Joins.cell_of_block h2, ← flatP_split L k hk j hj, ← h6, List.getElem?_take, if_pos (by omega)]
        simp
      exact ⟨hc 0 (by decide), hc 1 (by decide), hc 2 (by decide)⟩
def lit3 (a b c : UInt8) : List ByteArray := [⟨#[a]⟩, ⟨#[b]⟩, ⟨#[c]⟩]
theorem view_lit (W W' : World) (a b c : UInt8) (h : Below (W.alloc (Obj.cells #[.string ⟨#[a]⟩, .string ⟨#[b]⟩, .string ⟨#[c]⟩] 9)).heap.size (W.alloc (Obj.cells #[.string ⟨#[a]⟩, .string ⟨#[b]⟩, .string ⟨#[c]⟩] 9)) W') : View W' (.slice (some ⟨W.heap.size, 0, none⟩) 3 3) (lit3 a b c) := by
  refine view_below ?_ h
  refine ⟨by show 3 ≤ _; decide, _, 3, rfl, fun _ => ⟨W.heap.size, 0, rfl, fun i hi => ?_⟩⟩
  have k := Blk.new W #[.string ⟨#[a]⟩, .string ⟨#[b]⟩, .string ⟨#[c]⟩] 9
  rw [Nat.zero_add, k.cell i]
  have hi' : i < 3 := hi
  rcases i with _ | _ | _ | i
  · rfl
  · rfl
  · rfl
  · omega
theorem lines_plain : whP (lnP (eqT (lit3 97 98 99) (lit3 98 120 99)) 3 3 0 0) = [((1 : Int), (0 : Int), true), ((2 : Int), (2 : Int), true)] := by kernel_rfl

set_option maxHeartbeats 1000000 in
theorem lines_any (w : World) : Calls Tryd.prog 9 #[] w fun e w' => e = .returned (.bool true) ∧ Below w.heap.size w w' := by
  have A1 : Below w.heap.size w (w.alloc (Obj.cells #[.string ⟨#[97]⟩, .string ⟨#[98]⟩, .string ⟨#[99]⟩] 9)) := (Below.refl _ _).alloc (Nat.le_refl _) _
  have A2 := A1.alloc A1.size (Obj.cells #[.string ⟨#[98]⟩, .string ⟨#[120]⟩, .string ⟨#[99]⟩] 9)
  have V1 := view_lit w _ 97 98 99 ((Below.refl _ _).alloc (Nat.le_refl _) (Obj.cells #[.string ⟨#[98]⟩, .string ⟨#[120]⟩, .string ⟨#[99]⟩] 9))
  have V2 := view_lit (w.alloc (Obj.cells #[.string ⟨#[97]⟩, .string ⟨#[98]⟩, .string ⟨#[99]⟩] 9)) _ 98 120 99 (Below.refl _ _)
  have C := hide (mline_any _ _ _ _ _ V1 V2 (fun k hk => by have hk' : k < 3 := hk; rcases k with _ | _ | _ | k <;> first | decide | omega) (fun k hk => by have hk' : k < 3 := hk; rcases k with _ | _ | _ | k <;> first | decide | omega) (by decide) (by decide))
  have HA := hide A2
  clear A1 A2 V1 V2
  go_enter Tryd.func9, Tryd.ntmps9
  go_wp2_with fail
  refine Calls.mono (by simpa using unhide C) ?_
  rintro e w2 ⟨u, rfl, hp, hb2⟩
  have e3 : whP (lnP (eqT (lit3 97 98 99) (lit3 98 120 99)) (lit3 97 98 99).length (lit3 98 120 99).length 0 0) = _ := lines_plain
  rw [e3] at hp
  obtain ⟨q, c, rfl, hc⟩ := hp.cells
  obtain ⟨g, rfl, hg, hcell⟩ := hc (by decide)
  obtain ⟨x0, x1, x2⟩ := hcell 0 (by decide)
  obtain ⟨y0, y1, y2⟩ := hcell 1 (by decide)
  have HB2 := hide hb2
  clear hp hcell hb2 hc e3 C
  simp only [List.getD, List.getElem?_cons_zero, List.getElem?_cons_succ, Option.getD_some, Nat.zero_mul, Nat.one_mul, Nat.zero_add, List.length_cons, List.length_nil] at x0 x1 x2 y0 y1 y2 ⊢
  go_wp2
  go_ret
  exact ⟨rfl, (unhide HA).trans ((unhide HB2).mono (unhide HA).size)⟩
end Go.Proofs.YtbabmkilbbbmoaaDoor

/-
  What the reference's best of layer 20 keeps: rows of numbers, rows of rows.
-/
namespace Go.Proofs.YtbabmkilbbbmoaaDoor
open Go.RowKit Go.Maps
set_option linter.unusedVariables false
set_option linter.unusedSimpArgs false

theorem Blk.grown {w w' : World} {b : Nat} {vs : Array Value} {t : TypeId} {row : Option Nat} (h : Blk w b vs t) (hg : w.grownBy w' row) (hr : some b ≠ row) : Blk w' b vs t := (hg.block b h.lt hr).trans h
/-- A row of numbers, told by the place. -/
def IntsF (w : World) (q : Option Addr) (n : Nat) (f : Nat → Int) : Prop := ∃ g o, q = some ⟨g, o, none⟩ ∧ ∀ k, k < n → w.cell? ⟨g, o + k, none⟩ = some (.int .i64 (f k))
theorem cellB {w w' : World} {b o : Nat} {v : Value} (hb : Below w.heap.size w w') (h : w.cell? ⟨b, o, none⟩ = some v) : w'.cell? ⟨b, o, none⟩ = some v := (hb.cell (p := ⟨b, o, none⟩) (World.block_lt_of_cell? w _ h)).trans h
theorem IntsF.below {w w' : World} {q : Option Addr} {n : Nat} {f : Nat → Int} (h : IntsF w q n f) (hb : Below w.heap.size w w') : IntsF w' q n f := by
  obtain ⟨g, o, h1, h2⟩ := h
  exact ⟨g, o, h1, fun k hk => cellB hb (h2 k hk)⟩
theorem IntsF.congr {w : World} {q : Option Addr} {n : Nat} {f f' : Nat → Int} (h : IntsF w q n f) (e : ∀ k, k < n → f k = f' k) : IntsF w q n f' := by
  obtain ⟨g, o, h1, h2⟩ := h
  exact ⟨g, o, h1, fun k hk => by rw [← e k hk]; exact h2 k hk⟩
/-- Cells of an own row. -/
theorem owns_cells {w : World} {base : Nat} {e : TypeId} {v : Value} {n : Nat} {xs : List Value} (h : w.ownsRow base e 1 v n xs) (h0 : 0 < n) : ∃ g cap, v = .slice (some ⟨g, 0, none⟩) n cap ∧ base ≤ g ∧ n ≤ cap ∧ ∀ k, k < n → w.cell? ⟨g, k, none⟩ = xs[k]? := by
  obtain ⟨_, h⟩ := h
  rcases h with ⟨_, h1⟩ | ⟨g, cap, cur, h0, h1, h2, h3, h4, h5, h6⟩
  · omega
  · refine ⟨g, cap, h0, h1, h3, fun k hk => ?_⟩
    rw [Joins.cell_of_block h2, ← h6, List.getElem?_take, if_pos (by omega)]
    simp
theorem owns_lit (w : World) (x : Value) (t : TypeId) : (w.alloc (.cells #[x] t)).ownsRow w.heap.size t 1 (.slice (some ⟨w.heap.size, 0, none⟩) 1 1) 1 [x] :=
  ⟨rfl, .inr ⟨w.heap.size, 1, #[x], rfl, Nat.le_refl _, Blk.new w _ _, Nat.le_refl _, by decide, rfl, rfl⟩⟩
/-- Rows of rows: t of them. -/
def RestsV (w : World) (u : Value) (t : Nat) (m : Nat) (F : Nat → Nat → Int) : Prop :=
  ∃ g o c, u = .slice (some ⟨g, o, none⟩) t c ∧ t ≤ c ∧ ∀ i, i < t → ∃ q d, w.cell? ⟨g, o + i, none⟩ = some (.slice q (m + 1) d) ∧ IntsF w q (m + 1) (F i)
theorem RestsV.below {w w' : World} {u : Value} {t m : Nat} {F : Nat → Nat → Int} (h : RestsV w u t m F) (hb : Below w.heap.size w w') : RestsV w' u t m F := by
  obtain ⟨g, o, c, h1, h2, h3⟩ := h
  refine ⟨g, o, c, h1, h2, fun i hi => ?_⟩
  obtain ⟨q, d, h4, h5⟩ := h3 i hi
  exact ⟨q, d, cellB hb h4, h5.below hb⟩
/-- The values of a row's cells. -/
theorem RestsV.vals {w : World} {g o t m c : Nat} {F : Nat → Nat → Int} (h : RestsV w (.slice (some ⟨g, o, none⟩) t c) t m F) : ∃ vs : List Value, vs.length = t ∧ (∀ j u, vs[j]? = some u → w.cell? ⟨g, o + j, none⟩ = some u ∧ u.oneCell' = true) ∧ ∀ i, i < t → ∃ q d, vs[i]? = some (.slice q (m + 1) d) ∧ IntsF w q (m + 1) (F i) := by
  obtain ⟨g', o', c', h1, h2, h3⟩ := h
  cases h1
  have hch : ∃ f : Nat → Option Addr × Nat, ∀ i, i < t → w.cell? ⟨g, o + i, none⟩ = some (.slice (f i).1 (m + 1) (f i).2) ∧ IntsF w (f i).1 (m + 1) (F i) :=
    ⟨fun i => if hi : i < t then (Classical.choose (h3 i hi), Classical.choose (Classical.choose_spec (h3 i hi))) else (none, 0), fun i hi => by
      simp only [dif_pos hi]
      exact Classical.choose_spec (Classical.choose_spec (h3 i hi))⟩
  obtain ⟨f, hf⟩ := hch
  refine ⟨(List.range t).map (fun i => .slice (f i).1 (m + 1) (f i).2), by simp, fun j u hj => ?_, fun i hi => ?_⟩
  · have hjt : j < t := by
      have := (List.getElem?_eq_some_iff.1 hj).1
      simpa using this
    simp [hjt] at hj
    subst hj
    exact ⟨(hf j hjt).1, rfl⟩
  · exact ⟨(f i).1, (f i).2, by simp [hi], (hf i hi).2⟩
theorem vals_at {w w' : World} {g o : Nat} {vs : List Value} (h : ∀ j u, vs[j]? = some u → w.cell? ⟨g, o + j, none⟩ = some u ∧ u.oneCell' = true) (hb : Below w.heap.size w w') : ∀ j u, vs[j]? = some u → w'.cell? ((⟨g, o, none⟩ : Addr).add j) = some u := by
  intro j u hj
  have e : (⟨g, o, none⟩ : Addr).add j = ⟨g, o + j, none⟩ := by unfold Addr.add; split <;> simp_all
  rw [e]; exact cellB hb (h j u hj).1
theorem vals_one {w : World} {g o : Nat} {vs : List Value} (h : ∀ j u, vs[j]? = some u → w.cell? ⟨g, o + j, none⟩ = some u ∧ u.oneCell' = true) : ∀ u ∈ vs, u.oneCell' = true := by
  intro u hu
  obtain ⟨j, hj⟩ := List.mem_iff_getElem?.1 hu
  exact (h j u hj).2
theorem ints_vals {w : World} {g o n : Nat} {f : Nat → Int} (h : ∀ k, k < n → w.cell? ⟨g, o + k, none⟩ = some (.int .i64 (f k))) : ∀ j u, ((List.range n).map (fun k => Value.int .i64 (f k)))[j]? = some u → w.cell? ((⟨g, o, none⟩ : Addr).add j) = some u := by
  intro j u hj
  have hjn : j < n := by
    have := (List.getElem?_eq_some_iff.1 hj).1
    simpa using this
  simp [hjn] at hj
  subst hj
  have e : (⟨g, o, none⟩ : Addr).add j = ⟨g, o + j, none⟩ := by unfold Addr.add; split <;> simp_all
  rw [e]; exact h j hjn
theorem ints_one (n : Nat) (f : Nat → Int) : ∀ u ∈ (List.range n).map (fun k => Value.int .i64 (f k)), u.oneCell' = true := by
  intro u hu
  obtain ⟨k, _, rfl⟩ := List.mem_map.1 hu
  rfl
/-- A number put ahead of a row. -/
theorem ints_cons {w : World} {base : Nat} {v : Value} {n : Nat} {z : Int} {f : Nat → Int} (h : w.ownsRow base 3 1 v (1 + n) ([.int .i64 z] ++ (List.range n).map (fun k => Value.int .i64 (f k)))) : ∃ q c, v = .slice q (1 + n) c ∧ IntsF w q (1 + n) (fun k => if k = 0 then z else f (k - 1)) := by
  obtain ⟨g, cap, rfl, _, _, hc⟩ := owns_cells h (by omega)
  refine ⟨_, cap, rfl, g, 0, rfl, fun k hk => ?_⟩
  rw [Nat.zero_add, hc k hk]
  cases k with
  | zero => rfl
  | succ k =>
    have hk' : k < n := by omega
    simp [hk']
/-- A row put ahead of rows. -/
theorem rests_cons {w : World} {base : Nat} {v : Value} {t m d : Nat} {q : Option Addr} {vs : List Value} {F : Nat → Nat → Int} {f : Nat → Int} (h : w.ownsRow base 162 1 v (1 + t) ([.slice q (m + 1) d] ++ vs)) (hl : vs.length = t) (hq : IntsF w q (m + 1) f) (hv : ∀ i, i < t → ∃ q d, vs[i]? = some (.slice q (m + 1) d) ∧ IntsF w q (m + 1) (F i)) : RestsV w v (1 + t) m (fun i => if i = 0 then f else F (i - 1)) := by
  obtain ⟨g, cap, rfl, _, hcap, hc⟩ := owns_cells h (by omega)
  refine ⟨g, 0, cap, rfl, hcap, fun i hi => ?_⟩
  rw [Nat.zero_add, hc i hi]
  cases i with
  | zero => exact ⟨q, d, rfl, hq⟩
  | succ i =>
    obtain ⟨q', d', h1, h2⟩ := hv i (by omega)
    exact ⟨q', d', by simpa using h1, by simpa using h2⟩
theorem RestsV.congr {w : World} {u : Value} {t t' m : Nat} {F F' : Nat → Nat → Int} (h : RestsV w u t m F) (ht : t = t') (e : ∀ i k, i < t → k < m + 1 → F i k = F' i k) : RestsV w u t' m F' := by
  subst ht
  obtain ⟨g, o, c, h1, h2, h3⟩ := h
  refine ⟨g, o, c, h1, h2, fun i hi => ?_⟩
  obtain ⟨q, d, h4, h5⟩ := h3 i hi
  exact ⟨q, d, h4, h5.congr (fun k hk => e i k hi hk)⟩
end Go.Proofs.YtbabmkilbbbmoaaDoor

/-
  An append to a row of the call's own: the row's block is the old one or a new one; blocks but one row's stay.
-/
namespace Go.Proofs.YtbabmkilbbbmoaaDoor
open Go.RowKit
set_option linter.unusedVariables false
set_option linter.unusedSimpArgs false

/-- Blocks but one row's stay. -/
def FrB (w : World) (v u : Value) : Prop := ∀ k, u.ownBlock = some k → v.ownBlock = some k ∨ w.heap.size ≤ k
def KpB (w : World) (v : Value) (w' : World) : Prop := ∀ b, b < w.heap.size → some b ≠ v.ownBlock → w'.heap[b]? = w.heap[b]?
theorem append_fresh {P : Program} (w : World) (base : Nat) (t ty e : TypeId) (i : TypeInfo) (z : Value) (size bytes : Nat) (ht : P.underlying t = some (.slice e)) (hi : P.info? e = some i) (hz : i.zero = some z)
    (hsize : i.size = size) (hby : i.bytes = bytes) (hzs : z.cells.size = size) (hsz : 0 < size)
    (v : Value) (n : Nat) (xs : List Value) (hown : w.ownsRow base e size v n xs)
    (a : Addr) (m c : Nat) (news : List Value) (hl : news.length = m * size) (hnews : ∀ j u, news[j]? = some u → w.cell? (a.add j) = some u) (h1 : ∀ u ∈ news, u.oneCell' = true)
    (h63 : n + m ≤ maxLen) (hbytes : (n + m) * bytes ≤ 140737488355328) (hbase : base ≤ w.heap.size) :
    ∃ v' w', (Builtin.append_ #[t, t] ty #[v, .slice (some a) m c]).run P w = .ok v' w' ∧ w'.ownsRow base e size v' (n + m) (xs ++ news) ∧ w.grownBy w' v.ownBlock ∧
      (∀ k, v'.ownBlock = some k → v.ownBlock = some k ∨ w.heap.size ≤ k) := by
  obtain ⟨v', w', hr, h2, h3, h4⟩ := run_append_own (P := P) w base t ty e i z size bytes ht hi hz hsize hby hzs hsz v n xs hown a m c news hl hnews h1 h63 hbytes hbase
  refine ⟨v', w', hr, h2, h3, ?_⟩
  subst hsize
  subst hby
  rcases hown.2 with ⟨rfl, rfl⟩ | ⟨g, cap, cur, rfl, hbg, hg, hnc, hcm, hcs, htake⟩
  · by_cases hm : m = 0
    · rw [h4.2 ⟨rfl, hm⟩]
      intro k hk
      cases hk
    · have hr' := run_append_nil (P := P) w t ty e i z ht hi hz a m c news hl hnews (by omega) (by simp only [maxLen] at h63; omega) (by have hb := hbytes; simp only [Nat.zero_add] at hb; omega)
      rw [hr'] at hr
      cases hr
      intro k hk
      have : w.heap.size = k := by simpa [Value.ownBlock] using hk
      exact .inr (by omega)
  · by_cases hroom : n + m ≤ cap
    · have hfit : n * i.size + news.length ≤ cur.size := by rw [hl, hcs, ← Nat.add_mul]; exact Nat.mul_le_mul_right _ hroom
      have hr' := run_append_room (P := P) w t ty e i ht hi g n cap cur hg a m c news hl hnews h1 hroom hfit
      rw [hr'] at hr
      cases hr
      intro k hk
      exact .inl hk
    · have holds : ∀ j u, xs[j]? = some u → w.cell? ((⟨g, 0, none⟩ : Addr).add j) = some u := hown.cells (g := g) rfl
      have hr' := run_append_grow (P := P) w t ty e i z ht hi hz ⟨g, 0, none⟩ n cap xs hown.1 holds a m c news hl hnews (by omega) (by simp only [maxLen] at h63; omega) (growslice_fits (by omega) hbytes)
      rw [hr'] at hr
      cases hr
      intro k hk
      have : w.heap.size = k := by simpa [Value.ownBlock] using hk
      exact .inr (by omega)
theorem wpList_append_fresh {P : Program} (w : World) {ops : Array Oper} {rest : List Oper} {o : Oper} {a : Act} {Q : Exit → Act → World → Prop} (hgd : o.guard = none) (s x : Operand) (t : TypeId)
    (ho : o.op = .call { callee := .builtin .append, args := #[s, x], argTypes := #[t, t] })
    (base : Nat) (e : TypeId) (i : TypeInfo) (z : Value) (size bytes : Nat) (ht : P.underlying t = some (.slice e)) (hi : P.info? e = some i) (hz : i.zero = some z)
    (hsize : i.size = size) (hby : i.bytes = bytes) (hzs : z.cells.size = size) (hsz : 0 < size)
    (v : Value) (n : Nat) (xs : List Value) (hs : a.eval s = v) (hown : w.ownsRow base e size v n xs)
    (ad : Addr) (m c : Nat) (news : List Value) (hx : a.eval x = .slice (some ad) m c) (hl : news.length = m * size) (hnews : ∀ j u, news[j]? = some u → w.cell? (ad.add j) = some u) (h1 : ∀ u ∈ news, u.oneCell' = true)
    (h63 : n + m ≤ maxLen) (hbytes : (n + m) * bytes ≤ 140737488355328) (hbase : base ≤ w.heap.size)
    (h : ∀ v' w', w'.ownsRow base e size v' (n + m) (xs ++ news) → w.grownBy w' v.ownBlock → (∀ k, v'.ownBlock = some k → v.ownBlock = some k ∨ w.heap.size ≤ k) → wpList P ops Q rest (a.put o.dst v') w') : wpList P ops Q (o :: rest) a w := by
  obtain ⟨v', w', hr, h2, h3, h4⟩ := append_fresh (P := P) w base t o.type e i z size bytes ht hi hz hsize hby hzs hsz v n xs hown ad m c news hl hnews h1 h63 hbytes hbase
  exact Lib.wpList_append_run w hgd s x t t ho v _ hs hx v' w' hr (h v' w' h2 h3 h4)
end Go.Proofs.YtbabmkilbbbmoaaDoor

/-
  What 'match.appendAlike' does.
-/
namespace Go.Proofs.YtbabmkilbbbmoaaDoor
open Go.RowKit
set_option linter.unusedVariables false
set_option linter.unusedSimpArgs false

theorem whB_snoc (b : Bool) (L : List (Nat × Nat)) (i j : Nat) : whB b (L ++ [(i, j)]) = whB b L ++ [((i : Int), (j : Int), b)] := by unfold whB; rw [List.map_append]; rfl
theorem pairs_snoc {w : World} {base : Nat} {u : Value} {M : List (Int × Int × Bool)} {p : Int × Int × Bool} (h : w.ownsRow base 37 3 u (M.length + 1) (flatP M ++ pairL p)) : PairsV w base u (M ++ [p]) := by
  unfold PairsV
  rw [List.length_append, flatP_app]
  simpa [flatP] using h
/-- What holds ahead of a round of appendAlike. -/
structure AlS (W0 w : World) (base bq : Nat) (v : Value) (A : Nat → Nat → Bool) (j1 i1 : Nat) (L : List (Int × Int × Bool)) (full : List (Nat × Nat)) (gap : Array Value) (i j : Nat) (K : List (Nat × Nat)) (u : Value) (wr : World) : Prop where
  row : PairsV wr base u (L ++ whB false K)
  eq : K ++ alF A j1 (i1 - i) i j = full
  bl : Below base w wr
  fr : FrB w v u
  ne : ∀ q, u.ownBlock = some q → q ≠ w.heap.size
  kp : KpB w v wr
  gp : Blk wr w.heap.size gap 117
  sz : w.heap.size ≤ wr.heap.size
set_option maxHeartbeats 4000000 in
set_option maxRecDepth 100000 in
theorem apal_any (W0 : World) (qa qb : Option Addr) (na nb ca cb : Nat) (za zb : List Int) (ha : MtsV qa na za W0) (hb : MtsV qb nb zb W0) (v : Value) (L : List (Int × Int × Bool)) (i0 i1 j0 j1 : Nat) (w : World) (hrow : PairsV w W0.heap.size v L) (hbl : Below W0.heap.size W0 w)
    (hi : i0 ≤ i1) (hi1 : i1 ≤ na) (hj : j0 ≤ j1) (hj1 : j1 ≤ nb) (hn : na ≤ 1000 ∧ nb ≤ 1000) (hL : L.length ≤ 10000) :
    Calls Tryd.prog 61 #[v, .slice qa na ca, .slice qb nb cb, .agg #[.int .i64 (i0 : Int), .int .i64 (i1 : Int), .int .i64 (j0 : Int), .int .i64 (j1 : Int)]] w fun e w' => ∃ u, e = .returned u ∧ PairsV w' W0.heap.size u (L ++ whB false (alF (eqZ za zb) j1 (i1 - i0) i0 j0)) ∧ Below W0.heap.size w w' ∧ FrB w v u ∧ KpB w v w' := by
  obtain ⟨p0', hp0, hp1, hp2, hp3⟩ := mfoPair
  obtain ⟨uq, un, uc, hu⟩ := slice_of hrow
  subst hu
  have HA := hide ha
  have HB := hide hb
  have HBL := hide hbl
  have hz := hbl.size
  have HR0 := hide hrow
  have HOWN : Hid (∀ q, (Value.slice uq un uc).ownBlock = some q → W0.heap.size ≤ q ∧ q < w.heap.size) := hide (fun q hq => hrow.lt q hq)
  have BX := hide (Blk.new w #[.int .i64 (i0 : Int), .int .i64 (i1 : Int), .int .i64 (j0 : Int), .int .i64 (j1 : Int)] 117)
  have HBX : Hid (Below w.heap.size w (w.alloc (Obj.cells #[.int .i64 (i0 : Int), .int .i64 (i1 : Int), .int .i64 (j0 : Int), .int .i64 (j1 : Int)] 117))) := hide ((Below.refl _ _).alloc (Nat.le_refl _) _)
  have HR := hide (hrow.alloc (Obj.cells #[.int .i64 (i0 : Int), .int .i64 (i1 : Int), .int .i64 (j0 : Int), .int .i64 (j1 : Int)] 117))
  have hal := alF_len (eqZ za zb) j1 (i1 - i0) i0 j0
  clear ha hb hrow hbl
  go_enter Tryd.func61, Tryd.ntmps61
  have hbase : W0.heap.size ≤ w.heap.size := hz
  generalize hfull : alF (eqZ za zb) j1 (i1 - i0) i0 j0 = full at *
  have HFULL := hide hfull
  clear hfull
  have hW1 : Below W0.heap.size w (w.alloc (Obj.cells #[.int .i64 (i0 : Int), .int .i64 (i1 : Int), .int .i64 (j0 : Int), .int .i64 (j1 : Int)] 117)) := (Below.refl _ _).alloc hz _
  have HST : Hid (AlS W0 w W0.heap.size 0 (.slice uq un uc) (eqZ za zb) j1 i1 L full #[.int .i64 (i0 : Int), .int .i64 (i1 : Int), .int .i64 (j0 : Int), .int .i64 (j1 : Int)] i0 j0 [] (.slice uq un uc) (w.alloc (Obj.cells #[.int .i64 (i0 : Int), .int .i64 (i1 : Int), .int .i64 (j0 : Int), .int .i64 (j1 : Int)] 117))) := hide ⟨by show PairsV _ _ _ (L ++ []); rw [List.append_nil]; exact unhide HR, unhide HFULL, hW1, fun k hk => .inl hk, fun q hq => by have := (unhide HOWN q hq).2; omega, fun b hb _ => (unhide HBX).block b hb, unhide BX, by simp⟩
  clear HR hW1 BX
  go_wp2
  go_step3
  go_wp2
  go_step3
  go_wp2
  generalize w.alloc (Obj.cells #[.int .i64 (i0 : Int), .int .i64 (i1 : Int), .int .i64 (j0 : Int), .int .i64 (j1 : Int)] 117) = W1 at *
  go_loopg [10, 9, 0] (i1 - i0) (fun ga iv jv u wr => ∃ (i j : Nat) (K : List (Nat × Nat)), i + ga = i1 ∧ j0 ≤ j ∧ j ≤ j1 ∧ iv = .int .i64 (i : Int) ∧ jv = .int .i64 (j : Int) ∧ AlS W0 w W0.heap.size 0 (.slice uq un uc) (eqZ za zb) j1 i1 L full #[.int .i64 (i0 : Int), .int .i64 (i1 : Int), .int .i64 (j0 : Int), .int .i64 (j1 : Int)] i j K u wr)
  case atStart => exact ⟨i0, j0, [], by omega, Nat.le_refl _, hj, rfl, rfl, unhide HST⟩
  case round =>
    clear HST
    obtain ⟨i, j, K, hig, hj0, hjj, rfl, rfl, hS⟩ := hrel
    obtain ⟨vq, vn, vc, hu⟩ := slice_of hS.row
    subst hu
    have HS := hide hS
    have g1 := hS.gp.cell 1
    have g3 := hS.gp.cell 3
    have hKl : K.length ≤ full.length := by have := congrArg List.length hS.eq; rw [List.length_append] at this; omega
    cases gk with
    | zero =>
      have hii : i = i1 := by omega
      subst hii
      have hF : K = full := by have := hS.eq; rw [Nat.sub_self] at this; simpa [alF] using this
      subst hF
      have HO := hide hS
      have hni : ¬ (i : Int) < (i : Int) := by omega
      clear hS HS
      go_wp2
      try rw [Exit.noGoto_ret]
      go_ret
      exact ⟨_, rfl, (unhide HO).row, (unhide HO).bl, (unhide HO).fr, (unhide HO).kp⟩
    | succ ga =>
      have hlt : (i : Int) < (i1 : Int) := by omega
      have hna : i < na := by omega
      clear hS
      go_wp2
      obtain ⟨wo, hwo⟩ : ∃ wo, wo = wr := ⟨_, rfl⟩
      subst hwo
      go_loopg [11, 9, 0] (j1 - j) (fun gb xv nv uv wx => ∃ x : Nat, x + gb = j1 ∧ j ≤ x ∧ (∀ y, j ≤ y → y < x → eqZ za zb i y = false) ∧ xv = .int .i64 (x : Int) ∧ nv = .int .i64 (j : Int) ∧ uv = .slice vq vn vc ∧ Below wo.heap.size wo wx)
      case atStart => exact ⟨j, by omega, Nat.le_refl _, fun y h1 h2 => by omega, rfl, rfl, rfl, Below.refl _ _⟩
      case round =>
        obtain ⟨x, hxg, hjx, hno, rfl, rfl, rfl, hbx⟩ := hrel
        have HNO := hide hno
        have HBXX := hide hbx
        have f1 := cellB hbx g1
        have f3 := cellB hbx g3
        have hi1' : i1 - i = ga + 1 := by omega
        have hi2' : i1 - (i + 1) = ga := by omega
        cases gk with
        | zero =>
          have hxe : x = j1 := by omega
          have hlt2 : ¬ (x : Int) < (j1 : Int) := by omega
          have HS2 : Hid (AlS W0 w W0.heap.size 0 (.slice uq un uc) (eqZ za zb) j1 i1 L full #[.int .i64 (i0 : Int), .int .i64 (i1 : Int), .int .i64 (j0 : Int), .int .i64 (j1 : Int)] (i + 1) j K (.slice vq vn vc) wr) := hide (by
            have h := unhide HS
            refine ⟨ownsRow_below h.row hbx, ?_, h.bl.trans (hbx.mono (by have := h.sz; omega)), h.fr, h.ne, fun b hb hne => (hbx.block b (by have := h.sz; omega)).trans (h.kp b hb hne), h.gp.later hbx, by have := h.sz; have := hbx.size; omega⟩
            rw [hi2', ← h.eq, hi1', alF_none (fdF_none _ _ _ (fun y h1 h2 => hno y h1 (by omega)))])
          clear hno hbx hxe
          go_wp2
          go_roundg ga
          case rel => exact ⟨i + 1, j, K, by omega, hj0, hjj, by go_num, rfl, unhide HS2⟩
          case measure => omega
        | succ gb =>
          have hlt2 : (x : Int) < (j1 : Int) := by omega
          have hb0 : Below W0.heap.size W0 wr := (unhide HBL).trans ((unhide HS).bl.trans (hbx.mono (by have := (unhide HS).sz; omega)))
          obtain ⟨gA, oA, hqA, cA⟩ := (unhide HA).at hb0 i hna
          obtain ⟨gB, oB, hqB, cB⟩ := (unhide HB).at hb0 x (by omega)
          subst hqA
          subst hqB
          have hxb : (x : Int) < (nb : Int) := by omega
          have hia : (i : Int) < (na : Int) := by omega
          have hEq : Hid ((za.getD i 0 == zb.getD x 0) = eqZ za zb i x) := hide rfl
          cases hE : eqZ za zb i x with
          | false =>
            have he : (za.getD i 0 == zb.getD x 0) = false := (unhide hEq).trans hE
            have HNO2 : Hid (∀ y, j ≤ y → y < x + 1 → eqZ za zb i y = false) := hide (fun y h1 h2 => by
              by_cases e : y = x
              · rw [e]; exact hE
              · exact unhide HNO y h1 (by omega))
            generalize za.getD i 0 = xa at *
            generalize zb.getD x 0 = xb at *
            clear hno hbx hb0 hE hEq
            go_wp2
            go_quiet (fail)
            go_wp2
            go_roundg gb
            case rel => exact ⟨x + 1, by omega, by omega, unhide HNO2, by go_num, rfl, rfl, _root_.Go.below_drewN (unhide HBXX) _⟩
            case measure => omega
          | true =>
            have he : (za.getD i 0 == zb.getD x 0) = true := (unhide hEq).trans hE
            have HFD : Hid (fdF (eqZ za zb i) (j1 - j) j = some x) := hide (fdF_some _ _ _ _ hjx (by omega) (fun y h1 h2 => hno y h1 h2) hE)
            have HSz := hide (unhide HS).sz
            have HRx := hide (ownsRow_below (unhide HS).row hbx)
            have HG := hide ((unhide HS).gp.later hbx)
            have HKP := hide (unhide HS).kp
            have HNE := hide (unhide HS).ne
            have HFR := hide (unhide HS).fr
            have HBo := hide ((unhide HS).bl.trans (hbx.mono (by have := (unhide HS).sz; omega)))
            have HEQ := hide (unhide HS).eq
            have hwl : (L ++ whB false K).length ≤ 11001 := by unfold whB; rw [List.length_append, List.length_map]; omega
            have hzx := hbx.size
            have hszo := (unhide HS).sz
            generalize za.getD i 0 = xa at *
            generalize zb.getD x 0 = xb at *
            unfold PairsV at HRx
            clear hno hbx hb0 hE hEq HS
            go_wp2
            go_quiet (fail)
            have hD : Below wr.heap.size wr (wr.drewN nq) := below_draws wr nq
            generalize wr.drewN nq = wd at *
            have HRd := hide (ownsRow_below (unhide HRx) hD)
            have hzd := hD.size
            go_wp2_with (at_builtin; refine wpList_append_fresh _ rfl _ _ 26 rfl W0.heap.size 37 p0' (.agg #[.int .i64 0, .int .i64 0, .bool false]) 3 24 Tryd.underlying26 hp0 hp1 hp2 hp3 rfl (by decide) (.slice vq vn vc) _ _ rfl ((unhide HRd).alloc _) ⟨wd.heap.size, 0, none⟩ 1 1 [.int .i64 (i : Int), .int .i64 (x : Int), .bool false] rfl rfl (cell_three_new _ _ _ _ _) (by simp [Value.oneCell']) (by simp only [maxLen]; omega) (by omega) (by simp; omega) ?_)
            intro u9 w9 hown hgr hfr
            have HB9 : Hid (Below wr.heap.size wr (wd.alloc (Obj.cells #[.int .i64 (i : Int), .int .i64 (x : Int), .bool false] 37))) := hide (hD.alloc hzd _)
            have HS2 : Hid (AlS W0 w W0.heap.size 0 (.slice uq un uc) (eqZ za zb) j1 i1 L full #[.int .i64 (i0 : Int), .int .i64 (i1 : Int), .int .i64 (j0 : Int), .int .i64 (j1 : Int)] (i + 1) (x + 1) (K ++ [(i, x)]) u9 w9) := hide (by
              have hne := unhide HNE
              refine ⟨?_, ?_, ?_, ?_, ?_, ?_, ?_, ?_⟩
              · rw [whB_snoc, ← List.append_assoc]
                exact pairs_snoc (by rw [List.length_append]; exact hown)
              · rw [hi2', List.append_assoc, ← unhide HEQ, hi1', alF_some (unhide HFD)]
                rfl
              · exact ((unhide HBo).trans ((unhide HB9).mono (by omega))).grown hgr (by simp; omega) (fun q hq => ((unhide HRd).lt q hq).1)
              · intro k hk
                rcases hfr k hk with h | h
                · exact unhide HFR k h
                · exact .inr (by have h2 : wd.heap.size ≤ k := by first | exact h | exact Nat.le_trans (by simp) h
                                 omega)
              · intro q hq
                rcases hfr q hq with h | h
                · exact hne q h
                · have h2 : wd.heap.size ≤ q := by first | exact h | exact Nat.le_trans (by simp) h
                  omega
              · intro b hb hne2
                have h1 := (unhide HB9).block b (by omega)
                have h0 := (unhide HBXX).block b (by omega)
                refine (hgr.block b (by simp; omega) (fun e => ?_)).trans (h1.trans (h0.trans (unhide HKP b hb hne2)))
                rcases unhide HFR b e.symm with h | h
                · exact hne2 h.symm
                · omega
              · exact ((unhide HG).later (unhide HB9)).grown hgr (fun e => hne _ e.symm rfl)
              · have := hgr.size; simp at this; omega)
            obtain ⟨yq, yn, yc, hy⟩ := slice_of (unhide HS2).row
            subst hy
            clear hown hgr hfr HB9 hD
            go_wp2
            go_roundg ga
            case rel => exact ⟨i + 1, x + 1, K ++ [(i, x)], by omega, by omega, by omega, by go_num, by go_num, unhide HS2⟩
            case measure => omega
end Go.Proofs.YtbabmkilbbbmoaaDoor
