/-
  Several texts in one: what the functions of the program and of the document's answer do.
-/
import Derived.Test.YtbabmkilbbbmoaaDoorMgBO
import Derived.Laws.OwnMore
import Derived.Test.YtbabmkilbbbmoaaDoorMgBB
import Derived.Lib.AppendZeros

/-
  Two lists of nodes, one behind the other (JAp's, for the seats of layer 20).
-/
namespace Go.Proofs.YtbabmkilbbbmoaaDoor
open Go.RowKit
set_option linter.unusedVariables false
set_option linter.unusedSimpArgs false

def appJ : Forest → Forest → Forest
  | .nil, g => g
  | .cons k sp n ats tx kids r, g => .cons k sp n ats tx kids (appJ r g)
theorem appJ_len : ∀ (f g : Forest), (appJ f g).len = f.len + g.len
  | .nil, g => by show g.len = 0 + g.len; omega
  | .cons k sp n ats tx kids r, g => by show (appJ r g).len + 1 = r.len + 1 + g.len; rw [appJ_len r g]; omega
theorem appJ_count : ∀ (f g : Forest), (appJ f g).count = f.count + g.count
  | .nil, g => by show g.count = 0 + g.count; omega
  | .cons k sp n ats tx kids r, g => by show 1 + kids.count + (appJ r g).count = 1 + kids.count + r.count + g.count; rw [appJ_count r g]; omega
theorem appJ_sm : ∀ (f g : Forest), SmF f → SmF g → SmF (appJ f g)
  | .nil, g, _, h => h
  | .cons k sp n ats tx kids r, g, h, h' => ⟨h.1, h.2.1, appJ_sm r g h.2.2 h'⟩
theorem lies_appJ {w : World} {b : Nat} : ∀ (f g : Forest) (o : Nat), Lies f b o w → Lies g b (o + f.len * 6) w → Lies (appJ f g) b o w
  | .nil, g, o, _, h => by have h2 : Lies g b (o + 0 * 6) w := h; rw [Nat.zero_mul, Nat.add_zero] at h2; exact h2
  | .cons k sp n ats tx kids r, g, o, h, h' => by
    refine ⟨h.1, lies_appJ r g (o + 6) h.2 ?_⟩
    have : o + (Forest.cons k sp n ats tx kids r).len * 6 = o + 6 + r.len * 6 := by simp [Forest.len]; omega
    rw [this] at h'
    exact h'
/-- Nodes' cells; wherever these lie later there lie the nodes. -/
theorem lies_cellsJ {w : World} {g : Nat} : ∀ (f : Forest) (o : Nat), Lies f g o w → ∃ xs : List Value, xs.length = f.len * 6 ∧ (∀ j u, xs[j]? = some u → w.cell? ⟨g, o + j, none⟩ = some u) ∧ (∀ u ∈ xs, u.oneCell' = true) ∧ ∀ W g' o', Below w.heap.size w W → (∀ j u, xs[j]? = some u → W.cell? ⟨g', o' + j, none⟩ = some u) → Lies f g' o' W
  | .nil, o, _ => ⟨[], rfl, (fun j u h => by simp at h), (fun u h => by cases h), fun W g' o' _ _ => trivial⟩
  | .cons k sp n ats tx kids rest, o, h => by
    obtain ⟨⟨h0, h1, h2, ⟨qa, ca, h3, h3'⟩, h4, ⟨qk, ck, h5, h6, h7⟩⟩, hr⟩ := h
    obtain ⟨xs, x1, x2, x3, x4⟩ := lies_cellsJ rest (o + 6) hr
    refine ⟨.int .i64 k :: .int .i64 sp :: .string n :: .slice qa ats.length ca :: .string tx :: .slice qk kids.len ck :: xs, by simp [x1, Forest.len]; omega, fun j u hj => ?_, fun u hu => ?_, fun W g' o' hb hc => ?_⟩
    · match j, hj with
      | 0, hj => simp at hj; rw [← hj]; exact h0
      | 1, hj => simp at hj; rw [← hj]; exact h1
      | 2, hj => simp at hj; rw [← hj]; exact h2
      | 3, hj => simp at hj; rw [← hj]; exact h3
      | 4, hj => simp at hj; rw [← hj]; exact h4
      | 5, hj => simp at hj; rw [← hj]; exact h5
      | j + 6, hj =>
        have := x2 j u (by simpa using hj)
        rw [show o + (j + 6) = o + 6 + j by omega]; exact this
    · simp only [List.mem_cons] at hu
      rcases hu with rfl | rfl | rfl | rfl | rfl | rfl | hu
      · rfl
      · rfl
      · rfl
      · rfl
      · rfl
      · rfl
      · exact x3 u hu
    · refine ⟨⟨hc 0 _ rfl, hc 1 _ rfl, hc 2 _ rfl, ⟨qa, ca, hc 3 _ rfl, h3'.below hb⟩, hc 4 _ rfl, ⟨qk, ck, hc 5 _ rfl, h6, ?_⟩⟩, x4 W g' (o' + 6) hb (fun j u hj => ?_)⟩
      · rcases h7 with h7 | ⟨g1, o1, hq, hl⟩
        · exact Or.inl h7
        · exact Or.inr ⟨g1, o1, hq, hl.below hb⟩
      · have := hc (j + 6) u (by simpa using hj)
        rw [show o' + 6 + j = o' + (j + 6) by omega]; exact this
theorem infoNodeR : (Tryd.prog.info? 44).map (fun i => (i.zero, i.size, i.bytes)) = some (some (.agg #[.int .i64 0, .int .i64 0, .string ⟨#[]⟩, .slice none 0 0, .string ⟨#[]⟩, .slice none 0 0]), 6, 96) := by kernel_rfl
theorem addJ (g o j : Nat) : (⟨g, o, none⟩ : Addr).add j = ⟨g, o + j, none⟩ := by unfold Addr.add; split <;> simp_all
/-- append of nodes to a row of one's own. -/
theorem append_nodes (w0 w : World) (base : Nat) (v : Value) (n : Nat) (xs : List Value) (f : Forest) (q : Option Addr) (cap : Nat) (hown : w.ownsRow base 44 6 v n xs) (hf : Fo q f w0) (hb : Below w0.heap.size w0 w) (hn : n + f.len ≤ 1000000) (hbase : base ≤ w.heap.size) :
    ∃ ys v' w', (Builtin.append_ #[22, 22] 22 #[v, .slice q f.len cap]).run Tryd.prog w = .ok v' w' ∧ w'.ownsRow base 44 6 v' (n + f.len) (xs ++ ys) ∧ w.grownBy w' v.ownBlock ∧ ys.length = f.len * 6 ∧ ∀ W g' o', Below w0.heap.size w0 W → (∀ j u, ys[j]? = some u → W.cell? ⟨g', o' + j, none⟩ = some u) → Lies f g' o' W := by
  obtain ⟨i0, hi0, hi1, hi2, hi3⟩ := info_parts infoNodeR
  cases q with
  | none =>
    have h0 : f = .nil := by
      rcases hf with h | ⟨g, o, h, _⟩
      · exact h
      · cases h
    subst h0
    refine ⟨[], v, w, ?_, by simpa [Forest.len] using hown, World.grownBy.refl _ _, rfl, fun W g' o' _ _ => trivial⟩
    rcases hown.2 with ⟨rfl, rfl⟩ | ⟨g, cap', cur, rfl, _, _, hnc, _⟩
    · simp [Builtin.append_, run_underlying Tryd.underlying22, sizeOf, typeInfo, hi0, Builtin.lenOf, Builtin.firstCells, Forest.len]
    · simp [Builtin.append_, run_underlying Tryd.underlying22, sizeOf, typeInfo, hi0, Builtin.lenOf, Builtin.firstCells, hnc, storeCells, Forest.len]
  | some ad =>
    obtain ⟨ys, y1, y2, y3, y4⟩ : ∃ ys : List Value, ys.length = f.len * 6 ∧ (∀ j u, ys[j]? = some u → w.cell? (ad.add j) = some u) ∧ (∀ u ∈ ys, u.oneCell' = true) ∧ ∀ W g' o', Below w0.heap.size w0 W → (∀ j u, ys[j]? = some u → W.cell? ⟨g', o' + j, none⟩ = some u) → Lies f g' o' W := by
      rcases hf with h | ⟨g, o, h, hl⟩
      · subst h; exact ⟨[], rfl, (fun j u h => by simp at h), (fun u h => by cases h), fun W g' o' _ _ => trivial⟩
      · injection h with h
        subst h
        obtain ⟨ys, y1, y2, y3, y4⟩ := lies_cellsJ f o hl
        exact ⟨ys, y1, fun j u hj => by rw [addJ]; exact cell_later hb (y2 j u hj), y3, y4⟩
    obtain ⟨v', w', h1, h2, h3, _⟩ := run_append_own (P := Tryd.prog) w base 22 22 44 i0 (.agg #[.int .i64 0, .int .i64 0, .string ⟨#[]⟩, .slice none 0 0, .string ⟨#[]⟩, .slice none 0 0]) 6 96 Tryd.underlying22 hi0 hi1 hi2 hi3 rfl (by decide) v n xs hown ad f.len cap ys y1 y2 y3 (by unfold maxLen; omega) (by omega) hbase
    exact ⟨ys, v', w', h1, h2, h3, y1, y4⟩
theorem fo_joined {w0 w : World} {base : Nat} {v : Value} {f g : Forest} {xs ys : List Value} (hown : w.ownsRow base 44 6 v (f.len + g.len) (xs ++ ys)) (hl : xs.length = f.len * 6) (hb : Below w0.heap.size w0 w)
    (hx : ∀ W g' o', Below w0.heap.size w0 W → (∀ j u, xs[j]? = some u → W.cell? ⟨g', o' + j, none⟩ = some u) → Lies f g' o' W) (hy : ∀ W g' o', Below w0.heap.size w0 W → (∀ j u, ys[j]? = some u → W.cell? ⟨g', o' + j, none⟩ = some u) → Lies g g' o' W) :
    ∃ q cap, v = .slice q (appJ f g).len cap ∧ (appJ f g).len ≤ cap ∧ Fo q (appJ f g) w := by
  obtain ⟨a, cap, hv⟩ := slice_n hown
  subst hv
  rw [appJ_len]
  rcases hown.2 with ⟨h1, h0⟩ | ⟨b, cap', cur, h1, hb', h2, h3, _⟩
  · refine ⟨a, cap, rfl, by omega, Or.inl ?_⟩
    have := appJ_len f g
    cases hc : appJ f g with
    | nil => rfl
    | cons _ _ _ _ _ _ r => rw [hc] at this; simp [Forest.len] at this; omega
  · injection h1 with h4 h5 h6
    subst h4 h6
    refine ⟨_, _, rfl, h3, Or.inr ⟨b, 0, rfl, lies_appJ f g 0 (hx w b 0 hb fun j u hj => ?_) (hy w b _ hb fun j u hj => ?_)⟩⟩
    · have hj' : (xs ++ ys)[j]? = some u := by rw [List.getElem?_append_left (List.getElem?_eq_some_iff.1 hj).1]; exact hj
      have := hown.cells (g := b) rfl j u hj'
      rw [addJ] at this
      exact this
    · have hj' : (xs ++ ys)[f.len * 6 + j]? = some u := by rw [List.getElem?_append_right (by omega), hl, show f.len * 6 + j - f.len * 6 = j by omega]; exact hj
      have := hown.cells (g := b) rfl _ u hj'
      rw [addJ, Nat.zero_add] at this
      rw [Nat.zero_add]; exact this
end Go.Proofs.YtbabmkilbbbmoaaDoor

/-
  The reference's classes of layer 20, plainly: two nodes of two lists have one class just if they have one key.
-/
namespace Go.Proofs.YtbabmkilbbbmoaaDoor
open Go.RowKit
set_option linter.unusedVariables false
set_option linter.unusedSimpArgs false

theorem appJ_dropL : ∀ (k : Nat) (f g : Forest), k ≤ f.len → (appJ f g).drop k = appJ (f.drop k) g
  | 0, f, g, _ => by rw [Forest.drop_zero, Forest.drop_zero]
  | k + 1, .nil, g, h => by simp [Forest.len] at h
  | k + 1, .cons _ _ _ _ _ _ r, g, h => appJ_dropL k r g (by simp [Forest.len] at h; omega)
theorem appJ_dropR : ∀ (f g : Forest) (k : Nat), (appJ f g).drop (f.len + k) = g.drop k
  | .nil, g, k => by show g.drop (0 + k) = _; rw [Nat.zero_add]
  | .cons _ _ _ _ _ _ r, g, k => by
    rw [show (Forest.cons _ _ _ _ _ _ r).len + k = (r.len + k) + 1 by simp [Forest.len]; omega]
    exact appJ_dropR r g k
theorem appJ_keyL (f g : Forest) (k : Nat) (h : k < f.len) : keyT (appJ f g) k = keyT f k := by
  obtain ⟨kk, sp, n, ats, tx, kids, hd⟩ := Forest.drop_cons k f h
  unfold keyT
  rw [appJ_dropL k f g (by omega), hd]
  rfl
theorem appJ_keyR (f g : Forest) (k : Nat) : keyT (appJ f g) (f.len + k) = keyT g k := by
  unfold keyT
  rw [appJ_dropR]
theorem appJ_kids {f g : Forest} (hf : KidsOk f) (hg : KidsOk g) : KidsOk (appJ f g) := by
  intro k kk sp n ats tx kids rest hk hd
  by_cases h : k < f.len
  · obtain ⟨kk', sp', n', ats', tx', kids', hd'⟩ := Forest.drop_cons k f h
    rw [appJ_dropL k f g (by omega), hd'] at hd
    injection hd with _ _ _ _ _ e
    rw [← e]
    exact hf k _ _ _ _ _ _ _ h hd'
  · obtain ⟨j, rfl⟩ : ∃ j, k = f.len + j := ⟨k - f.len, by omega⟩
    rw [appJ_dropR] at hd
    rw [appJ_len] at hk
    exact hg j _ _ _ _ _ _ _ (by omega) hd
/-- Is node i of f as node k of a? -/
def EN (f a : Forest) (i k : Nat) : Bool := (keyT a k).toList == (keyT f i).toList
theorem EN_iff {f a : Forest} {i k : Nat} : EN f a i k = true ↔ keyT a k = keyT f i := by unfold EN; rw [beq_iff_eq]; exact toList_eq
theorem clT_inj {x y : Nat} (hx : x ≤ 2000) (hy : y ≤ 2000) (h : (clT x).data.toList = (clT y).data.toList) : x = y := by
  unfold clT str at h
  rw [strOfNums_data, strOfNums_data] at h
  simp only [List.map_cons, List.map_nil, List.cons.injEq, and_true] at h
  obtain ⟨h1, h2⟩ := h
  have e1 := congrArg UInt8.toNat h1
  have e2 := congrArg UInt8.toNat h2
  simp only [UInt8.toNat_ofNat'] at e1 e2
  omega
theorem fcN_is {q : Nat → Bool} {m i : Nat} (hi : i < m) (h : q i = true) : fcN q m < m ∧ q (fcN q m) = true := by
  unfold fcN
  cases hx : fdF q m 0 with
  | none =>
    exfalso
    have hall : ∀ (f j : Nat), fdF q f j = none → ∀ y, j ≤ y → y < j + f → q y = false := by
      intro f
      induction f with
      | zero => intro j _ y h1 h2; omega
      | succ f ih =>
        intro j hn y h1 h2
        rw [fdF] at hn
        split at hn
        · cases hn
        · rename_i hq
          by_cases e : y = j
          · subst e; simpa using hq
          · exact ih (j + 1) hn y (by omega) (by omega)
    have := hall m 0 hx i (Nat.zero_le _) (by omega)
    rw [h] at this; cases this
  | some x =>
    have := fdF_in q m 0 x hx
    exact ⟨by simpa using this.2.1, this.2.2⟩
theorem cls_tx (E : Nat → Nat → Bool) (m n i : Nat) (h : i < n) : tx (clsT E m n) i = clT (fcN (E i) m) := by unfold tx clsT; simp [List.getD, h]
theorem cls_same (f h : Forest) (hl : f.len + h.len ≤ 2000) (i j : Nat) (hi : i < f.len) (hj : j < h.len) :
    eqT (clsT (EN f (appJ f h)) (f.len + h.len) f.len) (clsT (EN h (appJ f h)) (f.len + h.len) h.len) i j = eqT (ksT f) (ksT h) i j := by
  have m1 := fcN_is (q := EN f (appJ f h) i) (m := f.len + h.len) (i := i) (by omega) (EN_iff.2 (appJ_keyL f h i hi))
  have m2 := fcN_is (q := EN h (appJ f h) j) (m := f.len + h.len) (i := f.len + j) (by omega) (EN_iff.2 (appJ_keyR f h j))
  unfold eqT
  rw [cls_tx _ _ _ _ hi, cls_tx _ _ _ _ hj, ksT_tx f i hi, ksT_tx h j hj]
  have hiff : ((clT (fcN (EN f (appJ f h) i) (f.len + h.len))).data.toList = (clT (fcN (EN h (appJ f h) j) (f.len + h.len))).data.toList) ↔ (keyT f i).data.toList = (keyT h j).data.toList := by
    constructor
    · intro e
      have e2 := clT_inj (by omega) (by omega) e
      have a := EN_iff.1 m1.2
      have b := EN_iff.1 m2.2
      rw [e2] at a
      rw [← a, ← b]
    · intro e
      have e3 : keyT f i = keyT h j := ByteArray.ext (Array.toList_inj.1 e)
      have e4 : EN f (appJ f h) i = EN h (appJ f h) j := by funext k; unfold EN; rw [e3]
      rw [e4]
  by_cases hk : (keyT f i).data.toList = (keyT h j).data.toList
  · rw [decide_eq_true hk, decide_eq_true (hiff.2 hk)]
  · rw [decide_eq_false hk, decide_eq_false (fun x => hk (hiff.1 x))]
end Go.Proofs.YtbabmkilbbbmoaaDoor

/-
  The law's own 'same' of rectolaw20: the same pairs?
-/
namespace Go.Proofs.YtbabmkilbbbmoaaDoor
open Go.RowKit Go.Maps
set_option linter.unusedVariables false
set_option linter.unusedSimpArgs false

/-- Pairs in memory of the one type or the other one, cell by cell. -/
def PrCells (w : World) (u : Value) (L : List (Int × Int × Bool)) : Prop := ∃ q c, u = .slice q L.length c ∧ (0 < L.length → ∃ g, q = some ⟨g, 0, none⟩ ∧ ∀ k, k < L.length → w.cell? ⟨g, k * 3, none⟩ = some (.int .i64 (L.getD k p0).1) ∧ w.cell? ⟨g, k * 3 + 1, none⟩ = some (.int .i64 (L.getD k p0).2.1) ∧ w.cell? ⟨g, k * 3 + 2, none⟩ = some (.bool (L.getD k p0).2.2))
theorem owns_pr {w : World} {base : Nat} {t : TypeId} {u : Value} {L : List (Int × Int × Bool)} (h : w.ownsRow base t 3 u L.length (flatP L)) : PrCells w u L := by
  obtain ⟨_, h⟩ := h
  rcases h with ⟨h1, h0⟩ | ⟨g, cap, cur, h0, h1, h2, h3, h4, h5, h6⟩
  · exact ⟨none, 0, by rw [h0]; exact h1, fun x => by omega⟩
  · refine ⟨_, cap, h0, fun hp => ⟨g, rfl, fun k hk => ?_⟩⟩
    have hc : ∀ j, j < 3 → w.cell? ⟨g, k * 3 + j, none⟩ = (pairL (L.getD k p0))[j]? := by
      intro j hj
      rw [Joins.cell_of_block h2, ← flatP_split L k hk j hj, ← h6, List.getElem?_take, if_pos (by omega)]
      simp
    exact ⟨hc 0 (by decide), hc 1 (by decide), hc 2 (by decide)⟩
theorem PrCells.below {w w' : World} {u : Value} {L : List (Int × Int × Bool)} (h : PrCells w u L) (hb : Below w.heap.size w w') : PrCells w' u L := by
  obtain ⟨q, c, h1, h2⟩ := h
  refine ⟨q, c, h1, fun h0 => ?_⟩
  obtain ⟨g, h3, h4⟩ := h2 h0
  have hc : ∀ p v, w.cell? ⟨g, p, none⟩ = some v → w'.cell? ⟨g, p, none⟩ = some v := fun p v hv => (hb.cell (p := ⟨g, p, none⟩) (World.block_lt_of_cell? w _ hv)).trans hv
  exact ⟨g, h3, fun k hk => ⟨hc _ _ (h4 k hk).1, hc _ _ (h4 k hk).2.1, hc _ _ (h4 k hk).2.2⟩⟩

set_option maxHeartbeats 2000000 in
set_option maxRecDepth 100000 in
theorem same20_yes (u v : Value) (L : List (Int × Int × Bool)) (w : World) (hu : PrCells w u L) (hv : PrCells w v L) (hl : L.length ≤ 1000000) :
    Calls Tryd.prog 10 #[u, v] w fun e w' => e = .returned (.bool true) ∧ Below w.heap.size w w' := by
  obtain ⟨q1, c1, rfl, h1⟩ := hu
  obtain ⟨q2, c2, rfl, h2⟩ := hv
  have H1 := hide h1
  have H2 := hide h2
  generalize hn : L.length = n at *
  clear h1 h2 hn
  go_enter Tryd.func10, Tryd.ntmps10
  go_wp2
  go_loopw [8] (fun i wr => ∃ k : Nat, k ≤ n ∧ i = .int .i64 (k : Int) ∧ Below w.heap.size w wr) (fun i _ => n - (intOf i).toNat)
  case atStart => exact ⟨0, Nat.zero_le _, rfl, Below.refl _ _⟩
  case round =>
    obtain ⟨k, hk, rfl, hbl⟩ := hrel
    by_cases hp : k < n
    · have hpi : (k : Int) < (n : Int) := by omega
      have hpn : ¬ (n : Int) ≤ (k : Int) := by omega
      have hpd : decide (n ≤ k) = false := decide_eq_false (by omega)
      obtain ⟨g1, hq1, f1⟩ := unhide H1 (by omega)
      obtain ⟨g2, hq2, f2⟩ := unhide H2 (by omega)
      subst hq1
      subst hq2
      have hc : ∀ g p v, w.cell? ⟨g, p, none⟩ = some v → wr.cell? ⟨g, p, none⟩ = some v := fun g p v hv => (hbl.cell (p := ⟨g, p, none⟩) (World.block_lt_of_cell? w _ hv)).trans hv
      have a0 := hc _ _ _ (f1 k hp).1
      have a1 := hc _ _ _ (f1 k hp).2.1
      have a2 := hc _ _ _ (f1 k hp).2.2
      have b0 := hc _ _ _ (f2 k hp).1
      have b1 := hc _ _ _ (f2 k hp).2.1
      have b2 := hc _ _ _ (f2 k hp).2.2
      generalize (L.getD k p0).1 = x at *
      generalize (L.getD k p0).2.1 = y at *
      generalize (L.getD k p0).2.2 = z at *
      have HBL := hide hbl
      clear hc f1 f2 hbl
      go_wp2
      go_region
      go_wp2
      go_roundw
      case rel => exact ⟨k + 1, by omega, by go_num, (unhide HBL).drew⟩
      case measure => simp [intOf]; omega
    · have hpi : ¬ (k : Int) < (n : Int) := by omega
      go_wp2
      go_ret
      exact ⟨by simp, hbl⟩
end Go.Proofs.YtbabmkilbbbmoaaDoor

/-
  What the reference's 'at' of layer 20 does: the pair of a place, if the list has one.
-/
namespace Go.Proofs.YtbabmkilbbbmoaaDoor
open Go.RowKit Go.Maps
set_option linter.unusedVariables false
set_option linter.unusedSimpArgs false

def patF : List (Int × Int × Bool) → Int → Int × Int × Bool
  | [], i => (i, -1, false)
  | p :: r, i => if p.1 = i then p else patF r i
theorem patF_yes {L : List (Int × Int × Bool)} {i : Int} {k : Nat} (hk : k < L.length) (h : (L.getD k p0).1 = i) : patF (L.drop k) i = L.getD k p0 := by
  rw [List.getD, List.getElem?_eq_getElem hk] at h ⊢
  rw [List.drop_eq_getElem_cons hk, patF, if_pos (by exact h)]
  rfl
theorem patF_no {L : List (Int × Int × Bool)} {i : Int} {k : Nat} (hk : k < L.length) (h : ¬ (L.getD k p0).1 = i) : patF (L.drop k) i = patF (L.drop (k + 1)) i := by
  rw [List.getD, List.getElem?_eq_getElem hk] at h
  rw [List.drop_eq_getElem_cons hk, patF, if_neg (by exact h)]
def pairC (p : Int × Int × Bool) : Value := .agg #[.int .i64 p.1, .int .i64 p.2.1, .bool p.2.2]

set_option maxHeartbeats 2000000 in
set_option maxRecDepth 100000 in
theorem rat20_any (u : Value) (L : List (Int × Int × Bool)) (i : Int) (w : World) (hu : PrCells w u L) (hl : L.length ≤ 1000000) :
    Calls Tryd.prog 34 #[u, .int .i64 i] w fun e w' => e = .returned (pairC (patF L i)) ∧ Below w.heap.size w w' := by
  obtain ⟨q1, c1, rfl, h1⟩ := hu
  have H1 := hide h1
  have HY := hide (fun k => @patF_yes L i k)
  have HN := hide (fun k => @patF_no L i k)
  have H0 := hide (show patF L i = patF (L.drop 0) i from rfl)
  have HE := hide (fun k (h : ¬ k < L.length) => (show patF (L.drop k) i = (i, -1, false) by rw [List.drop_eq_nil_of_le (by omega)]; rfl))
  generalize hn : L.length = n at *
  unfold pairC
  clear h1 hn
  go_enter Tryd.func34, Tryd.ntmps34
  go_wp2
  go_loopw [9] (fun x wr => ∃ k : Nat, k ≤ n ∧ x = .int .i64 (k : Int) ∧ Below w.heap.size w wr ∧ Blk wr w.heap.size #[.int .i64 0, .int .i64 0, .bool false] 63 ∧ patF L i = patF (L.drop k) i) (fun x _ => n - (intOf x).toNat)
  case atStart => exact ⟨0, Nat.zero_le _, rfl, (Below.refl _ _).alloc (Nat.le_refl _) _, Blk.new w _ _, unhide H0⟩
  case round =>
    obtain ⟨k, hk, rfl, hbl, hB, heq⟩ := hrel
    have HB := hide hB
    have HBL := hide hbl
    by_cases hp : k < n
    · have hpi : (k : Int) < (n : Int) := by omega
      obtain ⟨g1, hq1, f1⟩ := unhide H1 (by omega)
      subst hq1
      have hc : ∀ g p v, w.cell? ⟨g, p, none⟩ = some v → wr.cell? ⟨g, p, none⟩ = some v := fun g p v hv => (hbl.cell (p := ⟨g, p, none⟩) (World.block_lt_of_cell? w _ hv)).trans hv
      have a0 := hc _ _ _ (f1 k hp).1
      have a1 := hc _ _ _ (f1 k hp).2.1
      have a2 := hc _ _ _ (f1 k hp).2.2
      by_cases he : (L.getD k p0).1 = i
      · have hR := unhide HY k hp he
        rw [← heq] at hR
        have HRE := hide hR
        generalize L.getD k p0 = y at *
        obtain ⟨yi, yj, yb⟩ := y
        dsimp only at *
        clear hc f1 hR heq hbl hB
        have hyi : yi = i := he
        subst hyi
        have KB := (unhide HB).alloc (Obj.cells #[Value.int .i64 yi, Value.int .i64 yj, Value.bool yb] 63)
        have r0 : (wr.alloc (Obj.cells #[Value.int .i64 yi, Value.int .i64 yj, Value.bool yb] 63)).cell? ⟨w.heap.size, 0, none⟩ = some (Value.int .i64 0) := KB.cell 0
        have r1 : (wr.alloc (Obj.cells #[Value.int .i64 yi, Value.int .i64 yj, Value.bool yb] 63)).cell? ⟨w.heap.size, 1, none⟩ = some (Value.int .i64 0) := KB.cell 1
        have r2 : (wr.alloc (Obj.cells #[Value.int .i64 yi, Value.int .i64 yj, Value.bool yb] 63)).cell? ⟨w.heap.size, 2, none⟩ = some (Value.bool false) := KB.cell 2
        have e0 : (wr.alloc (Obj.cells #[Value.int .i64 yi, Value.int .i64 yj, Value.bool yb] 63)).frozen? ⟨w.heap.size, 0, none⟩ = false := KB.frozen 0
        have e1 : (wr.alloc (Obj.cells #[Value.int .i64 yi, Value.int .i64 yj, Value.bool yb] 63)).frozen? ⟨w.heap.size, 1, none⟩ = false := KB.frozen 1
        have e2 : (wr.alloc (Obj.cells #[Value.int .i64 yi, Value.int .i64 yj, Value.bool yb] 63)).frozen? ⟨w.heap.size, 2, none⟩ = false := KB.frozen 2
        have KF := hide (((KB.set 0 (by simp) (.int .i64 yi)).set 1 (by simp) (.int .i64 yj)).set 2 (by simp) (.bool yb))
        clear KB
        go_wp2
        have g0 := (unhide KF).cell 0
        have g1 := (unhide KF).cell 1
        have g2 := (unhide KF).cell 2
        refine bodyPost_ret (v := .agg #[.int .i64 yi, .int .i64 yj, .bool yb]) (by simp [results, Tryd.results34, go_sem, g0, g1, g2]) rfl ?_
        exact ⟨by rw [unhide HRE], ((((unhide HBL).alloc (unhide HBL).size _).setCell (Nat.le_refl _) _).setCell (Nat.le_refl _) _).setCell (Nat.le_refl _) _⟩
      · have hR := unhide HN k hp he
        have HRE := hide (heq.trans hR)
        have he2 : ((L.getD k p0).1 == i) = false := beq_eq_false_iff_ne.2 he
        generalize L.getD k p0 = y at *
        obtain ⟨yi, yj, yb⟩ := y
        dsimp only at *
        clear hc f1 hR heq hbl hB
        go_wp2
        go_roundw
        case rel => exact ⟨k + 1, by omega, by go_num, (unhide HBL).alloc (unhide HBL).size _, (unhide HB).alloc _, unhide HRE⟩
        case measure => simp [intOf]; omega
    · have hpi : ¬ (k : Int) < (n : Int) := by omega
      have HRE := hide (heq.trans (unhide HE k hp))
      clear hbl hB heq
      have KB := unhide HB
      have r0 : (wr).cell? ⟨w.heap.size, 0, none⟩ = some (Value.int .i64 0) := KB.cell 0
      have r1 : (wr).cell? ⟨w.heap.size, 1, none⟩ = some (Value.int .i64 0) := KB.cell 1
      have r2 : (wr).cell? ⟨w.heap.size, 2, none⟩ = some (Value.bool false) := KB.cell 2
      have e0 : (wr).frozen? ⟨w.heap.size, 0, none⟩ = false := KB.frozen 0
      have e1 : (wr).frozen? ⟨w.heap.size, 1, none⟩ = false := KB.frozen 1
      have e2 : (wr).frozen? ⟨w.heap.size, 2, none⟩ = false := KB.frozen 2
      have KF := hide (((KB.set 0 (by simp) (.int .i64 i)).set 1 (by simp) (.int .i64 (-1))).set 2 (by simp) (.bool false))
      clear KB
      go_wp2
      have g0 := (unhide KF).cell 0
      have g1 := (unhide KF).cell 1
      have g2 := (unhide KF).cell 2
      refine bodyPost_ret (v := .agg #[.int .i64 i, .int .i64 (-1), .bool false]) (by simp [results, Tryd.results34, go_sem, g0, g1, g2]) rfl ?_
      exact ⟨by rw [unhide HRE], (((unhide HBL).setCell (Nat.le_refl _) _).setCell (Nat.le_refl _) _).setCell (Nat.le_refl _) _⟩
end Go.Proofs.YtbabmkilbbbmoaaDoor

/-
  What the reference's Whole of layer 20 does.
-/
namespace Go.Proofs.YtbabmkilbbbmoaaDoor
open Go.RowKit Go.Maps
set_option linter.unusedVariables false
set_option linter.unusedSimpArgs false

theorem en_call {W0 : World} {f a : Forest} {vf va : Nat → NdC} (sf : SmF f) (sa : SmF a) (kf : KidsOk f) (ka : KidsOk a)
    (hf : ∀ k, k < f.len → ∃ kk sp n ats tx kids, f.drop k = .cons kk sp n ats tx kids (f.drop (k + 1)) ∧ NdV kk sp n ats tx kids (vf k).val W0 ∧ (vf k).k = kk ∧ (vf k).sp = sp ∧ (vf k).n = n)
    (ha : ∀ k, k < a.len → ∃ kk sp n ats tx kids, a.drop k = .cons kk sp n ats tx kids (a.drop (k + 1)) ∧ NdV kk sp n ats tx kids (va k).val W0 ∧ (va k).k = kk ∧ (va k).sp = sp ∧ (va k).n = n) :
    ∀ i k, i < f.len → k < a.len → ∀ W, Below W0.heap.size W0 W → Calls Tryd.prog 20 #[(va k).val, (vf i).val] W fun e w' => e = .returned (.bool (EN f a i k)) ∧ Below W.heap.size W w' := by
  intro i k hi hk W hW
  obtain ⟨k1, s1, n1, a1, t1, c1, d1, v1, _⟩ := hf i hi
  obtain ⟨k2, s2, n2, a2, t2, c2, d2, v2, _⟩ := ha k hk
  have x1 := smF_drop i f sf
  have x2 := smF_drop k a sa
  have y1 := kf i _ _ _ _ _ _ _ hi d1
  have y2 := ka k _ _ _ _ _ _ _ hk d2
  unfold EN keyT
  rw [d1] at x1 ⊢
  rw [d2] at x2 ⊢
  dsimp only
  rw [node_key]
  exact ndv_two k2 s2 n2 a2 t2 c2 k1 s1 n1 a1 t1 c1 _ _ W (v2.below hW) (v1.below hW) x2.2.1 x1.2.1 x2.head x1.head (by omega) (by omega)

set_option maxHeartbeats 2000000 in
set_option maxRecDepth 100000 in
theorem whole_any (qa qb : Option Addr) (ca cb : Nat) (f h : Forest) (w : World) (hf : Fo qa f w) (hh : Fo qb h w) (sf : SmF f) (sh : SmF h) (kf : KidsOk f) (kh : KidsOk h) (nf : f.len ≤ 1000) (nh : h.len ≤ 1000) :
    Calls Tryd.prog 33 #[.slice qa f.len ca, .slice qb h.len cb] w fun e w' => ∃ u, e = .returned u ∧ PrCells w' u (whP (lnP (eqT (ksT f) (ksT h)) f.len h.len 0 0)) ∧ Below w.heap.size w w' := by
  have hja := appJ_len f h
  have sa := appJ_sm f h sf sh
  have ka := appJ_kids kf kh
  have HAP := hide (append_nodes w w w.heap.size (.slice none 0 0) 0 [] f qa ca (World.ownsRow_nil _ _ _ _) hf (Below.refl _ _) (by omega) (Nat.le_refl _))
  have HAQ := hide (fun (W : World) v n xs (h1 : n = f.len) (h2 : W.ownsRow w.heap.size 44 6 v n xs) (hW : Below w.heap.size w W) => append_nodes w W w.heap.size v n xs h qb cb h2 hh hW (by omega) hW.size)
  have C1 := hide (fun W (hW : Below w.heap.size w W) q c (hq : Fo q (appJ f h) W) => by
    obtain ⟨vf, hv, hx⟩ := nds_of (hf.below hW)
    obtain ⟨va, hva, hxa⟩ := nds_of hq
    exact classes_any qa q f.len (appJ f h).len ca c vf va (EN f (appJ f h)) W hv hva nf (by omega) (en_call sf sa kf ka hx hxa))
  have C2 := hide (fun W (hW : Below w.heap.size w W) q c (hq : Fo q (appJ f h) W) => by
    obtain ⟨vf, hv, hx⟩ := nds_of (hh.below hW)
    obtain ⟨va, hva, hxa⟩ := nds_of hq
    exact classes_any qb q h.len (appJ f h).len cb c vf va (EN h (appJ f h)) W hv hva nh (by omega) (en_call sh sa kh ka hx hxa))
  have HL : Hid (whP (lnP (eqT (clsT (EN f (appJ f h)) (appJ f h).len f.len) (clsT (EN h (appJ f h)) (appJ f h).len h.len)) (clsT (EN f (appJ f h)) (appJ f h).len f.len).length (clsT (EN h (appJ f h)) (appJ f h).len h.len).length 0 0) = whP (lnP (eqT (ksT f) (ksT h)) f.len h.len 0 0)) := hide (by
    rw [clsT_len, clsT_len, hja]
    exact congrArg whP (lnP_same _ _ _ _ (fun i j hi hj => cls_same f h (by omega) i j hi hj) _ 0 0))
  have l1 : Hid ((clsT (EN f (appJ f h)) (appJ f h).len f.len).length ≤ 1000) := hide (by rw [clsT_len]; exact nf)
  have l2 : Hid ((clsT (EN h (appJ f h)) (appJ f h).len h.len).length ≤ 1000) := hide (by rw [clsT_len]; exact nh)
  generalize clsT (EN f (appJ f h)) (appJ f h).len f.len = S1 at *
  generalize clsT (EN h (appJ f h)) (appJ f h).len h.len = S2 at *
  generalize whP (lnP (eqT (ksT f) (ksT h)) f.len h.len 0 0) = P at *
  obtain ⟨xs, v3, w3, hr3, hown3, hgr3, hxl, hxr⟩ := unhide HAP
  have hb3 := (Below.refl w.heap.size w).grown hgr3 (Nat.le_refl _) (fun k hk => by simp [Value.ownBlock] at hk)
  simp only [Nat.zero_add, List.nil_append] at hown3
  obtain ⟨ys, v4, w4, hr4, hown4, hgr4, hyl, hyr⟩ := unhide HAQ w3 v3 f.len xs rfl hown3 hb3
  have hb4 := hb3.grown hgr4 hb3.size (fun k hk => (hown3.lt k hk).1)
  obtain ⟨q4, c4, hv4, hc4, hfo4⟩ := fo_joined (w0 := w) hown4 hxl hb4 hxr hyr
  obtain ⟨a3, c3, hv3⟩ := slice_n hown3
  subst hv4
  subst hv3
  have D1 := hide (unhide C1 w4 hb4 q4 c4 hfo4)
  have D2 := hide (fun W (hW : Below w4.heap.size w4 W) => unhide C2 W (tr2 hb4 hW) q4 c4 (hfo4.below hW))
  have HB4 := hide hb4
  clear HAP HAQ C1 C2 hown3 hgr3 hxl hxr hb3 hown4 hgr4 hyl hyr hb4 hfo4 hc4 hf hh sf sh kf kh sa ka nf nh
  generalize f.len = n at *
  generalize h.len = m at *
  generalize (appJ f h).len = jl at *
  clear hja
  go_enter Tryd.func33, Tryd.ntmps33
  go_wp2_with (at_builtin; first | refine Lib.wpList_append_run _ rfl _ _ 22 22 rfl _ _ rfl rfl _ _ hr3 ?_ | refine Lib.wpList_append_run _ rfl _ _ 22 22 rfl _ _ rfl rfl _ _ hr4 ?_)
  clear hr3 hr4
  refine (unhide D1).mono ?_
  rintro e w5 ⟨u1, rfl, hu1, hb5⟩
  have V1 := hide (view_of_owns hu1)
  have D3 := hide (unhide D2 w5 hb5)
  have HB5 := hide (tr2 (unhide HB4) hb5)
  clear D1 D2 HB4 hu1 hb5
  go_wp2_with fail
  refine (unhide D3).mono ?_
  rintro e w6 ⟨u2, rfl, hu2, hb6⟩
  have CL := hide (rline_any u1 u2 S1 S2 w6 (view_below (unhide V1) hb6) (view_of_owns hu2) (unhide l1) (unhide l2))
  have HB6 := hide (tr2 (unhide HB5) hb6)
  clear D3 HB5 hu2 hb6 V1
  go_wp2_with fail
  refine (unhide CL).mono ?_
  rintro e w7 ⟨u3, rfl, hu3, hb7⟩
  have hp := owns_pr hu3
  rw [unhide HL] at hp
  have HP := hide hp
  have HB7 := hide (tr2 (unhide HB6) hb7)
  clear CL HB6 hu3 hb7 hp
  go_wp2
  go_ret
  exact ⟨_, rfl, unhide HP, unhide HB7⟩
end Go.Proofs.YtbabmkilbbbmoaaDoor

/-
  What the reference's Alike of layer 20 does.
-/
namespace Go.Proofs.YtbabmkilbbbmoaaDoor
open Go.RowKit
set_option linter.unusedVariables false
set_option linter.unusedSimpArgs false

set_option maxHeartbeats 2000000 in
set_option maxRecDepth 100000 in
theorem ralike_any (y z : NdC) (w : World) :
    Calls Tryd.prog 19 #[y.val, z.val] w fun e w' => e = .returned (.bool (decide (y.k = z.k) && decide (y.sp = z.sp) && (y.n.toList == z.n.toList))) ∧ Below w.heap.size w w' := by
  unfold NdC.val
  have HB := hide (((Below.refl w.heap.size w).alloc (Nat.le_refl _) (Obj.cells #[.int .i64 y.k, .int .i64 y.sp, .string y.n, .slice y.qa y.la y.ca, .string y.tx, .slice y.qk y.lk y.ck] 44)).alloc (by simp) (Obj.cells #[.int .i64 z.k, .int .i64 z.sp, .string z.n, .slice z.qa z.la z.ca, .string z.tx, .slice z.qk z.lk z.ck] 44))
  by_cases e0 : y.k = z.k
  · have f0 : (y.k == z.k) = true := by simp [e0]
    by_cases e1 : y.sp = z.sp
    · have f1 : (y.sp == z.sp) = true := by simp [e1]
      rw [decide_eq_true e0, decide_eq_true e1, Bool.true_and, Bool.true_and]
      clear e0 e1
      go_enter Tryd.func19, Tryd.ntmps19
      go_wp2
      go_ret
      exact ⟨rfl, unhide HB⟩
    · have f1 : (y.sp == z.sp) = false := beq_eq_false_iff_ne.2 e1
      rw [decide_eq_false e1, Bool.and_false, Bool.false_and]
      clear e0 e1
      go_enter Tryd.func19, Tryd.ntmps19
      go_wp2
      go_ret
      exact ⟨rfl, unhide HB⟩
  · have f0 : (y.k == z.k) = false := beq_eq_false_iff_ne.2 e0
    rw [decide_eq_false e0, Bool.false_and, Bool.false_and]
    clear e0
    go_enter Tryd.func19, Tryd.ntmps19
    go_wp2
    go_ret
    exact ⟨rfl, unhide HB⟩
/-- The like of two places of two lists, as the labels say. -/
theorem ralike_lab {W0 : World} {f g : Forest} {vf vg : Nat → NdC}
    (hf : ∀ k, k < f.len → ∃ kk sp n ats tx kids, f.drop k = .cons kk sp n ats tx kids (f.drop (k + 1)) ∧ NdV kk sp n ats tx kids (vf k).val W0 ∧ (vf k).k = kk ∧ (vf k).sp = sp ∧ (vf k).n = n)
    (hg : ∀ k, k < g.len → ∃ kk sp n ats tx kids, g.drop k = .cons kk sp n ats tx kids (g.drop (k + 1)) ∧ NdV kk sp n ats tx kids (vg k).val W0 ∧ (vg k).k = kk ∧ (vg k).sp = sp ∧ (vg k).n = n) :
    ∀ i j, i < f.len → j < g.len → ∀ W, Calls Tryd.prog 19 #[(vf i).val, (vg j).val] W fun e w' => e = .returned (.bool (eqT (lsT f) (lsT g) i j)) ∧ Below W.heap.size W w' := by
  intro i j hi hj W
  obtain ⟨k1, s1, n1, a1, t1, c1, d1, _, x1, x2, x3⟩ := hf i hi
  obtain ⟨k2, s2, n2, a2, t2, c2, d2, _, y1, y2, y3⟩ := hg j hj
  have h := ralike_any (vf i) (vg j) W
  rw [x1, x2, x3, y1, y2, y3] at h
  have e : (decide (k1 = k2) && decide (s1 = s2) && (n1.toList == n2.toList)) = eqT (lsT f) (lsT g) i j := by
    unfold eqT
    rw [lsT_tx f i hi, lsT_tx g j hj]
    unfold labT
    rw [d1, d2]
    dsimp only
    rw [bs_toList, bs_toList]
    have hl := label_one k1 s1 n1 k2 s2 n2
    by_cases hx : labelB k1 s1 n1 = labelB k2 s2 n2
    · obtain ⟨r1, r2, r3⟩ := hl.1 hx
      rw [decide_eq_true hx]; simp [r1, r2, r3]
    · rw [decide_eq_false hx]
      have hn : ¬ (k1 = k2 ∧ s1 = s2 ∧ n1 = n2) := fun h => hx (hl.2 h)
      cases hb : (decide (k1 = k2) && decide (s1 = s2) && (n1.toList == n2.toList)) with
      | false => rfl
      | true =>
        simp only [Bool.and_eq_true, decide_eq_true_eq, beq_iff_eq] at hb
        exact absurd ⟨hb.1.1, hb.1.2, toList_eq.1 hb.2⟩ hn
  rw [e] at h
  exact h
end Go.Proofs.YtbabmkilbbbmoaaDoor
