/-
  Several texts in one: what the functions of the program and of the document's answer do.
-/
import Derived.Test.YtbabmkilbbbmoaaDoorMgBD
import Derived.Test.YtbabmkilbbbmoaaDoorMgAP
import Derived.Deep.RegionWith
import Derived.Test.YtbabmkilbbbmoaaDoorMgAC

/-
  The pairs of two pages, plainly.
-/
namespace Go.Proofs.YtbabmkilbbbmoaaDoor
set_option linter.unusedVariables false
set_option linter.unusedSimpArgs false

def kidF : Forest → Forest
  | .nil => .nil
  | .cons _ _ _ _ _ kids _ => kids
/-- The number of a list's place. -/
def numE (F : Forest) (a A : Nat) : Nat := a + (tkF A F).count
/-- A whole pair's nodes. -/
def whR (i j : Nat) : Nat → List (Int × Int × Bool)
  | 0 => []
  | n + 1 => ((i : Int), (j : Int), true) :: whR (i + 1) (j + 1) n
def pgL (K : Forest → Forest → Nat → Nat → List (Int × Int × Bool)) (F G : Forest) (a b : Nat) : List (Int × Int × Bool) → List (Int × Int × Bool)
  | [] => []
  | p :: r => (if p.2.2 = true then whR (numE F a p.1.toNat) (numE G b p.2.1.toNat) (1 + (kidF (F.drop p.1.toNat)).count) else ((numE F a p.1.toNat : Nat), (numE G b p.2.1.toNat : Nat), false) :: K (kidF (F.drop p.1.toNat)) (kidF (G.drop p.2.1.toNat)) (numE F a p.1.toNat + 1) (numE G b p.2.1.toNat + 1)) ++ pgL K F G a b r
def pgF : Nat → Forest → Forest → Nat → Nat → List (Int × Int × Bool)
  | 0, _, _, _, _ => []
  | m + 1, F, G, a, b => pgL (pgF m) F G a b (ltP F G)

/-! ### places -/
theorem numE_zero (F : Forest) (a : Nat) : numE F a 0 = a := by
  have : tkF 0 F = .nil := by cases F <;> rfl
  unfold numE; rw [this]; rfl
theorem tkF_step : ∀ (A : Nat) (F : Forest), A < F.len → (tkF (A + 1) F).count = (tkF A F).count + 1 + (kidF (F.drop A)).count
  | A, .nil, h => by simp [Forest.len] at h
  | 0, .cons k sp n ats tx kids r, h => by
    have : tkF 0 r = .nil := by cases r <;> rfl
    simp only [tkF, this, Forest.count, Forest.drop, kidF]; omega
  | A + 1, .cons k sp n ats tx kids r, h => by
    have := tkF_step A r (by simp only [Forest.len] at h; omega)
    have e : (Forest.cons k sp n ats tx kids r).drop (A + 1) = r.drop A := rfl
    rw [e]
    simp only [tkF, Forest.count] at this ⊢
    omega
theorem numE_step (F : Forest) (a A : Nat) (h : A < F.len) : numE F a (A + 1) = numE F a A + 1 + (kidF (F.drop A)).count := by
  unfold numE; rw [tkF_step A F h]; omega
theorem tkF_all : ∀ (F : Forest), tkF F.len F = F
  | .nil => rfl
  | .cons k sp n ats tx kids r => by simp only [Forest.len, tkF, tkF_all r]
theorem numE_end (F : Forest) (a : Nat) : numE F a F.len = a + F.count := by unfold numE; rw [tkF_all]
theorem numE_mono (F : Forest) (a : Nat) : ∀ (d A : Nat), A + d ≤ F.len → numE F a A ≤ numE F a (A + d)
  | 0, A, _ => Nat.le_refl _
  | d + 1, A, h => by
    have h1 := numE_mono F a d A (by omega)
    have h2 := numE_step F a (A + d) (by omega)
    rw [show A + (d + 1) = A + d + 1 by omega]; omega
theorem nums_numE : ∀ (F : Forest) (a A : Nat), A < F.len → (nums F a).getD A 0 = numE F a A
  | .nil, a, A, h => by simp [Forest.len] at h
  | .cons k sp n ats tx kids r, a, 0, h => by rw [numE_zero]; rfl
  | .cons k sp n ats tx kids r, a, A + 1, h => by
    have := nums_numE r (a + 1 + kids.count) A (by simp only [Forest.len] at h; omega)
    simp only [nums, List.getD_cons_succ, this, numE, tkF, Forest.count]; omega

/-! ### rising rows -/
def RsI (n m : Int) : Int → Int → List (Int × Int × Bool) → Prop
  | _, _, [] => True
  | i, j, p :: r => i ≤ p.1 ∧ j ≤ p.2.1 ∧ p.1 < n ∧ p.2.1 < m ∧ RsI n m (p.1 + 1) (p.2.1 + 1) r
theorem rsI_weak {n m n' m' : Int} (hn : n ≤ n') (hm : m ≤ m') : ∀ (r : List (Int × Int × Bool)) (i j i' j' : Int), i' ≤ i → j' ≤ j → RsI n m i j r → RsI n' m' i' j' r
  | [], _, _, _, _, _, _, _ => trivial
  | p :: r, i, j, i', j', hi, hj, ⟨h1, h2, h3, h4, h5⟩ => ⟨by omega, by omega, by omega, by omega, rsI_weak hn hm r _ _ _ _ (Int.le_refl _) (Int.le_refl _) h5⟩
theorem rsI_app {n m i1 j1 : Int} (hn : i1 ≤ n) (hm : j1 ≤ m) : ∀ (l r : List (Int × Int × Bool)) (i j : Int), i ≤ i1 → j ≤ j1 → RsI i1 j1 i j l → RsI n m i1 j1 r → RsI n m i j (l ++ r)
  | [], r, i, j, hi, hj, _, h => rsI_weak (Int.le_refl _) (Int.le_refl _) _ _ _ _ _ hi hj h
  | p :: l, r, i, j, hi, hj, ⟨h1, h2, h3, h4, h5⟩, h => ⟨h1, h2, by omega, by omega, rsI_app hn hm l r _ _ (by omega) (by omega) h5 h⟩
theorem whR_rise : ∀ (n i j : Nat), RsI ((i + n : Nat) : Int) ((j + n : Nat) : Int) (i : Int) (j : Int) (whR i j n)
  | 0, _, _ => trivial
  | n + 1, i, j => by
    have := whR_rise n (i + 1) (j + 1)
    rw [show i + 1 + n = i + (n + 1) by omega, show j + 1 + n = j + (n + 1) by omega] at this
    refine ⟨Int.le_refl _, Int.le_refl _, ?_, ?_, ?_⟩
    · show (i : Int) < ((i + (n + 1) : Nat) : Int); omega
    · show (j : Int) < ((j + (n + 1) : Nat) : Int); omega
    · rw [show ((i : Int), (j : Int), true).1 + 1 = ((i + 1 : Nat) : Int) by simp, show ((i : Int), (j : Int), true).2.1 + 1 = ((j + 1 : Nat) : Int) by simp]
      exact this
theorem rsI_of {n m : Nat} : ∀ (L : List (Int × Int × Bool)) (M : List (Nat × Nat)) (i j : Nat), L.map (fun x => (x.1, x.2.1)) = M.map castP → RiseP n m i j M → RsI (n : Int) (m : Int) (i : Int) (j : Int) L
  | [], _, _, _, _, _ => trivial
  | p :: r, [], _, _, h, _ => by simp at h
  | p :: r, q :: s, i, j, h, hr => by
    obtain ⟨a1, a2, a3, a4, a5⟩ := risep_cons hr
    simp only [List.map_cons, List.cons.injEq, castP, Prod.mk.injEq] at h
    obtain ⟨⟨e1, e2⟩, e3⟩ := h
    have := rsI_of r s (q.1 + 1) (q.2 + 1) e3 a5
    refine ⟨by rw [e1]; omega, by rw [e2]; omega, by rw [e1]; omega, by rw [e2]; omega, ?_⟩
    rw [e1, e2]
    rw [show ((q.1 : Int)) + 1 = ((q.1 + 1 : Nat) : Int) by omega, show ((q.2 : Int)) + 1 = ((q.2 + 1 : Nat) : Int) by omega]
    exact this
theorem ltP_rs (F G : Forest) : RsI (F.len : Int) (G.len : Int) 0 0 (ltP F G) := rsI_of _ _ 0 0 (ltP_ltM F G) (ltM_rise F G)

/-! ### what pairs are -/
theorem rise_mem {E : Nat → Nat → Bool} {n m : Nat} : ∀ (r : List (Nat × Nat)) (i j : Nat), RiseFrom E n m i j r → ∀ q ∈ r, E q.1 q.2 = true ∧ q.1 < n ∧ q.2 < m
  | [], _, _, _, q, h => by cases h
  | p :: r, i, j, ⟨h1, h2, h3, h4, h5, h6⟩, q, h => by
    rcases List.mem_cons.1 h with rfl | h
    · exact ⟨h5, h3, h4⟩
    · exact rise_mem r _ _ h6 q h
theorem alF_mem (A : Nat → Nat → Bool) (j1 : Nat) : ∀ (f i j : Nat), ∀ q ∈ alF A j1 f i j, A q.1 q.2 = true
  | 0, _, _, q, h => by cases h
  | f + 1, i, j, q, h => by
    rw [alF] at h
    cases hx : fdF (A i) (j1 - j) j with
    | some x =>
      rw [hx] at h
      rcases List.mem_cons.1 h with rfl | h
      · exact (fdF_in _ _ _ _ hx).2.2
      · exact alF_mem A j1 f _ _ q h
    | none => rw [hx] at h; exact alF_mem A j1 f _ _ q h
theorem mtF_mem (A : Nat → Nat → Bool) (n m : Nat) : ∀ (P : List (Nat × Nat)) (i j : Nat), ∀ p ∈ mtF A n m i j P, ∃ x y : Nat, p.1 = (x : Int) ∧ p.2.1 = (y : Int) ∧ (p.2.2 = true → (x, y) ∈ P) ∧ (p.2.2 = false → A x y = true)
  | [], i, j, p, h => by
    rw [mtF, whB] at h
    obtain ⟨q, hq, rfl⟩ := List.mem_map.1 h
    exact ⟨q.1, q.2, rfl, rfl, (fun c => by cases c), fun _ => alF_mem _ _ _ _ _ q hq⟩
  | q0 :: r, i, j, p, h => by
    rw [mtF, whB] at h
    rcases List.mem_append.1 h with h | h
    · obtain ⟨q, hq, rfl⟩ := List.mem_map.1 h
      exact ⟨q.1, q.2, rfl, rfl, (fun c => by cases c), fun _ => alF_mem _ _ _ _ _ q hq⟩
    · rcases List.mem_cons.1 h with rfl | h
      · exact ⟨q0.1, q0.2, rfl, rfl, (fun _ => List.mem_cons_self ..), (fun c => by cases c)⟩
      · obtain ⟨x, y, h1, h2, h3, h4⟩ := mtF_mem A n m r _ _ p h
        exact ⟨x, y, h1, h2, (fun c => List.mem_cons_of_mem _ (h3 c)), h4⟩
theorem ltP_mem (F G : Forest) (p : Int × Int × Bool) (h : p ∈ ltP F G) : ∃ x y : Nat, p.1 = (x : Int) ∧ p.2.1 = (y : Int) ∧ (p.2.2 = true → eqT (ksT F) (ksT G) x y = true) ∧ (p.2.2 = false → eqT (lsT F) (lsT G) x y = true) := by
  obtain ⟨x, y, h1, h2, h3, h4⟩ := mtF_mem _ _ _ _ _ _ p h
  exact ⟨x, y, h1, h2, fun c => (rise_mem _ _ _ (lnP_rise0 _ _ _ 0 0) _ (h3 c)).1, h4⟩
/-- Nodes of one key are one node. -/
theorem keys_node {F G : Forest} {x y : Nat} (hx : x < F.len) (hy : y < G.len) (h : eqT (ksT F) (ksT G) x y = true) : ∃ k sp n ats tx kids, F.drop x = .cons k sp n ats tx kids (F.drop (x + 1)) ∧ G.drop y = .cons k sp n ats tx kids (G.drop (y + 1)) := by
  obtain ⟨k, sp, n, ats, tx, kids, hd⟩ := F.drop_cons x hx
  obtain ⟨k', sp', n', ats', tx', kids', hd'⟩ := G.drop_cons y hy
  unfold eqT at h
  rw [ksT_tx F x hx, ksT_tx G y hy] at h
  have e1 : keyT F x = bs (keyF (.cons k sp n ats tx kids .nil)) := by unfold keyT; rw [hd]
  have e2 : keyT G y = bs (keyF (.cons k' sp' n' ats' tx' kids' .nil)) := by unfold keyT; rw [hd']
  rw [e1, e2, bs_toList, bs_toList] at h
  have := (key_one k sp n ats tx kids k' sp' n' ats' tx' kids').1 (of_decide_eq_true h)
  injection this with a1 a2 a3 a4 a5 a6
  subst a1 a2 a3 a4 a5 a6
  exact ⟨_, _, _, _, _, _, hd, hd'⟩

/-! ### the pairs of pages rise -/
theorem kidF_drop (F : Forest) (x : Nat) (h : x < F.len) : (kidF (F.drop x)).count < F.count := by
  obtain ⟨k, sp, n, ats, tx, kids, hd⟩ := F.drop_cons x h
  have := Forest.count_drop x F
  rw [hd] at this ⊢
  simp only [Forest.count, kidF] at this ⊢
  omega
theorem pgL_rise (K : Forest → Forest → Nat → Nat → List (Int × Int × Bool)) (F G : Forest) (a b : Nat)
    (ih : ∀ x y : Nat, x < F.len → y < G.len → ∀ i j : Nat, RsI ((i + (kidF (F.drop x)).count : Nat) : Int) ((j + (kidF (G.drop y)).count : Nat) : Int) (i : Int) (j : Int) (K (kidF (F.drop x)) (kidF (G.drop y)) i j)) :
    ∀ (r : List (Int × Int × Bool)) (A B : Nat), A ≤ F.len → B ≤ G.len → RsI (F.len : Int) (G.len : Int) (A : Int) (B : Int) r → (∀ p ∈ r, p ∈ ltP F G) → RsI ((a + F.count : Nat) : Int) ((b + G.count : Nat) : Int) ((numE F a A : Nat) : Int) ((numE G b B : Nat) : Int) (pgL K F G a b r)
  | [], A, B, _, _, _, _ => trivial
  | p :: r, A, B, hA, hB, ⟨h1, h2, h3, h4, h5⟩, hm => by
    obtain ⟨x, y, e1, e2, hw, hl⟩ := ltP_mem F G p (hm p (List.mem_cons_self ..))
    rw [e1] at h1 h3 h5
    rw [e2] at h2 h4 h5
    have hx : x < F.len := by omega
    have hy : y < G.len := by omega
    have m1 := numE_mono F a (x - A) A (by omega)
    have m2 := numE_mono G b (y - B) B (by omega)
    rw [show A + (x - A) = x by omega] at m1
    rw [show B + (y - B) = y by omega] at m2
    have s1 := numE_step F a x hx
    have s2 := numE_step G b y hy
    have l1 := numE_mono F a (F.len - (x + 1)) (x + 1) (by omega)
    have l2 := numE_mono G b (G.len - (y + 1)) (y + 1) (by omega)
    rw [show x + 1 + (F.len - (x + 1)) = F.len by omega, numE_end] at l1
    rw [show y + 1 + (G.len - (y + 1)) = G.len by omega, numE_end] at l2
    have hr := pgL_rise K F G a b ih r (x + 1) (y + 1) (by omega) (by omega) (by rw [show ((x + 1 : Nat) : Int) = (x : Int) + 1 by omega, show ((y + 1 : Nat) : Int) = (y : Int) + 1 by omega]; exact h5) (fun q hq => hm q (List.mem_cons_of_mem _ hq))
    rw [pgL, e1, e2, Int.toNat_natCast, Int.toNat_natCast]
    refine rsI_app (i1 := ((numE F a (x + 1) : Nat) : Int)) (j1 := ((numE G b (y + 1) : Nat) : Int)) (by omega) (by omega) _ _ _ _ (by omega) (by omega) ?_ hr
    by_cases hf : p.2.2 = true
    · rw [if_pos hf]
      obtain ⟨k, sp, n, ats, tx, kids, d1, d2⟩ := keys_node hx hy (hw hf)
      rw [d1] at s1 ⊢
      rw [d2] at s2
      simp only [kidF] at s1 s2 ⊢
      exact rsI_weak (by omega) (by omega) _ _ _ _ _ (by omega) (by omega) (whR_rise (1 + kids.count) (numE F a x) (numE G b y))
    · rw [if_neg hf]
      have hk := ih x y hx hy (numE F a x + 1) (numE G b y + 1)
      refine ⟨by show ((numE F a A : Nat) : Int) ≤ ((numE F a x : Nat) : Int); omega, by show ((numE G b B : Nat) : Int) ≤ ((numE G b y : Nat) : Int); omega, by show ((numE F a x : Nat) : Int) < _; omega, by show ((numE G b y : Nat) : Int) < _; omega, ?_⟩
      exact rsI_weak (by omega) (by omega) _ _ _ _ _ (by show ((numE F a x : Nat) : Int) + 1 ≤ _; omega) (by show ((numE G b y : Nat) : Int) + 1 ≤ _; omega) hk
theorem pgF_rise : ∀ (m : Nat) (F G : Forest) (a b : Nat), F.count < m → RsI ((a + F.count : Nat) : Int) ((b + G.count : Nat) : Int) (a : Int) (b : Int) (pgF m F G a b)
  | 0, F, G, a, b, h => by omega
  | m + 1, F, G, a, b, h => by
    have := pgL_rise (pgF m) F G a b (fun x y hx hy i j => pgF_rise m _ _ i j (by have := kidF_drop F x hx; omega)) (ltP F G) 0 0 (Nat.zero_le _) (Nat.zero_le _) (ltP_rs F G) (fun p hp => hp)
    rw [numE_zero, numE_zero] at this
    exact this
theorem rsI_len {n m : Int} : ∀ (r : List (Int × Int × Bool)) (i j : Int), i ≤ n → RsI n m i j r → (r.length : Int) ≤ n - i
  | [], i, j, h, _ => by simp; omega
  | p :: r, i, j, h, ⟨h1, h2, h3, h4, h5⟩ => by
    have := rsI_len r _ _ (by omega) h5
    rw [List.length_cons]; omega
theorem pgF_len (m : Nat) (F G : Forest) (a b : Nat) (h : F.count < m) : (pgF m F G a b).length ≤ F.count := by
  have := rsI_len _ _ _ (by omega) (pgF_rise m F G a b h)
  omega

/-! ### a sorted row is the rising one -/
theorem rsI_all {n m : Int} : ∀ (r : List (Int × Int × Bool)) (i j : Int), RsI n m i j r → ∀ q ∈ r, i ≤ q.1
  | [], _, _, _, q, h => by cases h
  | p :: r, i, j, ⟨h1, h2, h3, h4, h5⟩, q, h => by
    rcases List.mem_cons.1 h with rfl | h
    · exact h1
    · have := rsI_all r _ _ h5 q h; omega
theorem sorted_is {n m : Int} : ∀ (t l : List (Int × Int × Bool)) (i j : Int), RsI n m i j t → l.Perm t → l.Pairwise (fun x y => x.1 ≤ y.1) → l = t
  | [], l, _, _, _, h, _ => h.eq_nil
  | p :: t, [], _, _, _, h, _ => by cases h.length_eq
  | p :: t, q :: l, i, j, ⟨h1, h2, h3, h4, h5⟩, h, hs => by
    rw [List.pairwise_cons] at hs
    have hq : q ∈ p :: t := h.subset (List.mem_cons_self ..)
    have hp : p ∈ q :: l := h.symm.subset (List.mem_cons_self ..)
    have e : q = p := by
      rcases List.mem_cons.1 hq with e | hq
      · exact e
      · have g1 := rsI_all t _ _ h5 q hq
        rcases List.mem_cons.1 hp with e | hp
        · exact e.symm
        · have g2 := hs.1 p hp
          omega
    subst e
    rw [sorted_is t l _ _ h5 ((List.perm_cons q).1 h) hs.2]
end Go.Proofs.YtbabmkilbbbmoaaDoor

/-
  A page of match in memory; what its 'kids' does (made by mk_hed.py).
-/
namespace Go.Proofs.YtbabmkilbbbmoaaDoor
open Go.RowKit
set_option linter.unusedVariables false
set_option linter.unusedSimpArgs false

/-- Items in memory, read. -/
def ItC (f : Forest) (q : Option Addr) (w : World) : Prop := 0 < f.count → ∃ g, q = some ⟨g, 0, none⟩ ∧ ∀ x y, (itm f 0 (-1) 0 0)[x]? = some y → w.cell? ⟨g, x * 5, none⟩ = some (.int .i64 y.1) ∧ w.cell? ⟨g, x * 5 + 1, none⟩ = some (.int .i64 y.2.1) ∧ w.cell? ⟨g, x * 5 + 2, none⟩ = some (.int .i64 y.2.2.1) ∧ w.cell? ⟨g, x * 5 + 3, none⟩ = some (.int .i64 y.2.2.2) ∧ w.cell? ⟨g, x * 5 + 4, none⟩ = some (.int .i64 (szA f x))
theorem ItC.le {f : Forest} {q : Option Addr} {w W : World} (h : ItC f q w) (hc : CellLe w W) : ItC f q W := fun h0 => by
  obtain ⟨g, h1, h2⟩ := h h0
  exact ⟨g, h1, fun x y hx => ⟨hc _ _ _ (h2 x y hx).1, hc _ _ _ (h2 x y hx).2.1, hc _ _ _ (h2 x y hx).2.2.1, hc _ _ _ (h2 x y hx).2.2.2.1, hc _ _ _ (h2 x y hx).2.2.2.2⟩⟩
theorem itC_of {f : Forest} {q : Option Addr} {c : Nat} {w : World} (h : ItS f q f.count c w) : ItC f q w := fun h0 => by
  obtain ⟨_, _, h | ⟨g, h1, h2⟩⟩ := h
  · subst h; simp [Forest.count] at h0
  · exact ⟨g, h1, h2.2⟩
theorem itm_get (f : Forest) (x : Nat) (h : x < f.count) : ∃ y, (itm f 0 (-1) 0 0)[x]? = some y := ⟨_, List.getElem?_eq_getElem (by rw [itm_len]; exact h)⟩
theorem ItC.size {f : Forest} {q : Option Addr} {w : World} (h : ItC f q w) {x : Nat} (hx : x < f.count) : ∃ g, q = some ⟨g, 0, none⟩ ∧ w.cell? ⟨g, x * 5 + 4, none⟩ = some (.int .i64 (szA f x)) := by
  obtain ⟨g, h1, h2⟩ := h (by omega)
  obtain ⟨y, hy⟩ := itm_get f x hx
  exact ⟨g, h1, (h2 x y hy).2.2.2.2⟩
theorem below_cells {w W : World} (hb : Below w.heap.size w W) : CellLe w W := fun g o v h => (hb.cell (p := ⟨g, o, none⟩) (World.block_lt_of_cell? w _ h)).trans h
/-- A row of numbers, read. -/
def RowC (q : Option Addr) (n : Nat) (ks : Nat → Int) (w : World) : Prop := 0 < n → ∃ g, q = some ⟨g, 0, none⟩ ∧ ∀ x, x < n → w.cell? ⟨g, x, none⟩ = some (.int .i64 (ks x))
theorem RowC.le {q : Option Addr} {n : Nat} {ks : Nat → Int} {w W : World} (h : RowC q n ks w) (hc : CellLe w W) : RowC q n ks W := fun h0 => by
  obtain ⟨g, h1, h2⟩ := h h0
  exact ⟨g, h1, fun x hx => hc _ _ _ (h2 x hx)⟩
/-- Which list's kids a number tells. -/
def KidOf (f : Forest) (z : Int) (G : Forest) (a : Nat) : Prop := (z = -1 ∧ G = f ∧ a = 0) ∨ ∃ x k sp n ats tx r, z = ((x : Nat) : Int) ∧ x < f.count ∧ atP f x = .cons k sp n ats tx G r ∧ a = x + 1
theorem KidOf.lies {f G : Forest} {z : Int} {a : Nat} (h : KidOf f z G a) : LyP f G a := by
  rcases h with ⟨_, rfl, rfl⟩ | ⟨x, k, sp, n, ats, tx, r, _, _, h, rfl⟩
  · exact lyP_top _
  · exact (atP_next f x h).1
/-- Numbers of nodes in memory. -/
def NmV (w : World) (base : Nat) (u : Value) (L : List Nat) : Prop := w.ownsRow base 3 1 u L.length (L.map (fun x : Nat => intV (x : Int)))

set_option maxHeartbeats 2000000 in
set_option maxRecDepth 100000 in
theorem kids_any (f G0 : Forest) (pb a0 : Nat) (z : Int) (qi : Option Addr) (ci : Nat) (w : World) (hp : w.cell? ⟨pb, 0, none⟩ = some (.slice qi f.count ci)) (hi : ItC f qi w) (hk : KidOf f z G0 a0) (hc : f.count ≤ 900) :
    Calls Tryd.prog 37 #[.pointer (some ⟨pb, 0, none⟩), .int .i64 z] w fun e w' => ∃ u, e = .returned u ∧ NmV w' w.heap.size u (nums G0 a0) ∧ Below w.heap.size w w' := by
  obtain ⟨i0, hi0, hi1, hi2, hi3⟩ := mfoInt
  have HL := hide hk.lies
  have PG : Hid (∀ W, Below w.heap.size w W → W.cell? ⟨pb, 0, none⟩ = some (.slice qi f.count ci)) := hide (fun W hW => (below_cells hW) _ _ _ hp)
  have IT := hide hi
  have HEC : Hid (a0 + G0.count ≤ 900) := hide (by have := hk.lies.1; omega)
  obtain ⟨EE, hEE⟩ : ∃ E, a0 + G0.count = E := ⟨_, rfl⟩
  have HE := hide hEE
  rw [hEE] at HEC
  obtain ⟨NN, hNN⟩ : ∃ N, nums G0 a0 = N := ⟨_, rfl⟩
  have HN : Hid ([] ++ nums G0 a0 = NN) := hide hNN
  have HNL : Hid (NN.length ≤ 900) := hide (by rw [← hNN, nums_len]; have h1 := G0.len_count; have h2 := hk.lies.1; omega)
  rw [hNN]
  have hEc : EE ≤ f.count := by have := hk.lies.1; omega
  rcases hk with ⟨rfl, rfl, rfl⟩ | ⟨x, kk, sp, n, ats, tx, r, rfl, hx, hat, rfl⟩
  · have HCC : Hid ((G0.count : Int) = (EE : Int)) := hide (by omega)
    clear hi hNN hEE
    go_enter Tryd.func37, Tryd.ntmps37
    go_wp2
    go_loopw [7, 6] (fun p u wr => ∃ (R : Forest) (c : Nat) (L : List Nat), p = .int .i64 (c : Int) ∧ LyP G0 R c ∧ c + R.count = EE ∧ NmV wr w.heap.size u L ∧ L ++ nums R c = NN ∧ Below w.heap.size w wr) (fun p _ _ => EE - (intOf p).toNat)
    case atStart => exact ⟨G0, 0, [], rfl, unhide HL, unhide HE, by simpa [NmV] using World.ownsRow_nil w w.heap.size 3 1, unhide HN, Below.refl _ _⟩
    case round =>
      obtain ⟨R, c, L, rfl, hl, hc, hrow, heq, hbl⟩ := hrel
      obtain ⟨uq, un, uc, hu⟩ := slice_of hrow
      subst hu
      have HR := hide hrow
      have HB := hide hbl
      have hz := hbl.size
      have y0 := unhide PG wr hbl
      have hll : L.length ≤ 1000 := by
        have h1 := congrArg List.length heq
        rw [List.length_append] at h1
        have h2 := unhide HNL
        omega
      have hec := unhide HEC
      cases R with
      | nil =>
        have hc' : c = EE := by simp only [Forest.count] at hc; omega
        have hx : ¬ (c : Int) < (G0.count : Int) := by have := unhide HCC; omega
        have HL2 : Hid (L = NN) := hide (by rw [nums, List.append_nil] at heq; exact heq)
        clear hl hc heq hrow hbl
        go_wp2
        go_ret
        exact ⟨_, rfl, by rw [← unhide HL2]; exact unhide HR, unhide HB⟩
      | cons kk sp n ats tx kids r =>
        obtain ⟨h1, h2⟩ := lyP_head hl
        obtain ⟨_, hn⟩ := atP_next G0 c h1
        have hsz := szA_at G0 c h1
        simp only [Forest.count] at hc
        have hx : (c : Int) < (G0.count : Int) := by have := unhide HCC; omega
        obtain ⟨gi, hgi, hsc⟩ := ItC.size ((unhide IT).le (below_cells hbl)) h2
        rw [hsz] at hsc
        cases hgi
        have HN2 := hide hn
        have HE2 : Hid (c + 1 + kids.count + r.count = EE) := hide (by omega)
        have HQ2 : Hid ((L ++ [c]) ++ nums r (c + 1 + kids.count) = NN) := hide (by rw [List.append_assoc]; exact heq)
        have hkc : c + 1 + kids.count ≤ EE := by omega
        have hci : (c : Int) < (G0.count : Int) := by omega
        generalize hkk : kids.count = kc at *
        have HA1 := hide hsz
        clear hl h1 hn hsz heq hrow hbl hc hkk
        unfold NmV at HR
        go_wp2_with (at_builtin; refine wpList_append_own_at _ rfl _ _ 38 rfl w.heap.size 3 i0 (.int .i64 0) 1 8 Tryd.underlying38 hi0 hi1 hi2 hi3 rfl (by decide) (.slice uq un uc) _ _ rfl ((unhide HR).alloc _) ⟨wr.heap.size, 0, none⟩ 1 1 [.int .i64 (c : Int)] rfl rfl ?c1 ?c2 ?c3 ?c4 ?c5 ?_)
        case c1 => exact cell_one_new _ _ _
        case c2 => simp [Value.oneCell']
        case c3 => simp only [maxLen]; omega
        case c4 => omega
        case c5 => simp; omega
        intro u' w3 hown hgr _ _
        have HO : Hid (NmV w3 w.heap.size u' (L ++ [c])) := hide (by unfold NmV; rw [List.length_append, List.map_append]; exact hown)
        have HB3 : Hid (Below w.heap.size w w3) := hide (((unhide HB).alloc (by omega) _).grown hgr (by simp; omega) (fun q hq => ((unhide HR).lt q hq).1))
        have y1 := unhide PG w3 (unhide HB3)
        obtain ⟨gi', hgi', hsc'⟩ := ItC.size ((unhide IT).le (below_cells (unhide HB3))) h2
        cases hgi'
        rw [unhide HA1] at hsc'
        clear hown hgr
        go_wp2
        go_roundw
        case rel => exact ⟨r, c + 1 + kc, L ++ [c], by go_num, unhide HN2, unhide HE2, unhide HO, unhide HQ2, unhide HB3⟩
        case measure => simp [intOf]; omega

  · obtain ⟨gx, hgx, hsx⟩ := hi.size hx
    rw [szA_at f x hat] at hsx
    subst hgx
    have hxi : (x : Int) < (f.count : Int) := by omega
    have HCC : Hid ((x : Int) + (1 + (G0.count : Int)) = (EE : Int)) := hide (by omega)
    have hneb : ((x : Int) != -1) = true := bne_iff_ne.2 (by omega)
    have hbb : (x : Int) + (1 + (G0.count : Int)) ≤ 1000 := by have := unhide HEC; have := unhide HCC; omega
    clear hi hNN hEE hat
    go_enter Tryd.func37, Tryd.ntmps37
    go_wp2
    go_loopw [7, 6] (fun p u wr => ∃ (R : Forest) (c : Nat) (L : List Nat), p = .int .i64 (c : Int) ∧ LyP f R c ∧ c + R.count = EE ∧ NmV wr w.heap.size u L ∧ L ++ nums R c = NN ∧ Below w.heap.size w wr) (fun p _ _ => EE - (intOf p).toNat)
    case atStart => exact ⟨G0, x + 1, [], by go_num, unhide HL, unhide HE, by simpa [NmV] using World.ownsRow_nil w w.heap.size 3 1, unhide HN, Below.refl _ _⟩
    case round =>
      obtain ⟨R, c, L, rfl, hl, hc, hrow, heq, hbl⟩ := hrel
      obtain ⟨uq, un, uc, hu⟩ := slice_of hrow
      subst hu
      have HR := hide hrow
      have HB := hide hbl
      have hz := hbl.size
      have y0 := unhide PG wr hbl
      have hll : L.length ≤ 1000 := by
        have h1 := congrArg List.length heq
        rw [List.length_append] at h1
        have h2 := unhide HNL
        omega
      have hec := unhide HEC
      cases R with
      | nil =>
        have hc' : c = EE := by simp only [Forest.count] at hc; omega
        have hx : ¬ (c : Int) < (x : Int) + (1 + (G0.count : Int)) := by have := unhide HCC; omega
        have HL2 : Hid (L = NN) := hide (by rw [nums, List.append_nil] at heq; exact heq)
        clear hl hc heq hrow hbl
        go_wp2
        go_ret
        exact ⟨_, rfl, by rw [← unhide HL2]; exact unhide HR, unhide HB⟩
      | cons kk sp n ats tx kids r =>
        obtain ⟨h1, h2⟩ := lyP_head hl
        obtain ⟨_, hn⟩ := atP_next f c h1
        have hsz := szA_at f c h1
        simp only [Forest.count] at hc
        have hx : (c : Int) < (x : Int) + (1 + (G0.count : Int)) := by have := unhide HCC; omega
        obtain ⟨gi, hgi, hsc⟩ := ItC.size ((unhide IT).le (below_cells hbl)) h2
        rw [hsz] at hsc
        cases hgi
        have HN2 := hide hn
        have HE2 : Hid (c + 1 + kids.count + r.count = EE) := hide (by omega)
        have HQ2 : Hid ((L ++ [c]) ++ nums r (c + 1 + kids.count) = NN) := hide (by rw [List.append_assoc]; exact heq)
        have hkc : c + 1 + kids.count ≤ EE := by omega
        have hci : (c : Int) < (f.count : Int) := by omega
        generalize hkk : kids.count = kc at *
        have HA1 := hide hsz
        clear hl h1 hn hsz heq hrow hbl hc hkk
        unfold NmV at HR
        go_wp2_with (at_builtin; refine wpList_append_own_at _ rfl _ _ 38 rfl w.heap.size 3 i0 (.int .i64 0) 1 8 Tryd.underlying38 hi0 hi1 hi2 hi3 rfl (by decide) (.slice uq un uc) _ _ rfl ((unhide HR).alloc _) ⟨wr.heap.size, 0, none⟩ 1 1 [.int .i64 (c : Int)] rfl rfl ?c1 ?c2 ?c3 ?c4 ?c5 ?_)
        case c1 => exact cell_one_new _ _ _
        case c2 => simp [Value.oneCell']
        case c3 => simp only [maxLen]; omega
        case c4 => omega
        case c5 => simp; omega
        intro u' w3 hown hgr _ _
        have HO : Hid (NmV w3 w.heap.size u' (L ++ [c])) := hide (by unfold NmV; rw [List.length_append, List.map_append]; exact hown)
        have HB3 : Hid (Below w.heap.size w w3) := hide (((unhide HB).alloc (by omega) _).grown hgr (by simp; omega) (fun q hq => ((unhide HR).lt q hq).1))
        have y1 := unhide PG w3 (unhide HB3)
        obtain ⟨gi', hgi', hsc'⟩ := ItC.size ((unhide IT).le (below_cells (unhide HB3))) h2
        cases hgi'
        rw [unhide HA1] at hsc'
        clear hown hgr
        go_wp2
        go_roundw
        case rel => exact ⟨r, c + 1 + kc, L ++ [c], by go_num, unhide HN2, unhide HE2, unhide HO, unhide HQ2, unhide HB3⟩
        case measure => simp [intOf]; omega
end Go.Proofs.YtbabmkilbbbmoaaDoor

/-
  What 'rectoplain.Texts' does: of every two lists of texts, whether they are equal; it only reads.
-/
namespace Go.Proofs.YtbabmkilbbbmoaaDoor
open Go.RowKit
set_option linter.unusedVariables false

theorem texts_a0 (a b : Option Addr) (ca lb cb : Nat) (w : World) (hb : lb ≤ 9223372036854775807) :
    Calls Tryd.prog 52 #[.slice a 0 ca, .slice b lb cb] w fun e w' => e = .returned (.bool (((0 : Int) == (lb : Int)))) ∧ Below w.heap.size w w' := by
  go_enter Tryd.func52, Tryd.ntmps52
  go_wp2
  refine wp_loop_rounds 1 ?_
  rw [rounds_succ]; go_wp2
  go_ret
  exact ⟨rfl, Below.refl _ _⟩

set_option maxHeartbeats 400000 in
theorem texts_b0 (x : Nat) (xo la ca : Nat) (b : Option Addr) (cb : Nat) (w : World) (h0 : 0 < la) (ha : la ≤ 9223372036854775807) :
    Calls Tryd.prog 52 #[.slice (some ⟨x, xo, none⟩) la ca, .slice b 0 cb] w fun e w' => e = .returned (.bool false) ∧ Below w.heap.size w w' := by
  have h1 : (0 : Int) < (la : Int) := by omega
  go_enter Tryd.func52, Tryd.ntmps52
  go_wp2
  refine wp_loop_rounds 1 ?_
  rw [rounds_succ]; go_wp2
  go_quiet (fail)
  go_wp2
  go_ret
  exact ⟨rfl, below_draws _ _⟩

set_option maxHeartbeats 400000 in
theorem texts_loop (x xo ca y yo cb : Nat) (ta tb : List ByteArray) (la lb : Nat) (w : World) (hla : Hid (ta.length = la)) (hlb : Hid (tb.length = lb)) (h0 : 0 < la) (h0b : 0 < lb) (ha : la ≤ 9223372036854775807) (hb : lb ≤ 9223372036854775807)
    (hx : ∀ i, i < la → w.cell? ⟨x, xo + i, none⟩ = some (.string (ta.getD i ByteArray.empty))) (hy : ∀ i, i < lb → w.cell? ⟨y, yo + i, none⟩ = some (.string (tb.getD i ByteArray.empty))) :
    Calls Tryd.prog 52 #[.slice (some ⟨x, xo, none⟩) la ca, .slice (some ⟨y, yo, none⟩) lb cb] w fun e w' => e = .returned (.bool (sameT ta tb)) ∧ Below w.heap.size w w' := by
  have HX := hide hx
  have HY := hide hy
  clear hx hy
  go_enter Tryd.func52, Tryd.ntmps52
  go_wp2
  go_loopw [8] (fun i wr => ∃ k : Nat, k ≤ la ∧ i = .int .i64 k ∧ Below w.heap.size w wr ∧ (∀ j, w.cell? j = wr.cell? j) ∧ (∀ j, j < k → j < lb ∧ ta.getD j ByteArray.empty = tb.getD j ByteArray.empty)) (fun i _ => la - (intOf i).toNat)
  case atStart => exact ⟨0, Nat.zero_le _, rfl, Below.refl _ _, fun _ => rfl, fun j h => by omega⟩
  case round =>
    obtain ⟨k, hk, rfl, hbw, hcw, hall⟩ := hrel
    have HC := hide hcw
    have HA := hide hall
    clear hcw hall
    by_cases hlt : k < la
    · have hlti : (k : Int) < (la : Int) := by omega
      by_cases hkb : k < lb
      · have hkbi : (k : Int) < (lb : Int) := by omega
        have hg : decide ((lb : Int) ≤ (k : Int)) = false := by simp; omega
        obtain ⟨p, hp⟩ : ∃ p, p = ta.getD k ByteArray.empty := ⟨_, rfl⟩
        obtain ⟨q, hq⟩ : ∃ q, q = tb.getD k ByteArray.empty := ⟨_, rfl⟩
        have c1 : wr.cell? ⟨x, xo + k, none⟩ = some (.string p) := by rw [← unhide HC, hp]; exact unhide HX k hlt
        have c2 : wr.cell? ⟨y, yo + k, none⟩ = some (.string q) := by rw [← unhide HC, hq]; exact unhide HY k hkb
        have HP := hide hp
        have HQ := hide hq
        clear hp hq
        by_cases hpq : p = q
        · have hpq' := beq_yes hpq
          have HE := hide hpq
          clear hpq
          go_wp2
          go_quiet (fail)
          go_wp2
          go_roundw
          case rel => exact ⟨k + 1, by omega, by go_num, _root_.Go.below_drewN hbw _, unhide HC, by
            intro j hj
            by_cases hjk : j = k
            · subst hjk; exact ⟨hkb, by rw [← unhide HP, ← unhide HQ]; exact unhide HE⟩
            · exact unhide HA j (by omega)⟩
          case measure => simp [intOf]; omega
        · have hpq' := beq_no hpq
          have hs : sameT ta tb = false := sameT_false (by intro e; apply hpq; rw [unhide HP, unhide HQ, e])
          have HS := hide hs
          clear hpq hs
          go_wp2
          go_quiet (fail)
          go_wp2
          go_ret
          exact ⟨by rw [unhide HS]; rfl, _root_.Go.below_drewN hbw _⟩
      · have hg : decide ((lb : Int) ≤ (k : Int)) = true := by simp; omega
        have hs : sameT ta tb = false := sameT_false (by intro e; have := congrArg List.length e; rw [unhide hla, unhide hlb] at this; omega)
        have HS := hide hs
        clear hs
        go_wp2
        go_quiet (fail)
        go_wp2
        go_ret
        exact ⟨by rw [unhide HS]; rfl, _root_.Go.below_drewN hbw _⟩
    · have hs : sameT ta tb = ((la : Int) == (lb : Int)) := by
        by_cases e : la = lb
        · rw [sameT_true (same_of ta tb (by rw [unhide hla, unhide hlb]; exact e) (fun i hi => (unhide HA i (by rw [unhide hla] at hi; omega)).2))]
          simp [e]
        · rw [sameT_false (by intro e'; have := congrArg List.length e'; rw [unhide hla, unhide hlb] at this; exact e this)]
          symm; apply beq_eq_false_iff_ne.2; omega
      have HS := hide hs
      clear hs
      go_wp2
      go_ret
      exact ⟨by rw [unhide HS]; rfl, hbw⟩

theorem texts_any (va vb : Value) (ta tb : List ByteArray) (w : World) (ha : View w va ta) (hb : View w vb tb) :
    Calls Tryd.prog 52 #[va, vb] w fun e w' => e = .returned (.bool (sameT ta tb)) ∧ Below w.heap.size w w' := by
  obtain ⟨la, a, ca, rfl, ha⟩ := ha
  obtain ⟨lb, b, cb, rfl, hb⟩ := hb
  by_cases h0 : ta.length = 0
  · have e0 : ta = [] := List.eq_nil_of_length_eq_zero h0
    have : sameT ta tb = ((0 : Int) == (tb.length : Int)) := by
      by_cases e : tb.length = 0
      · rw [e0, List.eq_nil_of_length_eq_zero e]; rfl
      · rw [sameT_false (by intro e'; rw [← e'] at e; exact e h0)]
        symm; apply beq_eq_false_iff_ne.2; omega
    rw [this, h0]
    exact texts_a0 a b ca tb.length cb w lb
  · obtain ⟨x, xo, rfl, hx⟩ := ha (by omega)
    by_cases h1 : tb.length = 0
    · rw [sameT_false (by intro e; rw [e] at h0; exact h0 h1), h1]
      exact texts_b0 x xo _ ca b cb w (by omega) la
    · obtain ⟨y, yo, rfl, hy⟩ := hb (by omega)
      exact texts_loop x xo ca y yo cb ta tb _ _ w (hide rfl) (hide rfl) (by omega) (by omega) la lb hx hy
end Go.Proofs.YtbabmkilbbbmoaaDoor
