/-
  Several texts in one: what the functions of the program and of the document's answer do.
-/
import Derived.Test.YtbabmkilbbbmoaaDoorMgAZ

/-
  A tree.reader's list, of any bytes.
-/
namespace Go.Proofs.YtbabmkilbbbmoaaDoor
open Go.RowKit
set_option linter.unusedVariables false
set_option linter.unusedSimpArgs false

def Forest.app : Forest → Forest → Forest
  | .nil, g => g
  | .cons k sp n ats tx kids r, g => .cons k sp n ats tx kids (r.app g)
theorem app_nil : ∀ (f : Forest), f.app .nil = f
  | .nil => rfl
  | .cons k sp n ats tx kids r => by rw [Forest.app, app_nil r]
theorem app_assoc : ∀ (f g h : Forest), (f.app g).app h = f.app (g.app h)
  | .nil, g, h => rfl
  | .cons k sp n ats tx kids r, g, h => by rw [Forest.app, Forest.app, Forest.app, app_assoc r g h]
theorem app_len : ∀ (f g : Forest), (f.app g).len = f.len + g.len
  | .nil, g => by show g.len = 0 + g.len; omega
  | .cons k sp n ats tx kids r, g => by show (r.app g).len + 1 = r.len + 1 + g.len; rw [app_len r g]; omega
def Desc : Forest → List Value → World → Prop
  | .nil, xs, _ => xs = []
  | .cons k sp n ats tx kids rest, xs, W => ∃ qa ca qk ck r, xs = .int .i64 k :: .int .i64 sp :: .string n :: .slice qa ats.length ca :: .string tx :: .slice qk kids.len ck :: r ∧ kids.len ≤ ck ∧ Sl qa ats W ∧ Fo qk kids W ∧ Desc rest r W
theorem Desc.le {W W' : World} (hc : CellLe W W') : ∀ (f : Forest) (xs : List Value), Desc f xs W → Desc f xs W'
  | .nil, xs, h => h
  | .cons k sp n ats tx kids rest, xs, ⟨qa, ca, qk, ck, r, h1, h2, h3, h4, h5⟩ => ⟨qa, ca, qk, ck, r, h1, h2, h3.le hc, h4.le hc, Desc.le hc rest r h5⟩
theorem Desc.snoc {W : World} (x : Nd) (qa : Option Addr) (ca : Nat) (qk : Option Addr) (ck : Nat) (hck : x.kids.len ≤ ck) (hsl : Sl qa x.ats W) (hfo : Fo qk x.kids W) : ∀ (f : Forest) (xs : List Value), Desc f xs W → Desc (f.app (x.cons .nil)) (xs ++ [.int .i64 x.k, .int .i64 x.sp, .string x.n, .slice qa x.ats.length ca, .string x.tx, .slice qk x.kids.len ck]) W
  | .nil, xs, h => by
    have : xs = [] := h
    subst this
    exact ⟨qa, ca, qk, ck, [], rfl, hck, hsl, hfo, rfl⟩
  | .cons k sp n ats tx kids rest, xs, ⟨qa', ca', qk', ck', r, h1, h2, h3, h4, h5⟩ => by
    subst h1
    exact ⟨qa', ca', qk', ck', _, rfl, h2, h3, h4, Desc.snoc x qa ca qk ck hck hsl hfo rest r h5⟩
theorem Desc.lies {W : World} {g : Nat} : ∀ (f : Forest) (xs : List Value) (o : Nat), (∀ j u, xs[j]? = some u → W.cell? ⟨g, o + j, none⟩ = some u) → Desc f xs W → Lies f g o W
  | .nil, xs, o, hc, h => trivial
  | .cons k sp n ats tx kids rest, xs, o, hc, ⟨qa, ca, qk, ck, r, h1, h2, h3, h4, h5⟩ => by
    subst h1
    exact ⟨⟨hc 0 _ rfl, hc 1 _ rfl, hc 2 _ rfl, ⟨qa, ca, hc 3 _ rfl, h3⟩, hc 4 _ rfl, ⟨qk, ck, hc 5 _ rfl, h2, h4⟩⟩, Desc.lies rest r (o + 6) (fun j u hj => by have := hc (j + 6) u (by simpa using hj); rw [show o + 6 + j = o + (j + 6) by omega]; exact this) h5⟩
theorem fo_of_row {w : World} {base : Nat} {v : Value} {f : Forest} {xs : List Value} {p : Nat → Bool} (h : w.ownsRow base 44 6 v f.len xs) (hd : Desc f xs (mask p w)) (hp : ∀ k, k < base → p k = true) : ∃ q cap, v = .slice q f.len cap ∧ f.len ≤ cap ∧ Fo q f (mask (hiP base) w) := by
  have hd' : Desc f xs (mask (hiP base) w) := hd.le (mask_less w fun i hi => hp i (of_decide_eq_true hi))
  obtain ⟨a, cap, hv⟩ := slice_n h
  subst hv
  rcases h.2 with ⟨h1, h0⟩ | ⟨g, cap', cur, h1, hb, h2, h3, _⟩
  · refine ⟨a, cap, rfl, by rw [h0]; exact Nat.zero_le _, Or.inl (len_nil h0)⟩
  · injection h1 with h4 h5 h6
    subst h4 h6
    refine ⟨_, _, rfl, h3, Or.inr ⟨g, 0, rfl, hd'.lies f xs 0 (fun j u hj => ?_)⟩⟩
    have := h.cells (g := g) rfl j u hj
    rw [add_off] at this
    rw [Nat.zero_add]
    exact mask_cell.2 ⟨hiP_not hb, this⟩
end Go.Proofs.YtbabmkilbbbmoaaDoor

/-
  What slices.Clone does of attributes and of nodes (made by mk_ycl.py).
-/
namespace Go.Proofs.YtbabmkilbbbmoaaDoor
open Go.RowKit
set_option linter.unusedVariables false
set_option linter.unusedSimpArgs false

set_option maxHeartbeats 1000000 in
set_option maxRecDepth 100000 in
theorem cloneA_some (ad : Addr) (n c : Nat) (xs : List Value) (w : World) (hl : Hid (xs.length = n * 2)) (hc : Hid (∀ j u, xs[j]? = some u → w.cell? (ad.add j) = some u)) (h1 : Hid (∀ u ∈ xs, u.oneCell' = true)) (hn : n ≤ 1000000000) :
    Calls Tryd.prog 102 #[.slice (some ad) n c] w fun e w' => ∃ v', e = .returned v' ∧ w'.ownsRow w.heap.size 112 2 v' n xs ∧ Below w.heap.size w w' := by
  obtain ⟨i0, hi0, hi1, hi2, hi3⟩ := info_parts infoAttr0
  have hrow : (w.alloc (Obj.cells #[] 112)).ownsRow w.heap.size 112 2 (.slice (some ⟨w.heap.size, 0, none⟩) 0 0) 0 [] := World.ownsRow_made w #[] 0 (Nat.le_refl _) (by simp [maxLen]) rfl
  have b1 : Below w.heap.size w (w.alloc (Obj.cells #[] 112)) := (Below.refl _ _).alloc (Nat.le_refl _) _
  have HC : Hid (∀ j u, xs[j]? = some u → (w.alloc (Obj.cells #[] 112)).cell? (ad.add j) = some u) := hide (fun j u hu => by
    have h2 := unhide hc j u hu
    exact (b1.cell (World.block_lt_of_cell? w _ h2)).trans h2)
  have HR := hide hrow
  clear hrow b1 hc
  have q22 : ∀ (w : World) (a : Option Addr) (n c n' c' : Nat), (binOp .eql 42 (.slice a n c) (.slice none n' c')).run Tryd.prog w = .ok (.bool a.isNone) w := fun w a n c n' c' => Lib.run_eql_slice_nil w _ _ a n c n' c' Tryd.underlying42
  go_enter Tryd.func102, Tryd.ntmps102
  go_wp2_with (at_builtin; refine wpList_append_own_at _ rfl _ _ 42 rfl w.heap.size 112 i0 (.agg #[.string ⟨#[]⟩, .string ⟨#[]⟩]) 2 32 Tryd.underlying42 hi0 hi1 hi2 hi3 rfl (by decide) _ 0 [] rfl (unhide HR) ad n c xs rfl (unhide hl) (unhide HC) (unhide h1) (by simp only [maxLen]; omega) (by omega) (by simp) ?_)
  intro v' w1 hown' hgrow _ hat
  have HB := hide (((Below.refl w.heap.size w).alloc (Nat.le_refl _) (Obj.cells #[] 112)).grown hgrow (by simp) (fun k hk => by simp [Value.ownBlock] at hk; omega))
  have HO := hide hown'
  obtain ⟨q2, c2, rfl⟩ := slice_n hown'
  clear hown' hgrow hat
  go_wp2
  go_ret
  exact ⟨_, rfl, unhide HO, unhide HB⟩
theorem cloneA_nil (n c : Nat) (w : World) : Calls Tryd.prog 102 #[.slice none n c] w fun e w' => e = .returned (.slice none 0 0) ∧ w' = w := by
  have q22 : ∀ (w : World) (a : Option Addr) (n c n' c' : Nat), (binOp .eql 42 (.slice a n c) (.slice none n' c')).run Tryd.prog w = .ok (.bool a.isNone) w := fun w a n c n' c' => Lib.run_eql_slice_nil w _ _ a n c n' c' Tryd.underlying42
  go_enter Tryd.func102, Tryd.ntmps102
  go_wp2
  go_ret
  exact ⟨rfl, rfl⟩
set_option maxHeartbeats 1000000 in
set_option maxRecDepth 100000 in
theorem cloneN_some (ad : Addr) (n c : Nat) (xs : List Value) (w : World) (hl : Hid (xs.length = n * 6)) (hc : Hid (∀ j u, xs[j]? = some u → w.cell? (ad.add j) = some u)) (h1 : Hid (∀ u ∈ xs, u.oneCell' = true)) (hn : n ≤ 1000000000) :
    Calls Tryd.prog 99 #[.slice (some ad) n c] w fun e w' => ∃ v', e = .returned v' ∧ w'.ownsRow w.heap.size 44 6 v' n xs ∧ Below w.heap.size w w' := by
  obtain ⟨i0, hi0, hi1, hi2, hi3⟩ := info_parts infoNode0
  have hrow : (w.alloc (Obj.cells #[] 44)).ownsRow w.heap.size 44 6 (.slice (some ⟨w.heap.size, 0, none⟩) 0 0) 0 [] := World.ownsRow_made w #[] 0 (Nat.le_refl _) (by simp [maxLen]) rfl
  have b1 : Below w.heap.size w (w.alloc (Obj.cells #[] 44)) := (Below.refl _ _).alloc (Nat.le_refl _) _
  have HC : Hid (∀ j u, xs[j]? = some u → (w.alloc (Obj.cells #[] 44)).cell? (ad.add j) = some u) := hide (fun j u hu => by
    have h2 := unhide hc j u hu
    exact (b1.cell (World.block_lt_of_cell? w _ h2)).trans h2)
  have HR := hide hrow
  clear hrow b1 hc
  have q22 : ∀ (w : World) (a : Option Addr) (n c n' c' : Nat), (binOp .eql 22 (.slice a n c) (.slice none n' c')).run Tryd.prog w = .ok (.bool a.isNone) w := fun w a n c n' c' => Lib.run_eql_slice_nil w _ _ a n c n' c' Tryd.underlying22
  go_enter Tryd.func99, Tryd.ntmps99
  go_wp2_with (at_builtin; refine wpList_append_own_at _ rfl _ _ 22 rfl w.heap.size 44 i0 (.agg #[.int .i64 0, .int .i64 0, .string ⟨#[]⟩, .slice none 0 0, .string ⟨#[]⟩, .slice none 0 0]) 6 96 Tryd.underlying22 hi0 hi1 hi2 hi3 rfl (by decide) _ 0 [] rfl (unhide HR) ad n c xs rfl (unhide hl) (unhide HC) (unhide h1) (by simp only [maxLen]; omega) (by omega) (by simp) ?_)
  intro v' w1 hown' hgrow _ hat
  have HB := hide (((Below.refl w.heap.size w).alloc (Nat.le_refl _) (Obj.cells #[] 44)).grown hgrow (by simp) (fun k hk => by simp [Value.ownBlock] at hk; omega))
  have HO := hide hown'
  obtain ⟨q2, c2, rfl⟩ := slice_n hown'
  clear hown' hgrow hat
  go_wp2
  go_ret
  exact ⟨_, rfl, unhide HO, unhide HB⟩
theorem cloneN_nil (n c : Nat) (w : World) : Calls Tryd.prog 99 #[.slice none n c] w fun e w' => e = .returned (.slice none 0 0) ∧ w' = w := by
  have q22 : ∀ (w : World) (a : Option Addr) (n c n' c' : Nat), (binOp .eql 22 (.slice a n c) (.slice none n' c')).run Tryd.prog w = .ok (.bool a.isNone) w := fun w a n c n' c' => Lib.run_eql_slice_nil w _ _ a n c n' c' Tryd.underlying22
  go_enter Tryd.func99, Tryd.ntmps99
  go_wp2
  go_ret
  exact ⟨rfl, rfl⟩

theorem add_at (g o j : Nat) : (⟨g, o, none⟩ : Addr).add j = ⟨g, o + j, none⟩ := by unfold Addr.add; split <;> simp_all
theorem flatA_one (ats : List (ByteArray × ByteArray)) : ∀ u ∈ flatA ats, u.oneCell' = true := by
  intro u hu
  unfold flatA at hu
  rw [List.mem_flatMap] at hu
  obtain ⟨a, _, h⟩ := hu
  simp at h
  rcases h with rfl | rfl <;> rfl
/-- A clone of attributes: the same ones, in new memory. -/
theorem cloneA_any (q : Option Addr) (ats : List (ByteArray × ByteArray)) (c : Nat) (w : World) (h : Sl q ats w) (hn : ats.length ≤ 1000000) :
    Calls Tryd.prog 102 #[.slice q ats.length c] w fun e w' => ∃ q' c', e = .returned (.slice q' ats.length c') ∧ Sl q' ats (mask (hiP w.heap.size) w') ∧ Below w.heap.size w w' := by
  cases q with
  | none =>
    have h0 : ats = [] := by
      rcases h with h | ⟨g, o, h, _⟩
      · exact h
      · cases h
    subst h0
    refine (cloneA_nil 0 c w).mono ?_
    rintro e w' ⟨rfl, rfl⟩
    exact ⟨none, 0, rfl, Or.inl rfl, Below.refl _ _⟩
  | some ad =>
    have hcs : ∀ j u, (flatA ats)[j]? = some u → w.cell? (ad.add j) = some u := by
      rcases h with h | ⟨g, o, h, hc⟩
      · subst h; intro j u hj; simp [flatA] at hj
      · injection h with h
        subst h
        intro j u hj
        rw [add_at]
        have hlt : j < ats.length * 2 := by rw [← flatA_len]; exact (List.getElem?_eq_some_iff.1 hj).1
        have hk : j / 2 < ats.length := by omega
        obtain ⟨g1, g2⟩ := flatA_get ats (j / 2) hk
        obtain ⟨c1, c2⟩ := hc (j / 2) hk
        rcases Nat.mod_two_eq_zero_or_one j with e | e
        · rw [show j = j / 2 * 2 by omega] at hj ⊢
          rw [g1] at hj
          rw [← hj]; exact c1
        · rw [show j = j / 2 * 2 + 1 by omega] at hj ⊢
          rw [g2] at hj
          rw [← hj, ← Nat.add_assoc]; exact c2
    refine (cloneA_some ad ats.length c (flatA ats) w (hide (flatA_len ats)) (hide hcs) (hide (flatA_one ats)) (by omega)).mono ?_
    rintro e w' ⟨v', rfl, hrow, hb⟩
    obtain ⟨q', cap, rfl, hcl⟩ := cells_of_owns hrow
    exact ⟨q', cap, rfl, sl_hi hcl, hb⟩
/-- The cells of nodes, one behind the other, as they lie. -/
theorem lies_cells {w : World} {g : Nat} : ∀ (f : Forest) (o : Nat), Lies f g o w → ∃ xs : List Value, xs.length = f.len * 6 ∧ (∀ j u, xs[j]? = some u → w.cell? ⟨g, o + j, none⟩ = some u) ∧ Desc f xs w ∧ ∀ u ∈ xs, u.oneCell' = true
  | .nil, o, _ => ⟨[], rfl, fun j u h => by simp at h, rfl, fun u h => by cases h⟩
  | .cons k sp n ats tx kids rest, o, h => by
    obtain ⟨⟨h0, h1, h2, ⟨qa, ca, h3, h3'⟩, h4, ⟨qk, ck, h5, h6, h7⟩⟩, hr⟩ := h
    obtain ⟨xs, x1, x2, x3, x4⟩ := lies_cells rest (o + 6) hr
    refine ⟨.int .i64 k :: .int .i64 sp :: .string n :: .slice qa ats.length ca :: .string tx :: .slice qk kids.len ck :: xs, by simp [x1, Forest.len]; omega, fun j u hj => ?_, ⟨qa, ca, qk, ck, xs, rfl, h6, h3', h7, x3⟩, fun u hu => ?_⟩
    · match j, hj with
      | 0, hj => simp at hj; rw [← hj]; exact h0
      | 1, hj => simp at hj; rw [← hj]; exact h1
      | 2, hj => simp at hj; rw [← hj]; exact h2
      | 3, hj => simp at hj; rw [← hj]; exact h3
      | 4, hj => simp at hj; rw [← hj]; exact h4
      | 5, hj => simp at hj; rw [← hj]; exact h5
      | j + 6, hj =>
        have := x2 j u (by simpa using hj)
        rw [show o + (j + 6) = o + 6 + j by omega]; exact this
    · simp only [List.mem_cons] at hu
      rcases hu with rfl | rfl | rfl | rfl | rfl | rfl | hu
      · rfl
      · rfl
      · rfl
      · rfl
      · rfl
      · rfl
      · exact x4 u hu
/-- A clone of nodes: a new row with the very cells. -/
theorem cloneN_any (q : Option Addr) (f : Forest) (c : Nat) (w : World) (h : Fo q f w) (hn : f.len ≤ 1000000) :
    Calls Tryd.prog 99 #[.slice q f.len c] w fun e w' => ∃ v' xs, e = .returned v' ∧ w'.ownsRow w.heap.size 44 6 v' f.len xs ∧ Desc f xs w ∧ Below w.heap.size w w' := by
  cases q with
  | none =>
    have h0 : f = .nil := by
      rcases h with h | ⟨g, o, h, _⟩
      · exact h
      · cases h
    subst h0
    refine (cloneN_nil 0 c w).mono ?_
    rintro e w' ⟨rfl, rfl⟩
    exact ⟨_, [], rfl, World.ownsRow_nil _ _ _ _, rfl, Below.refl _ _⟩
  | some ad =>
    obtain ⟨xs, x1, x2, x3, x4⟩ : ∃ xs : List Value, xs.length = f.len * 6 ∧ (∀ j u, xs[j]? = some u → w.cell? (ad.add j) = some u) ∧ Desc f xs w ∧ ∀ u ∈ xs, u.oneCell' = true := by
      rcases h with h | ⟨g, o, h, hl⟩
      · subst h; exact ⟨[], rfl, fun j u h => by simp at h, rfl, fun u h => by cases h⟩
      · injection h with h
        subst h
        obtain ⟨xs, x1, x2, x3, x4⟩ := lies_cells f o hl
        exact ⟨xs, x1, fun j u hj => by rw [add_at]; exact x2 j u hj, x3, x4⟩
    refine (cloneN_some ad f.len c xs w (hide x1) (hide x2) (hide x4) (by omega)).mono ?_
    rintro e w' ⟨v', rfl, hrow, hb⟩
    exact ⟨v', xs, rfl, hrow, x3, hb⟩
end Go.Proofs.YtbabmkilbbbmoaaDoor
