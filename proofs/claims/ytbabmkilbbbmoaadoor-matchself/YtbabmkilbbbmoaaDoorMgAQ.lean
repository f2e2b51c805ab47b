/-
  Several texts in one: what the functions of the program and of the document's answer do.
-/
import Derived.Test.YtbabmkilbbbmoaaDoorMgAL
import Derived.Test.YtbabmkilbbbmoaaDoorMgAP

/-
  The one text of rectolaw08.text: read off its bytes.
-/
namespace Go.Proofs.YtbabmkilbbbmoaaDoor
open Go.RowKit
set_option linter.unusedVariables false
set_option linter.unusedSimpArgs false

def f1 : Forest := .cons 2 0 ⟨#[]⟩ [] ⟨#[97]⟩ .nil .nil
def s1b : ByteArray := ⟨#[1, 1, 1, 2, 1, 1, 97]⟩
theorem add_off (g j : Nat) : (⟨g, 0, none⟩ : Addr).add j = ⟨g, j, none⟩ := by unfold Addr.add; split <;> simp_all
theorem infoNode0 : (Tryd.prog.info? 44).map (fun i => (i.zero, i.size, i.bytes)) = some (some (.agg #[.int .i64 0, .int .i64 0, .string ⟨#[]⟩, .slice none 0 0, .string ⟨#[]⟩, .slice none 0 0]), 6, 96) := by kernel_rfl
theorem lit6 {X : World} {vs : Array Value} {t : TypeId} {j : Nat} {u : Value} (h : vs.toList[j]? = some u) : (X.alloc (.cells vs t)).cell? ((⟨X.heap.size, 0, none⟩ : Addr).add j) = some u := by
  rw [add_off]
  exact ((Blk.new X vs t).cell j).trans (by simpa using h)
theorem one_row {w : World} {base : Nat} {v : Value} {xs : List Value} (h : w.ownsRow base 44 6 v 1 xs) : ∃ g cap, v = .slice (some ⟨g, 0, none⟩) 1 cap ∧ 1 ≤ cap ∧ base ≤ g ∧ g < w.heap.size ∧ ∀ j u, xs[j]? = some u → w.cell? ⟨g, j, none⟩ = some u := by
  rcases h.2 with ⟨_, h0⟩ | ⟨g, cap, cur, rfl, h1, h2, h3, _⟩
  · cases h0
  · refine ⟨g, cap, rfl, h3, h1, (Array.getElem?_eq_some_iff.1 h2).1, fun j u hj => ?_⟩
    have := h.cells (g := g) rfl j u hj
    rw [add_off] at this
    exact this
end Go.Proofs.YtbabmkilbbbmoaaDoor

/-
  A tree.reader's list, of any bytes.
-/
namespace Go.Proofs.YtbabmkilbbbmoaaDoor
open Go.RowKit
set_option linter.unusedVariables false
set_option linter.unusedSimpArgs false

def Forest.app : Forest → Forest → Forest
  | .nil, g => g
  | .cons k sp n ats tx kids r, g => .cons k sp n ats tx kids (r.app g)
theorem app_nil : ∀ (f : Forest), f.app .nil = f
  | .nil => rfl
  | .cons k sp n ats tx kids r => by rw [Forest.app, app_nil r]
theorem app_assoc : ∀ (f g h : Forest), (f.app g).app h = f.app (g.app h)
  | .nil, g, h => rfl
  | .cons k sp n ats tx kids r, g, h => by rw [Forest.app, Forest.app, Forest.app, app_assoc r g h]
theorem app_len : ∀ (f g : Forest), (f.app g).len = f.len + g.len
  | .nil, g => by show g.len = 0 + g.len; omega
  | .cons k sp n ats tx kids r, g => by show (r.app g).len + 1 = r.len + 1 + g.len; rw [app_len r g]; omega
def Desc : Forest → List Value → World → Prop
  | .nil, xs, _ => xs = []
  | .cons k sp n ats tx kids rest, xs, W => ∃ qa ca qk ck r, xs = .int .i64 k :: .int .i64 sp :: .string n :: .slice qa ats.length ca :: .string tx :: .slice qk kids.len ck :: r ∧ kids.len ≤ ck ∧ Sl qa ats W ∧ Fo qk kids W ∧ Desc rest r W
theorem Desc.le {W W' : World} (hc : CellLe W W') : ∀ (f : Forest) (xs : List Value), Desc f xs W → Desc f xs W'
  | .nil, xs, h => h
  | .cons k sp n ats tx kids rest, xs, ⟨qa, ca, qk, ck, r, h1, h2, h3, h4, h5⟩ => ⟨qa, ca, qk, ck, r, h1, h2, h3.le hc, h4.le hc, Desc.le hc rest r h5⟩
theorem Desc.snoc {W : World} (x : Nd) (qa : Option Addr) (ca : Nat) (qk : Option Addr) (ck : Nat) (hck : x.kids.len ≤ ck) (hsl : Sl qa x.ats W) (hfo : Fo qk x.kids W) : ∀ (f : Forest) (xs : List Value), Desc f xs W → Desc (f.app (x.cons .nil)) (xs ++ [.int .i64 x.k, .int .i64 x.sp, .string x.n, .slice qa x.ats.length ca, .string x.tx, .slice qk x.kids.len ck]) W
  | .nil, xs, h => by
    have : xs = [] := h
    subst this
    exact ⟨qa, ca, qk, ck, [], rfl, hck, hsl, hfo, rfl⟩
  | .cons k sp n ats tx kids rest, xs, ⟨qa', ca', qk', ck', r, h1, h2, h3, h4, h5⟩ => by
    subst h1
    exact ⟨qa', ca', qk', ck', _, rfl, h2, h3, h4, Desc.snoc x qa ca qk ck hck hsl hfo rest r h5⟩
theorem Desc.lies {W : World} {g : Nat} : ∀ (f : Forest) (xs : List Value) (o : Nat), (∀ j u, xs[j]? = some u → W.cell? ⟨g, o + j, none⟩ = some u) → Desc f xs W → Lies f g o W
  | .nil, xs, o, hc, h => trivial
  | .cons k sp n ats tx kids rest, xs, o, hc, ⟨qa, ca, qk, ck, r, h1, h2, h3, h4, h5⟩ => by
    subst h1
    exact ⟨⟨hc 0 _ rfl, hc 1 _ rfl, hc 2 _ rfl, ⟨qa, ca, hc 3 _ rfl, h3⟩, hc 4 _ rfl, ⟨qk, ck, hc 5 _ rfl, h2, h4⟩⟩, Desc.lies rest r (o + 6) (fun j u hj => by have := hc (j + 6) u (by simpa using hj); rw [show o + 6 + j = o + (j + 6) by omega]; exact this) h5⟩
theorem fo_of_row {w : World} {base : Nat} {v : Value} {f : Forest} {xs : List Value} {p : Nat → Bool} (h : w.ownsRow base 44 6 v f.len xs) (hd : Desc f xs (mask p w)) (hp : ∀ k, k < base → p k = true) : ∃ q cap, v = .slice q f.len cap ∧ f.len ≤ cap ∧ Fo q f (mask (hiP base) w) := by
  have hd' : Desc f xs (mask (hiP base) w) := hd.le (mask_less w fun i hi => hp i (of_decide_eq_true hi))
  obtain ⟨a, cap, hv⟩ := slice_n h
  subst hv
  rcases h.2 with ⟨h1, h0⟩ | ⟨g, cap', cur, h1, hb, h2, h3, _⟩
  · refine ⟨a, cap, rfl, by rw [h0]; exact Nat.zero_le _, Or.inl (len_nil h0)⟩
  · injection h1 with h4 h5 h6
    subst h4 h6
    refine ⟨_, _, rfl, h3, Or.inr ⟨g, 0, rfl, hd'.lies f xs 0 (fun j u hj => ?_)⟩⟩
    have := h.cells (g := g) rfl j u hj
    rw [add_off] at this
    rw [Nat.zero_add]
    exact mask_cell.2 ⟨hiP_not hb, this⟩
end Go.Proofs.YtbabmkilbbbmoaaDoor

/-
  What slices.Clone does of attributes and of nodes (made by mk_ycl.py).
-/
namespace Go.Proofs.YtbabmkilbbbmoaaDoor
open Go.RowKit
set_option linter.unusedVariables false
set_option linter.unusedSimpArgs false

set_option maxHeartbeats 1000000 in
set_option maxRecDepth 100000 in
theorem cloneA_some (ad : Addr) (n c : Nat) (xs : List Value) (w : World) (hl : Hid (xs.length = n * 2)) (hc : Hid (∀ j u, xs[j]? = some u → w.cell? (ad.add j) = some u)) (h1 : Hid (∀ u ∈ xs, u.oneCell' = true)) (hn : n ≤ 1000000000) :
    Calls Tryd.prog 102 #[.slice (some ad) n c] w fun e w' => ∃ v', e = .returned v' ∧ w'.ownsRow w.heap.size 112 2 v' n xs ∧ Below w.heap.size w w' := by
  obtain ⟨i0, hi0, hi1, hi2, hi3⟩ := info_parts infoAttr0
  have hrow : (w.alloc (Obj.cells #[] 112)).ownsRow w.heap.size 112 2 (.slice (some ⟨w.heap.size, 0, none⟩) 0 0) 0 [] := World.ownsRow_made w #[] 0 (Nat.le_refl _) (by simp [maxLen]) rfl
  have b1 : Below w.heap.size w (w.alloc (Obj.cells #[] 112)) := (Below.refl _ _).alloc (Nat.le_refl _) _
  have HC : Hid (∀ j u, xs[j]? = some u → (w.alloc (Obj.cells #[] 112)).cell? (ad.add j) = some u) := hide (fun j u hu => by
    have h2 := unhide hc j u hu
    exact (b1.cell (World.block_lt_of_cell? w _ h2)).trans h2)
  have HR := hide hrow
  clear hrow b1 hc
  have q22 : ∀ (w : World) (a : Option Addr) (n c n' c' : Nat), (binOp .eql 42 (.slice a n c) (.slice none n' c')).run Tryd.prog w = .ok (.bool a.isNone) w := fun w a n c n' c' => Lib.run_eql_slice_nil w _ _ a n c n' c' Tryd.underlying42
  go_enter Tryd.func102, Tryd.ntmps102
  go_wp2_with (at_builtin; refine wpList_append_own_at _ rfl _ _ 42 rfl w.heap.size 112 i0 (.agg #[.string ⟨#[]⟩, .string ⟨#[]⟩]) 2 32 Tryd.underlying42 hi0 hi1 hi2 hi3 rfl (by decide) _ 0 [] rfl (unhide HR) ad n c xs rfl (unhide hl) (unhide HC) (unhide h1) (by simp only [maxLen]; omega) (by omega) (by simp) ?_)
  intro v' w1 hown' hgrow _ hat
  have HB := hide (((Below.refl w.heap.size w).alloc (Nat.le_refl _) (Obj.cells #[] 112)).grown hgrow (by simp) (fun k hk => by simp [Value.ownBlock] at hk; omega))
  have HO := hide hown'
  obtain ⟨q2, c2, rfl⟩ := slice_n hown'
  clear hown' hgrow hat
  go_wp2
  go_ret
  exact ⟨_, rfl, unhide HO, unhide HB⟩
theorem cloneA_nil (n c : Nat) (w : World) : Calls Tryd.prog 102 #[.slice none n c] w fun e w' => e = .returned (.slice none 0 0) ∧ w' = w := by
  have q22 : ∀ (w : World) (a : Option Addr) (n c n' c' : Nat), (binOp .eql 42 (.slice a n c) (.slice none n' c')).run Tryd.prog w = .ok (.bool a.isNone) w := fun w a n c n' c' => Lib.run_eql_slice_nil w _ _ a n c n' c' Tryd.underlying42
  go_enter Tryd.func102, Tryd.ntmps102
  go_wp2
  go_ret
  exact ⟨rfl, rfl⟩
set_option maxHeartbeats 1000000 in
set_option maxRecDepth 100000 in
theorem cloneN_some (ad : Addr) (n c : Nat) (xs : List Value) (w : World) (hl : Hid (xs.length = n * 6)) (hc : Hid (∀ j u, xs[j]? = some u → w.cell? (ad.add j) = some u)) (h1 : Hid (∀ u ∈ xs, u.oneCell' = true)) (hn : n ≤ 1000000000) :
    Calls Tryd.prog 99 #[.slice (some ad) n c] w fun e w' => ∃ v', e = .returned v' ∧ w'.ownsRow w.heap.size 44 6 v' n xs ∧ Below w.heap.size w w' := by
  obtain ⟨i0, hi0, hi1, hi2, hi3⟩ := info_parts infoNode0
  have hrow : (w.alloc (Obj.cells #[] 44)).ownsRow w.heap.size 44 6 (.slice (some ⟨w.heap.size, 0, none⟩) 0 0) 0 [] := World.ownsRow_made w #[] 0 (Nat.le_refl _) (by simp [maxLen]) rfl
  have b1 : Below w.heap.size w (w.alloc (Obj.cells #[] 44)) := (Below.refl _ _).alloc (Nat.le_refl _) _
  have HC : Hid (∀ j u, xs[j]? = some u → (w.alloc (Obj.cells #[] 44)).cell? (ad.add j) = some u) := hide (fun j u hu => by
    have h2 := unhide hc j u hu
    exact (b1.cell (World.block_lt_of_cell? w _ h2)).trans h2)
  have HR := hide hrow
  clear hrow b1 hc
  have q22 : ∀ (w : World) (a : Option Addr) (n c n' c' : Nat), (binOp .eql 22 (.slice a n c) (.slice none n' c')).run Tryd.prog w = .ok (.bool a.isNone) w := fun w a n c n' c' => Lib.run_eql_slice_nil w _ _ a n c n' c' Tryd.underlying22
  go_enter Tryd.func99, Tryd.ntmps99
  go_wp2_with (at_builtin; refine wpList_append_own_at _ rfl _ _ 22 rfl w.heap.size 44 i0 (.agg #[.int .i64 0, .int .i64 0, .string ⟨#[]⟩, .slice none 0 0, .string ⟨#[]⟩, .slice none 0 0]) 6 96 Tryd.underlying22 hi0 hi1 hi2 hi3 rfl (by decide) _ 0 [] rfl (unhide HR) ad n c xs rfl (unhide hl) (unhide HC) (unhide h1) (by simp only [maxLen]; omega) (by omega) (by simp) ?_)
  intro v' w1 hown' hgrow _ hat
  have HB := hide (((Below.refl w.heap.size w).alloc (Nat.le_refl _) (Obj.cells #[] 44)).grown hgrow (by simp) (fun k hk => by simp [Value.ownBlock] at hk; omega))
  have HO := hide hown'
  obtain ⟨q2, c2, rfl⟩ := slice_n hown'
  clear hown' hgrow hat
  go_wp2
  go_ret
  exact ⟨_, rfl, unhide HO, unhide HB⟩
theorem cloneN_nil (n c : Nat) (w : World) : Calls Tryd.prog 99 #[.slice none n c] w fun e w' => e = .returned (.slice none 0 0) ∧ w' = w := by
  have q22 : ∀ (w : World) (a : Option Addr) (n c n' c' : Nat), (binOp .eql 22 (.slice a n c) (.slice none n' c')).run Tryd.prog w = .ok (.bool a.isNone) w := fun w a n c n' c' => Lib.run_eql_slice_nil w _ _ a n c n' c' Tryd.underlying22
  go_enter Tryd.func99, Tryd.ntmps99
  go_wp2
  go_ret
  exact ⟨rfl, rfl⟩

theorem add_at (g o j : Nat) : (⟨g, o, none⟩ : Addr).add j = ⟨g, o + j, none⟩ := by unfold Addr.add; split <;> simp_all
theorem flatA_one (ats : List (ByteArray × ByteArray)) : ∀ u ∈ flatA ats, u.oneCell' = true := by
  intro u hu
  unfold flatA at hu
  rw [List.mem_flatMap] at hu
  obtain ⟨a, _, h⟩ := hu
  simp at h
  rcases h with rfl | rfl <;> rfl
/-- A clone of attributes: the same ones, in new memory. -/
theorem cloneA_any (q : Option Addr) (ats : List (ByteArray × ByteArray)) (c : Nat) (w : World) (h : Sl q ats w) (hn : ats.length ≤ 1000000) :
    Calls Tryd.prog 102 #[.slice q ats.length c] w fun e w' => ∃ q' c', e = .returned (.slice q' ats.length c') ∧ Sl q' ats (mask (hiP w.heap.size) w') ∧ Below w.heap.size w w' := by
  cases q with
  | none =>
    have h0 : ats = [] := by
      rcases h with h | ⟨g, o, h, _⟩
      · exact h
      · cases h
    subst h0
    refine (cloneA_nil 0 c w).mono ?_
    rintro e w' ⟨rfl, rfl⟩
    exact ⟨none, 0, rfl, Or.inl rfl, Below.refl _ _⟩
  | some ad =>
    have hcs : ∀ j u, (flatA ats)[j]? = some u → w.cell? (ad.add j) = some u := by
      rcases h with h | ⟨g, o, h, hc⟩
      · subst h; intro j u hj; simp [flatA] at hj
      · injection h with h
        subst h
        intro j u hj
        rw [add_at]
        have hlt : j < ats.length * 2 := by rw [← flatA_len]; exact (List.getElem?_eq_some_iff.1 hj).1
        have hk : j / 2 < ats.length := by omega
        obtain ⟨g1, g2⟩ := flatA_get ats (j / 2) hk
        obtain ⟨c1, c2⟩ := hc (j / 2) hk
        rcases Nat.mod_two_eq_zero_or_one j with e | e
        · rw [show j = j / 2 * 2 by omega] at hj ⊢
          rw [g1] at hj
          rw [← hj]; exact c1
        · rw [show j = j / 2 * 2 + 1 by omega] at hj ⊢
          rw [g2] at hj
          rw [← hj, ← Nat.add_assoc]; exact c2
    refine (cloneA_some ad ats.length c (flatA ats) w (hide (flatA_len ats)) (hide hcs) (hide (flatA_one ats)) (by omega)).mono ?_
    rintro e w' ⟨v', rfl, hrow, hb⟩
    obtain ⟨q', cap, rfl, hcl⟩ := cells_of_owns hrow
    exact ⟨q', cap, rfl, sl_hi hcl, hb⟩
/-- The cells of nodes, one behind the other, as they lie. -/
theorem lies_cells {w : World} {g : Nat} : ∀ (f : Forest) (o : Nat), Lies f g o w → ∃ xs : List Value, xs.length = f.len * 6 ∧ (∀ j u, xs[j]? = some u → w.cell? ⟨g, o + j, none⟩ = some u) ∧ Desc f xs w ∧ ∀ u ∈ xs, u.oneCell' = true
  | .nil, o, _ => ⟨[], rfl, fun j u h => by simp at h, rfl, fun u h => by cases h⟩
  | .cons k sp n ats tx kids rest, o, h => by
    obtain ⟨⟨h0, h1, h2, ⟨qa, ca, h3, h3'⟩, h4, ⟨qk, ck, h5, h6, h7⟩⟩, hr⟩ := h
    obtain ⟨xs, x1, x2, x3, x4⟩ := lies_cells rest (o + 6) hr
    refine ⟨.int .i64 k :: .int .i64 sp :: .string n :: .slice qa ats.length ca :: .string tx :: .slice qk kids.len ck :: xs, by simp [x1, Forest.len]; omega, fun j u hj => ?_, ⟨qa, ca, qk, ck, xs, rfl, h6, h3', h7, x3⟩, fun u hu => ?_⟩
    · match j, hj with
      | 0, hj => simp at hj; rw [← hj]; exact h0
      | 1, hj => simp at hj; rw [← hj]; exact h1
      | 2, hj => simp at hj; rw [← hj]; exact h2
      | 3, hj => simp at hj; rw [← hj]; exact h3
      | 4, hj => simp at hj; rw [← hj]; exact h4
      | 5, hj => simp at hj; rw [← hj]; exact h5
      | j + 6, hj =>
        have := x2 j u (by simpa using hj)
        rw [show o + (j + 6) = o + 6 + j by omega]; exact this
    · simp only [List.mem_cons] at hu
      rcases hu with rfl | rfl | rfl | rfl | rfl | rfl | hu
      · rfl
      · rfl
      · rfl
      · rfl
      · rfl
      · rfl
      · exact x4 u hu
/-- A clone of nodes: a new row with the very cells. -/
theorem cloneN_any (q : Option Addr) (f : Forest) (c : Nat) (w : World) (h : Fo q f w) (hn : f.len ≤ 1000000) :
    Calls Tryd.prog 99 #[.slice q f.len c] w fun e w' => ∃ v' xs, e = .returned v' ∧ w'.ownsRow w.heap.size 44 6 v' f.len xs ∧ Desc f xs w ∧ Below w.heap.size w w' := by
  cases q with
  | none =>
    have h0 : f = .nil := by
      rcases h with h | ⟨g, o, h, _⟩
      · exact h
      · cases h
    subst h0
    refine (cloneN_nil 0 c w).mono ?_
    rintro e w' ⟨rfl, rfl⟩
    exact ⟨_, [], rfl, World.ownsRow_nil _ _ _ _, rfl, Below.refl _ _⟩
  | some ad =>
    obtain ⟨xs, x1, x2, x3, x4⟩ : ∃ xs : List Value, xs.length = f.len * 6 ∧ (∀ j u, xs[j]? = some u → w.cell? (ad.add j) = some u) ∧ Desc f xs w ∧ ∀ u ∈ xs, u.oneCell' = true := by
      rcases h with h | ⟨g, o, h, hl⟩
      · subst h; exact ⟨[], rfl, fun j u h => by simp at h, rfl, fun u h => by cases h⟩
      · injection h with h
        subst h
        obtain ⟨xs, x1, x2, x3, x4⟩ := lies_cells f o hl
        exact ⟨xs, x1, fun j u hj => by rw [add_at]; exact x2 j u hj, x3, x4⟩
    refine (cloneN_some ad f.len c xs w (hide x1) (hide x2) (hide x4) (by omega)).mono ?_
    rintro e w' ⟨v', rfl, hrow, hb⟩
    exact ⟨v', xs, rfl, hrow, x3, hb⟩
end Go.Proofs.YtbabmkilbbbmoaaDoor

/-
  Nodes that are copied, some of them not yet: plain facts.
-/
namespace Go.Proofs.YtbabmkilbbbmoaaDoor
open Go.RowKit
set_option linter.unusedVariables false
set_option linter.unusedSimpArgs false

theorem ats_uniq {g o : Nat} {w : World} {ats ats' : List (ByteArray × ByteArray)} (h : Cells2 g o ats w) (h' : Cells2 g o ats' w) (hl : ats.length = ats'.length) : ats = ats' := by
  apply List.ext_getElem hl
  intro k hk hk'
  obtain ⟨a1, a2⟩ := h k hk
  obtain ⟨b1, b2⟩ := h' k hk'
  rw [a1] at b1
  rw [a2] at b2
  simp only [Option.some.injEq, Value.string.injEq] at b1 b2
  have e1 : ats.getD k (ByteArray.empty, ByteArray.empty) = ats[k] := by simp [List.getD, List.getElem?_eq_getElem hk]
  have e2 : ats'.getD k (ByteArray.empty, ByteArray.empty) = ats'[k] := by simp [List.getD, List.getElem?_eq_getElem hk']
  unfold an at b1
  unfold av at b2
  rw [e1, e2] at b1 b2
  exact Prod.ext b1 b2
theorem Sl.uniq {q : Option Addr} {w : World} {ats ats' : List (ByteArray × ByteArray)} (h : Sl q ats w) (h' : Sl q ats' w) (hl : ats.length = ats'.length) : ats = ats' := by
  rcases h with rfl | ⟨g, o, hq, hc⟩
  · exact (List.eq_nil_of_length_eq_zero hl.symm).symm
  · rcases h' with rfl | ⟨g', o', hq', hc'⟩
    · exact List.eq_nil_of_length_eq_zero hl
    · rw [hq] at hq'
      injection hq' with hq'
      injection hq' with e1 e2
      subst e1 e2
      exact ats_uniq hc hc' hl
theorem Lies.uniq {w : World} : ∀ (f f' : Forest) (g o : Nat), Lies f g o w → Lies f' g o w → f.len = f'.len → f = f'
  | .nil, f', g, o, _, _, hl => (len_nil hl.symm).symm
  | .cons k sp n ats tx kids rest, .nil, g, o, _, _, hl => by simp [Forest.len] at hl
  | .cons k sp n ats tx kids rest, .cons k' sp' n' ats' tx' kids' rest', g, o, h, h', hl => by
    obtain ⟨⟨h0, h1, h2, ⟨qa, ca, h3, h3'⟩, h4, ⟨qk, ck, h5, h6, h7⟩⟩, hr⟩ := h
    obtain ⟨⟨i0, i1, i2, ⟨qa', ca', i3, i3'⟩, i4, ⟨qk', ck', i5, i6, i7⟩⟩, ir⟩ := h'
    rw [h0] at i0; rw [h1] at i1; rw [h2] at i2; rw [h3] at i3; rw [h4] at i4; rw [h5] at i5
    simp only [Option.some.injEq, Value.string.injEq, Value.int.injEq, Value.slice.injEq] at i0 i1 i2 i3 i4 i5
    obtain ⟨_, rfl⟩ := i0
    obtain ⟨_, rfl⟩ := i1
    subst i2 i4
    obtain ⟨rfl, e3, rfl⟩ := i3
    obtain ⟨rfl, e5, rfl⟩ := i5
    obtain rfl := h3'.uniq i3' e3
    obtain rfl := Lies.uniq rest rest' g (o + 6) hr ir (by simp [Forest.len] at hl; exact hl)
    have : kids = kids' := by
      rcases h7 with rfl | ⟨g1, o1, hq, hk⟩
      · exact (len_nil e5.symm).symm
      · rcases i7 with rfl | ⟨g2, o2, hq', hk'⟩
        · exact len_nil e5
        · rw [hq] at hq'
          injection hq' with hq'
          injection hq' with e1 e2
          subst e1 e2
          exact Lies.uniq kids kids' g1 o1 hk hk' e5
    subst this
    rfl
theorem Fo.uniq {q : Option Addr} {w : World} {f f' : Forest} (h : Fo q f w) (h' : Fo q f' w) (hl : f.len = f'.len) : f = f' := by
  rcases h with rfl | ⟨g, o, hq, hc⟩
  · exact (len_nil hl.symm).symm
  · rcases h' with rfl | ⟨g', o', hq', hc'⟩
    · exact len_nil hl
    · rw [hq] at hq'
      injection hq' with hq'
      injection hq' with e1 e2
      subst e1 e2
      exact Lies.uniq _ _ _ _ hc hc' hl

/-- Attributes in a block of their own, that is no row of nodes. -/
def AtOwn (B0 : Nat) (N : Nat → Bool) (q : Option Addr) (ats : List (ByteArray × ByteArray)) (w : World) : Prop :=
  ats = [] ∨ ∃ ga cur, q = some ⟨ga, 0, none⟩ ∧ B0 ≤ ga ∧ N ga = false ∧ Blk w ga cur 112 ∧ Cells2 ga 0 ats w
/-- Nodes whose attributes and kids lie as they lay at the beginning. -/
def Half (w0 : World) : Forest → Nat → Nat → World → Prop
  | .nil, _, _, _ => True
  | .cons k sp n ats tx kids rest, g, o, w =>
    (w.cell? ⟨g, o, none⟩ = some (.int .i64 k) ∧ w.cell? ⟨g, o + 1, none⟩ = some (.int .i64 sp) ∧ w.cell? ⟨g, o + 2, none⟩ = some (.string n) ∧
      (∃ qa ca, w.cell? ⟨g, o + 3, none⟩ = some (.slice qa ats.length ca) ∧ Sl qa ats w0) ∧ w.cell? ⟨g, o + 4, none⟩ = some (.string tx) ∧
      ∃ qk ck, w.cell? ⟨g, o + 5, none⟩ = some (.slice qk kids.len ck) ∧ kids.len ≤ ck ∧ Fo qk kids w0) ∧
    Half w0 rest g (o + 6) w
/-- Nodes in new memory; those at the places P are not gone through yet. -/
def Mix (w0 : World) (B0 : Nat) (N : Nat → Bool) (P : Nat → Nat → Prop) : Forest → Nat → Nat → World → Prop
  | .nil, _, _, _ => True
  | .cons k sp n ats tx kids rest, g, o, w =>
    ((N g = true ∧ o % 6 = 0) ∧ w.cell? ⟨g, o, none⟩ = some (.int .i64 k) ∧ w.cell? ⟨g, o + 1, none⟩ = some (.int .i64 sp) ∧ w.cell? ⟨g, o + 2, none⟩ = some (.string n) ∧ w.cell? ⟨g, o + 4, none⟩ = some (.string tx) ∧
      ∃ qa ca qk ck, w.cell? ⟨g, o + 3, none⟩ = some (.slice qa ats.length ca) ∧ w.cell? ⟨g, o + 5, none⟩ = some (.slice qk kids.len ck) ∧ kids.len ≤ ck ∧
        (P g o → Sl qa ats w0 ∧ Fo qk kids w0) ∧ (¬ P g o → AtOwn B0 N qa ats w) ∧ (¬ P g o → kids = .nil ∨ ∃ g', qk = some ⟨g', 0, none⟩ ∧ Mix w0 B0 N P kids g' 0 w)) ∧
    Mix w0 B0 N P rest g (o + 6) w
theorem Half.keep {w0 w w' : World} : ∀ (f : Forest) (g o : Nat), Half w0 f g o w → (∀ i v, o ≤ i → w.cell? ⟨g, i, none⟩ = some v → w'.cell? ⟨g, i, none⟩ = some v) → Half w0 f g o w'
  | .nil, g, o, _, _ => trivial
  | .cons k sp n ats tx kids rest, g, o, h, hc => by
    obtain ⟨⟨h0, h1, h2, ⟨qa, ca, h3, h3'⟩, h4, ⟨qk, ck, h5, h6, h7⟩⟩, hr⟩ := h
    exact ⟨⟨hc _ _ (by omega) h0, hc _ _ (by omega) h1, hc _ _ (by omega) h2, ⟨qa, ca, hc _ _ (by omega) h3, h3'⟩, hc _ _ (by omega) h4, ⟨qk, ck, hc _ _ (by omega) h5, h6, h7⟩⟩, Half.keep rest g (o + 6) hr fun i v hi => hc i v (by omega)⟩
theorem Half.mix {w0 w : World} {B0 : Nat} {N : Nat → Bool} {P : Nat → Nat → Prop} {g : Nat} (hN : N g = true) : ∀ (f : Forest) (o : Nat), Half w0 f g o w → o % 6 = 0 → (∀ j, j < f.len → P g (o + 6 * j)) → Mix w0 B0 N P f g o w
  | .nil, o, _, _, _ => trivial
  | .cons k sp n ats tx kids rest, o, h, ho, hP => by
    obtain ⟨⟨h0, h1, h2, ⟨qa, ca, h3, h3'⟩, h4, ⟨qk, ck, h5, h6, h7⟩⟩, hr⟩ := h
    have hp : P g o := by have := hP 0 (by simp [Forest.len]); simpa using this
    exact ⟨⟨⟨hN, ho⟩, h0, h1, h2, h4, qa, ca, qk, ck, h3, h5, h6, fun _ => ⟨h3', h7⟩, fun h => absurd hp h, fun h => absurd hp h⟩, Half.mix hN rest (o + 6) hr (by omega) fun j hj => by
      have := hP (j + 1) (by simp [Forest.len]; omega)
      rw [show o + 6 + 6 * j = o + 6 * (j + 1) by omega]; exact this⟩
theorem Desc.half {w0 w : World} {g : Nat} : ∀ (f : Forest) (xs : List Value) (o : Nat), (∀ j u, xs[j]? = some u → w.cell? ⟨g, o + j, none⟩ = some u) → Desc f xs w0 → Half w0 f g o w
  | .nil, xs, o, hc, h => trivial
  | .cons k sp n ats tx kids rest, xs, o, hc, ⟨qa, ca, qk, ck, r, h1, h2, h3, h4, h5⟩ => by
    subst h1
    exact ⟨⟨hc 0 _ rfl, hc 1 _ rfl, hc 2 _ rfl, ⟨qa, ca, hc 3 _ rfl, h3⟩, hc 4 _ rfl, ⟨qk, ck, hc 5 _ rfl, h2, h4⟩⟩, Desc.half rest r (o + 6) (fun j u hj => by have := hc (j + 6) u (by simpa using hj); rw [show o + 6 + j = o + (j + 6) by omega]; exact this) h5⟩
/-- Nothing but one block changes, and new ones come. -/
def Only (b : Nat) (w w' : World) : Prop := w.heap.size ≤ w'.heap.size ∧ ∀ i, i < w.heap.size → i ≠ b → w'.heap[i]? = w.heap[i]?
theorem Only.cell {b : Nat} {w w' : World} (h : Only b w w') {g o : Nat} {v : Value} (hc : w.cell? ⟨g, o, none⟩ = some v) (hg : g ≠ b) : w'.cell? ⟨g, o, none⟩ = some v :=
  (World.cell?_of_block (w := w) (a := ⟨g, o, none⟩) (h.2 g (World.block_lt_of_cell? w ⟨g, o, none⟩ hc) hg)).trans hc
theorem Only.blk {b : Nat} {w w' : World} (h : Only b w w') {g : Nat} {vs : Array Value} {t : TypeId} (hc : Blk w g vs t) (hg : g ≠ b) : Blk w' g vs t := (h.2 g hc.lt hg).trans hc
theorem Only.trans {b : Nat} {w w1 w2 : World} (h : Only b w w1) (h' : Only b w1 w2) : Only b w w2 := ⟨Nat.le_trans h.1 h'.1, fun i hi hb => (h'.2 i (Nat.lt_of_lt_of_le hi h.1) hb).trans (h.2 i hi hb)⟩
theorem Only.set (w : World) (b o : Nat) (v : Value) : Only b w (w.setCell ⟨b, o, none⟩ v) := ⟨by simp, fun i _ hb => Below.heap_setCell w ⟨b, o, none⟩ v i hb⟩
theorem AtOwn.only {B0 b : Nat} {N : Nat → Bool} {q : Option Addr} {ats : List (ByteArray × ByteArray)} {w w' : World} (h : AtOwn B0 N q ats w) (ho : Only b w w') (hb : ∀ cur, ¬ Blk w b cur 112) : AtOwn B0 N q ats w' :=
  h.imp id fun ⟨ga, cur, h1, h2, h3, h4, h5⟩ => by
    have hne : ga ≠ b := fun e => hb cur (e ▸ h4)
    exact ⟨ga, cur, h1, h2, h3, ho.blk h4 hne, fun k hk => ⟨ho.cell (h5 k hk).1 hne, ho.cell (h5 k hk).2 hne⟩⟩
theorem Mix.only {w0 w w' : World} {B0 b : Nat} {N : Nat → Bool} {P : Nat → Nat → Prop} (ho : Only b w w') (hb : ∀ cur, ¬ Blk w b cur 112) (hN : ∀ i, N i = true → i ≠ b) : ∀ (f : Forest) (g o : Nat), Mix w0 B0 N P f g o w → Mix w0 B0 N P f g o w'
  | .nil, g, o, _ => trivial
  | .cons k sp n ats tx kids rest, g, o, ⟨⟨⟨hg, ho6⟩, h0, h1, h2, h4, qa, ca, qk, ck, h3, h5, h6, h7, h8, h9⟩, hr⟩ => by
    have hne := hN g hg
    refine ⟨⟨⟨hg, ho6⟩, ho.cell h0 hne, ho.cell h1 hne, ho.cell h2 hne, ho.cell h4 hne, qa, ca, qk, ck, ho.cell h3 hne, ho.cell h5 hne, h6, h7, fun hp => (h8 hp).only ho hb, fun hp => ?_⟩, Mix.only ho hb hN rest g (o + 6) hr⟩
    rcases h9 hp with h | ⟨g', hq, hm⟩
    · exact Or.inl h
    · exact Or.inr ⟨g', hq, Mix.only ho hb hN kids g' 0 hm⟩
/-- One node is gone through. -/
theorem Mix.step {w0 w w' : World} {B0 g o : Nat} {N N' : Nat → Bool} {P P' : Nat → Nat → Prop} {ats : List (ByteArray × ByteArray)} {kids : Forest} {qa qk qa' qk' : Option Addr} {ca ck ca' ck' : Nat}
    (c3 : w.cell? ⟨g, o + 3, none⟩ = some (.slice qa ats.length ca)) (c5 : w.cell? ⟨g, o + 5, none⟩ = some (.slice qk kids.len ck)) (hsl : Sl qa ats w0) (hfo : Fo qk kids w0)
    (d3 : w'.cell? ⟨g, o + 3, none⟩ = some (.slice qa' ats.length ca')) (d5 : w'.cell? ⟨g, o + 5, none⟩ = some (.slice qk' kids.len ck')) (hck : kids.len ≤ ck') (hao : AtOwn B0 N' qa' ats w')
    (hki : kids = .nil ∨ ∃ g', qk' = some ⟨g', 0, none⟩ ∧ Mix w0 B0 N' P' kids g' 0 w')
    (hp : P g o) (hp' : ¬ P' g o) (ho6 : o % 6 = 0) (hNg : N g = true)
    (hpp : ∀ g' o', g' < w.heap.size → ¬ (g' = g ∧ o' = o) → (P g' o' ↔ P' g' o'))
    (hcell : ∀ g' o' v, w.cell? ⟨g', o', none⟩ = some v → ¬ (g' = g ∧ (o' = o + 3 ∨ o' = o + 5)) → w'.cell? ⟨g', o', none⟩ = some v)
    (hN : ∀ i, N i = true → N' i = true) (hN' : ∀ i, i < w.heap.size → N i = false → N' i = false) (hblk : ∀ i, i < w.heap.size → i ≠ g → w'.heap[i]? = w.heap[i]?) :
    ∀ (f : Forest) (g1 o1 : Nat), Mix w0 B0 N P f g1 o1 w → Mix w0 B0 N' P' f g1 o1 w'
  | .nil, g1, o1, _ => trivial
  | .cons k sp n ats1 tx kids1 rest, g1, o1, ⟨⟨⟨hg, h16⟩, h0, h1, h2, h4, qa1, ca1, qk1, ck1, h3, h5, h6, h7, h8, h9⟩, hr⟩ => by
    have hrest := Mix.step c3 c5 hsl hfo d3 d5 hck hao hki hp hp' ho6 hNg hpp hcell hN hN' hblk rest g1 (o1 + 6) hr
    have hlt : g1 < w.heap.size := World.block_lt_of_cell? w ⟨g1, o1, none⟩ h0
    have hc : ∀ i v, i < 6 → i ≠ 3 → i ≠ 5 → w.cell? ⟨g1, o1 + i, none⟩ = some v → w'.cell? ⟨g1, o1 + i, none⟩ = some v := fun i v hi e3 e5 hv => hcell g1 (o1 + i) v hv (by omega)
    refine ⟨⟨⟨hN g1 hg, h16⟩, hc 0 _ (by omega) (by omega) (by omega) h0, hc 1 _ (by omega) (by omega) (by omega) h1, hc 2 _ (by omega) (by omega) (by omega) h2, hc 4 _ (by omega) (by omega) (by omega) h4, ?_⟩, hrest⟩
    by_cases he : g1 = g ∧ o1 = o
    · obtain ⟨rfl, rfl⟩ := he
      obtain ⟨s1, s2⟩ := h7 hp
      rw [h3] at c3
      rw [h5] at c5
      simp only [Option.some.injEq, Value.slice.injEq] at c3 c5
      obtain ⟨rfl, e3, rfl⟩ := c3
      obtain ⟨rfl, e5, rfl⟩ := c5
      obtain rfl := s1.uniq hsl e3
      obtain rfl := s2.uniq hfo e5
      exact ⟨qa', ca', qk', ck', d3, d5, hck, fun h => absurd h hp', fun _ => hao, fun _ => hki⟩
    · have hiff := hpp g1 o1 hlt he
      refine ⟨qa1, ca1, qk1, ck1, hcell _ _ _ h3 (by omega), hcell _ _ _ h5 (by omega), h6, fun h => h7 (hiff.2 h), fun h => ?_, fun h => ?_⟩
      · refine (h8 fun h' => h (hiff.1 h')).imp id fun ⟨ga, cur, x1, x2, x3, x4, x5⟩ => ?_
        have hne : ga ≠ g := fun e => by rw [e, hNg] at x3; cases x3
        have hb := hblk ga x4.lt hne
        exact ⟨ga, cur, x1, x2, hN' ga x4.lt x3, hb.trans x4, fun k hk => ⟨hcell _ _ _ (x5 k hk).1 (fun h => hne h.1), hcell _ _ _ (x5 k hk).2 (fun h => hne h.1)⟩⟩
      · refine (h9 fun h' => h (hiff.1 h')).imp id fun ⟨g', hq, hm⟩ => ⟨g', hq, ?_⟩
        exact Mix.step c3 c5 hsl hfo d3 d5 hck hao hki hp hp' ho6 hNg hpp hcell hN hN' hblk kids1 g' 0 hm
/-- All are gone through. -/
theorem Mix.done {w0 w : World} {B0 : Nat} {N : Nat → Bool} {P : Nat → Nat → Prop} (hP : ∀ g o, ¬ P g o) (hN : ∀ i, N i = true → B0 ≤ i) : ∀ (f : Forest) (g o : Nat), Mix w0 B0 N P f g o w → Lies f g o (mask (hiP B0) w)
  | .nil, g, o, _ => trivial
  | .cons k sp n ats tx kids rest, g, o, ⟨⟨⟨hg, h16⟩, h0, h1, h2, h4, qa, ca, qk, ck, h3, h5, h6, h7, h8, h9⟩, hr⟩ => by
    have hp := hP g o
    have hm : hiP B0 g = false := hiP_not (hN g hg)
    refine ⟨⟨mask_cell.2 ⟨hm, h0⟩, mask_cell.2 ⟨hm, h1⟩, mask_cell.2 ⟨hm, h2⟩, ⟨qa, ca, mask_cell.2 ⟨hm, h3⟩, ?_⟩, mask_cell.2 ⟨hm, h4⟩, ⟨qk, ck, mask_cell.2 ⟨hm, h5⟩, h6, ?_⟩⟩, Mix.done hP hN rest g (o + 6) hr⟩
    · exact (h8 hp).imp id fun ⟨ga, cur, x1, x2, x3, x4, x5⟩ => ⟨ga, 0, x1, fun k hk => ⟨mask_cell.2 ⟨hiP_not x2, (x5 k hk).1⟩, mask_cell.2 ⟨hiP_not x2, (x5 k hk).2⟩⟩⟩
    · exact (h9 hp).imp id fun ⟨g', hq, hm⟩ => ⟨g', 0, hq, Mix.done hP hN kids g' 0 hm⟩
end Go.Proofs.YtbabmkilbbbmoaaDoor
