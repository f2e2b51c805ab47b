/-
  Nodes that are copied, some of them not yet: plain facts.
-/
import Derived.Test.YtbabmkilbbbmoaaDoorMgBA
namespace Go.Proofs.YtbabmkilbbbmoaaDoor
open Go.RowKit
set_option linter.unusedVariables false
set_option linter.unusedSimpArgs false

theorem ats_uniq {g o : Nat} {w : World} {ats ats' : List (ByteArray × ByteArray)} (h : Cells2 g o ats w) (h' : Cells2 g o ats' w) (hl : ats.length = ats'.length) : ats = ats' := by
  apply List.ext_getElem hl
  intro k hk hk'
  obtain ⟨a1, a2⟩ := h k hk
  obtain ⟨b1, b2⟩ := h' k hk'
  rw [a1] at b1
  rw [a2] at b2
  simp only [Option.some.injEq, Value.string.injEq] at b1 b2
  have e1 : ats.getD k (ByteArray.empty, ByteArray.empty) = ats[k] := by simp [List.getD, List.getElem?_eq_getElem hk]
  have e2 : ats'.getD k (ByteArray.empty, ByteArray.empty) = ats'[k] := by simp [List.getD, List.getElem?_eq_getElem hk']
  unfold an at b1
  unfold av at b2
  rw [e1, e2] at b1 b2
  exact Prod.ext b1 b2
theorem Sl.uniq {q : Option Addr} {w : World} {ats ats' : List (ByteArray × ByteArray)} (h : Sl q ats w) (h' : Sl q ats' w) (hl : ats.length = ats'.length) : ats = ats' := by
  rcases h with rfl | ⟨g, o, hq, hc⟩
  · exact (List.eq_nil_of_length_eq_zero hl.symm).symm
  · rcases h' with rfl | ⟨g', o', hq', hc'⟩
    · exact List.eq_nil_of_length_eq_zero hl
    · rw [hq] at hq'
      injection hq' with hq'
      injection hq' with e1 e2
      subst e1 e2
      exact ats_uniq hc hc' hl
theorem Lies.uniq {w : World} : ∀ (f f' : Forest) (g o : Nat), Lies f g o w → Lies f' g o w → f.len = f'.len → f = f'
  | .nil, f', g, o, _, _, hl => (len_nil hl.symm).symm
  | .cons k sp n ats tx kids rest, .nil, g, o, _, _, hl => by simp [Forest.len] at hl
  | .cons k sp n ats tx kids rest, .cons k' sp' n' ats' tx' kids' rest', g, o, h, h', hl => by
    obtain ⟨⟨h0, h1, h2, ⟨qa, ca, h3, h3'⟩, h4, ⟨qk, ck, h5, h6, h7⟩⟩, hr⟩ := h
    obtain ⟨⟨i0, i1, i2, ⟨qa', ca', i3, i3'⟩, i4, ⟨qk', ck', i5, i6, i7⟩⟩, ir⟩ := h'
    rw [h0] at i0; rw [h1] at i1; rw [h2] at i2; rw [h3] at i3; rw [h4] at i4; rw [h5] at i5
    simp only [Option.some.injEq, Value.string.injEq, Value.int.injEq, Value.slice.injEq] at i0 i1 i2 i3 i4 i5
    obtain ⟨_, rfl⟩ := i0
    obtain ⟨_, rfl⟩ := i1
    subst i2 i4
    obtain ⟨rfl, e3, rfl⟩ := i3
    obtain ⟨rfl, e5, rfl⟩ := i5
    obtain rfl := h3'.uniq i3' e3
    obtain rfl := Lies.uniq rest rest' g (o + 6) hr ir (by simp [Forest.len] at hl; exact hl)
    have : kids = kids' := by
      rcases h7 with rfl | ⟨g1, o1, hq, hk⟩
      · exact (len_nil e5.symm).symm
      · rcases i7 with rfl | ⟨g2, o2, hq', hk'⟩
        · exact len_nil e5
        · rw [hq] at hq'
          injection hq' with hq'
          injection hq' with e1 e2
          subst e1 e2
          exact Lies.uniq kids kids' g1 o1 hk hk' e5
    subst this
    rfl
theorem Fo.uniq {q : Option Addr} {w : World} {f f' : Forest} (h : Fo q f w) (h' : Fo q f' w) (hl : f.len = f'.len) : f = f' := by
  rcases h with rfl | ⟨g, o, hq, hc⟩
  · exact (len_nil hl.symm).symm
  · rcases h' with rfl | ⟨g', o', hq', hc'⟩
    · exact len_nil hl
    · rw [hq] at hq'
      injection hq' with hq'
      injection hq' with e1 e2
      subst e1 e2
      exact Lies.uniq _ _ _ _ hc hc' hl

/-- Attributes in a block of their own, that is no row of nodes. -/
def AtOwn (B0 : Nat) (N : Nat → Bool) (q : Option Addr) (ats : List (ByteArray × ByteArray)) (w : World) : Prop :=
  ats = [] ∨ ∃ ga cur, q = some ⟨ga, 0, none⟩ ∧ B0 ≤ ga ∧ N ga = false ∧ Blk w ga cur 112 ∧ Cells2 ga 0 ats w
/-- Nodes whose attributes and kids lie as they lay at the beginning. -/
def Half (w0 : World) : Forest → Nat → Nat → World → Prop
  | .nil, _, _, _ => True
  | .cons k sp n ats tx kids rest, g, o, w =>
    (w.cell? ⟨g, o, none⟩ = some (.int .i64 k) ∧ w.cell? ⟨g, o + 1, none⟩ = some (.int .i64 sp) ∧ w.cell? ⟨g, o + 2, none⟩ = some (.string n) ∧
      (∃ qa ca, w.cell? ⟨g, o + 3, none⟩ = some (.slice qa ats.length ca) ∧ Sl qa ats w0) ∧ w.cell? ⟨g, o + 4, none⟩ = some (.string tx) ∧
      ∃ qk ck, w.cell? ⟨g, o + 5, none⟩ = some (.slice qk kids.len ck) ∧ kids.len ≤ ck ∧ Fo qk kids w0) ∧
    Half w0 rest g (o + 6) w
/-- Nodes in new memory; those at the places P are not gone through yet. -/
def Mix (w0 : World) (B0 : Nat) (N : Nat → Bool) (P : Nat → Nat → Prop) : Forest → Nat → Nat → World → Prop
  | .nil, _, _, _ => True
  | .cons k sp n ats tx kids rest, g, o, w =>
    ((N g = true ∧ o % 6 = 0) ∧ w.cell? ⟨g, o, none⟩ = some (.int .i64 k) ∧ w.cell? ⟨g, o + 1, none⟩ = some (.int .i64 sp) ∧ w.cell? ⟨g, o + 2, none⟩ = some (.string n) ∧ w.cell? ⟨g, o + 4, none⟩ = some (.string tx) ∧
      ∃ qa ca qk ck, w.cell? ⟨g, o + 3, none⟩ = some (.slice qa ats.length ca) ∧ w.cell? ⟨g, o + 5, none⟩ = some (.slice qk kids.len ck) ∧ kids.len ≤ ck ∧
        (P g o → Sl qa ats w0 ∧ Fo qk kids w0) ∧ (¬ P g o → AtOwn B0 N qa ats w) ∧ (¬ P g o → kids = .nil ∨ ∃ g', qk = some ⟨g', 0, none⟩ ∧ Mix w0 B0 N P kids g' 0 w)) ∧
    Mix w0 B0 N P rest g (o + 6) w
theorem Half.keep {w0 w w' : World} : ∀ (f : Forest) (g o : Nat), Half w0 f g o w → (∀ i v, o ≤ i → w.cell? ⟨g, i, none⟩ = some v → w'.cell? ⟨g, i, none⟩ = some v) → Half w0 f g o w'
  | .nil, g, o, _, _ => trivial
  | .cons k sp n ats tx kids rest, g, o, h, hc => by
    obtain ⟨⟨h0, h1, h2, ⟨qa, ca, h3, h3'⟩, h4, ⟨qk, ck, h5, h6, h7⟩⟩, hr⟩ := h
    exact ⟨⟨hc _ _ (by omega) h0, hc _ _ (by omega) h1, hc _ _ (by omega) h2, ⟨qa, ca, hc _ _ (by omega) h3, h3'⟩, hc _ _ (by omega) h4, ⟨qk, ck, hc _ _ (by omega) h5, h6, h7⟩⟩, Half.keep rest g (o + 6) hr fun i v hi => hc i v (by omega)⟩
theorem Half.mix {w0 w : World} {B0 : Nat} {N : Nat → Bool} {P : Nat → Nat → Prop} {g : Nat} (hN : N g = true) : ∀ (f : Forest) (o : Nat), Half w0 f g o w → o % 6 = 0 → (∀ j, j < f.len → P g (o + 6 * j)) → Mix w0 B0 N P f g o w
  | .nil, o, _, _, _ => trivial
  | .cons k sp n ats tx kids rest, o, h, ho, hP => by
    obtain ⟨⟨h0, h1, h2, ⟨qa, ca, h3, h3'⟩, h4, ⟨qk, ck, h5, h6, h7⟩⟩, hr⟩ := h
    have hp : P g o := by have := hP 0 (by simp [Forest.len]); simpa using this
    exact ⟨⟨⟨hN, ho⟩, h0, h1, h2, h4, qa, ca, qk, ck, h3, h5, h6, fun _ => ⟨h3', h7⟩, fun h => absurd hp h, fun h => absurd hp h⟩, Half.mix hN rest (o + 6) hr (by omega) fun j hj => by
      have := hP (j + 1) (by simp [Forest.len]; omega)
      rw [show o + 6 + 6 * j = o + 6 * (j + 1) by omega]; exact this⟩
theorem Desc.half {w0 w : World} {g : Nat} : ∀ (f : Forest) (xs : List Value) (o : Nat), (∀ j u, xs[j]? = some u → w.cell? ⟨g, o + j, none⟩ = some u) → Desc f xs w0 → Half w0 f g o w
  | .nil, xs, o, hc, h => trivial
  | .cons k sp n ats tx kids rest, xs, o, hc, ⟨qa, ca, qk, ck, r, h1, h2, h3, h4, h5⟩ => by
    subst h1
    exact ⟨⟨hc 0 _ rfl, hc 1 _ rfl, hc 2 _ rfl, ⟨qa, ca, hc 3 _ rfl, h3⟩, hc 4 _ rfl, ⟨qk, ck, hc 5 _ rfl, h2, h4⟩⟩, Desc.half rest r (o + 6) (fun j u hj => by have := hc (j + 6) u (by simpa using hj); rw [show o + 6 + j = o + (j + 6) by omega]; exact this) h5⟩
/-- Nothing but one block changes, and new ones come. -/
def Only (b : Nat) (w w' : World) : Prop := w.heap.size ≤ w'.heap.size ∧ ∀ i, i < w.heap.size → i ≠ b → w'.heap[i]? = w.heap[i]?
theorem Only.cell {b : Nat} {w w' : World} (h : Only b w w') {g o : Nat} {v : Value} (hc : w.cell? ⟨g, o, none⟩ = some v) (hg : g ≠ b) : w'.cell? ⟨g, o, none⟩ = some v :=
  (World.cell?_of_block (w := w) (a := ⟨g, o, none⟩) (h.2 g (World.block_lt_of_cell? w ⟨g, o, none⟩ hc) hg)).trans hc
theorem Only.blk {b : Nat} {w w' : World} (h : Only b w w') {g : Nat} {vs : Array Value} {t : TypeId} (hc : Blk w g vs t) (hg : g ≠ b) : Blk w' g vs t := (h.2 g hc.lt hg).trans hc
theorem Only.trans {b : Nat} {w w1 w2 : World} (h : Only b w w1) (h' : Only b w1 w2) : Only b w w2 := ⟨Nat.le_trans h.1 h'.1, fun i hi hb => (h'.2 i (Nat.lt_of_lt_of_le hi h.1) hb).trans (h.2 i hi hb)⟩
theorem Only.set (w : World) (b o : Nat) (v : Value) : Only b w (w.setCell ⟨b, o, none⟩ v) := ⟨by simp, fun i _ hb => Below.heap_setCell w ⟨b, o, none⟩ v i hb⟩
theorem AtOwn.only {B0 b : Nat} {N : Nat → Bool} {q : Option Addr} {ats : List (ByteArray × ByteArray)} {w w' : World} (h : AtOwn B0 N q ats w) (ho : Only b w w') (hb : ∀ cur, ¬ Blk w b cur 112) : AtOwn B0 N q ats w' :=
  h.imp id fun ⟨ga, cur, h1, h2, h3, h4, h5⟩ => by
    have hne : ga ≠ b := fun e => hb cur (e ▸ h4)
    exact ⟨ga, cur, h1, h2, h3, ho.blk h4 hne, fun k hk => ⟨ho.cell (h5 k hk).1 hne, ho.cell (h5 k hk).2 hne⟩⟩
theorem Mix.only {w0 w w' : World} {B0 b : Nat} {N : Nat → Bool} {P : Nat → Nat → Prop} (ho : Only b w w') (hb : ∀ cur, ¬ Blk w b cur 112) (hN : ∀ i, N i = true → i ≠ b) : ∀ (f : Forest) (g o : Nat), Mix w0 B0 N P f g o w → Mix w0 B0 N P f g o w'
  | .nil, g, o, _ => trivial
  | .cons k sp n ats tx kids rest, g, o, ⟨⟨⟨hg, ho6⟩, h0, h1, h2, h4, qa, ca, qk, ck, h3, h5, h6, h7, h8, h9⟩, hr⟩ => by
    have hne := hN g hg
    refine ⟨⟨⟨hg, ho6⟩, ho.cell h0 hne, ho.cell h1 hne, ho.cell h2 hne, ho.cell h4 hne, qa, ca, qk, ck, ho.cell h3 hne, ho.cell h5 hne, h6, h7, fun hp => (h8 hp).only ho hb, fun hp => ?_⟩, Mix.only ho hb hN rest g (o + 6) hr⟩
    rcases h9 hp with h | ⟨g', hq, hm⟩
    · exact Or.inl h
    · exact Or.inr ⟨g', hq, Mix.only ho hb hN kids g' 0 hm⟩
/-- One node is gone through. -/
theorem Mix.step {w0 w w' : World} {B0 g o : Nat} {N N' : Nat → Bool} {P P' : Nat → Nat → Prop} {ats : List (ByteArray × ByteArray)} {kids : Forest} {qa qk qa' qk' : Option Addr} {ca ck ca' ck' : Nat}
    (c3 : w.cell? ⟨g, o + 3, none⟩ = some (.slice qa ats.length ca)) (c5 : w.cell? ⟨g, o + 5, none⟩ = some (.slice qk kids.len ck)) (hsl : Sl qa ats w0) (hfo : Fo qk kids w0)
    (d3 : w'.cell? ⟨g, o + 3, none⟩ = some (.slice qa' ats.length ca')) (d5 : w'.cell? ⟨g, o + 5, none⟩ = some (.slice qk' kids.len ck')) (hck : kids.len ≤ ck') (hao : AtOwn B0 N' qa' ats w')
    (hki : kids = .nil ∨ ∃ g', qk' = some ⟨g', 0, none⟩ ∧ Mix w0 B0 N' P' kids g' 0 w')
    (hp : P g o) (hp' : ¬ P' g o) (ho6 : o % 6 = 0) (hNg : N g = true)
    (hpp : ∀ g' o', g' < w.heap.size → ¬ (g' = g ∧ o' = o) → (P g' o' ↔ P' g' o'))
    (hcell : ∀ g' o' v, w.cell? ⟨g', o', none⟩ = some v → ¬ (g' = g ∧ (o' = o + 3 ∨ o' = o + 5)) → w'.cell? ⟨g', o', none⟩ = some v)
    (hN : ∀ i, N i = true → N' i = true) (hN' : ∀ i, i < w.heap.size → N i = false → N' i = false) (hblk : ∀ i, i < w.heap.size → i ≠ g → w'.heap[i]? = w.heap[i]?) :
    ∀ (f : Forest) (g1 o1 : Nat), Mix w0 B0 N P f g1 o1 w → Mix w0 B0 N' P' f g1 o1 w'
  | .nil, g1, o1, _ => trivial
  | .cons k sp n ats1 tx kids1 rest, g1, o1, ⟨⟨⟨hg, h16⟩, h0, h1, h2, h4, qa1, ca1, qk1, ck1, h3, h5, h6, h7, h8, h9⟩, hr⟩ => by
    have hrest := Mix.step c3 c5 hsl hfo d3 d5 hck hao hki hp hp' ho6 hNg hpp hcell hN hN' hblk rest g1 (o1 + 6) hr
    have hlt : g1 < w.heap.size := World.block_lt_of_cell? w ⟨g1, o1, none⟩ h0
    have hc : ∀ i v, i < 6 → i ≠ 3 → i ≠ 5 → w.cell? ⟨g1, o1 + i, none⟩ = some v → w'.cell? ⟨g1, o1 + i, none⟩ = some v := fun i v hi e3 e5 hv => hcell g1 (o1 + i) v hv (by omega)
    refine ⟨⟨⟨hN g1 hg, h16⟩, hc 0 _ (by omega) (by omega) (by omega) h0, hc 1 _ (by omega) (by omega) (by omega) h1, hc 2 _ (by omega) (by omega) (by omega) h2, hc 4 _ (by omega) (by omega) (by omega) h4, ?_⟩, hrest⟩
    by_cases he : g1 = g ∧ o1 = o
    · obtain ⟨rfl, rfl⟩ := he
      obtain ⟨s1, s2⟩ := h7 hp
      rw [h3] at c3
      rw [h5] at c5
      simp only [Option.some.injEq, Value.slice.injEq] at c3 c5
      obtain ⟨rfl, e3, rfl⟩ := c3
      obtain ⟨rfl, e5, rfl⟩ := c5
      obtain rfl := s1.uniq hsl e3
      obtain rfl := s2.uniq hfo e5
      exact ⟨qa', ca', qk', ck', d3, d5, hck, fun h => absurd h hp', fun _ => hao, fun _ => hki⟩
    · have hiff := hpp g1 o1 hlt he
      refine ⟨qa1, ca1, qk1, ck1, hcell _ _ _ h3 (by omega), hcell _ _ _ h5 (by omega), h6, fun h => h7 (hiff.2 h), fun h => ?_, fun h => ?_⟩
      · refine (h8 fun h' => h (hiff.1 h')).imp id fun ⟨ga, cur, x1, x2, x3, x4, x5⟩ => ?_
        have hne : ga ≠ g := fun e => by rw [e, hNg] at x3; cases x3
        have hb := hblk ga x4.lt hne
        exact ⟨ga, cur, x1, x2, hN' ga x4.lt x3, hb.trans x4, fun k hk => ⟨hcell _ _ _ (x5 k hk).1 (fun h => hne h.1), hcell _ _ _ (x5 k hk).2 (fun h => hne h.1)⟩⟩
      · refine (h9 fun h' => h (hiff.1 h')).imp id fun ⟨g', hq, hm⟩ => ⟨g', hq, ?_⟩
        exact Mix.step c3 c5 hsl hfo d3 d5 hck hao hki hp hp' ho6 hNg hpp hcell hN hN' hblk kids1 g' 0 hm
/-- All are gone through. -/
theorem Mix.done {w0 w : World} {B0 : Nat} {N : Nat → Bool} {P : Nat → Nat → Prop} (hP : ∀ g o, ¬ P g o) (hN : ∀ i, N i = true → B0 ≤ i) : ∀ (f : Forest) (g o : Nat), Mix w0 B0 N P f g o w → Lies f g o (mask (hiP B0) w)
  | .nil, g, o, _ => trivial
  | .cons k sp n ats tx kids rest, g, o, ⟨⟨⟨hg, h16⟩, h0, h1, h2, h4, qa, ca, qk, ck, h3, h5, h6, h7, h8, h9⟩, hr⟩ => by
    have hp := hP g o
    have hm : hiP B0 g = false := hiP_not (hN g hg)
    refine ⟨⟨mask_cell.2 ⟨hm, h0⟩, mask_cell.2 ⟨hm, h1⟩, mask_cell.2 ⟨hm, h2⟩, ⟨qa, ca, mask_cell.2 ⟨hm, h3⟩, ?_⟩, mask_cell.2 ⟨hm, h4⟩, ⟨qk, ck, mask_cell.2 ⟨hm, h5⟩, h6, ?_⟩⟩, Mix.done hP hN rest g (o + 6) hr⟩
    · exact (h8 hp).imp id fun ⟨ga, cur, x1, x2, x3, x4, x5⟩ => ⟨ga, 0, x1, fun k hk => ⟨mask_cell.2 ⟨hiP_not x2, (x5 k hk).1⟩, mask_cell.2 ⟨hiP_not x2, (x5 k hk).2⟩⟩⟩
    · exact (h9 hp).imp id fun ⟨g', hq, hm⟩ => ⟨g', 0, hq, Mix.done hP hN kids g' 0 hm⟩
end Go.Proofs.YtbabmkilbbbmoaaDoor
