/-
  What holds all along while nodes are copied: plain facts.
-/
import Derived.Test.YtbabmkilbbbmoaaDoorMgAQ
namespace Go.Proofs.YtbabmkilbbbmoaaDoor
open Go.RowKit
set_option linter.unusedVariables false
set_option linter.unusedSimpArgs false

def inSt (st : List Entry) (g o : Nat) : Prop := ∃ e ∈ st, ∃ o0 j, e.2.1 = some ⟨g, o0, none⟩ ∧ j < e.1.len ∧ o = o0 + 6 * j
def ApE (a b : Entry) : Prop := a.1 = .nil ∨ b.1 = .nil ∨ ∀ g o o', a.2.1 = some ⟨g, o, none⟩ → b.2.1 = some ⟨g, o', none⟩ → False
structure CpI (w0 : World) (N : Nat → Bool) (st : List Entry) (f : Forest) (q : Option Addr) (w : World) : Prop where
  nb : ∀ i, N i = true → w0.heap.size ≤ i ∧ ∃ cur, Blk w i cur 44
  stk : ∀ e ∈ st, e.1.len ≤ e.2.2 ∧ (e.1 = .nil ∨ ∃ g o, e.2.1 = some ⟨g, o, none⟩ ∧ o % 6 = 0 ∧ N g = true ∧ Half w0 e.1 g o w)
  ap : st.Pairwise ApE
  top : f = .nil ∨ ∃ g, q = some ⟨g, 0, none⟩ ∧ Mix w0 w0.heap.size N (inSt st) f g 0 w
  bel : Below w0.heap.size w0 w
/-- What the copying of one node leaves. -/
structure C1S (w0 : World) (g o : Nat) (ats : List (ByteArray × ByteArray)) (kids : Forest) (W W' : World) (qa' : Option Addr) (ca' : Nat) (qk' : Option Addr) (ck' : Nat) : Prop where
  size : W.heap.size ≤ W'.heap.size
  blk : ∀ i, i < W.heap.size → i ≠ g → W'.heap[i]? = W.heap[i]?
  row : ∃ cur', Blk W' g cur' 44
  d3 : W'.cell? ⟨g, o + 3, none⟩ = some (.slice qa' ats.length ca')
  d5 : W'.cell? ⟨g, o + 5, none⟩ = some (.slice qk' kids.len ck')
  oth : ∀ i v, i ≠ o + 3 → i ≠ o + 5 → W.cell? ⟨g, i, none⟩ = some v → W'.cell? ⟨g, i, none⟩ = some v
  at' : ats = [] ∨ ∃ ga cur, qa' = some ⟨ga, 0, none⟩ ∧ W.heap.size ≤ ga ∧ Blk W' ga cur 112 ∧ Cells2 ga 0 ats W'
  ki : kids = .nil ∨ ∃ g' cur, qk' = some ⟨g', 0, none⟩ ∧ W.heap.size ≤ g' ∧ Blk W' g' cur 44 ∧ Half w0 kids g' 0 W'
  ck : kids.len ≤ ck'
  bel : Below w0.heap.size w0 W'
theorem CpI.only {w0 w w' : World} {N : Nat → Bool} {st : List Entry} {f : Forest} {q : Option Addr} {b : Nat} (h : CpI w0 N st f q w) (ho : Only b w w') (hA : ∀ cur, ¬ Blk w b cur 112) (hN : ∀ cur, ¬ Blk w b cur 44) (hb : Below w0.heap.size w0 w') : CpI w0 N st f q w' := by
  have hne : ∀ i, N i = true → i ≠ b := fun i hi e => by
    obtain ⟨_, cur, hc⟩ := h.nb i hi
    exact hN cur (e ▸ hc)
  refine ⟨fun i hi => ?_, fun e he => ?_, h.ap, ?_, hb⟩
  · obtain ⟨h1, cur, hc⟩ := h.nb i hi
    exact ⟨h1, cur, ho.blk hc (hne i hi)⟩
  · obtain ⟨h1, h2⟩ := h.stk e he
    refine ⟨h1, h2.imp id fun ⟨g, o, x1, x2, x3, x4⟩ => ⟨g, o, x1, x2, x3, x4.keep _ _ _ fun i v _ hv => ho.cell hv (hne g x3)⟩⟩
  · exact h.top.imp id fun ⟨g, x1, x2⟩ => ⟨g, x1, x2.only ho hA hne⟩
theorem blk_types {w : World} {b : Nat} {c c' : Array Value} {t t' : TypeId} (h : Blk w b c t) (h' : Blk w b c' t') : t = t' := by
  unfold Blk at h h'
  rw [h] at h'
  simp at h'
  exact h'.2
theorem CpI.pop {w0 w : World} {N : Nat → Bool} {st : List Entry} {f : Forest} {q : Option Addr} {qe : Option Addr} {ce : Nat} (h : CpI w0 N ((.nil, qe, ce) :: st) f q w) : CpI w0 N st f q w := by
  have hs : ∀ g o, inSt ((.nil, qe, ce) :: st) g o ↔ inSt st g o := fun g o => ⟨fun ⟨e, he, o0, j, x1, x2, x3⟩ => by
      rcases List.mem_cons.1 he with rfl | he
      · simp [Forest.len] at x2
      · exact ⟨e, he, o0, j, x1, x2, x3⟩, fun ⟨e, he, r⟩ => ⟨e, List.mem_cons_of_mem _ he, r⟩⟩
  have he : inSt ((.nil, qe, ce) :: st) = inSt st := funext fun g => funext fun o => propext (hs g o)
  have ht := h.top
  rw [he] at ht
  exact ⟨h.nb, fun e he => h.stk e (List.mem_cons_of_mem _ he), (List.pairwise_cons.1 h.ap).2, ht, h.bel⟩
theorem CpI.step {w0 W W' : World} {N : Nat → Bool} {st : List Entry} {f : Forest} {q : Option Addr} {k sp : Int} {n : ByteArray} {ats : List (ByteArray × ByteArray)} {tx : ByteArray} {kids rest : Forest} {g o ce : Nat} {qr qa qk qa' qk' : Option Addr} {ca ck ca' ck' : Nat}
    (h : CpI w0 N ((.cons k sp n ats tx kids rest, some ⟨g, o, none⟩, ce) :: st) f q W) (hs : C1S w0 g o ats kids W W' qa' ca' qk' ck')
    (c3 : W.cell? ⟨g, o + 3, none⟩ = some (.slice qa ats.length ca)) (c5 : W.cell? ⟨g, o + 5, none⟩ = some (.slice qk kids.len ck)) (hsl : Sl qa ats w0) (hfo : Fo qk kids w0)
    (hqr : rest = .nil ∨ qr = some ⟨g, o + 6, none⟩) : ∃ N', CpI w0 N' ((kids, qk', ck') :: (rest, qr, ce - 1) :: st) f q W' := by
  obtain ⟨hce, hh⟩ := h.stk _ (List.mem_cons_self ..)
  have hce' : rest.len + 1 ≤ ce := hce
  obtain ⟨ho6, hNg, hhalf⟩ : o % 6 = 0 ∧ N g = true ∧ Half w0 (.cons k sp n ats tx kids rest) g o W := by
    rcases hh with hh | ⟨g1, o1, x1, x2, x3, x4⟩
    · cases hh
    · have x1' : (some ⟨g, o, none⟩ : Option Addr) = some ⟨g1, o1, none⟩ := x1
      injection x1' with x1'
      injection x1' with e1 e2
      subst e1 e2
      exact ⟨x2, x3, x4⟩
  obtain ⟨hap0, hap⟩ := List.pairwise_cons.1 h.ap
  have hlt : ∀ i, N i = true → i < W.heap.size := fun i hi => by obtain ⟨_, cur, hc⟩ := h.nb i hi; exact hc.lt
  have hgl := hlt g hNg
  have hw0 : w0.heap.size ≤ W.heap.size := h.bel.size
  have hcell : ∀ g' o' v, W.cell? ⟨g', o', none⟩ = some v → ¬ (g' = g ∧ (o' = o + 3 ∨ o' = o + 5)) → W'.cell? ⟨g', o', none⟩ = some v := fun g' o' v hv hx => by
    by_cases hg : g' = g
    · subst hg
      exact hs.oth o' v (fun e => hx ⟨rfl, Or.inl e⟩) (fun e => hx ⟨rfl, Or.inr e⟩) hv
    · exact (World.cell?_of_block (w := W) (a := ⟨g', o', none⟩) (hs.blk g' (World.block_lt_of_cell? W ⟨g', o', none⟩ hv) hg)).trans hv
  -- the rows that are there
  have hrestE : rest = .nil ∨ (qr = some ⟨g, o + 6, none⟩ ∧ Half w0 rest g (o + 6) W') := by
    refine hqr.imp id fun e => ⟨e, hhalf.2.keep _ _ _ fun i v hi hv => hcell g i v hv (by omega)⟩
  have hstE : ∀ e ∈ st, e.1 = .nil ∨ ∃ g1 o1, e.2.1 = some ⟨g1, o1, none⟩ ∧ o1 % 6 = 0 ∧ N g1 = true ∧ g1 ≠ g ∧ Half w0 e.1 g1 o1 W' := fun e he => by
    by_cases hn : e.1 = .nil
    · exact Or.inl hn
    rcases (h.stk e (List.mem_cons_of_mem _ he)).2 with hh | ⟨g1, o1, x1, x2, x3, x4⟩
    · exact Or.inl hh
    have hne : g1 ≠ g := fun e1 => by
      subst e1
      rcases hap0 e he with hh | hh | hh
      · cases hh
      · exact hn hh
      · exact hh g1 o o1 rfl x1
    exact Or.inr ⟨g1, o1, x1, x2, x3, hne, x4.keep _ _ _ fun i v hi hv => hcell g1 i v hv (fun h => hne h.1)⟩
  -- the new set of rows
  have main : ∀ N' : Nat → Bool, (∀ i, N i = true → N' i = true) → (∀ i, i < W.heap.size → N i = false → N' i = false) → (∀ i, N' i = true → N i = true ∨ (W.heap.size ≤ i ∧ ∃ cur, Blk W' i cur 44)) → (kids = .nil ∨ ∃ g' cur, qk' = some ⟨g', 0, none⟩ ∧ W.heap.size ≤ g' ∧ N' g' = true ∧ Blk W' g' cur 44 ∧ Half w0 kids g' 0 W') → CpI w0 N' ((kids, qk', ck') :: (rest, qr, ce - 1) :: st) f q W' := fun N' hN hN' hNn hki => by
    refine ⟨fun i hi => ?_, fun e he => ?_, ?_, ?_, hs.bel⟩
    · rcases hNn i hi with hi | ⟨x1, x2⟩
      · obtain ⟨y1, cur, y2⟩ := h.nb i hi
        refine ⟨y1, ?_⟩
        by_cases hg : i = g
        · subst hg; exact hs.row
        · exact ⟨cur, (hs.blk i y2.lt hg).trans y2⟩
      · exact ⟨by omega, x2⟩
    · rcases List.mem_cons.1 he with rfl | he
      · exact ⟨hs.ck, hki.imp id fun ⟨g', cur, x1, x2, x3, x4, x5⟩ => ⟨g', 0, x1, rfl, x3, x5⟩⟩
      rcases List.mem_cons.1 he with rfl | he
      · refine ⟨by show rest.len ≤ ce - 1; omega, hrestE.imp id fun ⟨x1, x2⟩ => ⟨g, o + 6, x1, by omega, hN g hNg, x2⟩⟩
      · exact ⟨(h.stk e (List.mem_cons_of_mem _ he)).1, (hstE e he).imp id fun ⟨g1, o1, x1, x2, x3, _, x4⟩ => ⟨g1, o1, x1, x2, hN g1 x3, x4⟩⟩
    · refine List.pairwise_cons.2 ⟨fun e he => ?_, List.pairwise_cons.2 ⟨fun e he => ?_, hap⟩⟩
      · rcases hki with hk | ⟨g', cur, x1, x2, _⟩
        · exact Or.inl hk
        rcases List.mem_cons.1 he with rfl | he
        · rcases hrestE with hr | ⟨y1, y2⟩
          · exact Or.inr (Or.inl hr)
          · refine Or.inr (Or.inr fun g1 o1 o2 z1 z2 => ?_)
            have z1' : qk' = some ⟨g1, o1, none⟩ := z1
            have z2' : qr = some ⟨g1, o2, none⟩ := z2
            rw [x1] at z1'
            rw [y1] at z2'
            injection z1' with z1'
            injection z1' with a1 a2
            injection z2' with z2'
            injection z2' with b1 b2
            omega
        · rcases hstE e he with hr | ⟨g2, o2, y1, _, y2, _⟩
          · exact Or.inr (Or.inl hr)
          · refine Or.inr (Or.inr fun g1 o1 o3 z1 z2 => ?_)
            have z1' : qk' = some ⟨g1, o1, none⟩ := z1
            rw [x1] at z1'
            rw [y1] at z2
            injection z1' with z1'
            injection z1' with a1 a2
            injection z2 with z2
            injection z2 with b1 b2
            have := hlt g2 y2
            omega
      · rcases hrestE with hr | ⟨y1, y2⟩
        · exact Or.inl hr
        rcases hap0 e he with hh | hh | hh
        · cases hh
        · exact Or.inr (Or.inl hh)
        · refine Or.inr (Or.inr fun g1 o1 o2 z1 z2 => ?_)
          have z1' : qr = some ⟨g1, o1, none⟩ := z1
          rw [y1] at z1'
          injection z1' with z1'
          injection z1' with a1 a2
          subst a1
          exact hh g o o2 rfl z2
    · refine h.top.imp id fun ⟨gt, x1, x2⟩ => ⟨gt, x1, ?_⟩
      refine Mix.step c3 c5 hsl hfo hs.d3 hs.d5 hs.ck ?_ ?_ ⟨_, List.mem_cons_self .., o, 0, rfl, by simp [Forest.len], by simp⟩ ?_ ho6 hNg ?_ hcell hN hN' hs.blk f gt 0 x2
      · refine hs.at'.imp id fun ⟨ga, cur, y1, y2, y3, y4⟩ => ⟨ga, cur, y1, by omega, ?_, y3, y4⟩
        cases hx : N' ga with
        | false => rfl
        | true =>
          rcases hNn ga hx with hx | ⟨_, cur', hc⟩
          · have := hlt ga hx; omega
          · exact absurd (blk_types y3 hc) (by decide)
      · refine hki.imp id fun ⟨g', cur, y1, y2, y3, y4, y5⟩ => ⟨g', y1, y5.mix y3 _ _ rfl fun j hj => ?_⟩
        exact ⟨_, List.mem_cons_self .., 0, j, y1, hj, by omega⟩
      · rintro ⟨e, he, o0, j, y1, y2, y3⟩
        rcases List.mem_cons.1 he with rfl | he
        · rcases hki with hk | ⟨g', cur, z1, z2, _⟩
          · have y2' : j < kids.len := y2
            rw [hk] at y2'; simp [Forest.len] at y2'
          · have y1' : qk' = some ⟨g, o0, none⟩ := y1
            rw [z1] at y1'
            injection y1' with y1'
            injection y1' with a1 a2
            omega
        rcases List.mem_cons.1 he with rfl | he
        · rcases hrestE with hr | ⟨z1, _⟩
          · have y2' : j < rest.len := y2
            rw [hr] at y2'; simp [Forest.len] at y2'
          · have y1' : qr = some ⟨g, o0, none⟩ := y1
            rw [z1] at y1'
            injection y1' with y1'
            injection y1' with a1 a2
            omega
        · rcases hstE e he with hr | ⟨g1, o1, z1, _, _, z2, _⟩
          · rw [hr] at y2; simp [Forest.len] at y2
          · rw [z1] at y1
            injection y1 with y1
            injection y1 with a1 a2
            exact z2 a1
      · intro g' o' hg' hne
        constructor
        · rintro ⟨e, he, o0, j, y1, y2, y3⟩
          rcases List.mem_cons.1 he with rfl | he
          · have y1' : (some ⟨g, o, none⟩ : Option Addr) = some ⟨g', o0, none⟩ := y1
            injection y1' with y1'
            injection y1' with a1 a2
            have y2' : j < rest.len + 1 := y2
            have hj : j ≠ 0 := fun e => hne ⟨a1.symm, by omega⟩
            rcases hrestE with hr | ⟨z1, _⟩
            · rw [hr] at y2'; simp [Forest.len] at y2'; omega
            · exact ⟨_, List.mem_cons_of_mem _ (List.mem_cons_self ..), o + 6, j - 1, by rw [← a1]; exact z1, by show j - 1 < rest.len; omega, by omega⟩
          · exact ⟨e, List.mem_cons_of_mem _ (List.mem_cons_of_mem _ he), o0, j, y1, y2, y3⟩
        · rintro ⟨e, he, o0, j, y1, y2, y3⟩
          rcases List.mem_cons.1 he with rfl | he
          · rcases hki with hk | ⟨g2, cur, z1, z2, _⟩
            · have y2' : j < kids.len := y2
              rw [hk] at y2'; simp [Forest.len] at y2'
            · have y1' : qk' = some ⟨g', o0, none⟩ := y1
              rw [z1] at y1'
              injection y1' with y1'
              injection y1' with a1 a2
              omega
          rcases List.mem_cons.1 he with rfl | he
          · rcases hrestE with hr | ⟨z1, _⟩
            · have y2' : j < rest.len := y2
              rw [hr] at y2'; simp [Forest.len] at y2'
            · have y1' : qr = some ⟨g', o0, none⟩ := y1
              rw [z1] at y1'
              injection y1' with y1'
              injection y1' with a1 a2
              have y2' : j < rest.len := y2
              exact ⟨_, List.mem_cons_self .., o, j + 1, by rw [a1], by show j + 1 < rest.len + 1; omega, by omega⟩
          · exact ⟨e, List.mem_cons_of_mem _ he, o0, j, y1, y2, y3⟩
  rcases hs.ki with hk | ⟨g', cur, x1, x2, x3, x4⟩
  · exact ⟨N, main N (fun _ h => h) (fun _ _ h => h) (fun _ h => Or.inl h) (Or.inl hk)⟩
  · refine ⟨fun i => N i || (i == g'), main _ (fun i hi => by simp [hi]) (fun i hi hf => by simp [hf]; omega) (fun i hi => ?_) (Or.inr ⟨g', cur, x1, x2, by simp, x3, x4⟩)⟩
    simp at hi
    exact hi.imp id fun e => by subst e; exact ⟨x2, cur, x3⟩
end Go.Proofs.YtbabmkilbbbmoaaDoor
