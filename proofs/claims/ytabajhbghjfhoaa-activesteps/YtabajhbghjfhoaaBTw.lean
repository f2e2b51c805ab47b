/-
  The program's list and the reference's side by side: that neither touches the other is told by their blocks' types.
-/
import Derived.Test.YtabajhbghjfhoaaBRy
import Derived.Test.YtabajhbghjfhoaaALl
namespace Go.Proofs.Ytabajhbghjfhoaa
open Go.RowKit
set_option linter.unusedVariables false
set_option linter.unusedSimpArgs false

theorem own_ty {base size n k : Nat} {t : TypeId} {v : Value} {xs : List Value} {w : World} (h : w.ownsRow base t size v n xs) (hk : v.ownBlock = some k) : ∃ vs, w.heap[k]? = some (.cells vs t (0, 0)) := by
  rcases h.2 with ⟨rfl, _⟩ | ⟨g, cap, cur, rfl, _, hc, _⟩
  · simp [Value.ownBlock] at hk
  · simp only [Value.ownBlock, Option.some.injEq] at hk
    subst hk
    exact ⟨cur, hc⟩
theorem ty_ne {w : World} {a b : Nat} {vs vs' : Array Value} {t t' : TypeId} (h : w.heap[a]? = some (.cells vs t (0, 0))) (h' : w.heap[b]? = some (.cells vs' t' (0, 0))) (ht : t ≠ t') : a ≠ b := by
  intro e
  subst e
  rw [h] at h'
  injection h' with h'
  injection h' with _ h1
  exact ht h1
theorem own_ne {base size n b : Nat} {t t' : TypeId} {v : Value} {xs : List Value} {vs : Array Value} {w : World} (h : w.ownsRow base t size v n xs) (hb : w.heap[b]? = some (.cells vs t' (0, 0))) (ht : t ≠ t') : v.ownBlock ≠ some b := by
  intro e
  obtain ⟨vs2, h2⟩ := own_ty h e
  exact ty_ne h2 hb ht rfl
theorem own_ne2 {base size n base' size' n' : Nat} {t t' : TypeId} {v u : Value} {xs ys : List Value} {w : World} (h : w.ownsRow base t size v n xs) (h' : w.ownsRow base' t' size' u n' ys) (ht : t ≠ t') : v.ownBlock = none ∨ v.ownBlock ≠ u.ownBlock := by
  cases hq : v.ownBlock with
  | none => exact Or.inl rfl
  | some k =>
    refine Or.inr fun e => ?_
    obtain ⟨vs, hv⟩ := own_ty h hq
    exact own_ne h' hv (fun e => ht e.symm) e.symm
theorem OwnA.ty {z n g : Nat} {q : Option Addr} {ats : List (ByteArray × ByteArray)} {w : World} (h : OwnA z q n ats w) (hg : q = some ⟨g, 0, none⟩) : ∃ vs, w.heap[g]? = some (.cells vs 108 (0, 0)) := by
  rcases h.2 with hn | ⟨g', hg', _, _, hty⟩
  · rw [hg] at hn; cases hn
  · rw [hg] at hg'
    injection hg' with hg'
    injection hg' with e1 _
    subst e1
    exact hty
theorem RLst.keepP {A base p r : Nat} {v u : Value} {P P' Q : List PEnt} {w w' : World} (h : RLst A base r u Q w) (hl : LstP A p v P w) (hp : A ≤ p) (hu : UpdP A p v P' w w') : RLst A base r u Q w' := by
  obtain ⟨L, hs, hr, hA, hr0⟩ := h
  obtain ⟨M, ms, mr⟩ := hl
  obtain ⟨v', _, ht, _⟩ := hu
  exact ⟨L, ⟨ht.blk hs.1 (ty_ne hs.1 ms.1 (by decide)) (fun e => own_ne ms.2.1 hs.1 (by decide) e.symm), ht.row hs.2.1 (own_ne hs.2.1 ms.1 (by decide)) (own_ne2 hs.2.1 ms.2.1 (by decide)), hs.2.2⟩, hr.mono fun a b hab => hab.tch ht hp (fun k hk => (ms.2.1.lt k hk).1), hA, hr0⟩
theorem LstP.keepR {A base p r : Nat} {v u : Value} {P Q Q' : List PEnt} {w w' : World} (h : LstP A p v P w) (hl : RLst A base r u Q w) (hu : RUpdP A base r u Q' w w') : LstP A p v P w' := by
  obtain ⟨L, hs, hr⟩ := h
  obtain ⟨M, ms, mr, _, _⟩ := hl
  obtain ⟨u', _, ht, _⟩ := hu
  refine ⟨L, ⟨ht.blk hs.1 (ty_ne hs.1 ms.1 (by decide)) (fun e => own_ne ms.2.1 hs.1 (by decide) e.symm), ht.row hs.2.1 (own_ne hs.2.1 ms.1 (by decide)) (own_ne2 hs.2.1 ms.2.1 (by decide)), hs.2.2⟩, hr.mono fun a b hab => ?_⟩
  obtain ⟨h1, h2, h3, h4, h5, h6⟩ := hab
  refine ⟨h1, h2, h3, h4.keep ht.size (fun g hg _ hl => ?_), h5, h6⟩
  obtain ⟨vs, hty⟩ := h4.ty hg
  exact ht.block g hl (ty_ne hty ms.1 (by decide)) (fun e => own_ne ms.2.1 hty (by decide) e.symm)
/-- A state on the way of a step: both lists, and what was touched since w. -/
structure WayA (A p r : Nat) (w : World) (P Q : List PEnt) (W : World) : Prop where
  lst : ∃ v, LstP A p v P W
  rlst : ∃ u, RLst A A r u Q W
  hp : A ≤ p
  bel : Below A w W
  blk : ∀ b sv, Blk w b sv 60 → Blk W b sv 60
  sz : A ≤ W.heap.size
theorem WayA.later {A p r : Nat} {w W W' : World} {P Q : List PEnt} (h : WayA A p r w P Q W) (hb : Below W.heap.size W W') : WayA A p r w P Q W' := by
  obtain ⟨⟨v, hv⟩, ⟨u, hu⟩, hp, hl, hk, hz⟩ := h
  exact ⟨⟨v, hv.later hb⟩, ⟨u, hu.later hb⟩, hp, hl.trans (hb.mono hz), fun b sv h => (hk b sv h).later hb, Nat.le_trans hz hb.size⟩
theorem WayA.callP {A p r f : Nat} {w W : World} {P P' Q : List PEnt} {args : Array Value} {res : Value} (h : WayA A p r w P Q W)
    (hc : ∀ v, LstP A p v P W → Calls Try.prog f args W fun e w' => e = .returned res ∧ UpdP A p v P' W w') :
    Calls Try.prog f args W fun e w' => e = .returned res ∧ WayA A p r w P' Q w' := by
  obtain ⟨⟨v, hv⟩, ⟨u, hu⟩, hp, hl, hk, hz⟩ := h
  refine (hc v hv).mono ?_
  rintro e w' ⟨rfl, hw⟩
  have hr := hu.keepP hv hp hw
  obtain ⟨L, hs, _⟩ := hv
  obtain ⟨v', hv', ht, _⟩ := hw
  exact ⟨rfl, ⟨v', hv'⟩, ⟨u, hr⟩, hp, hl.trans (ht.below hz hp (fun k hk => (hs.2.1.lt k hk).1)), fun b sv h => ht.blk (hk b sv h) (ty_ne (hk b sv h) hs.1 (by decide)) (fun e => own_ne hs.2.1 (hk b sv h) (by decide) e.symm), Nat.le_trans hz ht.size⟩
theorem WayA.callR {A p r f : Nat} {w W : World} {P Q Q' : List PEnt} {args : Array Value} {res : Value} (h : WayA A p r w P Q W)
    (hc : ∀ u, RLst A A r u Q W → Calls Try.prog f args W fun e w' => e = .returned res ∧ RUpdP A A r u Q' W w') :
    Calls Try.prog f args W fun e w' => e = .returned res ∧ WayA A p r w P Q' w' := by
  obtain ⟨⟨v, hv⟩, ⟨u, hu⟩, hp, hl, hk, hz⟩ := h
  refine (hc u hu).mono ?_
  rintro e w' ⟨rfl, hw⟩
  have hr := hv.keepR hu hw
  obtain ⟨L, hs, _, _, hr0⟩ := hu
  obtain ⟨u', hu', ht, _⟩ := hw
  exact ⟨rfl, ⟨v, hr⟩, ⟨u', hu'⟩, hp, hl.trans (ht.below hz hr0 (fun k hk => (hs.2.1.lt k hk).1)), fun b sv h => ht.blk (hk b sv h) (ty_ne (hk b sv h) hs.1 (by decide)) (fun e => own_ne hs.2.1 (hk b sv h) (by decide) e.symm), Nat.le_trans hz ht.size⟩
theorem WayA.ahead {A p r : Nat} {w w1 W : World} {P Q : List PEnt} (hb : Below w.heap.size w w1) (hz : A ≤ w.heap.size) (h : WayA A p r w1 P Q W) : WayA A p r w P Q W :=
  ⟨h.lst, h.rlst, h.hp, (hb.mono hz).trans h.bel, fun b sv hk => h.blk b sv (hk.later hb), h.sz⟩
/-- Attributes that lie below A. -/
theorem AtsV.belowA {q : Option Addr} {n A : Nat} {ats : List (ByteArray × ByteArray)} {w w' : World} (h : AtsV q n ats w) (hq : ∀ a, q = some a → 0 < n → a.block < A) (hb : Below A w w') : AtsV q n ats w' := by
  obtain ⟨h1, h2, h3, h4⟩ := h
  refine ⟨h1, h2, h3, ?_⟩
  rcases h4 with h0 | ⟨g, o, he, hc⟩
  · exact Or.inl h0
  · by_cases hn : n = 0
    · exact Or.inl hn
    · refine Or.inr ⟨g, o, he, fun k hk => ?_⟩
      obtain ⟨c1, c2⟩ := hc k hk
      have hg : g < A := hq _ he (by omega)
      have hbk := hb.block g hg
      exact ⟨(cell_same hbk _).trans c1, (cell_same hbk _).trans c2⟩
theorem insP_le (at' : Int) (x : PEnt) (P : List PEnt) (h : P.length ≤ 100) : (insP at' x P).length ≤ 100 := by
  unfold insP
  split
  · exact h
  · split
    · exact h
    · simp only [List.length_append, List.length_take, List.length_drop, List.length_singleton]; omega
theorem swapP_le (id : Int) (x : PEnt) (P : List PEnt) (h : P.length ≤ 100) : (swapP id x P).length ≤ 100 := by
  unfold swapP
  split
  · rw [List.length_set]; exact h
  · exact h
theorem removeP_le (id : Int) (P : List PEnt) (h : P.length ≤ 100) : (removeP id P).length ≤ 100 := by
  unfold removeP
  split
  · have := List.length_eraseIdx_le P (findP id P).toNat; omega
  · exact h
theorem markP_le (P : List PEnt) (h : P.length ≤ 100) : (if 100 ≤ P.length then P else P ++ [pMk]).length ≤ 100 := by
  split
  · exact h
  · rw [List.length_append, List.length_singleton]; omega
/-- The step's own cells. -/
def boxA (wh no : Int) (x : PEnt) (q : Option Addr) (n c : Nat) : Array Value := #[.int .i64 wh, .int .i64 no, .bool x.mr, .int .i64 x.id, .string x.nm, .slice q n c]
def BoxA (B : Nat) (wh no : Int) (xm : Bool) (xi : Int) (xn : ByteArray) (q : Option Addr) (n c : Nat) (W : World) : Prop :=
  W.cell? ⟨B, 0, none⟩ = some (.int .i64 wh) ∧ W.cell? ⟨B, 1, none⟩ = some (.int .i64 no) ∧ W.cell? ⟨B, 2, none⟩ = some (.bool xm) ∧ W.cell? ⟨B, 3, none⟩ = some (.int .i64 xi) ∧ W.cell? ⟨B, 4, none⟩ = some (.string xn) ∧ W.cell? ⟨B, 5, none⟩ = some (.slice q n c)
theorem BoxA.of {B : Nat} {wh no : Int} {xm : Bool} {xi : Int} {xn : ByteArray} {q : Option Addr} {n c : Nat} {W : World} {t : TypeId} (h : Blk W B #[.int .i64 wh, .int .i64 no, .bool xm, .int .i64 xi, .string xn, .slice q n c] t) : BoxA B wh no xm xi xn q n c W :=
  ⟨h.cell 0, h.cell 1, h.cell 2, h.cell 3, h.cell 4, h.cell 5⟩
/-- What a step does. -/
def DoesA (A p r : Nat) (w : World) (e : Ending) (w' : World) : Prop := e = .returned (.bool true) ∧ ∃ P', P'.length ≤ 100 ∧ WayA A p r w P' P' w'
end Go.Proofs.Ytabajhbghjfhoaa
