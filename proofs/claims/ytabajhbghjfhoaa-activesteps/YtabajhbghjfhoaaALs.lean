/-
  A list told plainly: entries with their attributes; Add and Mark.
-/
import Derived.Test.YtabajhbghjfhoaaAAb
import Derived.Test.YtabajhbghjfhoaaAMk
namespace Go.Proofs.Ytabajhbghjfhoaa
open Go.RowKit
set_option linter.unusedVariables false
set_option linter.unusedSimpArgs false

structure PEnt where
  mr : Bool
  id : Int
  nm : ByteArray
  ats : List (ByteArray × ByteArray)
def p0 : PEnt := ⟨false, 0, ⟨#[]⟩, []⟩
/-- Two lists, entry by entry. -/
def Rel2 (R : AEnt → PEnt → Prop) : List AEnt → List PEnt → Prop
  | [], [] => True
  | a :: l, b :: m => R a b ∧ Rel2 R l m
  | _, _ => False
theorem Rel2.len {R : AEnt → PEnt → Prop} : ∀ {L : List AEnt} {P : List PEnt}, Rel2 R L P → L.length = P.length
  | [], [], _ => rfl
  | a :: l, b :: m, h => by simp [Rel2.len h.2]
  | [], b :: m, h => h.elim
  | a :: l, [], h => h.elim
theorem Rel2.app {R : AEnt → PEnt → Prop} : ∀ {L L' : List AEnt} {P P' : List PEnt}, Rel2 R L P → Rel2 R L' P' → Rel2 R (L ++ L') (P ++ P')
  | [], L', [], P', _, h => h
  | a :: l, L', b :: m, P', h, h' => ⟨h.1, Rel2.app h.2 h'⟩
  | [], _, b :: m, _, h, _ => h.elim
  | a :: l, _, [], _, h, _ => h.elim
theorem Rel2.rev {R : AEnt → PEnt → Prop} : ∀ {L : List AEnt} {P : List PEnt}, Rel2 R L P → Rel2 R L.reverse P.reverse
  | [], [], _ => trivial
  | a :: l, b :: m, h => by
    rw [List.reverse_cons, List.reverse_cons]
    exact Rel2.app (Rel2.rev h.2) ⟨h.1, trivial⟩
  | [], b :: m, h => h.elim
  | a :: l, [], h => h.elim
theorem Rel2.mono {R R' : AEnt → PEnt → Prop} (hR : ∀ a b, R a b → R' a b) : ∀ {L : List AEnt} {P : List PEnt}, Rel2 R L P → Rel2 R' L P
  | [], [], _ => trivial
  | a :: l, b :: m, h => ⟨hR a b h.1, Rel2.mono hR h.2⟩
  | [], b :: m, h => h.elim
  | a :: l, [], h => h.elim
theorem Rel2.erase {R : AEnt → PEnt → Prop} : ∀ {L : List AEnt} {P : List PEnt} (i : Nat), Rel2 R L P → Rel2 R (L.eraseIdx i) (P.eraseIdx i)
  | [], [], i, _ => by simp; trivial
  | a :: l, b :: m, 0, h => h.2
  | a :: l, b :: m, i + 1, h => ⟨h.1, Rel2.erase i h.2⟩
  | [], b :: m, _, h => h.elim
  | a :: l, [], _, h => h.elim
theorem Rel2.get {R : AEnt → PEnt → Prop} : ∀ {L : List AEnt} {P : List PEnt} (k : Nat), Rel2 R L P → k < L.length → R (L.getD k e0) (P.getD k p0)
  | [], [], k, _, hk => by simp at hk
  | a :: l, b :: m, 0, h, _ => h.1
  | a :: l, b :: m, k + 1, h, hk => by
    have := Rel2.get k h.2 (by simpa using hk)
    simpa using this
  | [], b :: m, _, h, _ => h.elim
  | a :: l, [], _, h, _ => h.elim
def lastRP (g : PEnt → Bool) : List PEnt → Int → Int
  | [], _ => -1
  | e :: r, n => if g e then n else lastRP g r (n - 1)
/-- The place of the last one that is asked for; -1: none. -/
def lastP (g : PEnt → Bool) (P : List PEnt) : Int := lastRP g P.reverse ((P.length : Int) - 1)
theorem lastR_rel {R : AEnt → PEnt → Prop} {f : AEnt → Bool} {g : PEnt → Bool} (hfg : ∀ a b, R a b → f a = g b) : ∀ {L : List AEnt} {P : List PEnt} (n : Int), Rel2 R L P → lastR f L n = lastRP g P n
  | [], [], n, _ => rfl
  | a :: l, b :: m, n, h => by rw [lastR, lastRP, hfg a b h.1, lastR_rel hfg (n - 1) h.2]
  | [], b :: m, _, h => h.elim
  | a :: l, [], _, h => h.elim
theorem last_rel {R : AEnt → PEnt → Prop} {f : AEnt → Bool} {g : PEnt → Bool} (hfg : ∀ a b, R a b → f a = g b) {L : List AEnt} {P : List PEnt} (h : Rel2 R L P) : lastE f L = lastP g P := by
  unfold lastE lastP
  rw [h.len]
  exact lastR_rel hfg _ h.rev
theorem lastRP_lt (g : PEnt → Bool) : ∀ (P : List PEnt) (n : Int), n = (P.length : Int) - 1 → lastRP g P n ≤ n ∧ -1 ≤ lastRP g P n
  | [], n, h => by simp at h; simp [lastRP]; omega
  | e :: r, n, h => by
    simp only [List.length_cons] at h
    unfold lastRP
    split
    · omega
    · have := lastRP_lt g r (n - 1) (by omega); omega
theorem lastP_lt (g : PEnt → Bool) (P : List PEnt) : lastP g P < P.length ∧ -1 ≤ lastP g P := by
  have := lastRP_lt g P.reverse ((P.length : Int) - 1) (by rw [List.length_reverse])
  unfold lastP; omega
/-- An entry as it lies in memory. -/
def EntP (base p : Nat) (v : Value) (w : World) (e : AEnt) (x : PEnt) : Prop :=
  e.mr = x.mr ∧ e.id = x.id ∧ e.nm = x.nm ∧ OwnA base e.q e.n x.ats w ∧ (e.q = none → e.n = 0 ∧ e.c = 0) ∧ (∀ g, e.q = some ⟨g, 0, none⟩ → g ≠ p ∧ some g ≠ v.ownBlock)
/-- A list as it lies in memory. -/
def LstP (base p : Nat) (v : Value) (P : List PEnt) (w : World) : Prop := ∃ L, Stk base p v L w ∧ Rel2 (EntP base p v w) L P
def UpdP (base p : Nat) (v : Value) (P' : List PEnt) (w w' : World) : Prop :=
  ∃ v', LstP base p v' P' w' ∧ Tch p v.ownBlock w w' ∧ (∀ k, v'.ownBlock = some k → v.ownBlock = some k ∨ w.heap.size ≤ k)
theorem EntP.tch {base p : Nat} {v v' : Value} {w w' : World} {e : AEnt} {x : PEnt} (h : EntP base p v w e x) (ht : Tch p v.ownBlock w w') (ho : ∀ k, v'.ownBlock = some k → v.ownBlock = some k ∨ w.heap.size ≤ k) : EntP base p v' w' e x := by
  obtain ⟨h1, h2, h3, h4, h5, h6⟩ := h
  refine ⟨h1, h2, h3, h4.keep ht.size (fun g hg _ hl => ht.block g hl (h6 g hg).1 (h6 g hg).2), h5, fun g hg => ⟨(h6 g hg).1, fun e => ?_⟩⟩
  rcases ho g e.symm with h | h
  · exact (h6 g hg).2 h.symm
  · rcases h4.2 with hn | ⟨g', hg', _, hl, _⟩
    · rw [hg] at hn; cases hn
    · rw [hg] at hg'
      injection hg' with hg'
      injection hg' with e1 _
      omega
theorem LstP.later {base p : Nat} {v : Value} {P : List PEnt} {w w' : World} (h : LstP base p v P w) (hb : Below w.heap.size w w') : LstP base p v P w' := by
  obtain ⟨L, hs, hr⟩ := h
  exact ⟨L, hs.later hb, hr.mono fun a b hab => hab.tch (Tch.of_below hb) (fun k hk => Or.inl hk)⟩
theorem UpdP.same {base p : Nat} {v : Value} {P : List PEnt} {w w' : World} (h : LstP base p v P w) (hb : Below w.heap.size w w') : UpdP base p v P w w' :=
  ⟨v, h.later hb, Tch.of_below hb, fun k hk => Or.inl hk⟩
theorem EntP.spot {base p : Nat} {v : Value} {w : World} {e : AEnt} {x : PEnt} (h : EntP base p v w e x) : ∀ a, e.q = some a → a.spot = none := by
  intro a ha
  rcases h.2.2.2.1.2 with hn | ⟨g, hg, _⟩
  · rw [ha] at hn; cases hn
  · rw [ha] at hg
    injection hg with hg
    rw [hg]
theorem new_p (base : Nat) (w : World) (hb : base ≤ w.heap.size) : Calls Try.prog 20 #[] w fun e w' => e = .returned (ptr w.heap.size) ∧ LstP base w.heap.size (.slice none 0 0) [] w' ∧ Below w.heap.size w w' := by
  refine (new_any base w hb).mono ?_
  rintro e w' ⟨rfl, hs, hb⟩
  exact ⟨rfl, ⟨[], hs, trivial⟩, hb⟩
def pMk : PEnt := ⟨true, 0, ⟨#[]⟩, []⟩
/-- Mark. -/
theorem mark_p (base p : Nat) (v : Value) (P : List PEnt) (w : World) (h : LstP base p v P w) (hbase : base ≤ w.heap.size) :
    Calls Try.prog 32 #[ptr p] w fun e w' => e = .returned (.int .i64 (if 100 ≤ P.length then 5 else 0)) ∧ UpdP base p v (if 100 ≤ P.length then P else P ++ [pMk]) w w' := by
  obtain ⟨L, hs, hr⟩ := h
  have hl := hr.len
  by_cases hN : 100 ≤ P.length
  · rw [if_pos hN, if_pos hN]
    refine (mark_full base p v L w hs (by omega)).mono ?_
    rintro e w' ⟨rfl, rfl⟩
    exact ⟨rfl, UpdP.same ⟨L, hs, hr⟩ (Below.refl _ _)⟩
  · rw [if_neg hN, if_neg hN]
    refine (mark_any base p v L w hs hbase (by omega)).mono ?_
    rintro e w' ⟨rfl, v', hs', ht, ho⟩
    refine ⟨rfl, v', ⟨L ++ [eMk], hs', (hr.mono fun a b hab => hab.tch ht ho).app ⟨?_, trivial⟩⟩, ht, ho⟩
    refine ⟨rfl, rfl, rfl, ⟨⟨rfl, by simp [eMk], fun k hk => by simp [pMk] at hk, Or.inl rfl⟩, Or.inl rfl⟩, fun _ => ⟨rfl, rfl⟩, fun g hg => by cases hg⟩

def isElP (x : PEnt) : Bool := !x.mr && decide (0 ≤ x.id)
def firstP (P : List PEnt) : Nat := (lastP (fun x => x.mr) P + 1).toNat
def samesP (x : PEnt) (P : List PEnt) : List Nat := plcK (fun k => alikeB x.nm x.ats (P.getD k p0).nm (P.getD k p0).ats) (P.length - firstP P) (firstP P)
def addR (x : PEnt) (n : Nat) : Int := if isElP x = false then 1 else if 100 ≤ n then 5 else 0
def addP (x : PEnt) (P : List PEnt) : List PEnt :=
  if isElP x = false then P else if 100 ≤ P.length then P else (if (samesP x P).length < 3 then P else P.eraseIdx ((samesP x P).getD 0 0)) ++ [x]
theorem addP_le (x : PEnt) (P : List PEnt) (h : P.length ≤ 100) : (addP x P).length ≤ 100 := by
  unfold addP
  split
  · exact h
  · split
    · exact h
    · split
      · simp; omega
      · have := List.length_eraseIdx_le P ((samesP x P).getD 0 0); rw [List.length_append, List.length_singleton]; omega
theorem newsafe {p g n : Nat} {q2 : Option Addr} {v' : Value} {ats : List (ByteArray × ByteArray)} {w w' : World} (hp : p < w.heap.size) (h : OwnA w.heap.size q2 n ats w') (hne : ∀ g, q2 = some ⟨g, 0, none⟩ → some g ≠ v'.ownBlock) (hg : q2 = some ⟨g, 0, none⟩) : g ≠ p ∧ some g ≠ v'.ownBlock := by
  refine ⟨?_, hne g hg⟩
  rcases h.2 with hn | ⟨g', hg', hz, _⟩
  · rw [hg] at hn; cases hn
  · rw [hg] at hg'
    injection hg' with hg'
    injection hg' with e1 _
    omega
set_option maxHeartbeats 1000000 in
theorem add_p (base p : Nat) (v : Value) (P : List PEnt) (x : PEnt) (q : Option Addr) (n c : Nat) (w : World) (h : LstP base p v P w) (hbase : base ≤ w.heap.size) (hN : P.length ≤ 100)
    (hq : q = none → n = 0 ∧ c = 0) (hats : AtsV q n x.ats w) (hsafe : ∀ a, q = some a → 0 < n → a.block ≠ p ∧ some a.block ≠ v.ownBlock) :
    Calls Try.prog 33 #[ptr p, .agg #[.bool x.mr, .int .i64 x.id, .string x.nm, .slice q n c]] w fun e w' => e = .returned (.int .i64 (addR x P.length)) ∧ UpdP base p v (addP x P) w w' := by
  obtain ⟨L, hs, hr⟩ := h
  have hl := hr.len
  obtain ⟨xm, xi, xn, ats⟩ := x
  dsimp only at *
  have hEl : isElB ⟨xm, xi, xn, q, n, c⟩ = isElP ⟨xm, xi, xn, ats⟩ := rfl
  unfold addR addP
  cases hE : isElP ⟨xm, xi, xn, ats⟩ with
  | false =>
    rw [if_pos rfl, if_pos rfl]
    refine (add_bad (ptr p) ⟨xm, xi, xn, q, n, c⟩ w (hEl.trans hE)).mono ?_
    rintro e w' ⟨rfl, hb⟩
    exact ⟨rfl, UpdP.same ⟨L, hs, hr⟩ hb⟩
  | true =>
    rw [if_neg (show ¬ (true = false) by decide), if_neg (show ¬ (true = false) by decide)]
    by_cases hF : 100 ≤ P.length
    · rw [if_pos hF, if_pos hF]
      refine (add_room (ptr p) ⟨xm, xi, xn, q, n, c⟩ 5 w (hEl.trans hE) (by decide) (hide fun w1 hb1 => ?_)).mono ?_
      · have := room_any base p v L w1 (hs.later hb1)
        rw [if_pos (by omega)] at this
        exact this
      · rintro e w' ⟨rfl, hb⟩
        exact ⟨rfl, UpdP.same ⟨L, hs, hr⟩ hb⟩
    · rw [if_neg hF, if_neg hF]
      have hlast : lastE isMk L = lastP (fun x => x.mr) P := last_rel (fun a b hab => hab.1) hr
      have hlp := lastP_lt (fun x => x.mr) P
      have hf0 : lastE isMk L + 1 = ((firstP P : Nat) : Int) := by unfold firstP; rw [hlast]; omega
      have hfl : firstP P ≤ L.length := by unfold firstP; omega
      have hT : Hid (∀ W, Below w.heap.size w W → Calls Try.prog 76 #[ptr p, entV ⟨xm, xi, xn, q, n, c⟩] W (ToPost (samesP ⟨xm, xi, xn, ats⟩ P) W)) := hide fun W hW => by
        by_cases hlt : firstP P < L.length
        · have := alikeTo_k base p (firstP P) v ⟨xm, xi, xn, q, n, c⟩ L W (hs.later hW) (by omega) hf0 hlt (fun k => alikeB xn ats (P.getD k p0).nm (P.getD k p0).ats) (hide fun k hk1 hk2 W' hW' => by
            have hab := (hr.get k hk2)
            have hA := alike_any ⟨xm, xi, xn, q, n, c⟩ (L.getD k e0) ats (P.getD k p0).ats W' ((hats.below hW).below hW') ((hab.2.2.2.1.below hW).below hW').1
            rw [hab.2.2.1] at hA
            exact hA)
          unfold samesP
          rw [hl] at this
          exact this
        · have he : firstP P = L.length := by omega
          have := alikeTo_none base p v ⟨xm, xi, xn, q, n, c⟩ L W (hs.later hW) (by omega) (by rw [hf0, he])
          unfold samesP
          rw [show P.length - firstP P = 0 by omega]
          exact this
      by_cases hps : (samesP ⟨xm, xi, xn, ats⟩ P).length < 3
      · rw [if_pos hps]
        refine (add_fewA base p v xm xi xn q n c ats _ L w hs hbase (by omega) (hEl.trans hE) hq hats hT hps).mono ?_
        rintro e w' ⟨q2, c2, v', rfl, ⟨hs', ht, ho⟩, hown, hnn, hne⟩
        refine ⟨rfl, v', ⟨_, hs', (hr.mono fun a b hab => hab.tch ht ho).app ⟨⟨rfl, rfl, rfl, hown.mono hbase, hnn, fun g hg => ?_⟩, trivial⟩⟩, ht, ho⟩
        exact newsafe hs.lt hown hne hg
      · rw [if_neg hps]
        have hmem : (samesP ⟨xm, xi, xn, ats⟩ P).getD 0 0 < L.length := by
          have hm : (samesP ⟨xm, xi, xn, ats⟩ P).getD 0 0 ∈ samesP ⟨xm, xi, xn, ats⟩ P := by
            rw [List.getD, List.getElem?_eq_getElem (by omega)]
            exact List.getElem_mem _
          have := plcK_mem _ _ _ _ hm
          omega
        refine (add_threeA base p v xm xi xn q n c ats _ L w hs hbase (by omega) (hEl.trans hE) hq hats hsafe hT (by omega) hmem).mono ?_
        rintro e w' ⟨q2, c2, v', rfl, ⟨hs', ht, ho⟩, hown, hnn, hne⟩
        refine ⟨rfl, v', ⟨_, hs', ((hr.erase _).mono fun a b hab => hab.tch ht ho).app ⟨⟨rfl, rfl, rfl, hown.mono hbase, hnn, fun g hg => ?_⟩, trivial⟩⟩, ht, ho⟩
        exact newsafe hs.lt hown hne hg
end Go.Proofs.Ytabajhbghjfhoaa
