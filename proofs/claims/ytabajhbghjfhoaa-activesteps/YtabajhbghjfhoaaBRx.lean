/-
  The reference's list told plainly.
-/
import Derived.Test.YtabajhbghjfhoaaBRw
import Derived.Test.YtabajhbghjfhoaaBCl
namespace Go.Proofs.Ytabajhbghjfhoaa
open Go.RowKit
set_option linter.unusedVariables false
set_option linter.unusedSimpArgs false

/-- An entry of the reference: its attributes are the argument's own, in blocks below A. -/
def REnt (A : Nat) (w : World) (e : AEnt) (x : PEnt) : Prop :=
  e.mr = x.mr ∧ e.id = x.id ∧ e.nm = x.nm ∧ AtsV e.q e.n x.ats w ∧ (∀ a, e.q = some a → 0 < e.n → a.block < A)
def RLst (A base p : Nat) (v : Value) (P : List PEnt) (w : World) : Prop := ∃ L, RStk base p v L w ∧ Rel2 (REnt A w) L P ∧ A ≤ base ∧ A ≤ p
def RUpdP (A base p : Nat) (v : Value) (P' : List PEnt) (w w' : World) : Prop :=
  ∃ v', RLst A base p v' P' w' ∧ Tch p v.ownBlock w w' ∧ (∀ k, v'.ownBlock = some k → v.ownBlock = some k ∨ w.heap.size ≤ k)
theorem REnt.tch {A p : Nat} {o : Option Nat} {w w' : World} {e : AEnt} {x : PEnt} (h : REnt A w e x) (ht : Tch p o w w') (hA : A ≤ p) (ho : ∀ k, o = some k → A ≤ k) : REnt A w' e x := by
  obtain ⟨h1, h2, h3, h4, h5⟩ := h
  refine ⟨h1, h2, h3, h4.tch ht (fun a ha h0 => ?_) (fun a ha h0 => h4.lt ha h0), h5⟩
  have := h5 a ha h0
  refine ⟨by omega, fun e => ?_⟩
  have := ho _ e.symm
  omega
theorem rlst_upd {A base p : Nat} {v : Value} {L L' : List AEnt} {P' : List PEnt} {w w' : World} (h : RStk base p v L w) (hA : A ≤ base) (hp : A ≤ p) (hu : RUpd base p v L' w w') (hr : Rel2 (REnt A w) L' P') : RUpdP A base p v P' w w' := by
  obtain ⟨v', hs, ht, ho⟩ := hu
  exact ⟨v', ⟨L', hs, hr.mono fun a b hab => hab.tch ht hp (fun k hk => Nat.le_trans hA (h.2.1.lt k hk).1), hA, hp⟩, ht, ho⟩
theorem RLst.later {A base p : Nat} {v : Value} {P : List PEnt} {w w' : World} (h : RLst A base p v P w) (hb : Below w.heap.size w w') : RLst A base p v P w' := by
  obtain ⟨L, hs, hr, hA, hp⟩ := h
  exact ⟨L, hs.later hb, hr.mono fun a b hab => hab.tch (Tch.of_below (p := p) (o := v.ownBlock) hb) hp (fun k hk => Nat.le_trans hA (hs.2.1.lt k hk).1), hA, hp⟩
theorem rfind_p (A base p : Nat) (v : Value) (id : Int) (P : List PEnt) (w : World) (h : RLst A base p v P w) (hN : P.length ≤ 1000) :
    Calls Try.prog 24 #[ptr p, .int .i64 id] w fun e w' => e = .returned (.int .i64 (findP id P)) ∧ Below w.heap.size w w' := by
  obtain ⟨L, hs, hr, hA, hp⟩ := h
  have := rfind_any base p v id L w hs (by have := hr.len; omega)
  rw [Int.add_zero, show lastE (isId id) L = findP id P from last_rel (fun a b hab => by unfold isId; rw [hab.1, hab.2.1]) hr] at this
  exact this
theorem rremove_p (A base p : Nat) (v : Value) (id : Int) (P : List PEnt) (w : World) (h : RLst A base p v P w) (hbase : base ≤ w.heap.size) (hN : P.length ≤ 1000) :
    Calls Try.prog 61 #[ptr p, .int .i64 id] w fun e w' => e = .returned (.bool (decide (0 ≤ findP id P))) ∧ RUpdP A base p v (removeP id P) w w' := by
  obtain ⟨L, hs, hr, hA, hp⟩ := h
  have := rremove_any base p v id L w hs hbase (by have := hr.len; omega)
  rw [show lastE (isId id) L = findP id P from last_rel (fun a b hab => by unfold isId; rw [hab.1, hab.2.1]) hr] at this
  refine this.mono ?_
  rintro e w' ⟨rfl, hu⟩
  refine ⟨rfl, rlst_upd hs hA hp hu ?_⟩
  unfold removeP
  split
  · exact hr.erase _
  · exact hr
theorem rmark_p (A base p : Nat) (v : Value) (P : List PEnt) (w : World) (h : RLst A base p v P w) (hbase : base ≤ w.heap.size) :
    Calls Try.prog 57 #[ptr p] w fun e w' => e = .returned (.int .i64 (if 100 ≤ P.length then 5 else 0)) ∧ RUpdP A base p v (if 100 ≤ P.length then P else P ++ [⟨true, 0, ⟨#[]⟩, []⟩]) w w' := by
  obtain ⟨L, hs, hr, hA, hp⟩ := h
  have := rmark_any base p v L w hs hbase
  rw [hr.len] at this
  refine this.mono ?_
  rintro e w' ⟨rfl, hu⟩
  refine ⟨rfl, rlst_upd hs hA hp hu ?_⟩
  split
  · exact hr
  · exact hr.app ⟨⟨rfl, rfl, rfl, ⟨rfl, by simp, by intro k hk; simp at hk, Or.inl rfl⟩, fun a ha => by cases ha⟩, trivial⟩
theorem rclear_p (A base p : Nat) (v : Value) (P : List PEnt) (w : World) (h : RLst A base p v P w) (hbase : base ≤ w.heap.size) (hN : P.length ≤ 1000) :
    Calls Try.prog 59 #[ptr p] w fun e w' => e = .returned (.tuple #[]) ∧ RUpdP A base p v (P.take (clearN P)) w w' := by
  obtain ⟨L, hs, hr, hA, hp⟩ := h
  have := rclear_any base p v L w hs hbase (by have := hr.len; omega)
  rw [show lastE (fun x => x.mr) L = lastP (fun x => x.mr) P from last_rel (fun a b hab => hab.1) hr] at this
  refine this.mono ?_
  rintro e w' ⟨rfl, hu⟩
  exact ⟨rfl, rlst_upd hs hA hp hu (hr.take _)⟩
theorem rinsert_p (A base p : Nat) (v : Value) (P : List PEnt) (at' : Int) (x : PEnt) (q : Option Addr) (n c : Nat) (w : World) (h : RLst A base p v P w) (hbase : base ≤ w.heap.size) (hats : AtsV q n x.ats w) (hq : ∀ a, q = some a → 0 < n → a.block < A) :
    Calls Try.prog 64 #[ptr p, .int .i64 at', .agg #[.bool x.mr, .int .i64 x.id, .string x.nm, .slice q n c]] w fun e w' => e = .returned (.int .i64 (insR at' x P.length)) ∧ RUpdP A base p v (insP at' x P) w w' := by
  obtain ⟨L, hs, hr, hA, hp⟩ := h
  have := rinsert_any base p v at' ⟨x.mr, x.id, x.nm, q, n, c⟩ L w hs hbase
  rw [hr.len, show isElB ⟨x.mr, x.id, x.nm, q, n, c⟩ = isElP x from rfl] at this
  refine this.mono ?_
  rintro e w' ⟨rfl, hu⟩
  refine ⟨rfl, rlst_upd hs hA hp hu ?_⟩
  unfold insP
  split
  · exact hr
  · split
    · exact hr
    · have h1 : Rel2 (REnt A w) [⟨x.mr, x.id, x.nm, q, n, c⟩] [x] := ⟨⟨rfl, rfl, rfl, hats, hq⟩, trivial⟩
      exact ((hr.take _).app h1).app (hr.drop _)
theorem set_erase (P : List PEnt) (k : Nat) (x : PEnt) (h : k < P.length) : (P.eraseIdx k).take k ++ [x] ++ (P.eraseIdx k).drop k = P.set k x := by
  induction P generalizing k with
  | nil => simp at h
  | cons y r ih =>
    cases k with
    | zero => simp
    | succ k =>
      simp only [List.eraseIdx_cons_succ, List.take_succ_cons, List.drop_succ_cons, List.set_cons_succ, List.cons_append]
      rw [ih k (by simpa using h)]
theorem rswap_p (A base p : Nat) (v : Value) (P : List PEnt) (id : Int) (x : PEnt) (q : Option Addr) (n c : Nat) (w : World) (h : RLst A base p v P w) (hbase : base ≤ w.heap.size) (hN : P.length ≤ 1000) (hats : AtsV q n x.ats w) (hq : ∀ a, q = some a → 0 < n → a.block < A) :
    Calls Try.prog 63 #[ptr p, .int .i64 id, .agg #[.bool x.mr, .int .i64 x.id, .string x.nm, .slice q n c]] w fun e w' => e = .returned (.bool (swapR id x P)) ∧ RUpdP A base p v (swapP id x P) w w' := by
  obtain ⟨L, hs, hr, hA, hp⟩ := h
  have hl := hr.len
  have hlt : findP id P < P.length ∧ -1 ≤ findP id P := lastP_lt (fun x => !x.mr && (x.id == id)) P
  have := rswap_any base p v id ⟨x.mr, x.id, x.nm, q, n, c⟩ L w hs hbase (by omega)
  rw [show isElB ⟨x.mr, x.id, x.nm, q, n, c⟩ = isElP x from rfl, show lastE (isId id) L = findP id P from last_rel (fun a b hab => by unfold isId; rw [hab.1, hab.2.1]) hr] at this
  have hd : swapR id x P = decide (0 ≤ findP id P ∧ isElP x = true) := by unfold swapR; by_cases h0 : 0 ≤ findP id P <;> cases isElP x <;> simp [h0]
  refine this.mono ?_
  rintro e w' ⟨rfl, hu⟩
  refine ⟨by rw [hd], rlst_upd hs hA hp hu ?_⟩
  unfold swapP
  by_cases hok : 0 ≤ findP id P ∧ isElP x = true
  · have h1 : Rel2 (REnt A w) [⟨x.mr, x.id, x.nm, q, n, c⟩] [x] := ⟨⟨rfl, rfl, rfl, hats, hq⟩, trivial⟩
    rw [if_pos hok, hd, decide_eq_true hok, if_pos rfl, ← set_erase P (findP id P).toNat x (by omega)]
    exact (((hr.erase _).take _).app h1).app ((hr.erase _).drop _)
  · rw [if_neg hok, hd, decide_eq_false hok, if_neg (by simp)]
    exact hr
theorem rcut_p (A base p : Nat) (v : Value) (q : Option Addr) (n cap : Nat) (zs : List Int) (P : List PEnt) (w : World) (h : RLst A base p v P w) (hk : IntsV q n zs w) (hN : P.length ≤ 1000) :
    Calls Try.prog 31 #[ptr p, .slice q n cap] w (CutSaid (fromP zs P) (P.length - fromP zs P) w) := by
  obtain ⟨L, hs, hr, hA, hp⟩ := h
  have := rcut_any base p v q n cap zs L w hs hk (by have := hr.len; omega)
  unfold rfrom at this
  rw [hr.len, show lastE (cutZ zs) L = lastP (fun x => x.mr || hasZ zs x.id) P from last_rel (fun a b hab => by unfold cutZ; rw [hab.1, hab.2.1]) hr] at this
  exact this
end Go.Proofs.Ytabajhbghjfhoaa
