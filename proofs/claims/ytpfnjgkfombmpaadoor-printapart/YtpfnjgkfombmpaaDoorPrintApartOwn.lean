/-
  For every two lists of nodes and every space the law PrintApart answers true: unlike nodes have unlike texts, if none is Raw, Listing, void, a comment, or not right, and all are of one space; the two tables of the package utf start as the program's text lays them (the card ties them); and each argument reads as it did.
-/
import Derived.Test.YtpfnjgkfombmpaaDoorJWr
import Derived.Test.YtpfnjgkfombmpaaDoorYRr
import Derived.Test.YtpfnjgkfombmpaaDoorYUn
import Derived.Test.YtpfnjgkfombmpaaDoorJPa
import Derived.Test.YtpfnjgkfombmpaaDoorYCt
import Derived.Test.YtpfnjgkfombmpaaDoorYNo
import Derived.Test.YtpfnjgkfombmpaaDoorMgA
import Derived.Deep.SlicePairs
import Derived.Deep.Strs
import Derived.Carry
import Derived.OpenShut
import Derived.Test.YtpfnjgkfombmpaaDoorCards
import Derived.Test.YtpfnjgkfombmpaaDoorTie
import Derived.ProofKit
import Derived.ShutString
import Derived.ChangeOld
import Derived.Below
import Derived.Deep.DeepHandedRow
import Derived.Lib.LaidTab

/-
  Unlike right nodes, none Raw, Listing, void or a comment, all of one space, have unlike texts: plain facts.
-/
namespace Go.Proofs.YtpfnjgkfombmpaaDoor
open Go.RowKit
set_option linter.unusedVariables false
set_option linter.unusedSimpArgs false

def badB (space k sp : Int) (n : ByteArray) : Bool := (k == 3) || ((k == 1) && ((sp != space) || ((ofN n.toList == 15 || ofN n.toList == 16) || inB n.toList voidNs)))
def smpB (space : Int) : Forest → Bool
  | .nil => true
  | .cons k sp n ats tx kids rest => !(badB space k sp n || !(smpB space kids)) && smpB space rest
/-- What stands ahead of the first that is not p. -/
theorem span_uniq (p : UInt8 → Bool) : ∀ (a b R S : List UInt8), a.all p = true → b.all p = true → (R = [] ∨ ∃ c r, R = c :: r ∧ p c = false) → (S = [] ∨ ∃ c r, S = c :: r ∧ p c = false) → a ++ R = b ++ S → a = b ∧ R = S
  | [], [], R, S, _, _, _, _, h => ⟨rfl, h⟩
  | [], b :: bs', R, S, _, hb, hR, _, h => by
    rw [List.all_cons, Bool.and_eq_true] at hb
    rcases hR with rfl | ⟨c, r, rfl, hc⟩
    · cases h
    · injection h with h1 h2
      rw [h1, hb.1] at hc; cases hc
  | a :: as', [], R, S, ha, _, _, hS, h => by
    rw [List.all_cons, Bool.and_eq_true] at ha
    rcases hS with rfl | ⟨c, r, rfl, hc⟩
    · cases h
    · injection h with h1 h2
      rw [← h1, ha.1] at hc; cases hc
  | a :: as', b :: bs', R, S, ha, hb, hR, hS, h => by
    rw [List.all_cons, Bool.and_eq_true] at ha hb
    injection h with h1 h2
    obtain ⟨e1, e2⟩ := span_uniq p as' bs' R S ha.2 hb.2 hR hS h2
    exact ⟨by rw [h1, e1], e2⟩
def okB (c : UInt8) : Bool := okN c.toNat
theorem name_all {n : List UInt8} (h : nameB n = true) : n.all okB = true ∧ n ≠ [] := by
  unfold nameB at h
  rw [Bool.and_eq_true, Bool.and_eq_true, decide_eq_true_eq] at h
  exact ⟨h.2.2, fun e => by rw [e] at h; exact absurd h.1.1 (by decide)⟩
theorem ok_not {c : UInt8} (h : okB c = true) : c ≠ 32 ∧ c ≠ 61 ∧ c ≠ 62 ∧ c ≠ 47 ∧ c ≠ 34 := by
  refine ⟨?_, ?_, ?_, ?_, ?_⟩ <;> (rintro rfl; revert h; decide)
theorem all_imp {l : List UInt8} {p q : UInt8 → Bool} (h : l.all p = true) (hi : ∀ c, p c = true → q c = true) : l.all q = true := by
  rw [List.all_eq_true] at h ⊢
  exact fun c hc => hi c (h c hc)
/-- What was escaped tells what it was, if that was right. -/
theorem esc_inj {v : Bool} {a b : List UInt8} (ha : rightB a = true) (hb : rightB b = true) (h : escL v a = escL v b) : a = b := by
  have h1 := all_esc v a.length a (Nat.le_refl _)
  have h2 := all_esc v b.length b (Nat.le_refl _)
  rw [h, h2, clean_right _ _ (Nat.le_refl _) ha, clean_right _ _ (Nat.le_refl _) hb] at h1
  exact h1.symm
def atF' : List (ByteArray × ByteArray) → List UInt8
  | [] => []
  | a :: l => attB a.1.data.toList a.2.data.toList ++ atF' l
theorem atF'_app : ∀ a b, atF' (a ++ b) = atF' a ++ atF' b
  | [], b => rfl
  | x :: a, b => by show attB _ _ ++ atF' (a ++ b) = _; rw [atF'_app a b, ← List.append_assoc]; rfl
theorem attL_is (ats : List (ByteArray × ByteArray)) : ∀ k, k ≤ ats.length → attL ats k = atF' (ats.take k)
  | 0, _ => rfl
  | k + 1, h => by
    have hk : k < ats.length := by omega
    rw [attL, attL_is ats k (by omega), List.take_add_one, List.getElem?_eq_getElem hk, atF'_app]
    have e : ats.getD k (ByteArray.empty, ByteArray.empty) = ats[k] := by simp [List.getD, List.getElem?_eq_getElem hk]
    unfold an av
    rw [e]
    simp [atF']
theorem openL_is (n : List UInt8) (ats : List (ByteArray × ByteArray)) : openL n ats = 60 :: (n ++ (atF' ats ++ [62])) := by
  unfold openL
  rw [attL_is ats _ (Nat.le_refl _), List.take_length]
  rfl
def AtR (ats : List (ByteArray × ByteArray)) : Prop := ∀ a ∈ ats, nameB a.1.data.toList = true ∧ rightB a.2.data.toList = true
theorem atr_of {ats : List (ByteArray × ByteArray)} (h : rightAs ats = true) : AtR ats := by
  intro a ha
  obtain ⟨k, hk, rfl⟩ := List.getElem_of_mem ha
  have hr : rightAt ats k = true := by
    cases hx : rightAt ats k with
    | true => rfl
    | false => have := rightF_no ats hx ats.length hk; rw [rightAs, this] at h; cases h
  unfold rightAt at hr
  rw [Bool.and_eq_true] at hr
  have e : ats.getD k (ByteArray.empty, ByteArray.empty) = ats[k] := by simp [List.getD, List.getElem?_eq_getElem hk]
  unfold an av at hr
  rw [e] at hr
  unfold goodB at hr
  rw [Bool.and_eq_true] at hr
  exact ⟨hr.1, hr.2.1⟩
theorem data_inj {a b : ByteArray} (h : a.data.toList = b.data.toList) : a = b := by rw [← bs_self a, h, bs_self]
theorem ats_inj : ∀ (a b : List (ByteArray × ByteArray)) (X Y : List UInt8), AtR a → AtR b → atF' a ++ (62 :: X) = atF' b ++ (62 :: Y) → a = b ∧ X = Y
  | [], [], X, Y, _, _, h => by
    have h' : (62 : UInt8) :: X = 62 :: Y := h
    injection h' with _ h'
    exact ⟨rfl, h'⟩
  | [], b :: bs', X, Y, _, _, h => by
    have h' : (62 : UInt8) :: X = 32 :: _ := h
    injection h' with h1 _
    exact absurd h1 (by decide)
  | a :: as', [], X, Y, _, _, h => by
    have h' : (32 : UInt8) :: _ = 62 :: Y := h
    injection h' with h1 _
    exact absurd h1 (by decide)
  | a :: as', b :: bs', X, Y, ha, hb, h => by
    obtain ⟨n1, r1⟩ := ha a (List.mem_cons_self ..)
    obtain ⟨n2, r2⟩ := hb b (List.mem_cons_self ..)
    have h' : (32 : UInt8) :: (a.1.data.toList ++ (61 :: 34 :: (escL true a.2.data.toList ++ (34 :: (atF' as' ++ (62 :: X)))))) = 32 :: (b.1.data.toList ++ (61 :: 34 :: (escL true b.2.data.toList ++ (34 :: (atF' bs' ++ (62 :: Y)))))) := by
      simpa [atF', attB, List.append_assoc] using h
    injection h' with _ h'
    obtain ⟨e1, h2⟩ := span_uniq (fun c => c != 61) _ _ _ _ (all_imp (name_all n1).1 fun c hc => by simpa using (ok_not hc).2.1) (all_imp (name_all n2).1 fun c hc => by simpa using (ok_not hc).2.1) (Or.inr ⟨61, _, rfl, rfl⟩) (Or.inr ⟨61, _, rfl, rfl⟩) h'
    injection h2 with _ h2
    injection h2 with _ h2
    have sf : ∀ l : List UInt8, (escL true l).all (fun c => c != 34) = true := fun l => all_imp (esc_safe true l false) fun c hc => by
      have hne : c ≠ 34 := by rintro rfl; revert hc; decide
      simpa using hne
    obtain ⟨e2, h3⟩ := span_uniq (fun c => c != 34) _ _ _ _ (sf _) (sf _) (Or.inr ⟨34, _, rfl, rfl⟩) (Or.inr ⟨34, _, rfl, rfl⟩) h2
    injection h3 with _ h3
    obtain ⟨e3, h4⟩ := ats_inj as' bs' X Y (fun z hz => ha z (List.mem_cons_of_mem _ hz)) (fun z hz => hb z (List.mem_cons_of_mem _ hz)) h3
    exact ⟨by rw [e3, Prod.ext (data_inj e1) (data_inj (esc_inj r1 r2 e2))], h4⟩
theorem at_head (a : List (ByteArray × ByteArray)) (X : List UInt8) : ∃ c r, atF' a ++ ([62] ++ X) = c :: r ∧ (c != 32 && c != 62) = false := by
  cases a with
  | nil => exact ⟨62, X, rfl, rfl⟩
  | cons a l => exact ⟨32, _, rfl, rfl⟩
theorem tag_inj {n n' : List UInt8} {ats ats' : List (ByteArray × ByteArray)} {X Y : List UInt8} (hn : nameB n = true) (hn' : nameB n' = true) (ha : AtR ats) (ha' : AtR ats') (h : openL n ats ++ X = openL n' ats' ++ Y) : n = n' ∧ ats = ats' ∧ X = Y := by
  rw [openL_is, openL_is] at h
  simp only [List.cons_append, List.append_assoc] at h
  injection h with _ h
  have imp : ∀ c, okB c = true → (c != 32 && c != 62) = true := fun c hc => by
    have := ok_not hc
    simp [this.1, this.2.2.1]
  obtain ⟨e1, h2⟩ := span_uniq (fun c => c != 32 && c != 62) _ _ _ _ (all_imp (name_all hn).1 imp) (all_imp (name_all hn').1 imp) (Or.inr (by obtain ⟨c, r, h1, h2⟩ := at_head ats X; exact ⟨c, r, h1, h2⟩)) (Or.inr (by obtain ⟨c, r, h1, h2⟩ := at_head ats' Y; exact ⟨c, r, h1, h2⟩)) h
  obtain ⟨e2, h3⟩ := ats_inj ats ats' X Y ha ha' h2
  exact ⟨e1, e2, h3⟩
/-- Where a list of nodes ends. -/
def Bnd (r : List UInt8) : Prop := r = [] ∨ ∃ s, r = 60 :: 47 :: s
theorem rest_head (f : Forest) (r : List UInt8) (space : Int) (ha : allB f = true) (hs : smpB space f = true) (hk : f.kind0 ≠ 2) (hr : Bnd r) : txF f false ++ r = [] ∨ ∃ c q, txF f false ++ r = c :: q ∧ (c != 60) = false := by
  cases f with
  | nil =>
    rcases hr with rfl | ⟨s, rfl⟩
    · exact Or.inl rfl
    · exact Or.inr ⟨60, _, rfl, rfl⟩
  | cons k sp n ats tx kids rest =>
    have hk' : k ≠ 2 := hk
    rw [allB, Bool.and_eq_true] at ha
    rcases ra_is ha.1 with ⟨h1, _⟩ | ⟨h2 | h3, _⟩
    · subst h1
      right
      rw [txF, show ahL 1 n.data.toList ats tx.data.toList false = openL n.data.toList ats from if_pos rfl, openL_is]
      exact ⟨60, _, rfl, rfl⟩
    · exact absurd h2 hk'
    · subst h3
      rw [smpB, badB] at hs
      simp at hs
inductive NdIs (space k sp : Int) (n : ByteArray) (ats : List (ByteArray × ByteArray)) (tx : ByteArray) (kids : Forest) : Prop where
  | el (h1 : k = 1) (h2 : nameB n.data.toList = true) (h3 : AtR ats) (h4 : vdB sp n = false) (h5 : rwB 1 sp n = false) (h6 : sp = space) (h7 : tx = ⟨#[]⟩) (h8 : apartB kids = true) (h9 : allB kids = true) (h10 : smpB space kids = true)
  | tx (h1 : k = 2) (h2 : rightB tx.data.toList = true) (h3 : tx.data.toList ≠ []) (h4 : sp = 0) (h5 : n = ⟨#[]⟩) (h6 : ats = []) (h7 : kids = .nil)
theorem nd_is {space k sp : Int} {n : ByteArray} {ats : List (ByteArray × ByteArray)} {tx : ByteArray} {kids rest : Forest} (ha : allB (.cons k sp n ats tx kids rest) = true) (hs : smpB space (.cons k sp n ats tx kids rest) = true) : NdIs space k sp n ats tx kids := by
  rw [allB, Bool.and_eq_true, Bool.and_eq_true] at ha
  rw [smpB, Bool.and_eq_true, Bool.not_eq_true', Bool.or_eq_false_iff] at hs
  obtain ⟨⟨hb, hsk⟩, _⟩ := hs
  have hsk' : smpB space kids = true := by simpa using hsk
  rcases ra_is ha.1 with ⟨h1, _, _, htx⟩ | ⟨h2 | h3, h4, h5, h6, h7⟩
  · subst h1
    have hw : wrongN n.data.toList ats = 0 := by
      have := ha.1
      unfold raB at this
      rw [if_pos rfl, Bool.and_eq_true, decide_eq_true_eq] at this
      exact this.1
    have hnr : nameB n.data.toList = true ∧ rightAs ats = true := by
      unfold wrongN at hw
      by_cases hx : (nameB n.data.toList && rightAs ats) = false
      · rw [if_pos hx] at hw; cases hw
      · have hy : (nameB n.data.toList && rightAs ats) = true := by simpa using hx
        rw [Bool.and_eq_true] at hy
        exact hy
    unfold badB at hb
    rw [Bool.or_eq_false_iff] at hb
    have hb2 := hb.2
    rw [show ((1 : Int) == 1) = true from rfl, Bool.true_and, Bool.or_eq_false_iff, Bool.or_eq_false_iff] at hb2
    obtain ⟨b1, b2, b3⟩ := hb2
    have hl : leafB 1 = false := rfl
    have hk := ha.2.1
    rw [hl, Bool.false_or, Bool.and_eq_true] at hk
    refine .el rfl hnr.1 (atr_of hnr.2) ?_ ?_ (by simpa using b1) htx hk.1 hk.2 hsk'
    · unfold vdB; rw [b3, Bool.and_false]
    · unfold rwB; rw [← raw_of, b2, Bool.and_false, Bool.and_false]
  · subst h2
    have ht := ha.1
    unfold raB at ht
    rw [if_neg (by decide), if_pos rfl, Bool.and_eq_true] at ht
    have h8 : rightB tx.data.toList = true := by
      have := ht.2
      unfold taB goodB at this
      rw [Bool.and_eq_true, Bool.and_eq_true] at this
      exact this.1.1
    have h9 : tx.data.toList ≠ [] := by
      have := ht.1
      rw [Lib.toList_data] at this
      intro e
      rw [e] at this
      cases this
    exact .tx rfl h8 h9 h4 h5 h6 (len0 h7)
  · subst h3
    unfold badB at hb
    cases hb
theorem esc_ne {l : List UInt8} (hr : rightB l = true) (h : l ≠ []) : ∃ c r, escL false l = c :: r ∧ (c != 60) = true := by
  cases he : escL false l with
  | nil => exact absurd (esc_inj (v := false) hr (b := []) rfl (by rw [he]; rfl)) h
  | cons c r =>
    have := esc_safe false l false
    rw [show escS false false l = c :: r from he, List.all_cons, Bool.and_eq_true] at this
    refine ⟨c, r, rfl, ?_⟩
    have hne : c ≠ 60 := by rintro rfl; exact absurd this.1 (by decide)
    simpa using hne
theorem tx_el {sp : Int} {n : ByteArray} {ats : List (ByteArray × ByteArray)} {tx : ByteArray} {kids rest : Forest} (h4 : vdB sp n = false) (h5 : rwB 1 sp n = false) (r : List UInt8) :
    txF (.cons 1 sp n ats tx kids rest) false ++ r = openL n.data.toList ats ++ (txF kids false ++ (endL n.data.toList ++ (txF rest false ++ r))) := by
  rw [txF, show ahL 1 n.data.toList ats tx.data.toList false = openL n.data.toList ats from if_pos rfl, if_pos ⟨rfl, h4⟩, h5]
  simp only [List.append_assoc]
theorem tx_tx {sp : Int} {n : ByteArray} {ats : List (ByteArray × ByteArray)} {tx : ByteArray} {kids rest : Forest} (r : List UInt8) :
    txF (.cons 2 sp n ats tx kids rest) false ++ r = escL false tx.data.toList ++ (txF rest false ++ r) := by
  rw [txF, if_neg (fun h => absurd h.1 (by decide)), List.nil_append, show ahL 2 n.data.toList ats tx.data.toList false = escL false tx.data.toList by unfold ahL; simp, List.append_assoc]
theorem el_head {n : List UInt8} {ats : List (ByteArray × ByteArray)} (hn : nameB n = true) (X : List UInt8) : ∃ c r, openL n ats ++ X = 60 :: c :: r ∧ c ≠ 47 := by
  obtain ⟨h1, h2⟩ := name_all hn
  cases n with
  | nil => exact absurd rfl h2
  | cons c n =>
    rw [List.all_cons, Bool.and_eq_true] at h1
    exact ⟨c, _, by rw [openL_is]; rfl, (ok_not h1.1).2.2.2.1⟩
theorem cons_not_end (space k sp : Int) (n : ByteArray) (ats : List (ByteArray × ByteArray)) (tx : ByteArray) (kids rest : Forest) (hp : apartB (.cons k sp n ats tx kids rest) = true) (ha : allB (.cons k sp n ats tx kids rest) = true) (hs : smpB space (.cons k sp n ats tx kids rest) = true) (x y : List UInt8) (hy : Bnd y) (h : txF (.cons k sp n ats tx kids rest) false ++ x = y) : False := by
  cases nd_is ha hs with
  | el h1 h2 h3 h4 h5 h6 h7 h8 h9 h10 =>
    subst h1
    rw [tx_el h4 h5] at h
    obtain ⟨c, r, e, hc⟩ := el_head (ats := ats) h2 (txF kids false ++ (endL n.data.toList ++ (txF rest false ++ x)))
    rw [e] at h
    rcases hy with rfl | ⟨s, rfl⟩
    · cases h
    · injection h with _ h
      injection h with h _
      exact hc h
  | tx h1 h2 h3 h4 h5 h6 h7 =>
    subst h1
    rw [tx_tx] at h
    obtain ⟨c, r, e, hc⟩ := esc_ne h2 h3
    rw [e] at h
    rcases hy with rfl | ⟨s, rfl⟩
    · cases h
    · injection h with h _
      subst h
      cases hc
theorem tx_inj (space : Int) : ∀ (f g : Forest), apartB f = true → apartB g = true → allB f = true → allB g = true → smpB space f = true → smpB space g = true → ∀ r s, Bnd r → Bnd s → txF f false ++ r = txF g false ++ s → f = g ∧ r = s
  | .nil, .nil, _, _, _, _, _, _, r, s, _, _, h => ⟨rfl, h⟩
  | .nil, .cons k sp n ats tx kids rest, _, pg, _, ag, _, sg, r, s, hr, hs, h => (cons_not_end space k sp n ats tx kids rest pg ag sg s r hr h.symm).elim
  | .cons k sp n ats tx kids rest, .nil, pf, _, af, _, sf, _, r, s, hr, hs, h => (cons_not_end space k sp n ats tx kids rest pf af sf r s hs h).elim
  | .cons k sp n ats tx kids rest, .cons k' sp' n' ats' tx' kids' rest', pf, pg, af, ag, sf, sg, r, s, hr, hs, h => by
    have pf' := pf
    have pg' := pg
    rw [apartB, Bool.and_eq_true] at pf' pg'
    have af' := af
    have ag' := ag
    rw [allB, Bool.and_eq_true, Bool.and_eq_true] at af' ag'
    have sf' := sf
    have sg' := sg
    rw [smpB, Bool.and_eq_true] at sf' sg'
    cases nd_is af sf with
    | el h1 h2 h3 h4 h5 h6 h7 h8 h9 h10 =>
      subst h1
      rw [tx_el h4 h5] at h
      cases nd_is ag sg with
      | el i1 i2 i3 i4 i5 i6 i7 i8 i9 i10 =>
        subst i1
        rw [tx_el i4 i5] at h
        obtain ⟨e1, e2, h⟩ := tag_inj h2 i2 h3 i3 h
        obtain ⟨e3, h⟩ := tx_inj space kids kids' h8 i8 h9 i9 h10 i10 _ _ (Or.inr ⟨_, rfl⟩) (Or.inr ⟨_, rfl⟩) h
        rw [e1] at h
        have h2' : endL n'.data.toList ++ (txF rest false ++ r) = endL n'.data.toList ++ (txF rest' false ++ s) := h
        have h' := List.append_cancel_left h2'
        obtain ⟨e4, h''⟩ := tx_inj space rest rest' pf'.2 pg'.2 af'.2.2 ag'.2.2 sf'.2 sg'.2 r s hr hs h'
        have e5 := data_inj e1
        exact ⟨by rw [h6, i6, e5, e2, h7, i7, e3, e4], h''⟩
      | tx i1 i2 i3 i4 i5 i6 i7 =>
        subst i1
        rw [tx_tx] at h
        obtain ⟨c, q, e, hc⟩ := esc_ne i2 i3
        obtain ⟨c', q', e', _⟩ := el_head (ats := ats) h2 (txF kids false ++ (endL n.data.toList ++ (txF rest false ++ r)))
        rw [e, e'] at h
        injection h with h _
        subst h
        cases hc
    | tx h1 h2 h3 h4 h5 h6 h7 =>
      subst h1
      rw [tx_tx] at h
      cases nd_is ag sg with
      | el i1 i2 i3 i4 i5 i6 i7 i8 i9 i10 =>
        subst i1
        rw [tx_el i4 i5] at h
        obtain ⟨c, q, e, hc⟩ := esc_ne h2 h3
        obtain ⟨c', q', e', _⟩ := el_head (ats := ats') i2 (txF kids' false ++ (endL n'.data.toList ++ (txF rest' false ++ s)))
        rw [e, e'] at h
        injection h with h _
        subst h
        cases hc
      | tx i1 i2 i3 i4 i5 i6 i7 =>
        subst i1
        rw [tx_tx] at h
        have k1 : rest.kind0 ≠ 2 := fun e => by have := pf'.1; rw [e] at this; cases this
        have k2 : rest'.kind0 ≠ 2 := fun e => by have := pg'.1; rw [e] at this; cases this
        have sfe : ∀ l : List UInt8, (escL false l).all (fun c => c != 60) = true := fun l => all_imp (esc_safe false l false) fun c hc => by
          have hne : c ≠ 60 := by rintro rfl; exact absurd hc (by decide)
          simpa using hne
        obtain ⟨e1, h⟩ := span_uniq (fun c => c != 60) _ _ _ _ (sfe _) (sfe _) (rest_head rest r space af'.2.2 sf'.2 k1 hr) (rest_head rest' s space ag'.2.2 sg'.2 k2 hs) h
        obtain ⟨e4, h''⟩ := tx_inj space rest rest' pf'.2 pg'.2 af'.2.2 ag'.2.2 sf'.2 sg'.2 r s hr hs h
        have e5 := data_inj (esc_inj h2 i2 e1)
        exact ⟨by rw [h4, i4, h5, i5, h6, i6, h7, i7, e5, e4], h''⟩
end Go.Proofs.YtpfnjgkfombmpaaDoor

/-
  The law PrintApart (made by mk_lja.py).
-/
namespace Go.Proofs.YtpfnjgkfombmpaaDoor
open Go.RowKit
set_option linter.unusedVariables false
set_option linter.unusedSimpArgs false

set_option maxHeartbeats 1000000 in
theorem simple_none (q : Option Addr) (cap : Nat) (space : Int) (w : World) : Calls Tryd.prog 27 #[.slice q 0 cap, .int .i64 space] w fun e w' => e = .returned (.bool true) ∧ Below w.heap.size w w' := by
  go_enter Tryd.func27, Tryd.ntmps27
  go_wp2
  refine wp_loop_rounds 1 ?_
  rw [rounds_succ]; go_wp2
  go_ret
  exact ⟨rfl, Below.refl _ _⟩
set_option maxHeartbeats 2000000 in
set_option maxRecDepth 100000 in
theorem simple_some (f : Forest) (g o cap : Nat) (space : Int) (w : World) (hl : Lies f g o w) (hc : f.count ≤ 1000000)
    (ih : ∀ j k sp n ats tx kids, f.drop j = .cons k sp n ats tx kids (f.drop (j + 1)) → ∀ q cap W, Fo q kids W → Calls Tryd.prog 27 #[.slice q kids.len cap, .int .i64 space] W fun e w' => e = .returned (.bool (smpB space kids)) ∧ Below W.heap.size W w') :
    Calls Tryd.prog 27 #[.slice (some ⟨g, o, none⟩) f.len cap, .int .i64 space] w fun e w' => e = .returned (.bool (smpB space f)) ∧ Below w.heap.size w w' := by
  have HL := hide hl
  have IH := hide ih
  have hlc := f.len_count
  clear hl ih
  go_enter Tryd.func27, Tryd.ntmps27
  go_wp2
  go_loopw [10] (fun i wr => ∃ j : Nat, j ≤ f.len ∧ i = .int .i64 j ∧ smpB space (f.drop j) = smpB space f ∧ Below w.heap.size w wr) (fun i _ => f.len - (intOf i).toNat)
  case atStart => exact ⟨0, Nat.zero_le _, rfl, by rw [Forest.drop_zero], Below.refl _ _⟩
  case round =>
    obtain ⟨j, hj, rfl, hsj, hbw⟩ := hrel
    by_cases hp : j < f.len
    · have hpi : (j : Int) < (f.len : Int) := by omega
      have hji : (j : Int) ≤ 1000000 := by omega
      obtain ⟨k, sp, n, ats, tx, kids, hdr⟩ := f.drop_cons j hp
      have hl0 := ((unhide HL).drop j).below hbw
      rw [hdr] at hl0 hsj
      obtain ⟨⟨c0, c1, c2, ⟨qa, ca, c3, hsl⟩, c4, ⟨qk, ck, c5, _, hfk⟩⟩, _⟩ := hl0
      have hbA := (Below.refl wr.heap.size wr).alloc (Nat.le_refl _) (Obj.cells #[.int .i64 k, .int .i64 sp, .string n, .slice qa ats.length ca, .string tx, .slice qk kids.len ck] 31)
      have CG := hide (fun W => group_any n W)
      have CV := hide (fun W => void_any n W)
      have CK := hide (fun W (hW : Below wr.heap.size wr W) => unhide IH j k sp n ats tx kids hdr qk ck W ((show Fo qk kids wr from hfk).below hW))
      rw [smpB] at hsj
      have NO : Hid (badB space k sp n = true → smpB space f = false) := hide (fun h => by rw [← hsj, h]; rfl)
      have YES0 : Hid (badB space k sp n = false → smpB space kids = false → smpB space f = false) := hide (fun h h' => by rw [← hsj, h, h']; rfl)
      have YES1 : Hid (badB space k sp n = false → smpB space kids = true → smpB space (f.drop (j + 1)) = smpB space f) := hide (fun h h' => by rw [← hsj, h, h']; rfl)
      have HBA := hide hbA
      have HB1 := hide (tr2 hbw hbA)
      clear hsj hsl hfk hdr hbA hbw
      unfold badB at NO YES0 YES1
      generalize inB n.toList voidNs = vd at *
      generalize ofN n.toList = gr at *
      generalize ats.length = al at *
      by_cases h3 : k = 3
      · subst h3
        have HV := hide (unhide NO rfl)
        clear NO YES0 YES1 CK CV
        go_wp2_with fail
        refine (unhide CG _).mono ?_
        rintro e wg ⟨rfl, hwg⟩
        subst hwg
        clear CG
        go_wp2
        go_ret
        exact ⟨by rw [unhide HV]; rfl, unhide HB1⟩
      have e3 : (k == 3) = false := beq_eq_false_iff_ne.2 h3
      rw [e3, Bool.false_or] at NO YES0 YES1
      by_cases h1 : k = 1
      · subst h1
        rw [show ((1 : Int) == 1) = true from rfl, Bool.true_and] at NO YES0 YES1
        by_cases hsp : sp = space
        · have hsp' := hsp.symm
          subst hsp'
          have es : (space != space) = false := by simp
          rw [es, Bool.false_or] at NO YES0 YES1
          by_cases g15 : gr = 15
          · subst g15
            have HV := hide (unhide NO rfl)
            clear NO YES0 YES1 CK CV
            go_wp2_with fail
            refine (unhide CG _).mono ?_
            rintro e wg ⟨rfl, hwg⟩
            subst hwg
            clear CG
            go_wp2
            go_ret
            exact ⟨by rw [unhide HV]; rfl, unhide HB1⟩
          have e15 : (gr == 15) = false := beq_eq_false_iff_ne.2 g15
          have e15i : ((gr : Int) == 15) = false := beq_eq_false_iff_ne.2 (by omega)
          rw [e15, Bool.false_or] at NO YES0 YES1
          by_cases g16 : gr = 16
          · subst g16
            have HV := hide (unhide NO rfl)
            clear NO YES0 YES1 CK CV
            go_wp2_with fail
            refine (unhide CG _).mono ?_
            rintro e wg ⟨rfl, hwg⟩
            subst hwg
            clear CG
            go_wp2
            go_ret
            exact ⟨by rw [unhide HV]; rfl, unhide HB1⟩
          have e16 : (gr == 16) = false := beq_eq_false_iff_ne.2 g16
          have e16i : ((gr : Int) == 16) = false := beq_eq_false_iff_ne.2 (by omega)
          rw [e16, Bool.false_or] at NO YES0 YES1
          clear g15 g16 e15 e16
          cases vd with
          | true =>
            have HV := hide (unhide NO rfl)
            clear NO YES0 YES1 CK
            go_wp2_with fail
            refine (unhide CG _).mono ?_
            rintro e wg ⟨rfl, hwg⟩
            subst hwg
            clear CG
            go_wp2_with fail
            refine (unhide CV _).mono ?_
            rintro e wv ⟨rfl, hwv⟩
            subst hwv
            clear CV
            go_wp2
            go_ret
            exact ⟨by rw [unhide HV]; rfl, unhide HB1⟩
          | false =>
            have YES := hide (unhide YES0 rfl)
            have YES2 := hide (unhide YES1 rfl)
            clear NO YES0 YES1
            go_wp2_with fail
            refine (unhide CG _).mono ?_
            rintro e wg ⟨rfl, hwg⟩
            subst hwg
            clear CG
            go_wp2_with fail
            refine (unhide CV _).mono ?_
            rintro e wv ⟨rfl, hwv⟩
            subst hwv
            clear CV
            go_wp2_with fail
            refine (unhide CK _ (unhide HBA)).mono ?_
            rintro e w3 ⟨rfl, hb3⟩
            have HB3 := hide (tr2 (unhide HB1) hb3)
            clear CK hb3
            cases hS : smpB space kids with
            | false =>
              have HV := hide (unhide YES hS)
              go_wp2
              go_ret
              exact ⟨by rw [unhide HV]; rfl, unhide HB3⟩
            | true =>
              have HV := hide (unhide YES2 hS)
              go_wp2
              go_roundw
              case rel => exact ⟨j + 1, by omega, by go_num, unhide HV, unhide HB3⟩
              case measure => simp [intOf]; omega
        · have es : (sp != space) = true := by simpa using hsp
          rw [es, Bool.true_or] at NO
          have HV := hide (unhide NO rfl)
          clear NO YES0 YES1 CK CV hsp
          go_wp2_with fail
          refine (unhide CG _).mono ?_
          rintro e wg ⟨rfl, hwg⟩
          subst hwg
          clear CG
          go_wp2
          go_ret
          exact ⟨by rw [unhide HV]; rfl, unhide HB1⟩
      · have e1 : (k == 1) = false := beq_eq_false_iff_ne.2 h1
        rw [e1, Bool.false_and] at YES0 YES1
        have YES := hide (unhide YES0 rfl)
        have YES2 := hide (unhide YES1 rfl)
        clear NO YES0 YES1 CV h1 h3
        go_wp2_with fail
        refine (unhide CG _).mono ?_
        rintro e wg ⟨rfl, hwg⟩
        subst hwg
        clear CG
        go_wp2_with fail
        refine (unhide CK _ (unhide HBA)).mono ?_
        rintro e w3 ⟨rfl, hb3⟩
        have HB3 := hide (tr2 (unhide HB1) hb3)
        clear CK hb3
        cases hS : smpB space kids with
        | false =>
          have HV := hide (unhide YES hS)
          go_wp2
          go_ret
          exact ⟨by rw [unhide HV]; rfl, unhide HB3⟩
        | true =>
          have HV := hide (unhide YES2 hS)
          go_wp2
          go_roundw
          case rel => exact ⟨j + 1, by omega, by go_num, unhide HV, unhide HB3⟩
          case measure => simp [intOf]; omega
    · have hpi : ¬ (j : Int) < (f.len : Int) := by omega
      rw [f.drop_out j (by omega)] at hsj
      have HV : Hid (smpB space f = true) := hide hsj.symm
      have HX := hide hbw
      clear hp hsj hbw
      go_wp2
      go_ret
      exact ⟨by rw [unhide HV]; rfl, unhide HX⟩
theorem simple_any (space : Int) : ∀ (m : Nat) (f : Forest), f.count ≤ m → m ≤ 1000000 → ∀ (q : Option Addr) (cap : Nat) (w : World), Fo q f w → Calls Tryd.prog 27 #[.slice q f.len cap, .int .i64 space] w fun e w' => e = .returned (.bool (smpB space f)) ∧ Below w.heap.size w w'
  | m, f, hm, hM, q, cap, w, h => by
    rcases h with rfl | ⟨g, o, rfl, hl⟩
    · exact simple_none q cap space w
    · refine simple_some f g o cap space w hl (by omega) (fun j k sp n ats tx kids hd q cap W hf => ?_)
      have h1 : (f.drop j).count ≤ f.count := f.count_drop j
      rw [hd] at h1
      have h2 : 1 + kids.count + (f.drop (j + 1)).count ≤ f.count := h1
      match m, hm with
      | 0, hm => omega
      | m + 1, hm => exact simple_any space m kids (by omega) (by omega) q cap W hf
theorem tx_same {space : Int} {f g : Forest} (hf : rcheckN f = 0) (hg : rcheckN g = 0) (sf : smpB space f = true) (sg : smpB space g = true) : decide (bs (txF f false) = bs (txF g false)) = sameF f g := by
  have right : ∀ {f : Forest}, rcheckN f = 0 → apartB f = true ∧ allB f = true := fun {f} h => by
    unfold rcheckN at h
    by_cases h1 : 300 < f.count ∨ 40 < f.depth
    · rw [if_pos h1] at h; cases h
    · rw [if_neg h1] at h
      by_cases h2 : rightN f = true
      · unfold rightN at h2; rw [Bool.and_eq_true] at h2; exact h2
      · rw [if_neg h2] at h; cases h
  obtain ⟨a1, a2⟩ := right hf
  obtain ⟨b1, b2⟩ := right hg
  by_cases h : f = g
  · subst h
    rw [(sameF_eq f f).2 rfl]; exact decide_eq_true rfl
  · have h1 : sameF f g = false := by
      cases hx : sameF f g with
      | false => rfl
      | true => exact absurd ((sameF_eq f g).1 hx) h
    rw [h1]
    refine decide_eq_false fun e => h ?_
    have e' : txF f false = txF g false := by
      have := congrArg (fun z : ByteArray => z.data.toList) e
      simpa [bs] using this
    exact (tx_inj space f g a1 b1 a2 b2 sf sg [] [] (Or.inl rfl) (Or.inl rfl) (by rw [e'])).1
set_option maxHeartbeats 2000000 in
set_option maxRecDepth 100000 in
theorem papart_walk (f g : Forest) (space : Int) (qa qb : Option Addr) (ca cb : Nat) (w : World) (ht : Tabs w) (hm : MxJ w) (hf : Fo qa f w) (hg : Fo qb g w) (hca : f.len ≤ ca) (hcb : g.len ≤ cb) :
    Calls Tryd.prog 7 #[.slice qa f.len ca, .slice qb g.len cb, .int .i64 space] w fun e w' => e = .returned (.bool true) ∧ Below w.heap.size w w' := by
  have CL := hide (large13_any f qa ca w hf)
  have CM := hide (fun (W : World) (hW : Below w.heap.size w W) => large13_any g qb cb W (hg.below hW))
  have CP := hide (fun (W : World) (hW : Below w.heap.size w W) => para_any W (ht.below hW) (hm.below hW))
  obtain ⟨lb, lN, hlg⟩ : ∃ lb lN, lgT 1 f 800 = (lb, lN) := ⟨_, _, rfl⟩
  obtain ⟨mb, mN, hmg⟩ : ∃ lb lN, lgT 1 g 800 = (lb, lN) := ⟨_, _, rfl⟩
  rw [hlg] at CL
  rw [hmg] at CM
  dsimp only at CL CM
  cases lb with
  | true =>
    generalize f.len = fl at *
    generalize g.len = gl at *
    clear hf hg ht hm hlg hmg hca hcb CM
    go_enter Tryd.func7, Tryd.ntmps7
    go_wp2_with fail
    refine (unhide CL).mono ?_
    rintro e w1 ⟨rfl, hb⟩
    have HB' := hide hb
    clear CL hb
    have HB := HB'
    clear HB'
    have DP := hide (unhide CP w1 (unhide HB))
    clear CP
    go_wp2_with fail
    refine (unhide DP).mono ?_
    rintro e w2 ⟨rfl, hb⟩
    have HB' := hide (tr2 (unhide HB) hb)
    clear HB DP hb
    have HB := HB'
    clear HB'
    go_wp2
    go_ret
    exact ⟨rfl, unhide HB⟩
  | false =>
  cases mb with
  | true =>
    generalize f.len = fl at *
    generalize g.len = gl at *
    clear hf hg ht hm hlg hmg hca hcb
    go_enter Tryd.func7, Tryd.ntmps7
    go_wp2_with fail
    refine (unhide CL).mono ?_
    rintro e w1 ⟨rfl, hb⟩
    have HB' := hide hb
    clear CL hb
    have HB := HB'
    clear HB'
    have D0 := hide (unhide CM w1 (unhide HB))
    clear CM
    go_wp2_with fail
    refine (unhide D0).mono ?_
    rintro e w2 ⟨rfl, hb⟩
    have HB' := hide (tr2 (unhide HB) hb)
    clear HB D0 hb
    have HB := HB'
    clear HB'
    have DP := hide (unhide CP w2 (unhide HB))
    clear CP
    go_wp2_with fail
    refine (unhide DP).mono ?_
    rintro e w3 ⟨rfl, hb⟩
    have HB' := hide (tr2 (unhide HB) hb)
    clear HB DP hb
    have HB := HB'
    clear HB'
    go_wp2
    go_ret
    exact ⟨rfl, unhide HB⟩
  | false =>
  obtain ⟨hs, hn⟩ := lgT_small (by omega) hlg
  have hr := lgT_room 1 f 800 lN hlg
  obtain ⟨hs', hn'⟩ := lgT_small (by omega) hmg
  have hr' := lgT_room 1 g 800 mN hmg
  have hc : f.count ≤ 800 := by omega
  have hc' : g.count ≤ 800 := by omega
  have hfl := f.len_count
  have hgl := g.len_count
  have CX := hide (fun (W : World) (hW : Below w.heap.size w W) => rcheck_any f qa ca W (hf.below hW) hs (by omega))
  have CY := hide (fun (W : World) (hW : Below w.heap.size w W) => rcheck_any g qb cb W (hg.below hW) hs' (by omega))
  have CS := hide (fun (W : World) (hW : Below w.heap.size w W) => simple_any space f.count f (Nat.le_refl _) (by omega) qa ca W (hf.below hW))
  have CT := hide (fun (W : World) (hW : Below w.heap.size w W) => simple_any space g.count g (Nat.le_refl _) (by omega) qb cb W (hg.below hW))
  have CA := hide (fun (W : World) (hW : Below w.heap.size w W) => ptext_any f qa ca W (ht.below hW) (hf.below hW) hs hca (by omega))
  have CB := hide (fun (W : World) (hW : Below w.heap.size w W) => ptext_any g qb cb W (ht.below hW) (hg.below hW) hs' hcb (by omega))
  have CN := hide (fun (W : World) (hW : Below w.heap.size w W) => nodes_any f.count f (Nat.le_refl _) (by omega) hs g qa qb ca cb W (hf.below hW) (hg.below hW) hs' (by omega))
  have HIN := hide (fun h1 h2 h3 h4 => tx_same (space := space) (f := f) (g := g) h1 h2 h3 h4)
  generalize rcheckN f = xf at *
  generalize rcheckN g = xg at *
  generalize smpB space f = yf at *
  generalize smpB space g = yg at *
  generalize sameF f g = S at *
  generalize f.len = fl at *
  generalize g.len = gl at *
  clear hf hg ht hm hlg hmg hca hcb hs hs' hn hn' hr hr' hc hc' hfl hgl
  by_cases h1 : xf = 0
  · subst h1
    by_cases h2 : xg = 0
    · subst h2
      cases yf with
      | false =>
        clear CA CB CN HIN CT
        go_enter Tryd.func7, Tryd.ntmps7
        go_wp2_with fail
        refine (unhide CL).mono ?_
        rintro e w1 ⟨rfl, hb⟩
        have HB' := hide hb
        clear CL hb
        have HB := HB'
        clear HB'
        have D0 := hide (unhide CM w1 (unhide HB))
        clear CM
        go_wp2_with fail
        refine (unhide D0).mono ?_
        rintro e w2 ⟨rfl, hb⟩
        have HB' := hide (tr2 (unhide HB) hb)
        clear HB D0 hb
        have HB := HB'
        clear HB'
        have D1 := hide (unhide CX w2 (unhide HB))
        clear CX
        go_wp2_with fail
        refine (unhide D1).mono ?_
        rintro e w3 ⟨rfl, hb⟩
        have HB' := hide (tr2 (unhide HB) hb)
        clear HB D1 hb
        have HB := HB'
        clear HB'
        have D2 := hide (unhide CY w3 (unhide HB))
        clear CY
        go_wp2_with fail
        refine (unhide D2).mono ?_
        rintro e w4 ⟨rfl, hb⟩
        have HB' := hide (tr2 (unhide HB) hb)
        clear HB D2 hb
        have HB := HB'
        clear HB'
        have D3 := hide (unhide CS w4 (unhide HB))
        clear CS
        go_wp2_with fail
        refine (unhide D3).mono ?_
        rintro e w5 ⟨rfl, hb⟩
        have HB' := hide (tr2 (unhide HB) hb)
        clear HB D3 hb
        have HB := HB'
        clear HB'
        have DP := hide (unhide CP w5 (unhide HB))
        clear CP
        go_wp2_with fail
        refine (unhide DP).mono ?_
        rintro e w6 ⟨rfl, hb⟩
        have HB' := hide (tr2 (unhide HB) hb)
        clear HB DP hb
        have HB := HB'
        clear HB'
        go_wp2
        go_ret
        exact ⟨rfl, unhide HB⟩
      | true =>
        cases yg with
        | false =>
          clear CA CB CN HIN
          go_enter Tryd.func7, Tryd.ntmps7
          go_wp2_with fail
          refine (unhide CL).mono ?_
          rintro e w1 ⟨rfl, hb⟩
          have HB' := hide hb
          clear CL hb
          have HB := HB'
          clear HB'
          have D0 := hide (unhide CM w1 (unhide HB))
          clear CM
          go_wp2_with fail
          refine (unhide D0).mono ?_
          rintro e w2 ⟨rfl, hb⟩
          have HB' := hide (tr2 (unhide HB) hb)
          clear HB D0 hb
          have HB := HB'
          clear HB'
          have D1 := hide (unhide CX w2 (unhide HB))
          clear CX
          go_wp2_with fail
          refine (unhide D1).mono ?_
          rintro e w3 ⟨rfl, hb⟩
          have HB' := hide (tr2 (unhide HB) hb)
          clear HB D1 hb
          have HB := HB'
          clear HB'
          have D2 := hide (unhide CY w3 (unhide HB))
          clear CY
          go_wp2_with fail
          refine (unhide D2).mono ?_
          rintro e w4 ⟨rfl, hb⟩
          have HB' := hide (tr2 (unhide HB) hb)
          clear HB D2 hb
          have HB := HB'
          clear HB'
          have D3 := hide (unhide CS w4 (unhide HB))
          clear CS
          go_wp2_with fail
          refine (unhide D3).mono ?_
          rintro e w5 ⟨rfl, hb⟩
          have HB' := hide (tr2 (unhide HB) hb)
          clear HB D3 hb
          have HB := HB'
          clear HB'
          have D4 := hide (unhide CT w5 (unhide HB))
          clear CT
          go_wp2_with fail
          refine (unhide D4).mono ?_
          rintro e w6 ⟨rfl, hb⟩
          have HB' := hide (tr2 (unhide HB) hb)
          clear HB D4 hb
          have HB := HB'
          clear HB'
          have DP := hide (unhide CP w6 (unhide HB))
          clear CP
          go_wp2_with fail
          refine (unhide DP).mono ?_
          rintro e w7 ⟨rfl, hb⟩
          have HB' := hide (tr2 (unhide HB) hb)
          clear HB DP hb
          have HB := HB'
          clear HB'
          go_wp2
          go_ret
          exact ⟨rfl, unhide HB⟩
        | true =>
          have HI := hide (unhide HIN rfl rfl rfl rfl)
          clear HIN
          generalize bs (txF f false) = t1 at *
          generalize bs (txF g false) = t2 at *
          cases S with
          | true =>
            have e := of_decide_eq_true (unhide HI)
            subst e
            have eT := beq_yes (rfl : t1 = t1)
            clear HI
            go_enter Tryd.func7, Tryd.ntmps7
            go_wp2_with fail
            refine (unhide CL).mono ?_
            rintro e w1 ⟨rfl, hb⟩
            have HB' := hide hb
            clear CL hb
            have HB := HB'
            clear HB'
            have D0 := hide (unhide CM w1 (unhide HB))
            clear CM
            go_wp2_with fail
            refine (unhide D0).mono ?_
            rintro e w2 ⟨rfl, hb⟩
            have HB' := hide (tr2 (unhide HB) hb)
            clear HB D0 hb
            have HB := HB'
            clear HB'
            have D1 := hide (unhide CX w2 (unhide HB))
            clear CX
            go_wp2_with fail
            refine (unhide D1).mono ?_
            rintro e w3 ⟨rfl, hb⟩
            have HB' := hide (tr2 (unhide HB) hb)
            clear HB D1 hb
            have HB := HB'
            clear HB'
            have D2 := hide (unhide CY w3 (unhide HB))
            clear CY
            go_wp2_with fail
            refine (unhide D2).mono ?_
            rintro e w4 ⟨rfl, hb⟩
            have HB' := hide (tr2 (unhide HB) hb)
            clear HB D2 hb
            have HB := HB'
            clear HB'
            have D3 := hide (unhide CS w4 (unhide HB))
            clear CS
            go_wp2_with fail
            refine (unhide D3).mono ?_
            rintro e w5 ⟨rfl, hb⟩
            have HB' := hide (tr2 (unhide HB) hb)
            clear HB D3 hb
            have HB := HB'
            clear HB'
            have D4 := hide (unhide CT w5 (unhide HB))
            clear CT
            go_wp2_with fail
            refine (unhide D4).mono ?_
            rintro e w6 ⟨rfl, hb⟩
            have HB' := hide (tr2 (unhide HB) hb)
            clear HB D4 hb
            have HB := HB'
            clear HB'
            have D5 := hide (unhide CA w6 (unhide HB))
            clear CA
            go_wp2_with fail
            refine (unhide D5).mono ?_
            rintro e w7 ⟨rfl, hb⟩
            have HB' := hide (tr2 (unhide HB) hb)
            clear HB D5 hb
            have HB := HB'
            clear HB'
            have D6 := hide (unhide CB w7 (unhide HB))
            clear CB
            go_wp2_with fail
            refine (unhide D6).mono ?_
            rintro e w8 ⟨rfl, hb⟩
            have HB' := hide (tr2 (unhide HB) hb)
            clear HB D6 hb
            have HB := HB'
            clear HB'
            have D7 := hide (unhide CN w8 (unhide HB))
            clear CN
            go_wp2_with fail
            refine (unhide D7).mono ?_
            rintro e w9 ⟨rfl, hb⟩
            have HB' := hide (tr2 (unhide HB) hb)
            clear HB D7 hb
            have HB := HB'
            clear HB'
            have D8 := hide (unhide CP w9 (unhide HB))
            clear CP
            go_wp2_with fail
            refine (unhide D8).mono ?_
            rintro e w10 ⟨rfl, hb⟩
            have HB' := hide (tr2 (unhide HB) hb)
            clear HB D8 hb
            have HB := HB'
            clear HB'
            go_wp2
            go_ret
            exact ⟨rfl, unhide HB⟩
          | false =>
            have e := of_decide_eq_false (unhide HI)
            have eT := beq_no e
            clear HI e
            go_enter Tryd.func7, Tryd.ntmps7
            go_wp2_with fail
            refine (unhide CL).mono ?_
            rintro e w1 ⟨rfl, hb⟩
            have HB' := hide hb
            clear CL hb
            have HB := HB'
            clear HB'
            have D0 := hide (unhide CM w1 (unhide HB))
            clear CM
            go_wp2_with fail
            refine (unhide D0).mono ?_
            rintro e w2 ⟨rfl, hb⟩
            have HB' := hide (tr2 (unhide HB) hb)
            clear HB D0 hb
            have HB := HB'
            clear HB'
            have D1 := hide (unhide CX w2 (unhide HB))
            clear CX
            go_wp2_with fail
            refine (unhide D1).mono ?_
            rintro e w3 ⟨rfl, hb⟩
            have HB' := hide (tr2 (unhide HB) hb)
            clear HB D1 hb
            have HB := HB'
            clear HB'
            have D2 := hide (unhide CY w3 (unhide HB))
            clear CY
            go_wp2_with fail
            refine (unhide D2).mono ?_
            rintro e w4 ⟨rfl, hb⟩
            have HB' := hide (tr2 (unhide HB) hb)
            clear HB D2 hb
            have HB := HB'
            clear HB'
            have D3 := hide (unhide CS w4 (unhide HB))
            clear CS
            go_wp2_with fail
            refine (unhide D3).mono ?_
            rintro e w5 ⟨rfl, hb⟩
            have HB' := hide (tr2 (unhide HB) hb)
            clear HB D3 hb
            have HB := HB'
            clear HB'
            have D4 := hide (unhide CT w5 (unhide HB))
            clear CT
            go_wp2_with fail
            refine (unhide D4).mono ?_
            rintro e w6 ⟨rfl, hb⟩
            have HB' := hide (tr2 (unhide HB) hb)
            clear HB D4 hb
            have HB := HB'
            clear HB'
            have D5 := hide (unhide CA w6 (unhide HB))
            clear CA
            go_wp2_with fail
            refine (unhide D5).mono ?_
            rintro e w7 ⟨rfl, hb⟩
            have HB' := hide (tr2 (unhide HB) hb)
            clear HB D5 hb
            have HB := HB'
            clear HB'
            have D6 := hide (unhide CB w7 (unhide HB))
            clear CB
            go_wp2_with fail
            refine (unhide D6).mono ?_
            rintro e w8 ⟨rfl, hb⟩
            have HB' := hide (tr2 (unhide HB) hb)
            clear HB D6 hb
            have HB := HB'
            clear HB'
            have D7 := hide (unhide CN w8 (unhide HB))
            clear CN
            go_wp2_with fail
            refine (unhide D7).mono ?_
            rintro e w9 ⟨rfl, hb⟩
            have HB' := hide (tr2 (unhide HB) hb)
            clear HB D7 hb
            have HB := HB'
            clear HB'
            have D8 := hide (unhide CP w9 (unhide HB))
            clear CP
            go_wp2_with fail
            refine (unhide D8).mono ?_
            rintro e w10 ⟨rfl, hb⟩
            have HB' := hide (tr2 (unhide HB) hb)
            clear HB D8 hb
            have HB := HB'
            clear HB'
            go_wp2
            go_ret
            exact ⟨rfl, unhide HB⟩
    · have e2 : (xg != 0) = true := by simpa using h2
      have e2' : (xg == 0) = false := beq_eq_false_iff_ne.2 h2
      clear CA CB CN HIN CS CT h2
      go_enter Tryd.func7, Tryd.ntmps7
      go_wp2_with fail
      refine (unhide CL).mono ?_
      rintro e w1 ⟨rfl, hb⟩
      have HB' := hide hb
      clear CL hb
      have HB := HB'
      clear HB'
      have D0 := hide (unhide CM w1 (unhide HB))
      clear CM
      go_wp2_with fail
      refine (unhide D0).mono ?_
      rintro e w2 ⟨rfl, hb⟩
      have HB' := hide (tr2 (unhide HB) hb)
      clear HB D0 hb
      have HB := HB'
      clear HB'
      have D1 := hide (unhide CX w2 (unhide HB))
      clear CX
      go_wp2_with fail
      refine (unhide D1).mono ?_
      rintro e w3 ⟨rfl, hb⟩
      have HB' := hide (tr2 (unhide HB) hb)
      clear HB D1 hb
      have HB := HB'
      clear HB'
      have D2 := hide (unhide CY w3 (unhide HB))
      clear CY
      go_wp2_with fail
      refine (unhide D2).mono ?_
      rintro e w4 ⟨rfl, hb⟩
      have HB' := hide (tr2 (unhide HB) hb)
      clear HB D2 hb
      have HB := HB'
      clear HB'
      have DP := hide (unhide CP w4 (unhide HB))
      clear CP
      go_wp2_with fail
      refine (unhide DP).mono ?_
      rintro e w5 ⟨rfl, hb⟩
      have HB' := hide (tr2 (unhide HB) hb)
      clear HB DP hb
      have HB := HB'
      clear HB'
      go_wp2
      go_ret
      exact ⟨rfl, unhide HB⟩
  · have e1 : (xf != 0) = true := by simpa using h1
    have e1' : (xf == 0) = false := beq_eq_false_iff_ne.2 h1
    clear CA CB CN HIN CS CT CY h1
    go_enter Tryd.func7, Tryd.ntmps7
    go_wp2_with fail
    refine (unhide CL).mono ?_
    rintro e w1 ⟨rfl, hb⟩
    have HB' := hide hb
    clear CL hb
    have HB := HB'
    clear HB'
    have D0 := hide (unhide CM w1 (unhide HB))
    clear CM
    go_wp2_with fail
    refine (unhide D0).mono ?_
    rintro e w2 ⟨rfl, hb⟩
    have HB' := hide (tr2 (unhide HB) hb)
    clear HB D0 hb
    have HB := HB'
    clear HB'
    have D1 := hide (unhide CX w2 (unhide HB))
    clear CX
    go_wp2_with fail
    refine (unhide D1).mono ?_
    rintro e w3 ⟨rfl, hb⟩
    have HB' := hide (tr2 (unhide HB) hb)
    clear HB D1 hb
    have HB := HB'
    clear HB'
    have DP := hide (unhide CP w3 (unhide HB))
    clear CP
    go_wp2_with fail
    refine (unhide DP).mono ?_
    rintro e w4 ⟨rfl, hb⟩
    have HB' := hide (tr2 (unhide HB) hb)
    clear HB DP hb
    have HB := HB'
    clear HB'
    go_wp2
    go_ret
    exact ⟨rfl, unhide HB⟩
end Go.Proofs.YtpfnjgkfombmpaaDoor

/-
  An argument of type []api.Node opened: the nodes behind it, with all that is below them.
-/
namespace Go.Proofs.YtpfnjgkfombmpaaDoor
open Go.RowKit Go.Deep Go.WideShapes Go.ChangeShapes
set_option linter.unusedVariables false
set_option linter.unusedSimpArgs false

theorem fattr_cells : Tryd.prog.cellsOf 55 = 2 := by kernel_rfl
theorem fstr_cells : Tryd.prog.cellsOf 9 = 1 := by kernel_rfl
theorem fint_cells : Tryd.prog.cellsOf 3 = 1 := by kernel_rfl
theorem fattrs_cells : Tryd.prog.cellsOf 29 = 1 := by kernel_rfl
theorem fnodes_cells : Tryd.prog.cellsOf 22 = 1 := by kernel_rfl
theorem fnode_cells : Tryd.prog.cellsOf 31 = 6 := by kernel_rfl
theorem fadd_addr (a : Addr) (x y : Nat) : (a.add x).add y = a.add (x + y) := by
  unfold Addr.add
  by_cases h1 : x = 0
  · subst h1; simp
  · by_cases h2 : y = 0
    · subst h2; simp [h1]
    · simp [h1, h2, Nat.add_assoc]
def fstrOf : Value → ByteArray
  | .string s => s
  | _ => ByteArray.empty
def fmkAts (V0 V1 : Nat → Value) (len : Nat) : List (ByteArray × ByteArray) := (List.range len).map fun i => (fstrOf (V0 i), fstrOf (V1 i))
theorem fmkAts_len (V0 V1 : Nat → Value) (len : Nat) : (fmkAts V0 V1 len).length = len := by simp [fmkAts]
theorem fmkAts_an {V0 V1 : Nat → Value} {len k : Nat} (h : k < len) : an (fmkAts V0 V1 len) k = fstrOf (V0 k) := by simp [an, fmkAts, List.getD, h]
theorem fmkAts_av {V0 V1 : Nat → Value} {len k : Nat} (h : k < len) : av (fmkAts V0 V1 len) k = fstrOf (V1 k) := by simp [av, fmkAts, List.getD, h]
theorem open_fattrs {H : Type} {enc : TypeId × Value → H} {W : World} {fuel : Nat} {v : Value} {x : DataW H × List MemPlace}
    (h : DataW.trod enc Tryd.prog W 0 (fun _ => true) true fuel 29 [v] = some x) :
    ∃ (ats : List (ByteArray × ByteArray)) (q : Option Addr) (c : Nat), v = .slice q ats.length c ∧ Sl q ats W := by
  rcases open_slice_pairs Tryd.underlying29 Tryd.underlying55 fattr_cells rfl rfl fstr_cells fstr_cells h with ⟨hc, hx⟩ | ⟨a, len, cap, m, k, V0, V1, D0, D1, P0, P1, hc, _, hl, hm, hmm, hx, hall⟩
  · simp only [List.cons.injEq, and_true] at hc
    exact ⟨[], none, 0, hc, Or.inl rfl⟩
  · simp only [List.cons.injEq, and_true] at hc
    simp only [if_true] at hmm
    subst hmm
    have hs0 : ∀ i, i < m → V0 i = .string (fstrOf (V0 i)) := fun i hi => by
      obtain ⟨s, h1, h2, h3⟩ := DataW.trod_string Tryd.underlying9 (hall i hi).2.2.1
      simp only [List.cons.injEq, and_true] at h1
      rw [h1]; rfl
    have hs1 : ∀ i, i < m → V1 i = .string (fstrOf (V1 i)) := fun i hi => by
      obtain ⟨s, h1, h2, h3⟩ := DataW.trod_string Tryd.underlying9 (hall i hi).2.2.2
      simp only [List.cons.injEq, and_true] at h1
      rw [h1]; rfl
    refine ⟨fmkAts V0 V1 len, some a, m, by rw [fmkAts_len]; exact hc, ?_⟩
    by_cases h0 : len = 0
    · subst h0; exact Or.inl rfl
    · obtain ⟨sb, so, spot⟩ := a
      have hspot : spot = none := by simpa [Addr.add] using World.cell?_spot (hall 0 (by omega)).1
      subst hspot
      refine Or.inr ⟨sb, so, rfl, fun k hk => ?_⟩
      rw [fmkAts_len] at hk
      rw [fmkAts_an hk, fmkAts_av hk]
      have e0 := (hall k (by omega)).1
      have e1 := (hall k (by omega)).2.1
      rw [hs0 k (by omega)] at e0
      rw [hs1 k (by omega)] at e1
      rw [Addr.add_lit] at e0 e1
      exact ⟨e0, by rw [Nat.add_assoc]; exact e1⟩
/-- One node at a place. -/
def NodeAt (g o : Nat) (w : World) : Prop := ∃ k sp n ats tx kids,
  w.cell? ⟨g, o, none⟩ = some (.int .i64 k) ∧ w.cell? ⟨g, o + 1, none⟩ = some (.int .i64 sp) ∧ w.cell? ⟨g, o + 2, none⟩ = some (.string n) ∧
      (∃ qa ca, w.cell? ⟨g, o + 3, none⟩ = some (.slice qa (ats : List (ByteArray × ByteArray)).length ca) ∧ Sl qa ats w) ∧ w.cell? ⟨g, o + 4, none⟩ = some (.string tx) ∧
      ∃ qk ck, w.cell? ⟨g, o + 5, none⟩ = some (.slice qk (kids : Forest).len ck) ∧ kids.len ≤ ck ∧ (kids = .nil ∨ ∃ g' o', qk = some ⟨g', o', none⟩ ∧ Lies kids g' o' w)
theorem forest_of {g : Nat} {w : World} : ∀ (len o : Nat), (∀ i, i < len → NodeAt g (o + i * 6) w) → ∃ f : Forest, f.len = len ∧ Lies f g o w
  | 0, o, h => ⟨.nil, rfl, trivial⟩
  | len + 1, o, h => by
    obtain ⟨k, sp, n, ats, tx, kids, hn⟩ := h 0 (by omega)
    obtain ⟨f, hf, hl⟩ := forest_of len (o + 6) (fun i hi => by have := h (i + 1) (by omega); rw [show o + (i + 1) * 6 = o + 6 + i * 6 by omega] at this; exact this)
    rw [Nat.zero_mul, Nat.add_zero] at hn
    exact ⟨.cons k sp n ats tx kids f, by simp [Forest.len, hf], hn, hl⟩
theorem size_mem {H : Type} {d : DataW H} {l : List (DataW H)} (h : d ∈ l) : SizeOf.sizeOf d < SizeOf.sizeOf l := List.sizeOf_lt_of_mem h
set_option maxRecDepth 100000 in
theorem open_forest {H : Type} {enc : TypeId × Value → H} {W : World} : ∀ (sz : Nat) (fuel : Nat) (v : Value) (d : DataW H) (ps : List MemPlace), SizeOf.sizeOf d ≤ sz →
    DataW.trod enc Tryd.prog W 0 (fun _ => true) true fuel 22 [v] = some (d, ps) → ∃ (f : Forest) (q : Option Addr) (cap : Nat), v = .slice q f.len cap ∧ f.len ≤ cap ∧ Fo q f W
  | 0, fuel, v, d, ps, hs, h => by cases d <;> simp at hs
  | sz + 1, fuel, v, d, ps, hs, h => by
    rcases open_slice Tryd.underlying22 h with ⟨hc, hx⟩ | ⟨a, len, cap, m, k, D, Pl, hc, _, hl, hm, hmm, hx, hall⟩
    · simp only [List.cons.injEq, and_true] at hc
      exact ⟨.nil, none, 0, hc, Nat.le_refl _, Or.inl rfl⟩
    · simp only [List.cons.injEq, and_true] at hc
      simp only [if_true] at hmm
      subst hmm
      have hd : d = .slice ((List.range len).map D) ((List.range (m - len)).map fun j => D (len + j)) := congrArg Prod.fst hx
      have hsz : ∀ i, i < len → SizeOf.sizeOf (D i) < SizeOf.sizeOf d := fun i hi => by
        have h1 : D i ∈ (List.range len).map D := List.mem_map.2 ⟨i, List.mem_range.2 hi, rfl⟩
        have h2 := size_mem h1
        rw [hd]
        simp only [DataW.slice.sizeOf_spec]
        omega
      by_cases h0 : len = 0
      · subst h0
        exact ⟨.nil, some a, m, hc, Nat.zero_le _, Or.inl rfl⟩
      have each : ∀ i, i < len → ∃ cs', (∀ j, j < 6 → W.cell? (a.add (i * 6 + j)) = cs'[j]?) ∧ DataW.trod enc Tryd.prog W 0 (fun _ => true) true k 31 cs' = some (D i, Pl i) := fun i hi => by
        obtain ⟨cs', h1, h2⟩ := hall i (by omega)
        rw [fnode_cells] at h1
        obtain ⟨_, hlen, hcell⟩ := World.cells?_some h1
        exact ⟨cs', fun j hj => by have := hcell j hj; rw [fadd_addr] at this; exact this, h2⟩
      obtain ⟨b, o, spot⟩ := a
      have hspot : spot = none := by
        obtain ⟨cs', h1, h2⟩ := each 0 (by omega)
        obtain ⟨xs, k', _, _, hl', _, _⟩ := DataW.trod_struct Tryd.underlying31 h2
        rw [fnode_cells] at hl'
        have h3 := h1 0 (by omega)
        rw [List.getElem?_eq_getElem (by omega)] at h3
        simpa [Addr.add] using World.cell?_spot h3
      subst hspot
      have hnode : ∀ i, i < len → NodeAt b (o + i * 6) W := fun i hi => by
        obtain ⟨cs', h1, h2⟩ := each i hi
        have hszi := hsz i hi
        generalize D i = di at *
        generalize Pl i = pi at *
        obtain ⟨xs, k', _, hxe, hl', hxl, hf⟩ := DataW.trod_struct Tryd.underlying31 h2
        rw [fnode_cells] at hl'
        match cs', hl', xs, hxl with
        | [c0, c1, c2, c3, c4, c5], _, [y0, y1, y2, y3, y4, y5], _ =>
          have g0 := hf 0 _ rfl
          have g1 := hf 1 _ rfl
          have g2 := hf 2 _ rfl
          have g3 := hf 3 _ rfl
          have g4 := hf 4 _ rfl
          have g5 := hf 5 _ rfl
          simp [fint_cells, fstr_cells, fattrs_cells, fnodes_cells] at g0 g1 g2 g3 g4 g5
          obtain ⟨ki, e0', _⟩ := DataW.trod_int Tryd.underlying3 g0
          obtain ⟨spi, e1', _⟩ := DataW.trod_int Tryd.underlying3 g1
          obtain ⟨ni, e2', _⟩ := DataW.trod_string Tryd.underlying9 g2
          obtain ⟨ats, qa, ca, e3', hsl⟩ := open_fattrs g3
          obtain ⟨ti, e4', _⟩ := DataW.trod_string Tryd.underlying9 g4
          obtain ⟨y5d, y5p⟩ := y5
          have hdi : di = .agg [y0.1, y1.1, y2.1, y3.1, y4.1, y5d] := by have := congrArg Prod.fst hxe; simpa using this
          have hs5 : SizeOf.sizeOf y5d ≤ sz := by
            rw [hdi] at hszi
            simp only [DataW.agg.sizeOf_spec, List.cons.sizeOf_spec] at hszi
            omega
          obtain ⟨kf, qk, ck, e5', hck, hkf⟩ := open_forest sz k' c5 y5d y5p hs5 g5
          simp at e0' e1' e2' e4'
          have z := fun j hj => h1 j hj
          have z0 := z 0 (by omega)
          have z1 := z 1 (by omega)
          have z2 := z 2 (by omega)
          have z3 := z 3 (by omega)
          have z4 := z 4 (by omega)
          have z5 := z 5 (by omega)
          rw [Addr.add_lit] at z0 z1 z2 z3 z4 z5
          simp only [List.getElem?_cons_zero, List.getElem?_cons_succ] at z0 z1 z2 z3 z4 z5
          refine ⟨ki, spi, ni, ats, ti, kf, ?_, ?_, ?_, ⟨qa, ca, ?_, hsl⟩, ?_, qk, ck, ?_, hck, hkf⟩
          · rw [← e0']; exact z0
          · rw [Nat.add_assoc, ← e1']; exact z1
          · rw [Nat.add_assoc, ← e2']; exact z2
          · rw [Nat.add_assoc, ← e3']; exact z3
          · rw [Nat.add_assoc, ← e4']; exact z4
          · rw [Nat.add_assoc, ← e5']; exact z5
      obtain ⟨f, hf, hlf⟩ := forest_of len o hnode
      exact ⟨f, some ⟨b, o, none⟩, m, by rw [hf]; exact hc, by omega, Or.inr ⟨b, o, rfl, hlf⟩⟩
theorem open_nodes {H : Type} {enc : TypeId × Value → H} {W : World} {qa : Option Addr} {len cap : Nat} {d : DataW H} {ps : List MemPlace}
    (h : DataW.Trod enc Tryd.prog W 0 (fun _ => true) true 22 (.slice qa len cap) d ps) : ∃ f : Forest, f.len = len ∧ len ≤ cap ∧ Fo qa f W := by
  obtain ⟨n, t0⟩ := h
  have t1 : DataW.trod enc Tryd.prog W 0 (fun _ => true) true n 22 [.slice qa len cap] = some (d, ps) := by simpa [Value.cells] using t0
  obtain ⟨f, q, c, e, hc, hf⟩ := open_forest _ n _ d ps (Nat.le_refl _) t1
  injection e with e1 e2 e3
  subst e1 e2 e3
  exact ⟨f, rfl, hc, hf⟩
end Go.Proofs.YtpfnjgkfombmpaaDoor

namespace Go.Proofs.YtpfnjgkfombmpaaDoor.printApartF
open Go.ChangeShapes Go.WideShapes Go.ChangeAt Go.RowKit
open Go.ChangeMaps (open_string shut_string)
set_option linter.unusedVariables false

theorem own : ownKnob Tryd.prog.godebug = none := by kernel_rfl
theorem gHeads : Tryd.prog.globalNamed "recto/utf.heads" = some 0 := by kernel_rfl
theorem gEnds : Tryd.prog.globalNamed "recto/utf.ends" = some 1 := by kernel_rfl
theorem gHeadsType : (Tryd.prog.globals[0]?).map (·.type) = some 118 := by kernel_rfl
theorem gEndsType : (Tryd.prog.globals[1]?).map (·.type) = some 118 := by kernel_rfl
theorem cellsArr : Tryd.prog.cellsOf 118 = 5 := by kernel_rfl
theorem cellsInt : Tryd.prog.cellsOf 3 = 1 := by kernel_rfl

/-- What the row's list gives: the two tables' cells. -/
theorem laid_tail {x : String × DataW Unit} {rest : List (String × DataW Unit)} {W : World} (h : laidMet Tryd.prog (x :: rest) W) : laidMet Tryd.prog rest W := by
  obtain ⟨ps, ⟨g1, t1, cs1, f1, p1, q1, _, _, _, _, hrest, rfl⟩, hnd, hcell⟩ := h
  exact ⟨q1, hrest, (List.nodup_append.1 hnd).2.1, fun b off hm => hcell b off (List.mem_append_right _ hm)⟩
theorem heads {W : World} (h : laidMetH Tryd.prog Rows.printApartRow.laid W) : Lib.TabIs Tryd.prog W "recto/utf.heads" .i64 [0, 0, 192, 224, 240] := by
  have h0 : laidMet Tryd.prog [("unicode/utf8.acceptRanges", Rows.laid_unicode_utf8_acceptRanges), ("recto/utf.heads", Rows.laid_recto_utf_heads), ("recto/utf.ends", Rows.laid_recto_utf_ends), ("unicode/utf8.first", Rows.laid_unicode_utf8_first)] W := h
  exact Lib.tabIs_of_head gHeads gHeadsType Tryd.underlying118 Tryd.underlying3 cellsInt cellsArr (laid_tail h0)
theorem ends {W : World} (h : laidMetH Tryd.prog Rows.printApartRow.laid W) : Lib.TabIs Tryd.prog W "recto/utf.ends" .i64 [0, 128, 2048, 65536, 1114112] := by
  have h0 : laidMet Tryd.prog [("unicode/utf8.acceptRanges", Rows.laid_unicode_utf8_acceptRanges), ("recto/utf.heads", Rows.laid_recto_utf_heads), ("recto/utf.ends", Rows.laid_recto_utf_ends), ("unicode/utf8.first", Rows.laid_unicode_utf8_first)] W := h
  exact Lib.tabIs_of_head gEnds gEndsType Tryd.underlying118 Tryd.underlying3 cellsInt cellsArr (laid_tail (laid_tail h0))
theorem tabs {W : World} (h : laidMetH Tryd.prog Rows.printApartRow.laid W) : Tabs W :=
  ⟨(heads h).cell gHeads 1 (by decide), (heads h).cell gHeads 2 (by decide), (heads h).cell gHeads 3 (by decide), (heads h).cell gHeads 4 (by decide),
   (ends h).cell gEnds 1 (by decide), (ends h).cell gEnds 2 (by decide), (ends h).cell gEnds 3 (by decide), (ends h).cell gEnds 4 (by decide)⟩

theorem laidOut : laidOutB Tryd.prog = true := by kernel_rfl
theorem mx {W : World} (h : W.ShapedOpen Tryd.prog) : MxJ W :=
  Go.Proofs.cell_of_shapedOpen_int (zero := #[.int .i64 0]) (t := 3) h (of_decide_eq_true (by kernel_rfl)) (by kernel_rfl) rfl (by kernel_rfl) (by kernel_rfl) Tryd.underlying3

set_option maxRecDepth 100000 in
theorem contract (H : Type) (enc : TypeId × Value → H) (W : World) (base : Nat) (args : Array Value) (ds gs : List (DataW H)) (before : List MemPlace)
    (hval : ∀ (j : Nat) t v, Tryd.f7.params[j]? = some t → args[j]? = some v → Value.okWide Tryd.prog W .any base t v)
    (hW : DataW.Whole enc Tryd.prog Tryd.f7.params.toList Rows.printApartSpec.vars false W args.toList ds gs before) (hL : laidMetH Tryd.prog Rows.printApartRow.laid W) (hSO : W.ShapedOpen Tryd.prog) :
    Calls Tryd.prog 7 args W fun e W' => ∃ v, e = .returned v ∧ Rows.printApartSpec.post enc Tryd.prog Tryd.f7 false true false false W args v W' := by
  have hW' := hW
  obtain ⟨p, q, hA0, hV, rfl, hfz, hnd⟩ := hW
  have hA : DataW.TrodAll enc Tryd.prog W 0 (fun _ => true) true Tryd.f7.params.toList args.toList ds p := hA0
  rw [Tryd.params7] at hA hval
  obtain ⟨v0, vs0, d0, ds0, p0, q0, hargs, rfl, rfl, h0, r0⟩ := trodAll_cons hA
  obtain ⟨v1, vs1, d1, ds1, p1, q1, rfl, rfl, rfl, h1, r1⟩ := trodAll_cons r0
  obtain ⟨v2, vs2, d2, ds2, p2, q2, rfl, rfl, rfl, h2, r2⟩ := trodAll_cons r1
  obtain ⟨rfl, rfl, rfl⟩ := trodAll_nil r2
  obtain rfl : args = #[v0, v1, v2] := by cases args; simp_all
  obtain ⟨rfl, rfl⟩ := trodVars_none hV
  have hlt0 : ∀ x ∈ p0, x.block < W.heap.size := fun x hx => hW'.lt x (by simp [hx])
  obtain ⟨q0', len0, cap0, rfl⟩ := okWide_slice Tryd.underlying22 (hval 0 22 v0 rfl rfl)
  obtain ⟨f0, rfl, hcap0, hfo0⟩ := open_nodes h0
  have hlt1 : ∀ x ∈ p1, x.block < W.heap.size := fun x hx => hW'.lt x (by simp [hx])
  obtain ⟨q1', len1, cap1, rfl⟩ := okWide_slice Tryd.underlying22 (hval 1 22 v1 rfl rfl)
  obtain ⟨f1, rfl, hcap1, hfo1⟩ := open_nodes h1
  obtain ⟨a2, rfl, rfl, rfl, w2⟩ := open_int Tryd.underlying3 (hval 2 3 v2 rfl rfl) h2
  clear hA0
  refine (papart_walk f0 f1 a2 q0' q1' cap0 cap1 W (tabs hL) (mx hSO) hfo0 hfo1 hcap0 hcap1).mono fun e W' ⟨he, bel⟩ => ?_
  subst he
  exact ⟨_, rfl, _, _, _, [], _, [], hW', trodAll_mk1 (shut_bool Tryd.underlying4 _), (trodAll_cons_mk (Below.trod laidOut (by kernel_rfl) (of_decide_eq_true (by kernel_rfl)) h0 bel hlt0) (trodAll_cons_mk (Below.trod laidOut (by kernel_rfl) (of_decide_eq_true (by kernel_rfl)) h1 bel hlt1) (trodAll_cons_mk (shut_int Tryd.underlying3 w2) trodAll_mk0))), rfl, bel.frame _, fun h => by cases h⟩

/-- What the tables' initialisers lay. -/
def lay0 : Obj → Obj
  | .cells _ t frozen => .cells #[.int .i64 0, .int .i64 0, .int .i64 192, .int .i64 224, .int .i64 240] t frozen
  | o => o
def lay1 : Obj → Obj
  | .cells _ t frozen => .cells #[.int .i64 0, .int .i64 128, .int .i64 2048, .int .i64 65536, .int .i64 1114112] t frozen
  | o => o
def layF : Obj → Obj
  | .cells _ t frozen => .cells (Go.Pinned.utf8FirstZ.map (fun z => Value.int .u8 (z : Nat))).toArray t frozen
  | o => o
def layR : Obj → Obj
  | .cells _ t frozen => .cells #[.int .u8 128, .int .u8 191, .int .u8 160, .int .u8 191, .int .u8 128, .int .u8 159, .int .u8 144, .int .u8 191, .int .u8 128, .int .u8 143, .int .u8 0, .int .u8 0, .int .u8 0, .int .u8 0, .int .u8 0, .int .u8 0, .int .u8 0, .int .u8 0, .int .u8 0, .int .u8 0, .int .u8 0, .int .u8 0, .int .u8 0, .int .u8 0, .int .u8 0, .int .u8 0, .int .u8 0, .int .u8 0, .int .u8 0, .int .u8 0, .int .u8 0, .int .u8 0] t frozen
  | o => o
set_option maxRecDepth 100000 in
theorem laid_met (os : Os) : laidMet Tryd.prog Rows.printApartRow.laid (({ World.holding Tryd.prog os ⟨#[], #[], []⟩ with heap := ((((World.holding Tryd.prog os ⟨#[], #[], []⟩).heap.modify 0 lay0).modify 1 lay1).modify 3 layF).modify 4 layR } : World).forCall (fun _ _ => 0) ⟨#[], #[.slice none 0 0, .slice none 0 0, .int .i64 0], []⟩).memory :=
  laidMet_of_run' 8 (by kernel_rfl) (by kernel_rfl)
theorem reads (os : Os) {H : Type} (enc : TypeId × Value → H) : ∃ places, DataW.whole enc Tryd.prog (({ World.holding Tryd.prog os ⟨#[], #[], []⟩ with heap := ((((World.holding Tryd.prog os ⟨#[], #[], []⟩).heap.modify 0 lay0).modify 1 lay1).modify 3 layF).modify 4 layR } : World).forCall (fun _ _ => 0) ⟨#[], #[.slice none 0 0, .slice none 0 0, .int .i64 0], []⟩).memory Tryd.f7.params.toList Rows.printApartSpec.vars false #[Value.slice none 0 0, Value.slice none 0 0, Value.int .i64 0].toList 8 = some ([.nil, .nil, .lit (.int .i64 0)], [], places) :=
  ⟨[], by kernel_rfl⟩

set_option maxRecDepth 100000 in
theorem lifted (os : Os) (started : os.Started) (H : Type) (enc : TypeId × Value → H) (F : Stop.Interp) :
    ReturnsInHanded {} Tryd.checked os 7 .any ((OpenSpec.ofChange Rows.printApartSpec).preRow enc Tryd.prog Tryd.f7 Rows.printApartRow.domain false Rows.printApartRow.laid) (((OpenSpec.ofChange Rows.printApartSpec).at F).post enc Tryd.prog Tryd.f7 false true false false) := by
  obtain ⟨places, hx⟩ := reads os enc
  refine returnsInHanded_of_row (C := Tryd.checked) (s := OpenSpec.ofChange Rows.printApartSpec) own started (by kernel_rfl) Tryd.func7
    (witness_row_at (enc := enc) (C := Tryd.checked) false ({ World.holding Tryd.prog os ⟨#[], #[], []⟩ with heap := ((((World.holding Tryd.prog os ⟨#[], #[], []⟩).heap.modify 0 lay0).modify 1 lay1).modify 3 layF).modify 4 layR } : World) #[.slice none 0 0, .slice none 0 0, .int .i64 0] rfl (by kernel_rfl) (by kernel_rfl) (by kernel_rfl)
      (OpenSpec.preRow_of_cond 8 hx (by kernel_rfl) (fun k hk => by cases hk) (by kernel_rfl) (laid_met os))) ?_
  intro W base args ds gs before hval hW _ _ _ hL hSO _
  exact contract H enc W base args ds gs before hval hW hL hSO

theorem said : Rows.PrintApartSaid :=
  OpenClaim.holds_of_cond 7 Tryd.f7 rfl rfl rfl rfl rfl rfl rfl ⟨rfl, rfl, rfl, rfl, rfl⟩ rfl rfl rfl rfl rfl (by kernel_rfl) Tryd.func7 (by kernel_rfl)
    (of_decide_eq_true (by kernel_rfl)) (by unfold Func.isWrapper; first | (rw [if_pos (by decide +kernel)]; kernel_rfl) | (rw [if_neg (by decide +kernel)]; exact ⟨rfl, rfl⟩))
    (fun os started H enc _ F => by rw [OpenClaim.pre_eq_preRow]; exact lifted os started H enc F)

theorem plain (f : FuncId) (fn : Func) (hf : Tryd.pinned.checked.prog.funcNamed "recto/rectolaw13.PrintApart" = some f) (hfn : Tryd.pinned.checked.prog.funcs[f]? = some fn) :
    false = Tryd.pinned.checked.prog.looks [] ∧ ∀ (j : Nat) t, fn.params[j]? = some t → Tryd.pinned.checked.prog.wantsStandIn t = false := by
  obtain rfl : f = 7 := Option.some.inj ((show Tryd.prog.funcNamed "recto/rectolaw13.PrintApart" = some 7 by kernel_rfl).symm.trans hf) |>.symm
  obtain rfl : fn = Tryd.f7 := (Option.some.inj (Tryd.func7.symm.trans hfn)).symm
  refine ⟨by kernel_rfl, fun j t ht => ?_⟩
  rw [Tryd.params7] at ht
  have hm := Array.mem_of_getElem? ht
  simp at hm
  rcases hm with rfl | rfl
  · exact (show Tryd.prog.wantsStandIn 22 = false by kernel_rfl)
  · exact (show Tryd.prog.wantsStandIn 3 = false by kernel_rfl)

theorem card : Rows.PrintApartCardSaid :=
  Claim7.holds_tied_plain_at .later [] _ _ _ _ said (fun _ h => by cases h) (by kernel_rfl) (fun _ h => by cases h) printApart_row_tie rfl ⟨rfl, rfl⟩ (by kernel_rfl) rfl plain (by kernel_rfl)
end Go.Proofs.YtpfnjgkfombmpaaDoor.printApartF

namespace Go.Proofs.YtpfnjgkfombmpaaDoor
theorem printApart_card : Rows.PrintApartCardSaid := printApartF.card
end Go.Proofs.YtpfnjgkfombmpaaDoor
