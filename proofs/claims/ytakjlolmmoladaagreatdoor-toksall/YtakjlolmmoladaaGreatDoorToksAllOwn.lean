/-
  For every text and any two places the law ToksAll answers true: all tokens of the text are the document's, and which are the same is told as the document tells it; the four tables of the packages utf and refs start as the program's text lays them (the card ties them); and each argument reads as it did.
-/
import Derived.Test.YtakjlolmmoladaaGreatDoorTTs
import Derived.Test.YtakjlolmmoladaaGreatDoorAv
import Derived.BigQuiet
import Derived.Test.YtakjlolmmoladaaGreatDoorMgC
import Derived.Deep.RegionHeld
import Derived.Test.YtakjlolmmoladaaGreatDoorEPl
import Derived.Lib.LaidU8
import Derived.ChangeArms
import Derived.Test.YtakjlolmmoladaaGreatDoorCards
import Derived.Test.YtakjlolmmoladaaGreatDoorTie
import Derived.ProofKit
import Derived.OpenShut
import Derived.ShutString
import Derived.ChangeOld
import Derived.Below
import Derived.Deep.DeepHandedRow
import Derived.Lib.LaidTab

/-
  The statement ToksNames: what all tokens of a text keep.
-/
namespace Go.Proofs.YtakjlolmmoladaaGreatDoor
open Go.RowKit
set_option linter.unusedVariables false

def LowS (n : ByteArray) : Prop := bs (lowL n.data.toList) = n
theorem lowS_bs (l : List UInt8) : LowS (bs (lowL l)) := by unfold LowS; rw [bs_toList, lowL_low]
theorem lowS_nil : LowS ⟨#[]⟩ := rfl
/-- Names are small, none is empty, none stands twice. -/
def AtsFine (Z : Nat) (ats : List (ByteArray × ByteArray)) : Prop := (∀ i, i < ats.length → LowS (an ats i) ∧ 0 < (an ats i).size ∧ (an ats i).size ≤ Z) ∧ ∀ i j, j < i → i < ats.length → ¬ an ats i = an ats j
theorem atsFine_nil (Z : Nat) : AtsFine Z [] := ⟨fun i h => by simp at h, fun i j _ h => by simp at h⟩
theorem hasN_no {ats : List (ByteArray × ByteArray)} {n : ByteArray} (h : hasN ats n = false) (j : Nat) (hj : j < ats.length) : ¬ an ats j = n := by
  intro e
  unfold hasN at h
  rw [List.any_eq_false] at h
  have hm : ats[j] ∈ ats := List.getElem_mem hj
  have := h _ hm
  unfold an at e
  rw [List.getD, List.getElem?_eq_getElem hj] at e
  simp at this
  exact this e
theorem an_left {ats : List (ByteArray × ByteArray)} {a : ByteArray × ByteArray} {i : Nat} (h : i < ats.length) : an (ats ++ [a]) i = an ats i := by
  unfold an; rw [List.getD, List.getD, List.getElem?_append_left h]
theorem an_last {ats : List (ByteArray × ByteArray)} {a : ByteArray × ByteArray} : an (ats ++ [a]) ats.length = a.1 := by
  unfold an; rw [List.getD, List.getElem?_append_right (Nat.le_refl _)]; simp
theorem atsFine_snoc {Z : Nat} {ats : List (ByteArray × ByteArray)} {n v : ByteArray} (h : AtsFine Z ats) (h1 : LowS n) (h2 : 0 < n.size) (h4 : n.size ≤ Z) (h3 : hasN ats n = false) : AtsFine Z (ats ++ [(n, v)]) := by
  constructor
  · intro i hi
    by_cases hl : i < ats.length
    · rw [an_left hl]; exact h.1 i hl
    · have : i = ats.length := by simp at hi; omega
      subst this
      rw [an_last]; exact ⟨h1, h2, h4⟩
  · intro i j hj hi
    by_cases hl : i < ats.length
    · rw [an_left hl, an_left (by omega)]; exact h.2 i j hj hl
    · have : i = ats.length := by simp at hi; omega
      subst this
      rw [an_last, an_left hj]
      exact fun e => hasN_no h3 j hj e.symm
theorem naN_pos (s : ByteArray) (i : Nat) (hi : i < s.size) : 0 < (naN s i).size := by
  have h := seekN_le (eaP s) (n := s.size) (k := i + 1) (by omega)
  unfold naN naE
  rw [bs_size, lowL_len, List.length_take, List.length_drop, data_len]
  omega
theorem partsF_fine (s : ByteArray) : ∀ (k i : Nat) (ats : List (ByteArray × ByteArray)) (f : Bool), AtsFine s.size ats → AtsFine s.size (partsF s k i ats f).2.1
  | 0, i, ats, f, h => h
  | k + 1, i, ats, f, h => by
    rw [partsF]
    split
    · rename_i hi
      split
      · exact partsF_fine s k _ _ _ h
      split
      · exact partsF_fine s k _ _ _ h
      split
      · exact h
      split
      · exact partsF_fine s k _ _ _ h
      · rename_i hh
        exact partsF_fine s k _ _ _ (atsFine_snoc h (lowS_bs _) (naN_pos s i hi) (naN_size s i hi) (Bool.eq_false_iff.2 hh))
    · exact h

theorem partsF_len (s : ByteArray) : ∀ (k i : Nat) (ats : List (ByteArray × ByteArray)) (f : Bool), i ≤ s.size → ats.length ≤ i → (partsF s k i ats f).2.1.length ≤ s.size
  | 0, i, ats, f, hi, h => by show ats.length ≤ s.size; omega
  | k + 1, i, ats, f, hi, h => by
    rw [partsF]
    split
    · rename_i hl
      have hq := aqB_le s i hl
      split
      · exact partsF_len s k _ _ _ (by omega) (by omega)
      split
      · exact partsF_len s k _ _ _ (by omega) (by omega)
      split
      · show ats.length ≤ s.size; omega
      split
      · exact partsF_len s k _ _ _ hq.1 (by omega)
      · exact partsF_len s k _ _ _ hq.1 (by rw [List.length_append, List.length_singleton]; omega)
    · show ats.length ≤ s.size; omega
def Fine (Z : Nat) (t : PTok) : Prop := (LowS t.2.1 ∧ t.2.1.size ≤ Z) ∧ (2 ≤ t.1 → t.2.2.1 = []) ∧ (t.1 = 2 → t.2.2.2.1 = false) ∧ (2 < t.1 → t.2.1 = ⟨#[]⟩) ∧ AtsFine Z t.2.2.1 ∧ t.2.2.1.length ≤ Z
theorem fine_bare (Z : Nat) (k : Int) (x : ByteArray) (f : Bool) (hf : k = 2 → f = false) : Fine Z (k, ⟨#[]⟩, [], f, x) := ⟨⟨lowS_nil, Nat.zero_le _⟩, fun _ => rfl, hf, fun _ => rfl, atsFine_nil Z, Nat.zero_le _⟩
theorem tagN_size (s : ByteArray) (i : Nat) : (tagN s i).size ≤ s.size := by
  unfold tagN
  rw [bs_size, lowL_len, List.length_take, List.length_drop, data_len]
  omega
theorem tagZ_le' (s : ByteArray) (i : Nat) (hi : i + 1 < s.size) : tagZ s i ≤ s.size := (tagZ_le s i hi).1
theorem tagT_fine (s : ByteArray) (i : Nat) (hi : i + 1 < s.size) : Fine s.size (tagT s i) := by
  unfold tagT
  split
  · split
    · exact ⟨⟨lowS_bs _, tagN_size s i⟩, fun _ => rfl, fun _ => rfl, fun h => absurd (show (2 : Int) < 2 from h) (by decide), atsFine_nil _, Nat.zero_le _⟩
    · exact ⟨⟨lowS_bs _, tagN_size s i⟩, fun h => absurd (show (2 : Int) ≤ 1 from h) (by decide), fun h => absurd (show (1 : Int) = 2 from h) (by decide), fun h => absurd (show (2 : Int) < 1 from h) (by decide), partsF_fine s _ _ _ _ (atsFine_nil _), partsF_len s _ _ _ _ (tagZ_le' s i hi) (Nat.zero_le _)⟩
  · exact fine_bare _ _ _ _ (fun _ => rfl)
theorem markT_fine (s : ByteArray) (i : Nat) (cd : Bool) (hi : i + 1 < s.size) : Fine s.size (markT s i cd) := by
  unfold markT
  split
  · exact fine_bare _ _ _ _ (fun _ => rfl)
  split
  · exact fine_bare _ _ _ _ (fun _ => rfl)
  split
  · exact fine_bare _ _ _ _ (fun _ => rfl)
  split
  · exact fine_bare _ _ _ _ (fun _ => rfl)
  · exact tagT_fine s i hi
theorem dataF_fine (s : ByteArray) (cd : Bool) : ∀ (k i : Nat), Fine s.size (dataF s cd k i).1
  | 0, i => fine_bare _ _ _ _ (fun _ => rfl)
  | k + 1, i => by
    rw [dataF]
    split
    · split
      · exact fine_bare _ _ _ _ (fun _ => rfl)
      rename_i hb
      split
      · exact dataF_fine s cd k _
      · exact markT_fine s i cd (beg_bounds (by simpa using hb)).1
    · exact fine_bare _ _ _ _ (fun _ => rfl)
theorem allTF_fine (s : ByteArray) : ∀ (k i : Nat) (acc : List PTok), (∀ t ∈ acc, Fine s.size t) → ∀ t ∈ allTF s k i acc, Fine s.size t
  | 0, i, acc, h => h
  | k + 1, i, acc, h => by
    rw [allTF]
    split
    · refine allTF_fine s k _ _ ?_
      split
      · exact h
      · intro t ht
        rcases List.mem_append.1 ht with h1 | h1
        · exact h t h1
        · rw [List.mem_singleton.1 h1]; exact dataF_fine s false _ _
    · exact h
theorem allTF_len (s : ByteArray) : ∀ (k i : Nat) (acc : List PTok), i ≤ s.size → acc.length ≤ i → (allTF s k i acc).length ≤ s.size
  | 0, i, acc, hi, h => by show acc.length ≤ s.size; omega
  | k + 1, i, acc, hi, h => by
    rw [allTF]
    split
    · rename_i hl
      have ho := oneT_le s i hl
      refine allTF_len s k _ _ ho.1 ?_
      split
      · omega
      · rw [List.length_append, List.length_singleton]; omega
    · show acc.length ≤ s.size; omega
theorem allT_len (s : ByteArray) : (allT s).length ≤ s.size := allTF_len s _ _ _ (Nat.zero_le _) (Nat.zero_le _)
theorem allT_fine (s : ByteArray) : ∀ t ∈ allT s, Fine s.size t := allTF_fine s _ _ _ (fun t h => by cases h)
end Go.Proofs.YtakjlolmmoladaaGreatDoor

/-
  What 'rectoplain.Attrs' does: of every two lists of attributes, whether they are equal; it only reads.
-/
namespace Go.Proofs.YtakjlolmmoladaaGreatDoor
open Go.RowKit
set_option linter.unusedVariables false

def sameA (a b : List (ByteArray × ByteArray)) : Bool := decide (a = b)
theorem attrs_a0 (a b : Option Addr) (ca lb cb : Nat) (w : World) (hb : lb ≤ 9223372036854775807) :
    Calls Tryz.prog 19 #[.slice a 0 ca, .slice b lb cb] w fun e w' => e = .returned (.bool (((0 : Int) == (lb : Int)))) ∧ Below w.heap.size w w' := by
  go_enter Tryz.func19, Tryz.ntmps19
  go_wp2
  refine wp_loop_rounds 1 ?_
  rw [rounds_succ]; go_wp2
  go_ret
  exact ⟨rfl, Below.refl _ _⟩

set_option maxHeartbeats 400000 in
theorem attrs_b0 (x : Nat) (xo la ca : Nat) (b : Option Addr) (cb : Nat) (w : World) (h0 : 0 < la) (ha : la ≤ 9223372036854775807) :
    Calls Tryz.prog 19 #[.slice (some ⟨x, xo, none⟩) la ca, .slice b 0 cb] w fun e w' => e = .returned (.bool false) ∧ Below w.heap.size w w' := by
  have h1 : (0 : Int) < (la : Int) := by omega
  go_enter Tryz.func19, Tryz.ntmps19
  go_wp2
  refine wp_loop_rounds 1 ?_
  rw [rounds_succ]; go_wp2
  go_quiet (fail)
  go_wp2
  go_ret
  exact ⟨rfl, below_draws _ _⟩

theorem same_ats (a b : List (ByteArray × ByteArray)) (hl : a.length = b.length) (h : ∀ i, i < a.length → an a i = an b i ∧ av a i = av b i) : a = b := by
  apply List.ext_getElem hl
  intro i h1 h2
  obtain ⟨e1, e2⟩ := h i h1
  unfold an at e1
  unfold av at e2
  rw [List.getD, List.getD, List.getElem?_eq_getElem h1, List.getElem?_eq_getElem h2] at e1 e2
  exact Prod.ext e1 e2

set_option maxHeartbeats 2000000 in
theorem attrs_loop (x xo ca y yo cb : Nat) (ta tb : List (ByteArray × ByteArray)) (la lb : Nat) (w : World) (hla : Hid (ta.length = la)) (hlb : Hid (tb.length = lb)) (h0 : 0 < la) (h0b : 0 < lb) (ha : la ≤ 1000000000) (hb : lb ≤ 1000000000)
    (hx : Cells2 x xo ta w) (hy : Cells2 y yo tb w) :
    Calls Tryz.prog 19 #[.slice (some ⟨x, xo, none⟩) la ca, .slice (some ⟨y, yo, none⟩) lb cb] w fun e w' => e = .returned (.bool (sameA ta tb)) ∧ Below w.heap.size w w' := by
  have HX := hide hx
  have HY := hide hy
  clear hx hy
  go_enter Tryz.func19, Tryz.ntmps19
  go_wp2
  go_loopw [8] (fun i wr => ∃ k : Nat, k ≤ la ∧ i = .int .i64 k ∧ Below w.heap.size w wr ∧ (∀ j, j < k → j < lb ∧ an ta j = an tb j ∧ av ta j = av tb j)) (fun i _ => la - (intOf i).toNat)
  case atStart => exact ⟨0, Nat.zero_le _, rfl, Below.refl _ _, fun j h => by omega⟩
  case round =>
    obtain ⟨k, hk, rfl, hbw, hall⟩ := hrel
    have HA := hide hall
    have HB := hide hbw
    clear hall
    by_cases hlt : k < la
    · have hlti : (k : Int) < (la : Int) := by omega
      by_cases hkb : k < lb
      · have hkbi : (k : Int) < (lb : Int) := by omega
        have hg : decide ((lb : Int) ≤ (k : Int)) = false := by simp; omega
        obtain ⟨c1, c2⟩ := (unhide HX).below hbw k (by rw [unhide hla]; exact hlt)
        obtain ⟨c3, c4⟩ := (unhide HY).below hbw k (by rw [unhide hlb]; exact hkb)
        generalize hp1 : an ta k = p1 at *
        generalize hp2 : av ta k = p2 at *
        generalize hq1 : an tb k = q1 at *
        generalize hq2 : av tb k = q2 at *
        have HP := hide (And.intro hp1 (And.intro hp2 (And.intro hq1 hq2)))
        clear hp1 hp2 hq1 hq2 hbw
        by_cases e1 : p1 = q1
        · have f1 := beq_yes e1
          by_cases e2 : p2 = q2
          · have f2 := beq_yes e2
            have HE := hide (And.intro e1 e2)
            clear e1 e2
            go_wp2
            go_quiet (fail)
            go_wp2
            refine ⟨⟨k + 1, by omega, by go_num, _root_.Go.below_drewN (unhide HB) _, fun j hj => ?_⟩, by simp [intOf]; omega⟩
            by_cases hjk : j = k
            · subst hjk
              obtain ⟨r1, r2, r3, r4⟩ := unhide HP
              exact ⟨hkb, by rw [r1, r3]; exact (unhide HE).1, by rw [r2, r4]; exact (unhide HE).2⟩
            · exact unhide HA j (by omega)
          · have f2 := beq_no e2
            have HS : Hid (sameA ta tb = false) := hide (decide_eq_false fun h => e2 (by obtain ⟨r1, r2, r3, r4⟩ := unhide HP; rw [← r2, ← r4, h]))
            clear e1 e2
            go_wp2
            go_quiet (fail)
            go_wp2
            go_ret
            exact ⟨by rw [unhide HS]; rfl, _root_.Go.below_drewN (unhide HB) _⟩
        · have f1 := beq_no e1
          have HS : Hid (sameA ta tb = false) := hide (decide_eq_false fun h => e1 (by obtain ⟨r1, r2, r3, r4⟩ := unhide HP; rw [← r1, ← r3, h]))
          clear e1
          go_wp2
          go_quiet (fail)
          go_wp2
          go_ret
          exact ⟨by rw [unhide HS]; rfl, _root_.Go.below_drewN (unhide HB) _⟩
      · have hg : decide ((lb : Int) ≤ (k : Int)) = true := by simp; omega
        have HS : Hid (sameA ta tb = false) := hide (decide_eq_false (by intro e; have := congrArg List.length e; rw [unhide hla, unhide hlb] at this; omega))
        clear hbw
        go_wp2
        go_quiet (fail)
        go_wp2
        go_ret
        exact ⟨by rw [unhide HS]; rfl, _root_.Go.below_drewN (unhide HB) _⟩
    · have hs : sameA ta tb = ((la : Int) == (lb : Int)) := by
        by_cases e : la = lb
        · rw [sameA, decide_eq_true (same_ats ta tb (by rw [unhide hla, unhide hlb]; exact e) (fun i hi => (unhide HA i (by rw [unhide hla] at hi; omega)).2))]
          simp [e]
        · rw [sameA, decide_eq_false (by intro e'; have := congrArg List.length e'; rw [unhide hla, unhide hlb] at this; exact e this)]
          symm; apply beq_eq_false_iff_ne.2; omega
      have HS := hide hs
      clear hs
      go_wp2
      go_ret
      exact ⟨by rw [unhide HS]; rfl, hbw⟩

theorem attrs_any (qa qb : Option Addr) (ca cb : Nat) (ta tb : List (ByteArray × ByteArray)) (w : World) (ha : Sl qa ta w) (hb : Sl qb tb w) (la : ta.length ≤ 1000000000) (lb : tb.length ≤ 1000000000) :
    Calls Tryz.prog 19 #[.slice qa ta.length ca, .slice qb tb.length cb] w fun e w' => e = .returned (.bool (sameA ta tb)) ∧ Below w.heap.size w w' := by
  rcases ha with rfl | ⟨x, xo, rfl, hx⟩
  · have : sameA [] tb = ((0 : Int) == (tb.length : Int)) := by
      cases tb with
      | nil => rfl
      | cons a l => rw [sameA, decide_eq_false (by simp)]; symm; apply beq_eq_false_iff_ne.2; simp; omega
    rw [this]
    exact attrs_a0 qa qb ca tb.length cb w (by omega)
  · by_cases h0 : ta.length = 0
    · have e0 : ta = [] := List.eq_nil_of_length_eq_zero h0
      subst e0
      have : sameA [] tb = ((0 : Int) == (tb.length : Int)) := by
        cases tb with
        | nil => rfl
        | cons a l => rw [sameA, decide_eq_false (by simp)]; symm; apply beq_eq_false_iff_ne.2; simp; omega
      rw [this]
      exact attrs_a0 _ qb ca tb.length cb w (by omega)
    rcases hb with rfl | ⟨y, yo, rfl, hy⟩
    · rw [sameA, decide_eq_false (by intro e; rw [e] at h0; exact h0 rfl)]
      exact attrs_b0 x xo _ ca qb cb w (by omega) (by omega)
    · by_cases h1 : tb.length = 0
      · rw [sameA, decide_eq_false (by intro e; rw [e] at h0; exact h0 h1), h1]
        exact attrs_b0 x xo _ ca _ cb w (by omega) (by omega)
      · exact attrs_loop x xo ca y yo cb ta tb _ _ w (hide rfl) (hide rfl) (by omega) (by omega) la lb hx hy
end Go.Proofs.YtakjlolmmoladaaGreatDoor

/-
  The statement ToksNext, walked; and what its 'same' does.
-/
namespace Go.Proofs.YtakjlolmmoladaaGreatDoor
open Go.RowKit
set_option linter.unusedVariables false

def sameT (a b : PTok) : Bool := decide (a.1 = b.1) && (decide (a.2.1 = b.2.1) && (decide (a.2.2.2.1 = b.2.2.2.1) && (decide (a.2.2.2.2 = b.2.2.2.2) && sameA a.2.2.1 b.2.2.1)))
theorem sl_of {cap b : Nat} {q : Option Addr} {ats : List (ByteArray × ByteArray)} {w : World} (h : SlN (cap := cap) b q ats w) : Sl q ats w := h.imp id fun ⟨g, h1, _, h3⟩ => ⟨g, 0, h1, h3⟩

set_option maxHeartbeats 4000000 in
set_option maxRecDepth 100000 in
theorem same5_any (a b : PTok) (q1 q2 : Option Addr) (c1 c2 : Nat) (w : World) (h1 : Sl q1 a.2.2.1 w) (h2 : Sl q2 b.2.2.1 w) (l1 : a.2.2.1.length ≤ 1000000000) (l2 : b.2.2.1.length ≤ 1000000000) :
    Calls Tryz.prog 8 #[.agg #[.int .i64 a.1, .string a.2.1, .slice q1 a.2.2.1.length c1, .bool a.2.2.2.1, .string a.2.2.2.2], .agg #[.int .i64 b.1, .string b.2.1, .slice q2 b.2.2.1.length c2, .bool b.2.2.2.1, .string b.2.2.2.2]] w fun e w' => e = .returned (.bool (sameT a b)) ∧ Below w.heap.size w w' := by
  obtain ⟨ak, an', ta, af, ax⟩ := a
  obtain ⟨bk, bn, tb, bf, bx⟩ := b
  dsimp only at h1 h2 l1 l2 ⊢
  unfold sameT
  dsimp only
  have hbb : Below w.heap.size w ((w.alloc (Obj.cells #[.int .i64 ak, .string an', .slice q1 ta.length c1, .bool af, .string ax] 27)).alloc (Obj.cells #[.int .i64 bk, .string bn, .slice q2 tb.length c2, .bool bf, .string bx] 30)) := ((Below.refl w.heap.size w).alloc (Nat.le_refl _) _).alloc (by simp) _
  have CA := hide (attrs_any q1 q2 c1 c2 ta tb ((w.alloc (Obj.cells #[.int .i64 ak, .string an', .slice q1 ta.length c1, .bool af, .string ax] 27)).alloc (Obj.cells #[.int .i64 bk, .string bn, .slice q2 tb.length c2, .bool bf, .string bx] 30)) (h1.below hbb) (h2.below hbb) l1 l2)
  generalize sameA ta tb = SA at *
  clear h1 h2
  have HB := hide hbb
  by_cases e1 : ak = bk
  · subst e1
    have f1 : (ak == ak) = true := by simp
    rw [decide_eq_true rfl, Bool.true_and]
    by_cases e2 : an' = bn
    · subst e2
      have f2 := beq_yes (rfl : an' = an')
      rw [decide_eq_true rfl, Bool.true_and]
      by_cases e3 : af = bf
      · subst e3
        have f3 : (af == af) = true := by simp
        rw [decide_eq_true rfl, Bool.true_and]
        by_cases e4 : ax = bx
        · subst e4
          have f4 := beq_yes (rfl : ax = ax)
          rw [decide_eq_true rfl, Bool.true_and]
          go_enter Tryz.func8, Tryz.ntmps8
          go_wp2_with fail
          refine (unhide CA).mono ?_
          rintro e w1 ⟨rfl, hb1⟩
          go_wp2
          go_ret
          exact ⟨rfl, tr2 (unhide HB) hb1⟩
        · have f4 := beq_no e4
          rw [decide_eq_false e4, Bool.false_and]
          clear e4 CA hbb
          go_enter Tryz.func8, Tryz.ntmps8
          go_wp2
          go_ret
          exact ⟨rfl, unhide HB⟩
      · have f3 : (af == bf) = false := beq_eq_false_iff_ne.2 e3
        rw [decide_eq_false e3, Bool.false_and]
        clear e3 CA hbb
        go_enter Tryz.func8, Tryz.ntmps8
        go_wp2
        go_ret
        exact ⟨rfl, unhide HB⟩
    · have f2 := beq_no e2
      rw [decide_eq_false e2, Bool.false_and]
      clear e2 CA hbb
      go_enter Tryz.func8, Tryz.ntmps8
      go_wp2
      go_ret
      exact ⟨rfl, unhide HB⟩
  · have f1 : (ak == bk) = false := beq_eq_false_iff_ne.2 e1
    rw [decide_eq_false e1, Bool.false_and]
    clear e1 CA hbb
    go_enter Tryz.func8, Tryz.ntmps8
    go_wp2
    go_ret
    exact ⟨rfl, unhide HB⟩
theorem sameT_self (a : PTok) : sameT a a = true := by
  unfold sameT
  rw [decide_eq_true rfl, decide_eq_true rfl, decide_eq_true rfl, decide_eq_true rfl, Bool.true_and, Bool.true_and, Bool.true_and, Bool.true_and]
  exact decide_eq_true rfl

set_option maxHeartbeats 4000000 in
set_option maxRecDepth 100000 in
theorem tnext_long (s n : ByteArray) (kind a : Int) (cd : Bool) (w : World) (ht : Tab4 w) (hm : Mx w) (h : ¬ (s.size ≤ 2000 ∧ n.size ≤ 2000)) :
    Calls Tryz.prog 3 #[.string s, .int .i64 a, .agg #[.int .i64 kind, .string n, .bool cd]] w fun e w' => e = .returned (.bool true) ∧ Below w.heap.size w w' := by
  have hbA : Below w.heap.size w (w.alloc (Obj.cells #[.int .i64 kind, .string n, .bool cd] 23)) := (Below.refl _ _).alloc (Nat.le_refl _) _
  have C := hide (tags_ok _ (ht.below hbA) (hm.below hbA))
  by_cases h1 : 2000 < s.size
  · have i1 : (2000 : Int) < (s.size : Int) := by omega
    clear h h1 ht hm
    go_enter Tryz.func3, Tryz.ntmps3
    go_wp2_with fail
    refine (unhide C).mono ?_
    rintro e w1 ⟨rfl, hb⟩
    go_wp2
    go_ret
    exact ⟨rfl, tr2 hbA hb⟩
  · have i1 : decide ((2000 : Int) < (s.size : Int)) = false := decide_eq_false (by omega)
    have i2 : (2000 : Int) < (n.size : Int) := by omega
    clear h h1 ht hm
    go_enter Tryz.func3, Tryz.ntmps3
    go_wp2_with fail
    refine (unhide C).mono ?_
    rintro e w1 ⟨rfl, hb⟩
    go_wp2
    go_ret
    exact ⟨rfl, tr2 hbA hb⟩

set_option maxHeartbeats 8000000 in
set_option maxRecDepth 100000 in
theorem tnext_main (s n : ByteArray) (kind a : Int) (cd : Bool) (w : World) (ht : Tab4 w) (hm : Mx w) (h1 : s.size ≤ 2000) (h2 : n.size ≤ 2000) (T : PTok) (E : Nat) (hT : nextT s n kind cd a = (T, E)) (hl : T.2.2.1.length ≤ 1000000000) :
    Calls Tryz.prog 3 #[.string s, .int .i64 a, .agg #[.int .i64 kind, .string n, .bool cd]] w fun e w' => e = .returned (.bool true) ∧ Below w.heap.size w w' := by
  have i1 : decide ((2000 : Int) < (s.size : Int)) = false := decide_eq_false (by omega)
  have i2 : decide ((2000 : Int) < (n.size : Int)) = false := decide_eq_false (by omega)
  have hbA : Below w.heap.size w (w.alloc (Obj.cells #[.int .i64 kind, .string n, .bool cd] 23)) := (Below.refl _ _).alloc (Nat.le_refl _) _
  have CN := hide (fun w ht hm => next_any s n kind cd a w ht hm (by omega) (by omega))
  have CR := hide (fun w => next5_any s n kind cd a w (by omega) (by omega))
  rw [hT] at CN CR
  have CT := hide tags_ok
  have HT := hide (ht.below hbA)
  have HM := hide (hm.below hbA)
  have hB : Blk (w.alloc (Obj.cells #[.int .i64 kind, .string n, .bool cd] 23)) w.heap.size #[.int .i64 kind, .string n, .bool cd] 23 := Blk.new w _ _
  have CSM := hide (fun q1 q2 c1 c2 w h1 h2 => same5_any T T q1 q2 c1 c2 w h1 h2 hl hl)
  rw [sameT_self] at CSM
  obtain ⟨tk, tn, ta, tf, tx⟩ := T
  dsimp only at CN CR CSM hl
  clear ht hm hT
  go_enter Tryz.func3, Tryz.ntmps3
  go_wp2_with fail
  refine calls_from (fun W => Blk W w.heap.size #[.int .i64 kind, .string n, .bool cd] 23 ∧ Below w.heap.size w W ∧ Tab4 W ∧ Mx W) ⟨hB, hbA, unhide HT, unhide HM⟩ ?_
  clear hB hbA HT HM
  rintro W ⟨hB, hb, ht, hm⟩
  refine (unhide CN _ ht hm).mono ?_
  rintro e1 W1 ⟨q1, c1, rfl, hs1, hb1⟩
  replace hB := hB.later hb1
  replace hb := tr2 hb hb1
  replace ht := ht.below hb1
  replace hm := hm.below hb1
  have HX := hide (And.intro hB (And.intro hb (And.intro ht (And.intro hm (sl_of hs1)))))
  have hlt : w.heap.size < W1.heap.size := hB.lt
  clear hb1 hs1 hB hb ht hm
  have hB2 := (unhide HX).1.alloc (Obj.cells #[.int .i64 tk, .string tn, .slice q1 ta.length c1, .bool tf, .string tx] 27)
  have m0 : (W1.alloc (Obj.cells #[.int .i64 tk, .string tn, .slice q1 ta.length c1, .bool tf, .string tx] 27)).cell? ⟨w.heap.size, 0, none⟩ = some (.int .i64 kind) := (hB2).cell 0
  have m1 : (W1.alloc (Obj.cells #[.int .i64 tk, .string tn, .slice q1 ta.length c1, .bool tf, .string tx] 27)).cell? ⟨w.heap.size, 1, none⟩ = some (.string n) := (hB2).cell 1
  have m2 : (W1.alloc (Obj.cells #[.int .i64 tk, .string tn, .slice q1 ta.length c1, .bool tf, .string tx] 27)).cell? ⟨w.heap.size, 2, none⟩ = some (.bool cd) := (hB2).cell 2
  clear hB2
  go_wp2_with fail
  refine calls_from (fun W => Blk W W1.heap.size #[.int .i64 tk, .string tn, .slice q1 ta.length c1, .bool tf, .string tx] 27 ∧ Below w.heap.size w W ∧ Tab4 W ∧ Mx W ∧ Sl q1 ta W) ⟨Blk.new W1 _ _, (unhide HX).2.1.alloc (unhide HX).2.1.size _, (unhide HX).2.2.1.below ((Below.refl _ _).alloc (Nat.le_refl _) _), (unhide HX).2.2.2.1.below ((Below.refl _ _).alloc (Nat.le_refl _) _), (unhide HX).2.2.2.2.below ((Below.refl _ _).alloc (Nat.le_refl _) _)⟩ ?_
  clear HX m0 m1 m2
  rintro W ⟨k7, hb, ht, hm, hs1⟩
  refine (unhide CR _).mono ?_
  rintro e2 W2 ⟨q2, c2, rfl, hs2, hb2⟩
  replace k7 := k7.later hb2
  replace hb := tr2 hb hb2
  replace ht := ht.below hb2
  replace hm := hm.below hb2
  replace hs1 := hs1.below hb2
  have hs2' := sl_of hs2
  clear hb2 hs2 hlt
  generalize W1.heap.size = G7 at *
  have hl7 : G7 < W2.heap.size := k7.lt
  have hbO := hb.alloc hb.size (Obj.cells #[.int .i64 tk, .string tn, .slice q2 ta.length c2, .bool tf, .string tx, .int .i64 (E : Int)] 32)
  have hbo : Below W2.heap.size W2 (W2.alloc (Obj.cells #[.int .i64 tk, .string tn, .slice q2 ta.length c2, .bool tf, .string tx, .int .i64 (E : Int)] 32)) := (Below.refl _ _).alloc (Nat.le_refl _) _
  have k7' := k7.later hbo
  have k9 := Blk.new W2 #[.int .i64 tk, .string tn, .slice q2 ta.length c2, .bool tf, .string tx, .int .i64 (E : Int)] 32
  have t0 : (W2.alloc (Obj.cells #[.int .i64 tk, .string tn, .slice q2 ta.length c2, .bool tf, .string tx, .int .i64 (E : Int)] 32)).cell? ⟨G7, 0, none⟩ = some (.int .i64 tk) := (k7').cell 0
  have t1 : (W2.alloc (Obj.cells #[.int .i64 tk, .string tn, .slice q2 ta.length c2, .bool tf, .string tx, .int .i64 (E : Int)] 32)).cell? ⟨G7, 1, none⟩ = some (.string tn) := (k7').cell 1
  have t2 : (W2.alloc (Obj.cells #[.int .i64 tk, .string tn, .slice q2 ta.length c2, .bool tf, .string tx, .int .i64 (E : Int)] 32)).cell? ⟨G7, 2, none⟩ = some (.slice q1 ta.length c1) := (k7').cell 2
  have t3 : (W2.alloc (Obj.cells #[.int .i64 tk, .string tn, .slice q2 ta.length c2, .bool tf, .string tx, .int .i64 (E : Int)] 32)).cell? ⟨G7, 3, none⟩ = some (.bool tf) := (k7').cell 3
  have t4 : (W2.alloc (Obj.cells #[.int .i64 tk, .string tn, .slice q2 ta.length c2, .bool tf, .string tx, .int .i64 (E : Int)] 32)).cell? ⟨G7, 4, none⟩ = some (.string tx) := (k7').cell 4
  have HX := hide (And.intro k9 (And.intro hbO (And.intro (ht.below hbo) (And.intro (hm.below hbo) (And.intro (hs1.below hbo) (hs2'.below hbo))))))
  have hne : ¬ G7 = W2.heap.size := by omega
  clear k7 k7' k9 hb ht hm hs1 hs2' hbo hbO
  go_wp2_with fail
  refine calls_from (fun W => Blk W W2.heap.size #[.int .i64 tk, .string tn, .slice q2 ta.length c2, .bool tf, .string tx, .int .i64 (E : Int)] 32 ∧ Below w.heap.size w W ∧ Tab4 W ∧ Mx W ∧ Sl q1 ta W ∧ Sl q2 ta W) (unhide HX) ?_
  clear HX t0 t1 t2 t3 t4
  rintro W ⟨k9, hb, ht, hm, hs1, hs2⟩
  refine (unhide CSM q1 q2 c1 c2 _ hs1 hs2).mono ?_
  rintro e3 W3 ⟨rfl, hb3⟩
  replace k9 := k9.later hb3
  replace hb := tr2 hb hb3
  replace ht := ht.below hb3
  replace hm := hm.below hb3
  clear hb3 hs1 hs2
  have g5 : W3.cell? ⟨W2.heap.size, 5, none⟩ = some (.int .i64 (E : Int)) := k9.cell 5
  have eE : ((E : Int) == (E : Int)) = true := by simp
  have HX := hide (And.intro hb (And.intro ht hm))
  clear k9 hb ht hm
  go_wp2_with fail
  refine (unhide CT _ (unhide HX).2.1 (unhide HX).2.2).mono ?_
  rintro e4 W4 ⟨rfl, hb4⟩
  go_wp2
  go_ret
  exact ⟨rfl, tr2 (unhide HX).1 hb4⟩
theorem nextT_len (s n : ByteArray) (kind : Int) (cd : Bool) (a : Int) : (nextT s n kind cd a).1.2.2.1.length ≤ s.size := by
  unfold nextT
  split
  · exact Nat.zero_le _
  rename_i h
  split
  · unfold encT
    split
    · rename_i h2
      have hl := last_bounds (seek_now (by omega) h2)
      exact (tagT_fine s a.toNat (by omega)).2.2.2.2.2
    · exact Nat.zero_le _
  · exact (dataF_fine s cd _ _).2.2.2.2.2
theorem tnext_walk (s n : ByteArray) (kind a : Int) (cd : Bool) (w : World) (ht : Tab4 w) (hm : Mx w) :
    Calls Tryz.prog 3 #[.string s, .int .i64 a, .agg #[.int .i64 kind, .string n, .bool cd]] w fun e w' => e = .returned (.bool true) ∧ Below w.heap.size w w' := by
  by_cases h : s.size ≤ 2000 ∧ n.size ≤ 2000
  · have hl := nextT_len s n kind cd a
    exact tnext_main s n kind a cd w ht hm h.1 h.2 (nextT s n kind cd a).1 (nextT s n kind cd a).2 rfl (by omega)
  · exact tnext_long s n kind a cd w ht hm h
end Go.Proofs.YtakjlolmmoladaaGreatDoor

/-
  What 'slices.Equal' does of attributes, and 'toks.Same'.
-/
namespace Go.Proofs.YtakjlolmmoladaaGreatDoor
open Go.RowKit
set_option linter.unusedVariables false

set_option maxHeartbeats 2000000 in
theorem equal_loop (x xo ca y yo cb : Nat) (ta tb : List (ByteArray × ByteArray)) (la : Nat) (w : World) (hla : Hid (ta.length = la)) (hlb : Hid (tb.length = la)) (h0 : 0 < la) (ha : la ≤ 1000000000)
    (hx : Cells2 x xo ta w) (hy : Cells2 y yo tb w) :
    Calls Tryz.prog 20 #[.slice (some ⟨x, xo, none⟩) la ca, .slice (some ⟨y, yo, none⟩) la cb] w fun e w' => e = .returned (.bool (sameA ta tb)) ∧ Below w.heap.size w w' := by
  have HX := hide hx
  have HY := hide hy
  have ell : ((la : Int) == (la : Int)) = true := by simp
  clear hx hy
  go_enter Tryz.func20, Tryz.ntmps20
  go_wp2
  go_loopw [13] (fun i wr => ∃ k : Nat, k ≤ la ∧ i = .int .i64 k ∧ Below w.heap.size w wr ∧ (∀ j, j < k → an ta j = an tb j ∧ av ta j = av tb j)) (fun i _ => la - (intOf i).toNat)
  case atStart => exact ⟨0, Nat.zero_le _, rfl, Below.refl _ _, fun j h => by omega⟩
  case round =>
    obtain ⟨k, hk, rfl, hbw, hall⟩ := hrel
    have HA := hide hall
    have HB := hide hbw
    clear hall
    by_cases hlt : k < la
    · have hlti : (k : Int) < (la : Int) := by omega
      obtain ⟨c1, c2⟩ := (unhide HX).below hbw k (by rw [unhide hla]; exact hlt)
      obtain ⟨c3, c4⟩ := (unhide HY).below hbw k (by rw [unhide hlb]; exact hlt)
      generalize hp1 : an ta k = p1 at *
      generalize hp2 : av ta k = p2 at *
      generalize hq1 : an tb k = q1 at *
      generalize hq2 : av tb k = q2 at *
      have HP := hide (And.intro hp1 (And.intro hp2 (And.intro hq1 hq2)))
      clear hp1 hp2 hq1 hq2 hbw
      by_cases e1 : p1 = q1
      · have f1 := beq_yes e1
        by_cases e2 : p2 = q2
        · have f2 := beq_yes e2
          have HE := hide (And.intro e1 e2)
          clear e1 e2
          go_wp2
          go_quiet (fail)
          go_wp2
          refine ⟨⟨k + 1, by omega, by go_num, _root_.Go.below_drewN (unhide HB) _, fun j hj => ?_⟩, by simp [intOf]; omega⟩
          by_cases hjk : j = k
          · subst hjk
            obtain ⟨r1, r2, r3, r4⟩ := unhide HP
            exact ⟨by rw [r1, r3]; exact (unhide HE).1, by rw [r2, r4]; exact (unhide HE).2⟩
          · exact unhide HA j (by omega)
        · have f2 := beq_no e2
          have HS : Hid (sameA ta tb = false) := hide (decide_eq_false fun h => e2 (by obtain ⟨r1, r2, r3, r4⟩ := unhide HP; rw [← r2, ← r4, h]))
          clear e1 e2
          go_wp2
          go_quiet (fail)
          go_wp2
          go_ret
          exact ⟨by rw [unhide HS]; rfl, _root_.Go.below_drewN (unhide HB) _⟩
      · have f1 := beq_no e1
        have HS : Hid (sameA ta tb = false) := hide (decide_eq_false fun h => e1 (by obtain ⟨r1, r2, r3, r4⟩ := unhide HP; rw [← r1, ← r3, h]))
        clear e1
        go_wp2
        go_quiet (fail)
        go_wp2
        go_ret
        exact ⟨by rw [unhide HS]; rfl, _root_.Go.below_drewN (unhide HB) _⟩
    · have hs : sameA ta tb = true := by
        rw [sameA, decide_eq_true (same_ats ta tb (by rw [unhide hla, unhide hlb]) (fun i hi => unhide HA i (by rw [unhide hla] at hi; omega)))]
      have HS := hide hs
      have hlti : ¬ (k : Int) < (la : Int) := by omega
      clear hs hlt
      go_wp2
      go_ret
      exact ⟨by rw [unhide HS]; rfl, hbw⟩
theorem equal_none (qa qb : Option Addr) (ca cb : Nat) (w : World) : Calls Tryz.prog 20 #[.slice qa 0 ca, .slice qb 0 cb] w fun e w' => e = .returned (.bool true) ∧ Below w.heap.size w w' := by
  go_enter Tryz.func20, Tryz.ntmps20
  go_wp2
  refine wp_loop_rounds 1 ?_
  rw [rounds_succ]; go_wp2
  go_ret
  exact ⟨rfl, Below.refl _ _⟩
theorem equal_other (qa qb : Option Addr) (la lb ca cb : Nat) (w : World) (h : ¬ la = lb) : Calls Tryz.prog 20 #[.slice qa la ca, .slice qb lb cb] w fun e w' => e = .returned (.bool false) ∧ Below w.heap.size w w' := by
  have e : ((la : Int) == (lb : Int)) = false := bneI (by omega)
  clear h
  go_enter Tryz.func20, Tryz.ntmps20
  go_wp2
  go_ret
  exact ⟨rfl, Below.refl _ _⟩
theorem equal_any (qa qb : Option Addr) (ca cb : Nat) (ta tb : List (ByteArray × ByteArray)) (w : World) (ha : Sl qa ta w) (hb : Sl qb tb w) (la : ta.length ≤ 1000000000) :
    Calls Tryz.prog 20 #[.slice qa ta.length ca, .slice qb tb.length cb] w fun e w' => e = .returned (.bool (sameA ta tb)) ∧ Below w.heap.size w w' := by
  by_cases hl : ta.length = tb.length
  · by_cases h0 : ta.length = 0
    · have e0 : ta = [] := List.eq_nil_of_length_eq_zero h0
      have e1 : tb = [] := List.eq_nil_of_length_eq_zero (by omega)
      subst e0 e1
      have : sameA [] [] = true := rfl
      rw [this]; exact equal_none qa qb ca cb w
    · rcases ha with rfl | ⟨x, xo, rfl, hx⟩
      · exact absurd rfl h0
      rcases hb with rfl | ⟨y, yo, rfl, hy⟩
      · exact absurd hl h0
      have := equal_loop x xo ca y yo cb ta tb ta.length w (hide rfl) (hide hl.symm) (by omega) la hx hy
      rw [← hl]; exact this
  · have : sameA ta tb = false := decide_eq_false fun e => hl (by rw [e])
    rw [this]; exact equal_other qa qb _ _ ca cb w hl

set_option maxHeartbeats 4000000 in
set_option maxRecDepth 100000 in
theorem tsame_any (a b : PTok) (q1 q2 : Option Addr) (c1 c2 : Nat) (w : World) (h1 : Sl q1 a.2.2.1 w) (h2 : Sl q2 b.2.2.1 w) (l1 : a.2.2.1.length ≤ 1000000000) (l2 : b.2.2.1.length ≤ 1000000000) :
    Calls Tryz.prog 11 #[.agg #[.int .i64 a.1, .string a.2.1, .slice q1 a.2.2.1.length c1, .bool a.2.2.2.1, .string a.2.2.2.2], .agg #[.int .i64 b.1, .string b.2.1, .slice q2 b.2.2.1.length c2, .bool b.2.2.2.1, .string b.2.2.2.2]] w fun e w' => e = .returned (.bool (sameT a b)) ∧ Below w.heap.size w w' := by
  obtain ⟨ak, an', ta, af, ax⟩ := a
  obtain ⟨bk, bn, tb, bf, bx⟩ := b
  dsimp only at h1 h2 l1 l2 ⊢
  unfold sameT
  dsimp only
  have hbb : Below w.heap.size w ((w.alloc (Obj.cells #[.int .i64 ak, .string an', .slice q1 ta.length c1, .bool af, .string ax] 27)).alloc (Obj.cells #[.int .i64 bk, .string bn, .slice q2 tb.length c2, .bool bf, .string bx] 27)) := ((Below.refl w.heap.size w).alloc (Nat.le_refl _) _).alloc (by simp) _
  have CA := hide (equal_any q1 q2 c1 c2 ta tb ((w.alloc (Obj.cells #[.int .i64 ak, .string an', .slice q1 ta.length c1, .bool af, .string ax] 27)).alloc (Obj.cells #[.int .i64 bk, .string bn, .slice q2 tb.length c2, .bool bf, .string bx] 27)) (h1.below hbb) (h2.below hbb) l1)
  generalize sameA ta tb = SA at *
  clear h1 h2
  have HB := hide hbb
  by_cases e1 : ak = bk
  · subst e1
    have f1 : (ak == ak) = true := by simp
    rw [decide_eq_true rfl, Bool.true_and]
    by_cases e2 : an' = bn
    · subst e2
      have f2 := beq_yes (rfl : an' = an')
      rw [decide_eq_true rfl, Bool.true_and]
      by_cases e3 : af = bf
      · subst e3
        have f3 : (af == af) = true := by simp
        rw [decide_eq_true rfl, Bool.true_and]
        by_cases e4 : ax = bx
        · subst e4
          have f4 := beq_yes (rfl : ax = ax)
          rw [decide_eq_true rfl, Bool.true_and]
          go_enter Tryz.func11, Tryz.ntmps11
          go_wp2_with fail
          refine (unhide CA).mono ?_
          rintro e w1 ⟨rfl, hb1⟩
          go_wp2
          go_ret
          exact ⟨rfl, tr2 (unhide HB) hb1⟩
        · have f4 := beq_no e4
          rw [decide_eq_false e4, Bool.false_and]
          clear e4 CA hbb
          go_enter Tryz.func11, Tryz.ntmps11
          go_wp2
          go_ret
          exact ⟨rfl, unhide HB⟩
      · have f3 : (af == bf) = false := beq_eq_false_iff_ne.2 e3
        rw [decide_eq_false e3, Bool.false_and]
        clear e3 CA hbb
        go_enter Tryz.func11, Tryz.ntmps11
        go_wp2
        go_ret
        exact ⟨rfl, unhide HB⟩
    · have f2 := beq_no e2
      rw [decide_eq_false e2, Bool.false_and]
      clear e2 CA hbb
      go_enter Tryz.func11, Tryz.ntmps11
      go_wp2
      go_ret
      exact ⟨rfl, unhide HB⟩
  · have f1 : (ak == bk) = false := beq_eq_false_iff_ne.2 e1
    rw [decide_eq_false e1, Bool.false_and]
    clear e1 CA hbb
    go_enter Tryz.func11, Tryz.ntmps11
    go_wp2
    go_ret
    exact ⟨rfl, unhide HB⟩
end Go.Proofs.YtakjlolmmoladaaGreatDoor

/-
  What the reference's All of layer 5 does.
-/
namespace Go.Proofs.YtakjlolmmoladaaGreatDoor
open Go.RowKit
set_option linter.unusedVariables false

def TokRow5 (base : Nat) (SL : Value) (ts : List PTok) (w : World) : Prop :=
  ∃ es : List ETok, es.map (fun e => e.1) = ts ∧ w.ownsRow base 30 5 SL es.length (flatE es) ∧ ∀ e ∈ es, Apart base SL e w
theorem TokRow5.later {base : Nat} {SL : Value} {ts : List PTok} {w w' : World} (h : TokRow5 base SL ts w) (hb : Below w.heap.size w w') : TokRow5 base SL ts w' := by
  obtain ⟨es, h1, h2, h3⟩ := h
  exact ⟨es, h1, ownsRow_below h2 hb, fun e he => (h3 e he).imp id fun ⟨g, a, b, c, d⟩ => ⟨g, a, b, c, d.below hb⟩⟩
theorem TokRow5.open {base : Nat} {SL : Value} {ts : List PTok} {w : World} (h : TokRow5 base SL ts w) :
    ∃ q cap, SL = .slice q ts.length cap ∧ (ts = [] ∨ ∃ g, q = some ⟨g, 0, none⟩ ∧ base ≤ g ∧ ∀ k t, ts[k]? = some t → ∃ qa ca, TokAt g k t qa ca w ∧ SlN (cap := ca) base qa t.2.2.1 w) := by
  obtain ⟨es, rfl, hown, hap⟩ := h
  obtain ⟨hl, h⟩ := hown
  rcases h with ⟨rfl, h0⟩ | ⟨g, cap, cur, rfl, h1, h2, h3, h4, h5, h6⟩
  · have : es = [] := List.eq_nil_of_length_eq_zero h0
    subst this
    exact ⟨none, 0, rfl, Or.inl rfl⟩
  · refine ⟨_, cap, by simp, Or.inr ⟨g, rfl, h1, fun k t ht => ?_⟩⟩
    rw [List.getElem?_map] at ht
    cases he : es[k]? with
    | none => rw [he] at ht; cases ht
    | some e =>
      rw [he] at ht
      simp at ht
      subst ht
      have key : ∀ j x, (flatE es)[j]? = some x → w.cell? ⟨g, j, none⟩ = some x := fun j x hj => by
        rw [Joins.cell_of_block h2]
        rw [← h6, List.getElem?_take] at hj
        split at hj
        · simpa using hj
        · cases hj
      have fl := flatE_get es k e he
      have hmem : e ∈ es := List.mem_of_getElem? he
      refine ⟨e.2.1, e.2.2, ⟨key _ _ ((fl 0 (by omega)).trans rfl), key _ _ ((fl 1 (by omega)).trans rfl), key _ _ ((fl 2 (by omega)).trans rfl), key _ _ ((fl 3 (by omega)).trans rfl), key _ _ ((fl 4 (by omega)).trans rfl)⟩, ?_⟩
      rcases hap e hmem with h | ⟨g', a, b, c, d⟩
      · exact Or.inl h
      · exact Or.inr ⟨g', a, b, d⟩
theorem infoTok5 : (Tryz.prog.info? 30).map (fun i => (i.zero, i.size, i.bytes)) = some (some (.agg #[.int .i64 0, .string ⟨#[]⟩, .slice none 0 0, .bool false, .string ⟨#[]⟩]), 5, 72) := by kernel_rfl
def AllAt5 (s : ByteArray) (R : List PTok) (w : World) (SL : Value) (i : Nat) (wr : World) : Prop :=
  ∃ k acc, s.size < i + k ∧ i ≤ s.size ∧ acc.length ≤ i ∧ allTF s k i acc = R ∧ TokRow5 w.heap.size SL acc wr ∧ Below w.heap.size w wr
def All5Post (s : ByteArray) (w : World) (e : Ending) (w' : World) : Prop := ∃ SL, e = .returned SL ∧ TokRow5 w.heap.size SL (allT s) w' ∧ Below w.heap.size w w'

set_option maxHeartbeats 8000000 in
set_option maxRecDepth 100000 in
theorem rall5_any (s : ByteArray) (w : World) (hs : s.size ≤ 100000) :
    Calls Tryz.prog 10 #[.string s] w (All5Post s w) := by
  obtain ⟨i0, hi0, hi1, hi2, hi3⟩ := info_parts infoTok5
  go_enter Tryz.func10, Tryz.ntmps10
  go_wp2
  go_loopw [3, 4] (fun SL a wr => ∃ i, a = .int .i64 ((i : Nat) : Int) ∧ AllAt5 s (allT s) w SL i wr) (fun _ a _ => s.size - (intOf a).toNat)
  case atStart => exact ⟨0, rfl, s.size + 1, [], by omega, Nat.zero_le _, Nat.le_refl _, rfl, ⟨[], rfl, ⟨rfl, Or.inl ⟨rfl, rfl⟩⟩, fun e he => by cases he⟩, Below.refl _ _⟩
  case round =>
    obtain ⟨i, rfl, k, acc, hfu, hle, hal, hpr, hrow, hbw⟩ := hrel
    obtain ⟨a3, n3, cap, rfl⟩ : ∃ a m cap, u3 = Value.slice a m cap := by obtain ⟨es, _, h, _⟩ := hrow; exact slice_of h
    have HPR := hide hpr
    have HRW := hide hrow
    have HB := hide hbw
    clear hpr hrow hbw
    by_cases hp : i < s.size
    · have hpi : (i : Int) < (s.size : Int) := by omega
      obtain ⟨k, rfl⟩ : ∃ k', k = k' + 1 := ⟨k - 1, by omega⟩
      have CN : Hid (∀ w, Calls Tryz.prog 7 #[.string s, .int .i64 (i : Int), .agg #[.int .i64 0, .string ⟨#[]⟩, .bool false]] w (GotIs w (oneT s i).1 (oneT s i).2)) := fun w => by
        have := next5_any s ⟨#[]⟩ 0 false (i : Int) w hs (by decide)
        rw [next_is s i hp] at this; exact this
      have hol := oneT_le s i hp
      have Q1 := fun h => (allTF_skip (k := k) (acc := acc) hp h).symm.trans (unhide HPR)
      have Q2 := fun h => (allTF_more (k := k) (acc := acc) hp h).symm.trans (unhide HPR)
      generalize oneT s i = r at *
      obtain ⟨⟨tk, tn, ta, tf, tx⟩, E⟩ := r
      by_cases hk : tk = 0
      · have HQ := hide (Q1 hk)
        subst hk
        clear Q1 Q2
        go_wp2_with fail
        refine (unhide CN _).mono ?_
        rintro r w2 ⟨q, cap2, rfl, hsl, hb2⟩
        have hbS := tr2 hb2 ((Below.refl w2.heap.size w2).alloc (Nat.le_refl _) (Obj.cells #[.int .i64 0, .string tn, .slice q ta.length cap2, .bool tf, .string tx, .int .i64 (E : Int)] 32))
        have HR2 := hide ((unhide HRW).later hbS)
        have HB2 := hide (tr2 (unhide HB) hbS)
        clear hb2 hsl hbS
        go_wp2
        go_roundw
        case rel => exact ⟨E, rfl, k, acc, by have := hol.2; omega, hol.1, by have := hol.2; omega, unhide HQ, unhide HR2, unhide HB2⟩
        case measure => have := hol.2; simp [intOf]; omega
      · have HQ := hide (Q2 hk)
        have nk : (tk == 0) = false := beq_eq_false_iff_ne.2 hk
        clear Q1 Q2
        go_wp2_with fail
        refine (unhide CN _).mono ?_
        rintro r w2 ⟨q, cap2, rfl, hsl, hb2⟩
        have hbS := tr2 hb2 ((Below.refl w2.heap.size w2).alloc (Nat.le_refl _) (Obj.cells #[.int .i64 tk, .string tn, .slice q ta.length cap2, .bool tf, .string tx, .int .i64 (E : Int)] 32))
        have hrow2 := (unhide HRW).later hbS
        have hb02 := tr2 (unhide HB) hbS
        have kG := Blk.new w2 #[.int .i64 tk, .string tn, .slice q ta.length cap2, .bool tf, .string tx, .int .i64 (E : Int)] 32
        obtain ⟨es, hes, hown, hap⟩ := hrow2
        have hel : es.length = acc.length := by rw [← hes]; simp
        have HAP := hide hap
        have HSL := hide hsl
        have HB2 := hide hb02
        have HES := hide hes
        have HKG := hide kG
        have hw2 := hb2.size
        have HRL : Hid (∀ j, (Value.slice a3 n3 cap).ownBlock = some j → j < wr.heap.size) := hide (fun j hj => by obtain ⟨es', _, h, _⟩ := unhide HRW; exact (h.lt j hj).2)
        have HSZ := hide (unhide HB).size
        clear hb2 hsl hbS kG hap hb02 hes
        go_wp2_with (at_builtin; refine wpList_append_own_at _ rfl _ _ 39 rfl w.heap.size 30 i0 (.agg #[.int .i64 0, .string ⟨#[]⟩, .slice none 0 0, .bool false, .string ⟨#[]⟩]) 5 72 Tryz.underlying39 hi0 hi1 hi2 hi3 rfl (by decide) _ _ _ rfl (hown.alloc _) ⟨w2.heap.size + 1, 0, none⟩ 1 1 [.int .i64 tk, .string tn, .slice q ta.length cap2, .bool tf, .string tx] rfl rfl ?c1 ?c2 ?c3 ?c4 ?c5 ?_)
        case c1 => intro j u hj; exact lit_cell (by simp) hj
        case c2 => intro u hu; simp at hu; rcases hu with rfl | rfl | rfl | rfl | rfl <;> rfl
        case c3 => unfold maxLen; omega
        case c4 => omega
        case c5 => have := (unhide HB2).size; rw [alloc_size]; have := (unhide HB2).size; omega
        intro v' w5 hrow5 hgrow5 _ hblk
        obtain ⟨a5, n5, c5, hv5⟩ := slice_of hrow5
        subst hv5
        have hX := (unhide HB2).alloc (unhide HB2).size (Obj.cells #[.int .i64 tk, .string tn, .slice q ta.length cap2, .bool tf, .string tx] 30)
        have hb5 := hide (hX.grown hgrow5 hX.size (fun j hj => (hown.lt j hj).1))
        have hsz : (w2.alloc (Obj.cells #[.int .i64 tk, .string tn, .slice q ta.length cap2, .bool tf, .string tx, .int .i64 (E : Int)] 32)).heap.size = w2.heap.size + 1 := by simp
        have hnew : Apart w.heap.size (Value.slice a5 n5 c5) ((tk, tn, ta, tf, tx), q, cap2) w5 := by
          rcases unhide HSL with h | ⟨g, hq, hg, hcs⟩
          · exact Or.inl h
          · by_cases hne : ta = []
            · exact Or.inl hne
            have hgl := cells2_lt hcs hne
            obtain ⟨hg, hcp⟩ := hg
            have hgr : some g ≠ (Value.slice a3 n3 cap).ownBlock := fun e => by have := unhide HRL g e.symm; omega
            refine Or.inr ⟨g, hq, ⟨by have := unhide HSZ; omega, hcp⟩, ?_, ?_⟩
            · rcases hblk with e | e
              · rw [e]; exact hgr
              · rw [e]; intro e2; cases e2; (try simp at hgl); omega
            · exact cells2_grown ((hcs.below ((Below.refl _ _).alloc (Nat.le_refl _) _)).below ((Below.refl _ _).alloc (Nat.le_refl _) _)) hne hgrow5 hgr
        have hold : ∀ e ∈ es, Apart w.heap.size (Value.slice a5 n5 c5) e w5 := fun e he => by
          rcases unhide HAP e he with h | ⟨g, hq, hg, hgr, hcs⟩
          · exact Or.inl h
          · by_cases hne : e.1.2.2.1 = []
            · exact Or.inl hne
            have hgl := cells2_lt hcs hne
            rw [hsz] at hgl
            refine Or.inr ⟨g, hq, hg, ?_, cells2_grown (hcs.below ((Below.refl _ _).alloc (Nat.le_refl _) _)) hne hgrow5 hgr⟩
            rcases hblk with e | e
            · rw [e]; exact hgr
            · rw [e]; intro e2; cases e2; (try simp at hgl); omega
        have hnG : some w2.heap.size ≠ (Value.slice a3 n3 cap).ownBlock := fun e => by have := unhide HRL _ e.symm; omega
        have p5 : w5.cell? ⟨w2.heap.size, 5, none⟩ = some (.int .i64 (E : Int)) := (((unhide HKG).alloc (Obj.cells #[.int .i64 tk, .string tn, .slice q ta.length cap2, .bool tf, .string tx] 30)).grown hgrow5 hnG).cell 5
        have O := hide (And.intro hnew (And.intro hold hrow5))
        clear hnew hold hrow5 hgrow5 hX hblk hown hnG
        go_wp2
        obtain ⟨hnew, hold, hrow5⟩ := unhide O
        go_roundw
        case rel =>
          refine ⟨E, rfl, k, acc ++ [(tk, tn, ta, tf, tx)], by have := hol.2; omega, hol.1, by have := hol.2; simp; omega, unhide HQ, ⟨es ++ [((tk, tn, ta, tf, tx), q, cap2)], by rw [List.map_append, unhide HES]; rfl, ?_, ?_⟩, unhide hb5⟩
          · rw [flatE_snoc, List.length_append, hel]; exact hrow5
          · intro e he
            rcases List.mem_append.1 he with h | h
            · exact hold e h
            · rw [List.mem_singleton.1 h]; exact hnew
        case measure => have := hol.2; simp [intOf]; omega
    · have hR := (allTF_end (s := s) (k := k) (i := i) (acc := acc) (by omega)).symm.trans (unhide HPR)
      have hpi : ¬ (i : Int) < (s.size : Int) := by omega
      clear hp
      go_wp2
      go_ret
      exact ⟨_, rfl, by rw [← hR]; exact unhide HRW, unhide HB⟩
end Go.Proofs.YtakjlolmmoladaaGreatDoor

/-
  The statement ToksAll, walked.
-/
namespace Go.Proofs.YtakjlolmmoladaaGreatDoor
open Go.RowKit
set_option linter.unusedVariables false

theorem tokAt_later {g k : Nat} {t : PTok} {q : Option Addr} {cap : Nat} {w w' : World} (h : TokAt g k t q cap w) (hb : Below w.heap.size w w') : TokAt g k t q cap w' :=
  ⟨cell_later hb h.1, cell_later hb h.2.1, cell_later hb h.2.2.1, cell_later hb h.2.2.2.1, cell_later hb h.2.2.2.2⟩
def Keep2 (w0 : World) (g1 g2 j : Nat) (t : PTok) (qa qb : Option Addr) (ca cb : Nat) (w : World) : Prop := TokAt g1 j t qa ca w ∧ TokAt g2 j t qb cb w ∧ Below w0.heap.size w0 w
theorem Keep2.below {w0 w w' : World} {g1 g2 j : Nat} {t : PTok} {qa qb : Option Addr} {ca cb : Nat} (h : Keep2 w0 g1 g2 j t qa qb ca cb w) (hb : Below w.heap.size w w') : Keep2 w0 g1 g2 j t qa qb ca cb w' := ⟨tokAt_later h.1 hb, tokAt_later h.2.1 hb, tr2 h.2.2 hb⟩
def Keep3 (w0 : World) (g1 g2 i k : Nat) (t u : PTok) (qa qb qc : Option Addr) (ca cb cc : Nat) (w : World) : Prop := TokAt g1 i t qa ca w ∧ TokAt g1 k u qb cb w ∧ TokAt g2 k u qc cc w ∧ Below w0.heap.size w0 w
theorem Keep3.below {w0 w w' : World} {g1 g2 i k : Nat} {t u : PTok} {qa qb qc : Option Addr} {ca cb cc : Nat} (h : Keep3 w0 g1 g2 i k t u qa qb qc ca cb cc w) (hb : Below w.heap.size w w') : Keep3 w0 g1 g2 i k t u qa qb qc ca cb cc w' := ⟨tokAt_later h.1 hb, tokAt_later h.2.1 hb, tokAt_later h.2.2.1 hb, tr2 h.2.2.2 hb⟩

set_option maxHeartbeats 4000000 in
theorem tall_long (s : ByteArray) (a b : Int) (w : World) (ht : Tab4 w) (hm : Mx w) (h : 2000 < s.size) :
    Calls Tryz.prog 4 #[.string s, .int .i64 a, .int .i64 b] w fun e w' => e = .returned (.bool true) ∧ Below w.heap.size w w' := by
  have C := hide (tags_ok w ht hm)
  have i1 : (2000 : Int) < (s.size : Int) := by omega
  clear ht hm h
  go_enter Tryz.func4, Tryz.ntmps4
  go_wp2_with fail
  refine (unhide C).mono ?_
  rintro e w1 ⟨rfl, hb⟩
  go_wp2
  go_ret
  exact ⟨rfl, hb⟩

set_option maxHeartbeats 16000000 in
set_option maxRecDepth 100000 in
theorem tall_main (s : ByteArray) (a b : Int) (w : World) (ht : Tab4 w) (hm : Mx w) (h : s.size ≤ 2000) :
    Calls Tryz.prog 4 #[.string s, .int .i64 a, .int .i64 b] w fun e w' => e = .returned (.bool true) ∧ Below w.heap.size w w' := by
  have i1 : ¬ (2000 : Int) < (s.size : Int) := by omega
  have CA := hide (all5_any s w ht hm (by omega))
  have CR := hide (fun w => rall5_any s w (by omega))
  have HT := hide ht
  have HM := hide hm
  have CT := hide tags_ok
  have FN := hide (allT_fine s)
  have hlen := allT_len s
  clear ht hm
  unfold AllPost at CA
  unfold All5Post at CR
  generalize allT s = ts at *
  go_enter Tryz.func4, Tryz.ntmps4
  go_wp2_with fail
  refine (unhide CA).mono ?_
  rintro e w1 ⟨SL1, rfl, hrow1, hb1⟩
  obtain ⟨q1, cap1, hS1, _⟩ := hrow1.open
  subst hS1
  have HR1 := hide hrow1
  clear hrow1
  go_wp2_with fail
  refine (unhide CR _).mono ?_
  rintro e w2 ⟨SL2, rfl, hrow2, hb2⟩
  obtain ⟨q2, cap2, hS2, hcs2⟩ := hrow2.open
  subst hS2
  obtain ⟨q1', cap1', hS1, hcs1⟩ := ((unhide HR1).later hb2).open
  obtain ⟨rfl, rfl⟩ : q1 = q1' ∧ cap1 = cap1' := by simpa using hS1
  have HW1 : Hid (∀ k t, ts[k]? = some t → ∃ g, q1 = some ⟨g, 0, none⟩ ∧ ∃ qa ca, ∀ W, Below w2.heap.size w2 W → TokAt g k t qa ca W ∧ Sl qa t.2.2.1 W) := hide (fun k t hk => by
    rcases hcs1 with h | ⟨g, rfl, _, hcs⟩
    · subst h; simp at hk
    · obtain ⟨qa, ca, h1, h2⟩ := hcs k t hk
      exact ⟨g, rfl, qa, ca, fun W hW => ⟨tokAt_later h1 hW, sl_of (h2.later hW)⟩⟩)
  have HW2 : Hid (∀ k t, ts[k]? = some t → ∃ g, q2 = some ⟨g, 0, none⟩ ∧ ∃ qa ca, ∀ W, Below w2.heap.size w2 W → TokAt g k t qa ca W ∧ Sl qa t.2.2.1 W) := hide (fun k t hk => by
    rcases hcs2 with h | ⟨g, rfl, _, hcs⟩
    · subst h; simp at hk
    · obtain ⟨qa, ca, h1, h2⟩ := hcs k t hk
      exact ⟨g, rfl, qa, ca, fun W hW => ⟨tokAt_later h1 hW, sl_of (h2.later hW)⟩⟩)
  have HB2 := hide (tr2 hb1 hb2)
  have ell : ((ts.length : Int) == (ts.length : Int)) = true := by simp
  clear hcs1 hcs2 hrow2 hb1 hb2 CA CR HR1 hS1
  go_wp2
  go_loopw [25] (fun a wr => ∃ j : Nat, j ≤ ts.length ∧ a = .int .i64 j ∧ Below w2.heap.size w2 wr) (fun a _ => ts.length - (intOf a).toNat)
  case atStart => exact ⟨0, Nat.zero_le _, rfl, Below.refl _ _⟩
  case round =>
    obtain ⟨j, hj, rfl, hbw⟩ := hrel
    by_cases hp : j < ts.length
    · have hpi : (j : Int) < (ts.length : Int) := by omega
      have hget : ts[j]? = some ts[j] := List.getElem?_eq_getElem hp
      have hfine := (unhide FN _ (List.getElem_mem hp)).2.2.2.2.2
      obtain ⟨g1, hq1, qa, ca, h1⟩ := unhide HW1 j _ hget
      obtain ⟨g2, hq2, qb, cb, h2⟩ := unhide HW2 j _ hget
      subst hq1 hq2
      generalize ts[j] = t at *
      have CS := hide (fun w h1 h2 => same5_any t t qa qb ca cb w h1 h2 (by omega) (by omega))
      rw [sameT_self] at CS
      have HK := hide (show Keep2 w2 g1 g2 j t qa qb ca cb wr.drew from Keep2.below (w := wr) ⟨(h1 wr hbw).1, (h2 wr hbw).1, hbw⟩ (Below.drew (Below.refl _ _)))
      have HL1 := hide (fun W hW => (h1 W hW).2)
      have HL2 := hide (fun W hW => (h2 W hW).2)
      clear h1 h2 hget hfine hbw
      obtain ⟨tk, tn, ta, tf, tx⟩ := t
      dsimp only at CS HK HL1 HL2
      go_wp2_with fail
      have hSx := unhide HK
      refine wp_region_held (S := Keep2 w2 g1 g2 j (tk, tn, ta, tf, tx) qa qb ca cb) (by kernel_rfl) ?_
      change wpAnyH _ _ _ _ _ _ _ _ (World.drew _)
      refine wpAnyH_take (i := 0) (oi := { dst := some 28, op := _, type := _, pos := _, after := _, guard := _ }) (v := ?vx0) rfl (by kernel_rfl) (by kernel_rfl) (by kernel_rfl) (fun _ _ _ h => h) (Or.inl ⟨by kernel_rfl, ?hx0⟩) hSx ?rx0
      case hx0 => first | (intro w hSw; obtain ⟨⟨s0, s1, s2, s3, s4⟩, ⟨r0, r1, r2, r3, r4⟩, _⟩ := hSw; go_simp; done) | (intro w hSw; obtain ⟨⟨s0, s1, s2, s3, s4⟩, ⟨r0, r1, r2, r3, r4⟩, _⟩ := hSw; go_simp; with_reducible rfl)
      try simp only [Act.put, List.setIfInBounds_toArray, List.set_cons_zero, List.set_cons_succ]
      refine wpAnyH_take (i := 1) (oi := { dst := some 29, op := _, type := _, pos := _, after := _, guard := _ }) (v := ?vx1) rfl (by kernel_rfl) (by kernel_rfl) (by kernel_rfl) (fun _ _ _ h => h) (Or.inl ⟨by kernel_rfl, ?hx1⟩) hSx ?rx1
      case hx1 => first | (intro w hSw; obtain ⟨⟨s0, s1, s2, s3, s4⟩, ⟨r0, r1, r2, r3, r4⟩, _⟩ := hSw; go_simp; done) | (intro w hSw; obtain ⟨⟨s0, s1, s2, s3, s4⟩, ⟨r0, r1, r2, r3, r4⟩, _⟩ := hSw; go_simp; with_reducible rfl)
      try simp only [Act.put, List.setIfInBounds_toArray, List.set_cons_zero, List.set_cons_succ]
      refine wpAnyH_take (i := 2) (oi := { dst := some 30, op := _, type := _, pos := _, after := _, guard := _ }) (v := ?vx2) rfl (by kernel_rfl) (by kernel_rfl) (by kernel_rfl) (fun _ _ _ h => h) (Or.inl ⟨by kernel_rfl, ?hx2⟩) hSx ?rx2
      case hx2 => first | (intro w hSw; obtain ⟨⟨s0, s1, s2, s3, s4⟩, ⟨r0, r1, r2, r3, r4⟩, _⟩ := hSw; go_simp; done) | (intro w hSw; obtain ⟨⟨s0, s1, s2, s3, s4⟩, ⟨r0, r1, r2, r3, r4⟩, _⟩ := hSw; go_simp; with_reducible rfl)
      try simp only [Act.put, List.setIfInBounds_toArray, List.set_cons_zero, List.set_cons_succ]
      refine wpAnyH_take (i := 3) (oi := { dst := some 31, op := _, type := _, pos := _, after := _, guard := _ }) (v := ?vx3) rfl (by kernel_rfl) (by kernel_rfl) (by kernel_rfl) (fun _ _ _ h => h) (Or.inl ⟨by kernel_rfl, ?hx3⟩) hSx ?rx3
      case hx3 => first | (intro w hSw; obtain ⟨⟨s0, s1, s2, s3, s4⟩, ⟨r0, r1, r2, r3, r4⟩, _⟩ := hSw; go_simp; done) | (intro w hSw; obtain ⟨⟨s0, s1, s2, s3, s4⟩, ⟨r0, r1, r2, r3, r4⟩, _⟩ := hSw; go_simp; with_reducible rfl)
      try simp only [Act.put, List.setIfInBounds_toArray, List.set_cons_zero, List.set_cons_succ]
      refine wpAnyH_take (i := 4) (oi := { dst := some 32, op := _, type := _, pos := _, after := _, guard := _ }) (v := ?vx4) rfl (by kernel_rfl) (by kernel_rfl) (by kernel_rfl) (fun _ _ _ h => h) (Or.inl ⟨by kernel_rfl, ?hx4⟩) hSx ?rx4
      case hx4 => first | (intro w hSw; obtain ⟨⟨s0, s1, s2, s3, s4⟩, ⟨r0, r1, r2, r3, r4⟩, _⟩ := hSw; go_simp; done) | (intro w hSw; obtain ⟨⟨s0, s1, s2, s3, s4⟩, ⟨r0, r1, r2, r3, r4⟩, _⟩ := hSw; go_simp; with_reducible rfl)
      try simp only [Act.put, List.setIfInBounds_toArray, List.set_cons_zero, List.set_cons_succ]
      refine wpAnyH_take (i := 5) (oi := { dst := some 33, op := _, type := _, pos := _, after := _, guard := _ }) (v := ?vx5) rfl (by kernel_rfl) (by kernel_rfl) (by kernel_rfl) (fun _ _ _ h => h) (Or.inl ⟨by kernel_rfl, ?hx5⟩) hSx ?rx5
      case hx5 => first | (intro w hSw; obtain ⟨⟨s0, s1, s2, s3, s4⟩, ⟨r0, r1, r2, r3, r4⟩, _⟩ := hSw; go_simp; done) | (intro w hSw; obtain ⟨⟨s0, s1, s2, s3, s4⟩, ⟨r0, r1, r2, r3, r4⟩, _⟩ := hSw; go_simp; with_reducible rfl)
      try simp only [Act.put, List.setIfInBounds_toArray, List.set_cons_zero, List.set_cons_succ]
      refine wpAnyH_take (i := 6) (oi := { dst := some 34, op := _, type := _, pos := _, after := _, guard := _ }) (v := ?vx6) rfl (by kernel_rfl) (by kernel_rfl) (by kernel_rfl) (fun _ _ _ h => h) (Or.inl ⟨by kernel_rfl, ?hx6⟩) hSx ?rx6
      case hx6 => first | (intro w hSw; obtain ⟨⟨s0, s1, s2, s3, s4⟩, ⟨r0, r1, r2, r3, r4⟩, _⟩ := hSw; go_simp; done) | (intro w hSw; obtain ⟨⟨s0, s1, s2, s3, s4⟩, ⟨r0, r1, r2, r3, r4⟩, _⟩ := hSw; go_simp; with_reducible rfl)
      try simp only [Act.put, List.setIfInBounds_toArray, List.set_cons_zero, List.set_cons_succ]
      refine wpAnyH_take (i := 7) (oi := { dst := some 35, op := _, type := _, pos := _, after := _, guard := _ }) (v := ?vx7) rfl (by kernel_rfl) (by kernel_rfl) (by kernel_rfl) (fun _ _ _ h => h) (Or.inl ⟨by kernel_rfl, ?hx7⟩) hSx ?rx7
      case hx7 => first | (intro w hSw; obtain ⟨⟨s0, s1, s2, s3, s4⟩, ⟨r0, r1, r2, r3, r4⟩, _⟩ := hSw; go_simp; done) | (intro w hSw; obtain ⟨⟨s0, s1, s2, s3, s4⟩, ⟨r0, r1, r2, r3, r4⟩, _⟩ := hSw; go_simp; with_reducible rfl)
      try simp only [Act.put, List.setIfInBounds_toArray, List.set_cons_zero, List.set_cons_succ]
      refine wpAnyH_ready (rs := [8]) (by kernel_rfl) (by simp) ?_
      refine AllReadyH.cons rfl (fun K hK => ?_) AllReadyH.nil
      go_simp
      refine (unhide CS _ (unhide HL1 _ hSx.2.2) (unhide HL2 _ hSx.2.2)).mono ?_
      rintro e3 W3 ⟨rfl, hb3⟩
      have hSx' := Keep2.below hSx hb3
      clear hb3
      refine hK _ _ hSx' (fun _ => ?_)
      clear hK K hSx
      have hSx := hSx'
      clear hSx'
      refine wpAnyH_take (i := 9) (oi := { dst := some 37, op := _, type := _, pos := _, after := _, guard := _ }) (v := ?vx9) rfl (by kernel_rfl) (by kernel_rfl) (by kernel_rfl) (fun _ _ _ h => h) (Or.inl ⟨by kernel_rfl, ?hx9⟩) hSx ?rx9
      case hx9 => first | (intro w hSw; obtain ⟨⟨s0, s1, s2, s3, s4⟩, ⟨r0, r1, r2, r3, r4⟩, _⟩ := hSw; go_simp; done) | (intro w hSw; obtain ⟨⟨s0, s1, s2, s3, s4⟩, ⟨r0, r1, r2, r3, r4⟩, _⟩ := hSw; go_simp; with_reducible rfl)
      try simp only [Act.put, List.setIfInBounds_toArray, List.set_cons_zero, List.set_cons_succ]
      refine wpAnyH_done (by kernel_rfl) ?_ _
      have HB9 := hide hSx.2.2
      clear hSx HK HL1 HL2 CS
      go_wp2
      go_roundw
      case rel => exact ⟨j + 1, by omega, by go_num, unhide HB9⟩
      case measure => simp [intOf]; omega
    · have hpi : ¬ (j : Int) < (ts.length : Int) := by omega
      have hbt := tr2 (unhide HB2) hbw
      have HBT := hide hbt
      have HBW := hide hbw
      clear hp hbt hbw hj
      by_cases c1 : 0 ≤ a
      · by_cases c2 : a < (ts.length : Int)
        · by_cases c3 : 0 ≤ b
          · by_cases c4 : b < (ts.length : Int)
            · obtain ⟨i, rfl⟩ : ∃ i : Nat, a = (i : Int) := ⟨a.toNat, by omega⟩
              obtain ⟨k, rfl⟩ : ∃ k : Nat, b = (k : Int) := ⟨b.toNat, by omega⟩
              have hi : i < ts.length := by omega
              have hk : k < ts.length := by omega
              have hg1 : ts[i]? = some ts[i] := List.getElem?_eq_getElem hi
              have hg2 : ts[k]? = some ts[k] := List.getElem?_eq_getElem hk
              have hf1 := (unhide FN _ (List.getElem_mem hi)).2.2.2.2.2
              have hf2 := (unhide FN _ (List.getElem_mem hk)).2.2.2.2.2
              obtain ⟨g1, hq1, qa, ca, h1⟩ := unhide HW1 i _ hg1
              obtain ⟨g1', hq1', qb, cb, h2⟩ := unhide HW1 k _ hg2
              obtain ⟨g2, hq2, qc, cc, h3⟩ := unhide HW2 k _ hg2
              subst hq1 hq2
              obtain rfl : g1 = g1' := by cases hq1'; rfl
              generalize ts[i] = t at *
              generalize ts[k] = u at *
              have CS := hide (fun w h1 h2 => same5_any t u qa qc ca cc w h1 h2 (by omega) (by omega))
              have CM := hide (fun w h1 h2 => tsame_any t u qa qb ca cb w h1 h2 (by omega) (by omega))
              have HK := hide (show Keep3 w2 g1 g2 i k t u qa qb qc ca cb cc wr.drew from Keep3.below (w := wr) ⟨(h1 wr (unhide HBW)).1, (h2 wr (unhide HBW)).1, (h3 wr (unhide HBW)).1, unhide HBW⟩ (Below.drew (Below.refl _ _)))
              have HL1 := hide (fun W hW => (h1 W hW).2)
              have HL2 := hide (fun W hW => (h2 W hW).2)
              have HL3 := hide (fun W hW => (h3 W hW).2)
              clear h1 h2 h3 hg1 hg2 hf1 hf2 hq1' HW1 HW2 FN hi hk
              generalize sameT t u = SB at *
              have eSB : (SB == SB) = true := by simp
              obtain ⟨tk, tn, ta, tf, tx⟩ := t
              obtain ⟨uk, un, ua, uf, ux⟩ := u
              dsimp only at CS CM HK HL1 HL2 HL3
              go_wp2_with fail
              have hSy := unhide HK
              refine wp_region_held (S := Keep3 w2 g1 g2 i k (tk, tn, ta, tf, tx) (uk, un, ua, uf, ux) qa qb qc ca cb cc) (by kernel_rfl) ?_
              change wpAnyH _ _ _ _ _ _ _ _ (World.drew _)
              refine wpAnyH_take (i := 0) (oi := { dst := some 57, op := _, type := _, pos := _, after := _, guard := _ }) (v := ?vy0) rfl (by kernel_rfl) (by kernel_rfl) (by kernel_rfl) (fun _ _ _ h => h) (Or.inl ⟨by kernel_rfl, ?hy0⟩) hSy ?ry0
              case hy0 => first | (intro w hSw; obtain ⟨⟨s0, s1, s2, s3, s4⟩, ⟨r0, r1, r2, r3, r4⟩, ⟨v0, v1, v2, v3, v4⟩, _⟩ := hSw; go_simp; done) | (intro w hSw; obtain ⟨⟨s0, s1, s2, s3, s4⟩, ⟨r0, r1, r2, r3, r4⟩, ⟨v0, v1, v2, v3, v4⟩, _⟩ := hSw; go_simp; with_reducible rfl)
              try simp only [Act.put, List.setIfInBounds_toArray, List.set_cons_zero, List.set_cons_succ]
              refine wpAnyH_take (i := 1) (oi := { dst := some 58, op := _, type := _, pos := _, after := _, guard := _ }) (v := ?vy1) rfl (by kernel_rfl) (by kernel_rfl) (by kernel_rfl) (fun _ _ _ h => h) (Or.inl ⟨by kernel_rfl, ?hy1⟩) hSy ?ry1
              case hy1 => first | (intro w hSw; obtain ⟨⟨s0, s1, s2, s3, s4⟩, ⟨r0, r1, r2, r3, r4⟩, ⟨v0, v1, v2, v3, v4⟩, _⟩ := hSw; go_simp; done) | (intro w hSw; obtain ⟨⟨s0, s1, s2, s3, s4⟩, ⟨r0, r1, r2, r3, r4⟩, ⟨v0, v1, v2, v3, v4⟩, _⟩ := hSw; go_simp; with_reducible rfl)
              try simp only [Act.put, List.setIfInBounds_toArray, List.set_cons_zero, List.set_cons_succ]
              refine wpAnyH_take (i := 2) (oi := { dst := some 59, op := _, type := _, pos := _, after := _, guard := _ }) (v := ?vy2) rfl (by kernel_rfl) (by kernel_rfl) (by kernel_rfl) (fun _ _ _ h => h) (Or.inl ⟨by kernel_rfl, ?hy2⟩) hSy ?ry2
              case hy2 => first | (intro w hSw; obtain ⟨⟨s0, s1, s2, s3, s4⟩, ⟨r0, r1, r2, r3, r4⟩, ⟨v0, v1, v2, v3, v4⟩, _⟩ := hSw; go_simp; done) | (intro w hSw; obtain ⟨⟨s0, s1, s2, s3, s4⟩, ⟨r0, r1, r2, r3, r4⟩, ⟨v0, v1, v2, v3, v4⟩, _⟩ := hSw; go_simp; with_reducible rfl)
              try simp only [Act.put, List.setIfInBounds_toArray, List.set_cons_zero, List.set_cons_succ]
              refine wpAnyH_take (i := 3) (oi := { dst := some 60, op := _, type := _, pos := _, after := _, guard := _ }) (v := ?vy3) rfl (by kernel_rfl) (by kernel_rfl) (by kernel_rfl) (fun _ _ _ h => h) (Or.inl ⟨by kernel_rfl, ?hy3⟩) hSy ?ry3
              case hy3 => first | (intro w hSw; obtain ⟨⟨s0, s1, s2, s3, s4⟩, ⟨r0, r1, r2, r3, r4⟩, ⟨v0, v1, v2, v3, v4⟩, _⟩ := hSw; go_simp; done) | (intro w hSw; obtain ⟨⟨s0, s1, s2, s3, s4⟩, ⟨r0, r1, r2, r3, r4⟩, ⟨v0, v1, v2, v3, v4⟩, _⟩ := hSw; go_simp; with_reducible rfl)
              try simp only [Act.put, List.setIfInBounds_toArray, List.set_cons_zero, List.set_cons_succ]
              refine wpAnyH_take (i := 4) (oi := { dst := some 61, op := _, type := _, pos := _, after := _, guard := _ }) (v := ?vy4) rfl (by kernel_rfl) (by kernel_rfl) (by kernel_rfl) (fun _ _ _ h => h) (Or.inl ⟨by kernel_rfl, ?hy4⟩) hSy ?ry4
              case hy4 => first | (intro w hSw; obtain ⟨⟨s0, s1, s2, s3, s4⟩, ⟨r0, r1, r2, r3, r4⟩, ⟨v0, v1, v2, v3, v4⟩, _⟩ := hSw; go_simp; done) | (intro w hSw; obtain ⟨⟨s0, s1, s2, s3, s4⟩, ⟨r0, r1, r2, r3, r4⟩, ⟨v0, v1, v2, v3, v4⟩, _⟩ := hSw; go_simp; with_reducible rfl)
              try simp only [Act.put, List.setIfInBounds_toArray, List.set_cons_zero, List.set_cons_succ]
              refine wpAnyH_take (i := 5) (oi := { dst := some 62, op := _, type := _, pos := _, after := _, guard := _ }) (v := ?vy5) rfl (by kernel_rfl) (by kernel_rfl) (by kernel_rfl) (fun _ _ _ h => h) (Or.inl ⟨by kernel_rfl, ?hy5⟩) hSy ?ry5
              case hy5 => first | (intro w hSw; obtain ⟨⟨s0, s1, s2, s3, s4⟩, ⟨r0, r1, r2, r3, r4⟩, ⟨v0, v1, v2, v3, v4⟩, _⟩ := hSw; go_simp; done) | (intro w hSw; obtain ⟨⟨s0, s1, s2, s3, s4⟩, ⟨r0, r1, r2, r3, r4⟩, ⟨v0, v1, v2, v3, v4⟩, _⟩ := hSw; go_simp; with_reducible rfl)
              try simp only [Act.put, List.setIfInBounds_toArray, List.set_cons_zero, List.set_cons_succ]
              refine wpAnyH_take (i := 6) (oi := { dst := some 63, op := _, type := _, pos := _, after := _, guard := _ }) (v := ?vy6) rfl (by kernel_rfl) (by kernel_rfl) (by kernel_rfl) (fun _ _ _ h => h) (Or.inl ⟨by kernel_rfl, ?hy6⟩) hSy ?ry6
              case hy6 => first | (intro w hSw; obtain ⟨⟨s0, s1, s2, s3, s4⟩, ⟨r0, r1, r2, r3, r4⟩, ⟨v0, v1, v2, v3, v4⟩, _⟩ := hSw; go_simp; done) | (intro w hSw; obtain ⟨⟨s0, s1, s2, s3, s4⟩, ⟨r0, r1, r2, r3, r4⟩, ⟨v0, v1, v2, v3, v4⟩, _⟩ := hSw; go_simp; with_reducible rfl)
              try simp only [Act.put, List.setIfInBounds_toArray, List.set_cons_zero, List.set_cons_succ]
              refine wpAnyH_take (i := 7) (oi := { dst := some 64, op := _, type := _, pos := _, after := _, guard := _ }) (v := ?vy7) rfl (by kernel_rfl) (by kernel_rfl) (by kernel_rfl) (fun _ _ _ h => h) (Or.inl ⟨by kernel_rfl, ?hy7⟩) hSy ?ry7
              case hy7 => first | (intro w hSw; obtain ⟨⟨s0, s1, s2, s3, s4⟩, ⟨r0, r1, r2, r3, r4⟩, ⟨v0, v1, v2, v3, v4⟩, _⟩ := hSw; go_simp; done) | (intro w hSw; obtain ⟨⟨s0, s1, s2, s3, s4⟩, ⟨r0, r1, r2, r3, r4⟩, ⟨v0, v1, v2, v3, v4⟩, _⟩ := hSw; go_simp; with_reducible rfl)
              try simp only [Act.put, List.setIfInBounds_toArray, List.set_cons_zero, List.set_cons_succ]
              refine wpAnyH_take (i := 9) (oi := { dst := some 66, op := _, type := _, pos := _, after := _, guard := _ }) (v := ?vy9) rfl (by kernel_rfl) (by kernel_rfl) (by kernel_rfl) (fun _ _ _ h => h) (Or.inl ⟨by kernel_rfl, ?hy9⟩) hSy ?ry9
              case hy9 => first | (intro w hSw; obtain ⟨⟨s0, s1, s2, s3, s4⟩, ⟨r0, r1, r2, r3, r4⟩, ⟨v0, v1, v2, v3, v4⟩, _⟩ := hSw; go_simp; done) | (intro w hSw; obtain ⟨⟨s0, s1, s2, s3, s4⟩, ⟨r0, r1, r2, r3, r4⟩, ⟨v0, v1, v2, v3, v4⟩, _⟩ := hSw; go_simp; with_reducible rfl)
              try simp only [Act.put, List.setIfInBounds_toArray, List.set_cons_zero, List.set_cons_succ]
              refine wpAnyH_take (i := 10) (oi := { dst := some 67, op := _, type := _, pos := _, after := _, guard := _ }) (v := ?vy10) rfl (by kernel_rfl) (by kernel_rfl) (by kernel_rfl) (fun _ _ _ h => h) (Or.inl ⟨by kernel_rfl, ?hy10⟩) hSy ?ry10
              case hy10 => first | (intro w hSw; obtain ⟨⟨s0, s1, s2, s3, s4⟩, ⟨r0, r1, r2, r3, r4⟩, ⟨v0, v1, v2, v3, v4⟩, _⟩ := hSw; go_simp; done) | (intro w hSw; obtain ⟨⟨s0, s1, s2, s3, s4⟩, ⟨r0, r1, r2, r3, r4⟩, ⟨v0, v1, v2, v3, v4⟩, _⟩ := hSw; go_simp; with_reducible rfl)
              try simp only [Act.put, List.setIfInBounds_toArray, List.set_cons_zero, List.set_cons_succ]
              refine wpAnyH_take (i := 11) (oi := { dst := some 68, op := _, type := _, pos := _, after := _, guard := _ }) (v := ?vy11) rfl (by kernel_rfl) (by kernel_rfl) (by kernel_rfl) (fun _ _ _ h => h) (Or.inl ⟨by kernel_rfl, ?hy11⟩) hSy ?ry11
              case hy11 => first | (intro w hSw; obtain ⟨⟨s0, s1, s2, s3, s4⟩, ⟨r0, r1, r2, r3, r4⟩, ⟨v0, v1, v2, v3, v4⟩, _⟩ := hSw; go_simp; done) | (intro w hSw; obtain ⟨⟨s0, s1, s2, s3, s4⟩, ⟨r0, r1, r2, r3, r4⟩, ⟨v0, v1, v2, v3, v4⟩, _⟩ := hSw; go_simp; with_reducible rfl)
              try simp only [Act.put, List.setIfInBounds_toArray, List.set_cons_zero, List.set_cons_succ]
              refine wpAnyH_take (i := 12) (oi := { dst := some 69, op := _, type := _, pos := _, after := _, guard := _ }) (v := ?vy12) rfl (by kernel_rfl) (by kernel_rfl) (by kernel_rfl) (fun _ _ _ h => h) (Or.inl ⟨by kernel_rfl, ?hy12⟩) hSy ?ry12
              case hy12 => first | (intro w hSw; obtain ⟨⟨s0, s1, s2, s3, s4⟩, ⟨r0, r1, r2, r3, r4⟩, ⟨v0, v1, v2, v3, v4⟩, _⟩ := hSw; go_simp; done) | (intro w hSw; obtain ⟨⟨s0, s1, s2, s3, s4⟩, ⟨r0, r1, r2, r3, r4⟩, ⟨v0, v1, v2, v3, v4⟩, _⟩ := hSw; go_simp; with_reducible rfl)
              try simp only [Act.put, List.setIfInBounds_toArray, List.set_cons_zero, List.set_cons_succ]
              refine wpAnyH_take (i := 13) (oi := { dst := some 70, op := _, type := _, pos := _, after := _, guard := _ }) (v := ?vy13) rfl (by kernel_rfl) (by kernel_rfl) (by kernel_rfl) (fun _ _ _ h => h) (Or.inl ⟨by kernel_rfl, ?hy13⟩) hSy ?ry13
              case hy13 => first | (intro w hSw; obtain ⟨⟨s0, s1, s2, s3, s4⟩, ⟨r0, r1, r2, r3, r4⟩, ⟨v0, v1, v2, v3, v4⟩, _⟩ := hSw; go_simp; done) | (intro w hSw; obtain ⟨⟨s0, s1, s2, s3, s4⟩, ⟨r0, r1, r2, r3, r4⟩, ⟨v0, v1, v2, v3, v4⟩, _⟩ := hSw; go_simp; with_reducible rfl)
              try simp only [Act.put, List.setIfInBounds_toArray, List.set_cons_zero, List.set_cons_succ]
              refine wpAnyH_take (i := 14) (oi := { dst := some 71, op := _, type := _, pos := _, after := _, guard := _ }) (v := ?vy14) rfl (by kernel_rfl) (by kernel_rfl) (by kernel_rfl) (fun _ _ _ h => h) (Or.inl ⟨by kernel_rfl, ?hy14⟩) hSy ?ry14
              case hy14 => first | (intro w hSw; obtain ⟨⟨s0, s1, s2, s3, s4⟩, ⟨r0, r1, r2, r3, r4⟩, ⟨v0, v1, v2, v3, v4⟩, _⟩ := hSw; go_simp; done) | (intro w hSw; obtain ⟨⟨s0, s1, s2, s3, s4⟩, ⟨r0, r1, r2, r3, r4⟩, ⟨v0, v1, v2, v3, v4⟩, _⟩ := hSw; go_simp; with_reducible rfl)
              try simp only [Act.put, List.setIfInBounds_toArray, List.set_cons_zero, List.set_cons_succ]
              refine wpAnyH_take (i := 15) (oi := { dst := some 72, op := _, type := _, pos := _, after := _, guard := _ }) (v := ?vy15) rfl (by kernel_rfl) (by kernel_rfl) (by kernel_rfl) (fun _ _ _ h => h) (Or.inl ⟨by kernel_rfl, ?hy15⟩) hSy ?ry15
              case hy15 => first | (intro w hSw; obtain ⟨⟨s0, s1, s2, s3, s4⟩, ⟨r0, r1, r2, r3, r4⟩, ⟨v0, v1, v2, v3, v4⟩, _⟩ := hSw; go_simp; done) | (intro w hSw; obtain ⟨⟨s0, s1, s2, s3, s4⟩, ⟨r0, r1, r2, r3, r4⟩, ⟨v0, v1, v2, v3, v4⟩, _⟩ := hSw; go_simp; with_reducible rfl)
              try simp only [Act.put, List.setIfInBounds_toArray, List.set_cons_zero, List.set_cons_succ]
              refine wpAnyH_take (i := 16) (oi := { dst := some 73, op := _, type := _, pos := _, after := _, guard := _ }) (v := ?vy16) rfl (by kernel_rfl) (by kernel_rfl) (by kernel_rfl) (fun _ _ _ h => h) (Or.inl ⟨by kernel_rfl, ?hy16⟩) hSy ?ry16
              case hy16 => first | (intro w hSw; obtain ⟨⟨s0, s1, s2, s3, s4⟩, ⟨r0, r1, r2, r3, r4⟩, ⟨v0, v1, v2, v3, v4⟩, _⟩ := hSw; go_simp; done) | (intro w hSw; obtain ⟨⟨s0, s1, s2, s3, s4⟩, ⟨r0, r1, r2, r3, r4⟩, ⟨v0, v1, v2, v3, v4⟩, _⟩ := hSw; go_simp; with_reducible rfl)
              try simp only [Act.put, List.setIfInBounds_toArray, List.set_cons_zero, List.set_cons_succ]
              refine wpAnyH_ready (rs := [8]) (by kernel_rfl) (by simp) ?_
              refine AllReadyH.cons rfl (fun K hK => ?_) AllReadyH.nil
              go_simp
              refine (unhide CM _ (unhide HL1 _ hSy.2.2.2) (unhide HL2 _ hSy.2.2.2)).mono ?_
              rintro e3 W3 ⟨rfl, hb3⟩
              have hSy' := Keep3.below hSy hb3
              clear hb3
              refine hK _ _ hSy' (fun _ => ?_)
              clear hK K hSy
              have hSy := hSy'
              clear hSy'
              refine wpAnyH_ready (rs := [17]) (by kernel_rfl) (by simp) ?_
              refine AllReadyH.cons rfl (fun K hK => ?_) AllReadyH.nil
              go_simp
              refine (unhide CS _ (unhide HL1 _ hSy.2.2.2) (unhide HL3 _ hSy.2.2.2)).mono ?_
              rintro e4 W4 ⟨rfl, hb4⟩
              have hSy' := Keep3.below hSy hb4
              clear hb4
              refine hK _ _ hSy' (fun _ => ?_)
              clear hK K hSy
              have hSy := hSy'
              clear hSy'
              refine wpAnyH_take (i := 18) (oi := { dst := some 75, op := _, type := _, pos := _, after := _, guard := _ }) (v := ?vy18) rfl (by kernel_rfl) (by kernel_rfl) (by kernel_rfl) (fun _ _ _ h => h) (Or.inl ⟨by kernel_rfl, ?hy18⟩) hSy ?ry18
              case hy18 => first | (intro w hSw; obtain ⟨⟨s0, s1, s2, s3, s4⟩, ⟨r0, r1, r2, r3, r4⟩, ⟨v0, v1, v2, v3, v4⟩, _⟩ := hSw; go_simp; done) | (intro w hSw; obtain ⟨⟨s0, s1, s2, s3, s4⟩, ⟨r0, r1, r2, r3, r4⟩, ⟨v0, v1, v2, v3, v4⟩, _⟩ := hSw; go_simp; with_reducible rfl)
              try simp only [Act.put, List.setIfInBounds_toArray, List.set_cons_zero, List.set_cons_succ]
              refine wpAnyH_take (i := 19) (oi := { dst := some 76, op := _, type := _, pos := _, after := _, guard := _ }) (v := ?vy19) rfl (by kernel_rfl) (by kernel_rfl) (by kernel_rfl) (fun _ _ _ h => h) (Or.inl ⟨by kernel_rfl, ?hy19⟩) hSy ?ry19
              case hy19 => first | (intro w hSw; obtain ⟨⟨s0, s1, s2, s3, s4⟩, ⟨r0, r1, r2, r3, r4⟩, ⟨v0, v1, v2, v3, v4⟩, _⟩ := hSw; go_simp; done) | (intro w hSw; obtain ⟨⟨s0, s1, s2, s3, s4⟩, ⟨r0, r1, r2, r3, r4⟩, ⟨v0, v1, v2, v3, v4⟩, _⟩ := hSw; go_simp; with_reducible rfl)
              try simp only [Act.put, List.setIfInBounds_toArray, List.set_cons_zero, List.set_cons_succ]
              refine wpAnyH_ready (rs := [20]) (by kernel_rfl) (by simp) ?_
              refine AllReadyH.cons rfl (fun K hK => ?_) AllReadyH.nil
              go_simp
              have hbq := tr2 (unhide HB2) hSy.2.2.2
              refine (unhide CT _ ((unhide HT).below hbq) ((unhide HM).below hbq)).mono ?_
              rintro e5 W5 ⟨rfl, hb5⟩
              have hSy' := Keep3.below hSy hb5
              clear hb5 hbq
              refine hK _ _ hSy' (fun _ => ?_)
              clear hK K hSy
              have hSy := hSy'
              clear hSy'
              refine wpAnyH_take (i := 21) (oi := { dst := some 78, op := _, type := _, pos := _, after := _, guard := _ }) (v := ?vy21) rfl (by kernel_rfl) (by kernel_rfl) (by kernel_rfl) (fun _ _ _ h => h) (Or.inl ⟨by kernel_rfl, ?hy21⟩) hSy ?ry21
              case hy21 => first | (intro w hSw; obtain ⟨⟨s0, s1, s2, s3, s4⟩, ⟨r0, r1, r2, r3, r4⟩, ⟨v0, v1, v2, v3, v4⟩, _⟩ := hSw; go_simp; done) | (intro w hSw; obtain ⟨⟨s0, s1, s2, s3, s4⟩, ⟨r0, r1, r2, r3, r4⟩, ⟨v0, v1, v2, v3, v4⟩, _⟩ := hSw; go_simp; with_reducible rfl)
              try simp only [Act.put, List.setIfInBounds_toArray, List.set_cons_zero, List.set_cons_succ]
              refine wpAnyH_take (i := 22) (oi := { dst := some 6, op := _, type := _, pos := _, after := _, guard := _ }) (v := ?vy22) rfl (by kernel_rfl) (by kernel_rfl) (by kernel_rfl) (fun _ _ _ h => h) (Or.inl ⟨by kernel_rfl, ?hy22⟩) hSy ?ry22
              case hy22 => first | (intro w hSw; obtain ⟨⟨s0, s1, s2, s3, s4⟩, ⟨r0, r1, r2, r3, r4⟩, ⟨v0, v1, v2, v3, v4⟩, _⟩ := hSw; go_simp; done) | (intro w hSw; obtain ⟨⟨s0, s1, s2, s3, s4⟩, ⟨r0, r1, r2, r3, r4⟩, ⟨v0, v1, v2, v3, v4⟩, _⟩ := hSw; go_simp; with_reducible rfl)
              try simp only [Act.put, List.setIfInBounds_toArray, List.set_cons_zero, List.set_cons_succ]
              refine wpAnyH_done (by kernel_rfl) ?_ _
              have HB9 := hide (tr2 (unhide HB2) hSy.2.2.2)
              clear hSy HK HL1 HL2 HL3 CS CM
              go_wp2
              go_ret
              exact ⟨rfl, unhide HB9⟩
            · have d9 : decide (b < (ts.length : Int)) = false := decide_eq_false c4
              clear HW1 HW2 FN
              go_wp2_with fail
              refine (unhide CT _ ((unhide HT).below (unhide HBT)) ((unhide HM).below (unhide HBT))).mono ?_
              rintro e w5 ⟨rfl, hb5⟩
              go_wp2
              go_ret
              exact ⟨rfl, tr2 (unhide HBT) hb5⟩
          · have d9 : decide (0 ≤ b) = false := decide_eq_false c3
            clear HW1 HW2 FN
            go_wp2_with fail
            refine (unhide CT _ ((unhide HT).below (unhide HBT)) ((unhide HM).below (unhide HBT))).mono ?_
            rintro e w5 ⟨rfl, hb5⟩
            go_wp2
            go_ret
            exact ⟨rfl, tr2 (unhide HBT) hb5⟩
        · have d9 : decide (a < (ts.length : Int)) = false := decide_eq_false c2
          clear HW1 HW2 FN
          go_wp2_with fail
          refine (unhide CT _ ((unhide HT).below (unhide HBT)) ((unhide HM).below (unhide HBT))).mono ?_
          rintro e w5 ⟨rfl, hb5⟩
          go_wp2
          go_ret
          exact ⟨rfl, tr2 (unhide HBT) hb5⟩
      · have d9 : decide (0 ≤ a) = false := decide_eq_false c1
        clear HW1 HW2 FN
        go_wp2_with fail
        refine (unhide CT _ ((unhide HT).below (unhide HBT)) ((unhide HM).below (unhide HBT))).mono ?_
        rintro e w5 ⟨rfl, hb5⟩
        go_wp2
        go_ret
        exact ⟨rfl, tr2 (unhide HBT) hb5⟩
theorem tall_walk (s : ByteArray) (a b : Int) (w : World) (ht : Tab4 w) (hm : Mx w) :
    Calls Tryz.prog 4 #[.string s, .int .i64 a, .int .i64 b] w fun e w' => e = .returned (.bool true) ∧ Below w.heap.size w w' := by
  by_cases h : 2000 < s.size
  · exact tall_long s a b w ht hm h
  · exact tall_main s a b w ht hm (by omega)
end Go.Proofs.YtakjlolmmoladaaGreatDoor

/-
  From the rows' list of package variables to what the walks ask: the cells of the four tables.
-/
namespace Go.Proofs.YtakjlolmmoladaaGreatDoor
open Go.RowKit Go.Lib
set_option linter.unusedVariables false

theorem tab_of_reads {P : Program} {W : World} {name : String} {k : IntKind} {zs : List Int} {g : Nat} {t e : TypeId} {n : Nat}
    (hg : P.globalNamed name = some g) (hty : (P.globals[g]?).map (·.type) = some t) (ht : P.underlying t = some (.array n e)) (he : P.underlying e = some (.int k)) (hce : P.cellsOf e = 1) (hct : P.cellsOf t = n)
    (h : VarReads P W name (tabData k zs)) : TabIs P W name k zs := by
  obtain ⟨g', t', cs, fuel, p, hg', ht', hvar, hd⟩ := h
  obtain rfl := Option.some.inj (hg.symm.trans hg')
  obtain rfl := Option.some.inj (hty.symm.trans ht')
  unfold TabIs
  rw [hvar, ← cells_of_tab ht he hce hct hd]

def nmData : DataW Unit := .agg (nmT.map fun x => .agg [.lit (.string x.1), .lit (.int .i64 x.2.1), .lit (.bool x.2.2)])
theorem nm_at (k : Nat) (h : k < 28) : (nmT.map fun x => (DataW.agg [.lit (.string x.1), .lit (.int .i64 x.2.1), .lit (.bool x.2.2)] : DataW Unit))[k]? = some (.agg [.lit (.string (nmName k)), .lit (.int .i64 (nmChar k)), .lit (.bool (nmBare k))]) := by
  have hl : k < nmT.length := h
  rw [List.getElem?_map, List.getElem?_eq_getElem hl]
  unfold nmName nmChar nmBare
  rw [List.getD, List.getElem?_eq_getElem hl]; rfl

theorem Tryz.gNames : Tryz.prog.globalNamed "recto/refs.names" = some 2 := by kernel_rfl
theorem Tryz.gOlds : Tryz.prog.globalNamed "recto/refs.olds" = some 1 := by kernel_rfl
theorem Tryz.gHeads : Tryz.prog.globalNamed "recto/utf.heads" = some 0 := by kernel_rfl
theorem Tryz.gEnds : Tryz.prog.globalNamed "recto/utf.ends" = some 3 := by kernel_rfl
theorem Tryz.tNames : (Tryz.prog.globals[2]?).map (·.type) = some 109 := by kernel_rfl
theorem Tryz.tOlds : (Tryz.prog.globals[1]?).map (·.type) = some 105 := by kernel_rfl
theorem Tryz.tHeads : (Tryz.prog.globals[0]?).map (·.type) = some 104 := by kernel_rfl
theorem Tryz.tEnds : (Tryz.prog.globals[3]?).map (·.type) = some 104 := by kernel_rfl
theorem Tryz.cArr5 : Tryz.prog.cellsOf 104 = 5 := by kernel_rfl
theorem Tryz.cArr32 : Tryz.prog.cellsOf 105 = 32 := by kernel_rfl
theorem Tryz.cInt : Tryz.prog.cellsOf 3 = 1 := by kernel_rfl
theorem Tryz.cStr : Tryz.prog.cellsOf 9 = 1 := by kernel_rfl
theorem Tryz.cBool : Tryz.prog.cellsOf 4 = 1 := by kernel_rfl
theorem Tryz.cNamed : Tryz.prog.cellsOf 108 = 3 := by kernel_rfl

theorem one_of_take {cs : List Value} {a b o : Nat} {v : Value} (hb : o < b) (h : (((cs.drop a).take b).drop o).take 1 = [v]) : cs[a + o]? = some v := by
  have h0 := congrArg (fun l => l[0]?) h
  simp only [List.getElem?_cons_zero] at h0
  rw [List.getElem?_take, if_pos (by omega), List.getElem?_drop, List.getElem?_take, if_pos (by omega), List.getElem?_drop] at h0
  simpa using h0

theorem nTab_of {w : World} (h : VarReads Tryz.prog w "recto/refs.names" nmData) : NTab w := by
  obtain ⟨g', t', cs, fuel, p, hg', ht', hvar, hd⟩ := h
  obtain rfl := Option.some.inj (Tryz.gNames.symm.trans hg')
  obtain rfl := Option.some.inj (Tryz.tNames.symm.trans ht')
  intro k hk
  obtain ⟨fuel', d, q, h1, h2⟩ := array_elem Tryz.underlying109 hd k hk
  rw [nm_at k hk] at h1
  obtain rfl := Option.some.inj h1
  rw [Tryz.cNamed] at h2
  obtain ⟨xs, n, _, hx, _, hxl, hf⟩ := DataW.trod_struct Tryz.underlying108 h2
  have hx1 : xs.map (·.1) = [.lit (.string (nmName k)), .lit (.int .i64 (nmChar k)), .lit (.bool (nmBare k))] := by
    have := congrArg Prod.fst hx
    simpa using this.symm
  have f0 := hf 0 _ rfl
  have f1 := hf 1 _ rfl
  have f2 := hf 2 _ rfl
  have x0 : ∀ (i : Nat) (d : DataW Unit), (xs.map (·.1))[i]? = some d → ∃ b : DataW Unit × List MemPlace, xs[i]? = some b ∧ b.1 = d := by
    intro i d h
    rw [List.getElem?_map] at h
    obtain ⟨b, hb, he⟩ := Option.map_eq_some_iff.1 h
    exact ⟨b, hb, he⟩
  obtain ⟨b0, e0, g0⟩ := x0 0 _ (by rw [hx1]; rfl)
  obtain ⟨b1, e1, g1⟩ := x0 1 _ (by rw [hx1]; rfl)
  obtain ⟨b2, e2, g2⟩ := x0 2 _ (by rw [hx1]; rfl)
  rw [e0] at f0
  rw [e1] at f1
  rw [e2] at f2
  obtain ⟨s, c0, y0, _⟩ := DataW.trod_string Tryz.underlying9 f0
  obtain ⟨z, c1, y1, _⟩ := DataW.trod_int Tryz.underlying3 f1
  obtain ⟨b, c2, y2⟩ := DataW.trod_bool Tryz.underlying4 f2
  subst y0; subst y2
  have hs : s = bs (nmName k) := by
    have : s.data.toList = nmName k := by simpa using g0
    rw [← this, bs_self]
  have hb : b = nmBare k := by simpa using g2
  have hz : z = nmChar k := by rw [y1] at g1; simpa using g1
  subst hs; subst hb; subst hz
  have v := World.var?_cell Tryz.gNames hvar
  have c0' : (((cs.toList.drop (k * 3)).take 3).drop 0).take (Tryz.prog.cellsOf 9) = [.string (bs (nmName k))] := c0
  have c1' : (((cs.toList.drop (k * 3)).take 3).drop 1).take (Tryz.prog.cellsOf 3) = [.int .i64 (nmChar k)] := c1
  have c2' : (((cs.toList.drop (k * 3)).take 3).drop 2).take (Tryz.prog.cellsOf 4) = [.bool (nmBare k)] := c2
  rw [Tryz.cStr] at c0'
  rw [Tryz.cInt] at c1'
  rw [Tryz.cBool] at c2'
  have r0 := one_of_take (a := k * 3) (b := 3) (o := 0) (by decide) c0'
  have r1 := one_of_take (a := k * 3) (b := 3) (o := 1) (by decide) c1'
  have r2 := one_of_take (a := k * 3) (b := 3) (o := 2) (by decide) c2'
  refine ⟨?_, ?_, ?_⟩
  · rw [v]; simpa using r0
  · rw [v]; simpa using r1
  · rw [v]; simpa using r2

theorem tab4_of {w : World} (h : laidMet Tryz.prog [("recto/utf.heads", Rows.laid_recto_utf_heads), ("recto/utf.ends", Rows.laid_recto_utf_ends), ("recto/refs.names", Rows.laid_recto_refs_names), ("recto/refs.olds", Rows.laid_recto_refs_olds)] w) : Tab4 w := by
  have h1 : TabIs Tryz.prog w "recto/utf.heads" .i64 [0, 0, 192, 224, 240] := tab_of_reads Tryz.gHeads Tryz.tHeads Tryz.underlying104 Tryz.underlying3 Tryz.cInt Tryz.cArr5 (laidMet.reads h (List.mem_cons_self ..))
  have h2 : TabIs Tryz.prog w "recto/utf.ends" .i64 [0, 128, 2048, 65536, 1114112] := tab_of_reads Tryz.gEnds Tryz.tEnds Tryz.underlying104 Tryz.underlying3 Tryz.cInt Tryz.cArr5 (laidMet.reads h (List.mem_cons_of_mem _ (List.mem_cons_self ..)))
  have h3 : NTab w := nTab_of (laidMet.reads h (List.mem_cons_of_mem _ (List.mem_cons_of_mem _ (List.mem_cons_self ..))))
  have h4 : TabIs Tryz.prog w "recto/refs.olds" .i64 oldT := tab_of_reads Tryz.gOlds Tryz.tOlds Tryz.underlying105 Tryz.underlying3 Tryz.cInt Tryz.cArr32 (laidMet.reads h (List.mem_cons_of_mem _ (List.mem_cons_of_mem _ (List.mem_cons_of_mem _ (List.mem_cons_self ..)))))
  refine ⟨⟨h1.cell Tryz.gHeads 1 (by decide), h1.cell Tryz.gHeads 2 (by decide), h1.cell Tryz.gHeads 3 (by decide), h1.cell Tryz.gHeads 4 (by decide), h2.cell Tryz.gEnds 1 (by decide), h2.cell Tryz.gEnds 2 (by decide), h2.cell Tryz.gEnds 3 (by decide), h2.cell Tryz.gEnds 4 (by decide)⟩, h3, fun k hk => h4.cell Tryz.gOlds k hk⟩
end Go.Proofs.YtakjlolmmoladaaGreatDoor

namespace Go.Proofs.YtakjlolmmoladaaGreatDoor.allF
open Go.ChangeShapes Go.WideShapes Go.ChangeAt Go.RowKit
open Go.ChangeMaps (open_string shut_string)
set_option linter.unusedVariables false

theorem own : ownKnob Tryz.prog.godebug = none := by kernel_rfl
theorem tabs {W : World} (h : laidMetH Tryz.prog Rows.toksAllRow.laid W) : Tab4 W := tab4_of h

theorem mx {W : World} (h : W.ShapedOpen Tryz.prog) : Mx W :=
  Go.Proofs.cell_of_shapedOpen_int (zero := #[.int .i64 0]) (t := 3) h (of_decide_eq_true (by kernel_rfl)) (by kernel_rfl) rfl (by kernel_rfl) (by kernel_rfl) Tryz.underlying3
theorem laidOut : laidOutB Tryz.prog = true := by kernel_rfl

set_option maxRecDepth 100000 in
theorem contract (H : Type) (enc : TypeId × Value → H) (W : World) (base : Nat) (args : Array Value) (ds gs : List (DataW H)) (before : List MemPlace)
    (hval : ∀ (j : Nat) t v, Tryz.f4.params[j]? = some t → args[j]? = some v → Value.okWide Tryz.prog W .any base t v)
    (hW : DataW.Whole enc Tryz.prog Tryz.f4.params.toList Rows.toksAllSpec.vars false W args.toList ds gs before) (hL : laidMetH Tryz.prog Rows.toksAllRow.laid W) (hSO : W.ShapedOpen Tryz.prog) :
    Calls Tryz.prog 4 args W fun e W' => ∃ v, e = .returned v ∧ Rows.toksAllSpec.post enc Tryz.prog Tryz.f4 false true false false W args v W' := by
  have hW' := hW
  obtain ⟨p, q, hA0, hV, rfl, hfz, hnd⟩ := hW
  have hA : DataW.TrodAll enc Tryz.prog W 0 (fun _ => true) true Tryz.f4.params.toList args.toList ds p := hA0
  rw [Tryz.params4] at hA hval
  obtain ⟨v0, vs0, d0, ds0, p0, q0, hargs, rfl, rfl, h0, r0⟩ := trodAll_cons hA
  obtain ⟨v1, vs1, d1, ds1, p1, q1, rfl, rfl, rfl, h1, r1⟩ := trodAll_cons r0
  obtain ⟨v2, vs2, d2, ds2, p2, q2, rfl, rfl, rfl, h2, r2⟩ := trodAll_cons r1
  obtain ⟨rfl, rfl, rfl⟩ := trodAll_nil r2
  obtain rfl : args = #[v0, v1, v2] := by cases args; simp_all
  obtain ⟨rfl, rfl⟩ := trodVars_none hV
  obtain ⟨a0, rfl, rfl, rfl, w0⟩ := open_string Tryz.underlying9 (hval 0 9 v0 rfl rfl) h0
  obtain ⟨a1, rfl, rfl, rfl, w1⟩ := open_int Tryz.underlying3 (hval 1 3 v1 rfl rfl) h1
  obtain ⟨a2, rfl, rfl, rfl, w2⟩ := open_int Tryz.underlying3 (hval 2 3 v2 rfl rfl) h2
  clear hA0
  refine (tall_walk a0 a1 a2 W (tabs hL) (mx hSO)).mono fun e W' ⟨he, bel⟩ => ?_
  subst he
  exact ⟨_, rfl, _, _, _, [], _, [], hW', trodAll_mk1 (shut_bool Tryz.underlying4 _), (trodAll_cons_mk (shut_string Tryz.underlying9 w0) (trodAll_cons_mk (shut_int Tryz.underlying3 w1) (trodAll_cons_mk (shut_int Tryz.underlying3 w2) trodAll_mk0))), rfl, bel.frame _, fun h => by cases h⟩

/-- What the tables' initialisers lay. -/
def lay0 : Obj → Obj
  | .cells _ t frozen => .cells #[.int .i64 0, .int .i64 0, .int .i64 192, .int .i64 224, .int .i64 240] t frozen
  | o => o
def layN : Obj → Obj
  | .cells _ t frozen => .cells #[.string ⟨#[97, 109, 112]⟩, .int .i64 38, .bool true, .string ⟨#[108, 116]⟩, .int .i64 60, .bool true, .string ⟨#[103, 116]⟩, .int .i64 62, .bool true, .string ⟨#[113, 117, 111, 116]⟩, .int .i64 34, .bool true, .string ⟨#[110, 98, 115, 112]⟩, .int .i64 160, .bool true, .string ⟨#[99, 111, 112, 121]⟩, .int .i64 169, .bool true, .string ⟨#[114, 101, 103]⟩, .int .i64 174, .bool true, .string ⟨#[110, 111, 116]⟩, .int .i64 172, .bool true, .string ⟨#[110, 111, 116, 105, 110]⟩, .int .i64 8713, .bool false, .string ⟨#[116, 105, 109, 101, 115]⟩, .int .i64 215, .bool true, .string ⟨#[112, 97, 114, 97]⟩, .int .i64 182, .bool true, .string ⟨#[115, 101, 99, 116]⟩, .int .i64 167, .bool true, .string ⟨#[101, 97, 99, 117, 116, 101]⟩, .int .i64 233, .bool true, .string ⟨#[69, 97, 99, 117, 116, 101]⟩, .int .i64 201, .bool true, .string ⟨#[97, 117, 109, 108]⟩, .int .i64 228, .bool true, .string ⟨#[65, 117, 109, 108]⟩, .int .i64 196, .bool true, .string ⟨#[115, 122, 108, 105, 103]⟩, .int .i64 223, .bool true, .string ⟨#[101, 117, 114, 111]⟩, .int .i64 8364, .bool false, .string ⟨#[104, 101, 108, 108, 105, 112]⟩, .int .i64 8230, .bool false, .string ⟨#[109, 100, 97, 115, 104]⟩, .int .i64 8212, .bool false, .string ⟨#[110, 100, 97, 115, 104]⟩, .int .i64 8211, .bool false, .string ⟨#[97, 108, 112, 104, 97]⟩, .int .i64 945, .bool false, .string ⟨#[98, 101, 116, 97]⟩, .int .i64 946, .bool false, .string ⟨#[114, 97, 114, 114]⟩, .int .i64 8594, .bool false, .string ⟨#[108, 97, 114, 114]⟩, .int .i64 8592, .bool false, .string ⟨#[97, 112, 111, 115]⟩, .int .i64 39, .bool false, .string ⟨#[121, 101, 110]⟩, .int .i64 165, .bool true, .string ⟨#[109, 105, 99, 114, 111]⟩, .int .i64 181, .bool true] t frozen
  | o => o
def layO : Obj → Obj
  | .cells _ t frozen => .cells #[.int .i64 8364, .int .i64 0, .int .i64 8218, .int .i64 402, .int .i64 8222, .int .i64 8230, .int .i64 8224, .int .i64 8225, .int .i64 710, .int .i64 8240, .int .i64 352, .int .i64 8249, .int .i64 338, .int .i64 0, .int .i64 381, .int .i64 0, .int .i64 0, .int .i64 8216, .int .i64 8217, .int .i64 8220, .int .i64 8221, .int .i64 8226, .int .i64 8211, .int .i64 8212, .int .i64 732, .int .i64 8482, .int .i64 353, .int .i64 8250, .int .i64 339, .int .i64 0, .int .i64 382, .int .i64 376] t frozen
  | o => o
def lay1 : Obj → Obj
  | .cells _ t frozen => .cells #[.int .i64 0, .int .i64 128, .int .i64 2048, .int .i64 65536, .int .i64 1114112] t frozen
  | o => o
theorem laid_met (os : Os) : laidMet Tryz.prog Rows.toksAllRow.laid (({ World.holding Tryz.prog os ⟨#[], #[], []⟩ with heap := ((((World.holding Tryz.prog os ⟨#[], #[], []⟩).heap.modify 2 layN).modify 1 layO).modify 0 lay0).modify 3 lay1 } : World).forCall (fun _ _ => 0) ⟨#[], #[.string ⟨#[]⟩, .int .i64 0, .int .i64 0], []⟩).memory :=
  laidMet_of_run' 8 (by kernel_rfl) (by kernel_rfl)
theorem reads (os : Os) {H : Type} (enc : TypeId × Value → H) : ∃ places, DataW.whole enc Tryz.prog (({ World.holding Tryz.prog os ⟨#[], #[], []⟩ with heap := ((((World.holding Tryz.prog os ⟨#[], #[], []⟩).heap.modify 2 layN).modify 1 layO).modify 0 lay0).modify 3 lay1 } : World).forCall (fun _ _ => 0) ⟨#[], #[.string ⟨#[]⟩, .int .i64 0, .int .i64 0], []⟩).memory Tryz.f4.params.toList Rows.toksAllSpec.vars false #[Value.string ⟨#[]⟩, Value.int .i64 0, Value.int .i64 0].toList 8 = some ([.lit (.string []), .lit (.int .i64 0), .lit (.int .i64 0)], [], places) :=
  ⟨[], by kernel_rfl⟩

set_option maxRecDepth 100000 in
theorem lifted (os : Os) (started : os.Started) (H : Type) (enc : TypeId × Value → H) (F : Stop.Interp) :
    ReturnsInHanded {} Tryz.checked os 4 .any ((OpenSpec.ofChange Rows.toksAllSpec).preRow enc Tryz.prog Tryz.f4 Rows.toksAllRow.domain false Rows.toksAllRow.laid) (((OpenSpec.ofChange Rows.toksAllSpec).at F).post enc Tryz.prog Tryz.f4 false true false false) := by
  obtain ⟨places, hx⟩ := reads os enc
  refine returnsInHanded_of_row (C := Tryz.checked) (s := OpenSpec.ofChange Rows.toksAllSpec) own started (by kernel_rfl) Tryz.func4
    (witness_row_at (enc := enc) (C := Tryz.checked) false ({ World.holding Tryz.prog os ⟨#[], #[], []⟩ with heap := ((((World.holding Tryz.prog os ⟨#[], #[], []⟩).heap.modify 2 layN).modify 1 layO).modify 0 lay0).modify 3 lay1 } : World) #[.string ⟨#[]⟩, .int .i64 0, .int .i64 0] rfl (by kernel_rfl) (by kernel_rfl) (by kernel_rfl)
      (OpenSpec.preRow_of_cond 8 hx (by kernel_rfl) (fun k hk => by cases hk) (by kernel_rfl) (laid_met os))) ?_
  intro W base args ds gs before hval hW _ _ _ hL hSO _
  exact contract H enc W base args ds gs before hval hW hL hSO

theorem said : Rows.ToksAllSaid :=
  OpenClaim.holds_of_cond 4 Tryz.f4 rfl rfl rfl rfl rfl rfl rfl ⟨rfl, rfl, rfl, rfl, rfl⟩ rfl rfl rfl rfl rfl (by kernel_rfl) Tryz.func4 (by kernel_rfl)
    (of_decide_eq_true (by kernel_rfl)) (by unfold Func.isWrapper; first | (rw [if_pos (by decide +kernel)]; kernel_rfl) | (rw [if_neg (by decide +kernel)]; exact ⟨rfl, rfl⟩))
    (fun os started H enc _ F => by rw [OpenClaim.pre_eq_preRow]; exact lifted os started H enc F)

theorem plain (f : FuncId) (fn : Func) (hf : Tryz.pinned.checked.prog.funcNamed "recto/rectolaw05.ToksAll" = some f) (hfn : Tryz.pinned.checked.prog.funcs[f]? = some fn) :
    false = Tryz.pinned.checked.prog.looks [] ∧ ∀ (j : Nat) t, fn.params[j]? = some t → Tryz.pinned.checked.prog.wantsStandIn t = false := by
  obtain rfl : f = 4 := Option.some.inj ((show Tryz.prog.funcNamed "recto/rectolaw05.ToksAll" = some 4 by kernel_rfl).symm.trans hf) |>.symm
  obtain rfl : fn = Tryz.f4 := (Option.some.inj (Tryz.func4.symm.trans hfn)).symm
  refine ⟨by kernel_rfl, fun j t ht => ?_⟩
  rw [Tryz.params4] at ht
  have hm := Array.mem_of_getElem? ht
  simp at hm
  rcases hm with rfl | rfl
  · exact (show Tryz.prog.wantsStandIn 9 = false by kernel_rfl)
  · exact (show Tryz.prog.wantsStandIn 3 = false by kernel_rfl)

theorem card : Rows.ToksAllCardSaid :=
  Claim7.holds_tied_plain_at .later [] _ _ _ _ said (fun _ h => by cases h) (by kernel_rfl) (fun _ h => by cases h) toksAll_row_tie rfl ⟨rfl, rfl⟩ (by kernel_rfl) rfl plain (by kernel_rfl)
end Go.Proofs.YtakjlolmmoladaaGreatDoor.allF

namespace Go.Proofs.YtakjlolmmoladaaGreatDoor
theorem toksAll_card : Rows.ToksAllCardSaid := allF.card
end Go.Proofs.YtakjlolmmoladaaGreatDoor
