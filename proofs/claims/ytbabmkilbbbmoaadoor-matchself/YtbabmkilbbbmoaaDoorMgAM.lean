/-
  Several texts in one: what the functions of the program and of the document's answer do.
-/
import Derived.Test.YtbabmkilbbbmoaaDoorMgAA
import Derived.BigQuiet
import Derived.Test.YtbabmkilbbbmoaaDoorMgAK
import Derived.Laws.EntriesVeiled

/-
  What 'rectoplain.Attrs' does: of every two lists of attributes, whether they are equal; it only reads.
-/
namespace Go.Proofs.YtbabmkilbbbmoaaDoor
open Go.RowKit
set_option linter.unusedVariables false

def sameA (a b : List (ByteArray × ByteArray)) : Bool := decide (a = b)
theorem attrs_a0 (a b : Option Addr) (ca lb cb : Nat) (w : World) (hb : lb ≤ 9223372036854775807) :
    Calls Tryd.prog 48 #[.slice a 0 ca, .slice b lb cb] w fun e w' => e = .returned (.bool (((0 : Int) == (lb : Int)))) ∧ Below w.heap.size w w' := by
  go_enter Tryd.func48, Tryd.ntmps48
  go_wp2
  refine wp_loop_rounds 1 ?_
  rw [rounds_succ]; go_wp2
  go_ret
  exact ⟨rfl, Below.refl _ _⟩

set_option maxHeartbeats 400000 in
theorem attrs_b0 (x : Nat) (xo la ca : Nat) (b : Option Addr) (cb : Nat) (w : World) (h0 : 0 < la) (ha : la ≤ 9223372036854775807) :
    Calls Tryd.prog 48 #[.slice (some ⟨x, xo, none⟩) la ca, .slice b 0 cb] w fun e w' => e = .returned (.bool false) ∧ Below w.heap.size w w' := by
  have h1 : (0 : Int) < (la : Int) := by omega
  go_enter Tryd.func48, Tryd.ntmps48
  go_wp2
  refine wp_loop_rounds 1 ?_
  rw [rounds_succ]; go_wp2
  go_quiet (fail)
  go_wp2
  go_ret
  exact ⟨rfl, below_draws _ _⟩

theorem same_ats (a b : List (ByteArray × ByteArray)) (hl : a.length = b.length) (h : ∀ i, i < a.length → an a i = an b i ∧ av a i = av b i) : a = b := by
  apply List.ext_getElem hl
  intro i h1 h2
  obtain ⟨e1, e2⟩ := h i h1
  unfold an at e1
  unfold av at e2
  rw [List.getD, List.getD, List.getElem?_eq_getElem h1, List.getElem?_eq_getElem h2] at e1 e2
  exact Prod.ext e1 e2

set_option maxHeartbeats 2000000 in
theorem attrs_loop (x xo ca y yo cb : Nat) (ta tb : List (ByteArray × ByteArray)) (la lb : Nat) (w : World) (hla : Hid (ta.length = la)) (hlb : Hid (tb.length = lb)) (h0 : 0 < la) (h0b : 0 < lb) (ha : la ≤ 4398046511104) (hb : lb ≤ 4398046511104)
    (hx : Cells2 x xo ta w) (hy : Cells2 y yo tb w) :
    Calls Tryd.prog 48 #[.slice (some ⟨x, xo, none⟩) la ca, .slice (some ⟨y, yo, none⟩) lb cb] w fun e w' => e = .returned (.bool (sameA ta tb)) ∧ Below w.heap.size w w' := by
  have HX := hide hx
  have HY := hide hy
  clear hx hy
  go_enter Tryd.func48, Tryd.ntmps48
  go_wp2
  go_loopw [8] (fun i wr => ∃ k : Nat, k ≤ la ∧ i = .int .i64 k ∧ Below w.heap.size w wr ∧ (∀ j, j < k → j < lb ∧ an ta j = an tb j ∧ av ta j = av tb j)) (fun i _ => la - (intOf i).toNat)
  case atStart => exact ⟨0, Nat.zero_le _, rfl, Below.refl _ _, fun j h => by omega⟩
  case round =>
    obtain ⟨k, hk, rfl, hbw, hall⟩ := hrel
    have HA := hide hall
    have HB := hide hbw
    clear hall
    by_cases hlt : k < la
    · have hlti : (k : Int) < (la : Int) := by omega
      by_cases hkb : k < lb
      · have hkbi : (k : Int) < (lb : Int) := by omega
        have hg : decide ((lb : Int) ≤ (k : Int)) = false := by simp; omega
        obtain ⟨c1, c2⟩ := (unhide HX).below hbw k (by rw [unhide hla]; exact hlt)
        obtain ⟨c3, c4⟩ := (unhide HY).below hbw k (by rw [unhide hlb]; exact hkb)
        generalize hp1 : an ta k = p1 at *
        generalize hp2 : av ta k = p2 at *
        generalize hq1 : an tb k = q1 at *
        generalize hq2 : av tb k = q2 at *
        have HP := hide (And.intro hp1 (And.intro hp2 (And.intro hq1 hq2)))
        clear hp1 hp2 hq1 hq2 hbw
        by_cases e1 : p1 = q1
        · have f1 := beq_yes e1
          by_cases e2 : p2 = q2
          · have f2 := beq_yes e2
            have HE := hide (And.intro e1 e2)
            clear e1 e2
            go_wp2
            go_quiet (fail)
            go_wp2
            refine ⟨⟨k + 1, by omega, by go_num, _root_.Go.below_drewN (unhide HB) _, fun j hj => ?_⟩, by simp [intOf]; omega⟩
            by_cases hjk : j = k
            · subst hjk
              obtain ⟨r1, r2, r3, r4⟩ := unhide HP
              exact ⟨hkb, by rw [r1, r3]; exact (unhide HE).1, by rw [r2, r4]; exact (unhide HE).2⟩
            · exact unhide HA j (by omega)
          · have f2 := beq_no e2
            have HS : Hid (sameA ta tb = false) := hide (decide_eq_false fun h => e2 (by obtain ⟨r1, r2, r3, r4⟩ := unhide HP; rw [← r2, ← r4, h]))
            clear e1 e2
            go_wp2
            go_quiet (fail)
            go_wp2
            go_ret
            exact ⟨by rw [unhide HS]; rfl, _root_.Go.below_drewN (unhide HB) _⟩
        · have f1 := beq_no e1
          have HS : Hid (sameA ta tb = false) := hide (decide_eq_false fun h => e1 (by obtain ⟨r1, r2, r3, r4⟩ := unhide HP; rw [← r1, ← r3, h]))
          clear e1
          go_wp2
          go_quiet (fail)
          go_wp2
          go_ret
          exact ⟨by rw [unhide HS]; rfl, _root_.Go.below_drewN (unhide HB) _⟩
      · have hg : decide ((lb : Int) ≤ (k : Int)) = true := by simp; omega
        have HS : Hid (sameA ta tb = false) := hide (decide_eq_false (by intro e; have := congrArg List.length e; rw [unhide hla, unhide hlb] at this; omega))
        clear hbw
        go_wp2
        go_quiet (fail)
        go_wp2
        go_ret
        exact ⟨by rw [unhide HS]; rfl, _root_.Go.below_drewN (unhide HB) _⟩
    · have hs : sameA ta tb = ((la : Int) == (lb : Int)) := by
        by_cases e : la = lb
        · rw [sameA, decide_eq_true (same_ats ta tb (by rw [unhide hla, unhide hlb]; exact e) (fun i hi => (unhide HA i (by rw [unhide hla] at hi; omega)).2))]
          simp [e]
        · rw [sameA, decide_eq_false (by intro e'; have := congrArg List.length e'; rw [unhide hla, unhide hlb] at this; exact e this)]
          symm; apply beq_eq_false_iff_ne.2; omega
      have HS := hide hs
      clear hs
      go_wp2
      go_ret
      exact ⟨by rw [unhide HS]; rfl, hbw⟩

theorem attrs_any (qa qb : Option Addr) (ca cb : Nat) (ta tb : List (ByteArray × ByteArray)) (w : World) (ha : Sl qa ta w) (hb : Sl qb tb w) (la : ta.length ≤ 4398046511104) (lb : tb.length ≤ 4398046511104) :
    Calls Tryd.prog 48 #[.slice qa ta.length ca, .slice qb tb.length cb] w fun e w' => e = .returned (.bool (sameA ta tb)) ∧ Below w.heap.size w w' := by
  rcases ha with rfl | ⟨x, xo, rfl, hx⟩
  · have : sameA [] tb = ((0 : Int) == (tb.length : Int)) := by
      cases tb with
      | nil => rfl
      | cons a l => rw [sameA, decide_eq_false (by simp)]; symm; apply beq_eq_false_iff_ne.2; simp; omega
    rw [this]
    exact attrs_a0 qa qb ca tb.length cb w (by omega)
  · by_cases h0 : ta.length = 0
    · have e0 : ta = [] := List.eq_nil_of_length_eq_zero h0
      subst e0
      have : sameA [] tb = ((0 : Int) == (tb.length : Int)) := by
        cases tb with
        | nil => rfl
        | cons a l => rw [sameA, decide_eq_false (by simp)]; symm; apply beq_eq_false_iff_ne.2; simp; omega
      rw [this]
      exact attrs_a0 _ qb ca tb.length cb w (by omega)
    rcases hb with rfl | ⟨y, yo, rfl, hy⟩
    · rw [sameA, decide_eq_false (by intro e; rw [e] at h0; exact h0 rfl)]
      exact attrs_b0 x xo _ ca qb cb w (by omega) (by omega)
    · by_cases h1 : tb.length = 0
      · rw [sameA, decide_eq_false (by intro e; rw [e] at h0; exact h0 h1), h1]
        exact attrs_b0 x xo _ ca _ cb w (by omega) (by omega)
      · exact attrs_loop x xo ca y yo cb ta tb _ _ w (hide rfl) (hide rfl) (by omega) (by omega) la lb hx hy
end Go.Proofs.YtbabmkilbbbmoaaDoor

/-
  'slices.Equal' of attributes; 'tree.alike' (made by mk_yeq.py).
-/
namespace Go.Proofs.YtbabmkilbbbmoaaDoor
open Go.RowKit
set_option linter.unusedVariables false
set_option linter.unusedSimpArgs false

set_option maxHeartbeats 2000000 in
theorem equal_loop (x xo ca y yo cb : Nat) (ta tb : List (ByteArray × ByteArray)) (la : Nat) (w : World) (hla : Hid (ta.length = la)) (hlb : Hid (tb.length = la)) (h0 : 0 < la) (ha : la ≤ 1000000000)
    (hx : Cells2 x xo ta w) (hy : Cells2 y yo tb w) :
    Calls Tryd.prog 120 #[.slice (some ⟨x, xo, none⟩) la ca, .slice (some ⟨y, yo, none⟩) la cb] w fun e w' => e = .returned (.bool (sameA ta tb)) ∧ Below w.heap.size w w' := by
  have HX := hide hx
  have HY := hide hy
  have ell : ((la : Int) == (la : Int)) = true := by simp
  clear hx hy
  go_enter Tryd.func120, Tryd.ntmps120
  go_wp2
  go_loopw [13] (fun i wr => ∃ k : Nat, k ≤ la ∧ i = .int .i64 k ∧ Below w.heap.size w wr ∧ (∀ j, j < k → an ta j = an tb j ∧ av ta j = av tb j)) (fun i _ => la - (intOf i).toNat)
  case atStart => exact ⟨0, Nat.zero_le _, rfl, Below.refl _ _, fun j h => by omega⟩
  case round =>
    obtain ⟨k, hk, rfl, hbw, hall⟩ := hrel
    have HA := hide hall
    have HB := hide hbw
    clear hall
    by_cases hlt : k < la
    · have hlti : (k : Int) < (la : Int) := by omega
      obtain ⟨c1, c2⟩ := (unhide HX).below hbw k (by rw [unhide hla]; exact hlt)
      obtain ⟨c3, c4⟩ := (unhide HY).below hbw k (by rw [unhide hlb]; exact hlt)
      generalize hp1 : an ta k = p1 at *
      generalize hp2 : av ta k = p2 at *
      generalize hq1 : an tb k = q1 at *
      generalize hq2 : av tb k = q2 at *
      have HP := hide (And.intro hp1 (And.intro hp2 (And.intro hq1 hq2)))
      clear hp1 hp2 hq1 hq2 hbw
      by_cases e1 : p1 = q1
      · have f1 := beq_yes e1
        by_cases e2 : p2 = q2
        · have f2 := beq_yes e2
          have HE := hide (And.intro e1 e2)
          clear e1 e2
          go_wp2
          go_quiet (fail)
          go_wp2
          refine ⟨⟨k + 1, by omega, by go_num, _root_.Go.below_drewN (unhide HB) _, fun j hj => ?_⟩, by simp [intOf]; omega⟩
          by_cases hjk : j = k
          · subst hjk
            obtain ⟨r1, r2, r3, r4⟩ := unhide HP
            exact ⟨by rw [r1, r3]; exact (unhide HE).1, by rw [r2, r4]; exact (unhide HE).2⟩
          · exact unhide HA j (by omega)
        · have f2 := beq_no e2
          have HS : Hid (sameA ta tb = false) := hide (decide_eq_false fun h => e2 (by obtain ⟨r1, r2, r3, r4⟩ := unhide HP; rw [← r2, ← r4, h]))
          clear e1 e2
          go_wp2
          go_quiet (fail)
          go_wp2
          go_ret
          exact ⟨by rw [unhide HS]; rfl, _root_.Go.below_drewN (unhide HB) _⟩
      · have f1 := beq_no e1
        have HS : Hid (sameA ta tb = false) := hide (decide_eq_false fun h => e1 (by obtain ⟨r1, r2, r3, r4⟩ := unhide HP; rw [← r1, ← r3, h]))
        clear e1
        go_wp2
        go_quiet (fail)
        go_wp2
        go_ret
        exact ⟨by rw [unhide HS]; rfl, _root_.Go.below_drewN (unhide HB) _⟩
    · have hs : sameA ta tb = true := by
        rw [sameA, decide_eq_true (same_ats ta tb (by rw [unhide hla, unhide hlb]) (fun i hi => unhide HA i (by rw [unhide hla] at hi; omega)))]
      have HS := hide hs
      have hlti : ¬ (k : Int) < (la : Int) := by omega
      clear hs hlt
      go_wp2
      go_ret
      exact ⟨by rw [unhide HS]; rfl, hbw⟩
theorem equal_none (qa qb : Option Addr) (ca cb : Nat) (w : World) : Calls Tryd.prog 120 #[.slice qa 0 ca, .slice qb 0 cb] w fun e w' => e = .returned (.bool true) ∧ Below w.heap.size w w' := by
  go_enter Tryd.func120, Tryd.ntmps120
  go_wp2
  refine wp_loop_rounds 1 ?_
  rw [rounds_succ]; go_wp2
  go_ret
  exact ⟨rfl, Below.refl _ _⟩
theorem equal_other (qa qb : Option Addr) (la lb ca cb : Nat) (w : World) (h : ¬ la = lb) : Calls Tryd.prog 120 #[.slice qa la ca, .slice qb lb cb] w fun e w' => e = .returned (.bool false) ∧ Below w.heap.size w w' := by
  have e : ((la : Int) == (lb : Int)) = false := beq_eq_false_iff_ne.2 (by omega)
  clear h
  go_enter Tryd.func120, Tryd.ntmps120
  go_wp2
  go_ret
  exact ⟨rfl, Below.refl _ _⟩
theorem equal_any (qa qb : Option Addr) (ca cb : Nat) (ta tb : List (ByteArray × ByteArray)) (w : World) (ha : Sl qa ta w) (hb : Sl qb tb w) (la : ta.length ≤ 1000000000) :
    Calls Tryd.prog 120 #[.slice qa ta.length ca, .slice qb tb.length cb] w fun e w' => e = .returned (.bool (sameA ta tb)) ∧ Below w.heap.size w w' := by
  by_cases hl : ta.length = tb.length
  · by_cases h0 : ta.length = 0
    · have e0 : ta = [] := List.eq_nil_of_length_eq_zero h0
      have e1 : tb = [] := List.eq_nil_of_length_eq_zero (by omega)
      subst e0 e1
      have : sameA [] [] = true := rfl
      rw [this]; exact equal_none qa qb ca cb w
    · rcases ha with rfl | ⟨x, xo, rfl, hx⟩
      · exact absurd rfl h0
      rcases hb with rfl | ⟨y, yo, rfl, hy⟩
      · exact absurd hl h0
      have := equal_loop x xo ca y yo cb ta tb ta.length w (hide rfl) (hide hl.symm) (by omega) la hx hy
      rw [← hl]; exact this
  · have : sameA ta tb = false := decide_eq_false fun e => hl (by rw [e])
    rw [this]; exact equal_other qa qb _ _ ca cb w hl

def alikeN (k sp : Int) (n : ByteArray) (ats : List (ByteArray × ByteArray)) (tx : ByteArray) (k' sp' : Int) (n' : ByteArray) (ats' : List (ByteArray × ByteArray)) (tx' : ByteArray) : Bool := decide (k = k') && (decide (sp = sp') && (decide (n = n') && (decide (tx = tx') && sameA ats ats')))
set_option maxHeartbeats 4000000 in
set_option maxRecDepth 100000 in
theorem alike_any (k sp : Int) (n : ByteArray) (ats : List (ByteArray × ByteArray)) (tx : ByteArray) (k' sp' : Int) (n' : ByteArray) (ats' : List (ByteArray × ByteArray)) (tx' : ByteArray) (q1 q2 q3 q4 : Option Addr) (c1 c2 c3 c4 l3 l4 : Nat) (w : World) (h1 : Sl q1 ats w) (h2 : Sl q2 ats' w) (l1 : ats.length ≤ 1000000000) :
    Calls Tryd.prog 106 #[.agg #[.int .i64 k, .int .i64 sp, .string n, .slice q1 ats.length c1, .string tx, .slice q3 l3 c3], .agg #[.int .i64 k', .int .i64 sp', .string n', .slice q2 ats'.length c2, .string tx', .slice q4 l4 c4]] w fun e w' => e = .returned (.bool (alikeN k sp n ats tx k' sp' n' ats' tx')) ∧ Below w.heap.size w w' := by
  have hbb : Below w.heap.size w ((w.alloc (Obj.cells #[.int .i64 k, .int .i64 sp, .string n, .slice q1 ats.length c1, .string tx, .slice q3 l3 c3] 44)).alloc (Obj.cells #[.int .i64 k', .int .i64 sp', .string n', .slice q2 ats'.length c2, .string tx', .slice q4 l4 c4] 44)) := ((Below.refl w.heap.size w).alloc (Nat.le_refl _) _).alloc (by simp) _
  have CA := hide (equal_any q1 q2 c1 c2 ats ats' ((w.alloc (Obj.cells #[.int .i64 k, .int .i64 sp, .string n, .slice q1 ats.length c1, .string tx, .slice q3 l3 c3] 44)).alloc (Obj.cells #[.int .i64 k', .int .i64 sp', .string n', .slice q2 ats'.length c2, .string tx', .slice q4 l4 c4] 44)) (h1.below hbb) (h2.below hbb) l1)
  unfold alikeN
  generalize sameA ats ats' = SA at *
  clear h1 h2
  have HB := hide hbb
  by_cases e0 : k = k'
  · subst e0
    have f0 : (k == k) = true := by simp
    rw [decide_eq_true rfl, Bool.true_and]
    by_cases e1 : sp = sp'
    · subst e1
      have f1 : (sp == sp) = true := by simp
      rw [decide_eq_true rfl, Bool.true_and]
      by_cases e2 : n = n'
      · subst e2
        have f2 := beq_yes (rfl : n = n)
        rw [decide_eq_true rfl, Bool.true_and]
        by_cases e3 : tx = tx'
        · subst e3
          have f3 := beq_yes (rfl : tx = tx)
          rw [decide_eq_true rfl, Bool.true_and]
          go_enter Tryd.func106, Tryd.ntmps106
          go_wp2_with fail
          refine (unhide CA).mono ?_
          rintro e w1 ⟨rfl, hb1⟩
          go_wp2
          go_ret
          exact ⟨rfl, tr2 (unhide HB) hb1⟩
        · have f3 := beq_no e3
          rw [decide_eq_false e3, Bool.false_and]
          clear e3 CA hbb
          go_enter Tryd.func106, Tryd.ntmps106
          go_wp2
          go_ret
          exact ⟨rfl, unhide HB⟩
      · have f2 := beq_no e2
        rw [decide_eq_false e2, Bool.false_and]
        clear e2 CA hbb
        go_enter Tryd.func106, Tryd.ntmps106
        go_wp2
        go_ret
        exact ⟨rfl, unhide HB⟩
    · have f1 : (sp == sp') = false := beq_eq_false_iff_ne.2 e1
      rw [decide_eq_false e1, Bool.false_and]
      clear e1 CA hbb
      go_enter Tryd.func106, Tryd.ntmps106
      go_wp2
      go_ret
      exact ⟨rfl, unhide HB⟩
  · have f0 : (k == k') = false := beq_eq_false_iff_ne.2 e0
    rw [decide_eq_false e0, Bool.false_and]
    clear e0 CA hbb
    go_enter Tryd.func106, Tryd.ntmps106
    go_wp2
    go_ret
    exact ⟨rfl, unhide HB⟩
end Go.Proofs.YtbabmkilbbbmoaaDoor

/-
  'slices.EqualFunc' of two lists of nodes under 'tree.alike'.
-/
namespace Go.Proofs.YtbabmkilbbbmoaaDoor
open Go.RowKit
set_option linter.unusedVariables false
set_option linter.unusedSimpArgs false

def alikeL : Forest → Forest → Bool
  | .nil, .nil => true
  | .cons k sp n ats tx _ r, .cons k' sp' n' ats' tx' _ r' => alikeN k sp n ats tx k' sp' n' ats' tx' && alikeL r r'
  | _, _ => false
theorem alikeL_len : ∀ (f g : Forest), ¬ f.len = g.len → alikeL f g = false
  | .nil, .nil, h => absurd rfl h
  | .nil, .cons _ _ _ _ _ _ _, _ => rfl
  | .cons _ _ _ _ _ _ _, .nil, _ => rfl
  | .cons k sp n ats tx _ r, .cons k' sp' n' ats' tx' _ r', h => by
    show (_ && alikeL r r') = false
    rw [alikeL_len r r' (by simp [Forest.len] at h; exact h), Bool.and_false]
theorem SmF.head {k sp : Int} {n : ByteArray} {ats : List (ByteArray × ByteArray)} {tx : ByteArray} {kids rest : Forest} (h : SmF (.cons k sp n ats tx kids rest)) : ats.length ≤ 1000000000 := by
  have := h.1.2.2.1.1
  omega
theorem sm_drop : ∀ (j : Nat) (f : Forest), SmF f → SmF (f.drop j)
  | 0, f, h => by rw [Forest.drop_zero]; exact h
  | j + 1, .nil, h => by rw [Forest.drop_nil]; trivial
  | j + 1, .cons _ _ _ _ _ _ r, h => sm_drop j r h.2.2
theorem eqf_other (qa qb : Option Addr) (la lb ca cb : Nat) (w : World) (h : ¬ la = lb) :
    Calls Tryd.prog 105 #[.slice qa la ca, .slice qb lb cb, .func (.func 106) #[] #[]] w fun e w' => e = .returned (.bool false) ∧ Below w.heap.size w w' := by
  have e : ((la : Int) == (lb : Int)) = false := beq_eq_false_iff_ne.2 (by omega)
  clear h
  go_enter Tryd.func105, Tryd.ntmps105
  go_wp2
  go_ret
  exact ⟨rfl, Below.refl _ _⟩
theorem eqf_none (qa qb : Option Addr) (ca cb : Nat) (w : World) :
    Calls Tryd.prog 105 #[.slice qa 0 ca, .slice qb 0 cb, .func (.func 106) #[] #[]] w fun e w' => e = .returned (.bool true) ∧ Below w.heap.size w w' := by
  go_enter Tryd.func105, Tryd.ntmps105
  go_wp2
  refine wp_loop_rounds 1 ?_
  rw [rounds_succ]; go_wp2
  go_ret
  exact ⟨rfl, Below.refl _ _⟩
set_option maxHeartbeats 4000000 in
theorem eqf_some (f h : Forest) (ga oa gb ob ca cb la : Nat) (w : World) (hla : Hid (f.len = la)) (hlb : Hid (h.len = la)) (hc : la ≤ 100000000) (hl1 : Lies f ga oa w) (hl2 : Lies h gb ob w) (hs : SmF f) :
    Calls Tryd.prog 105 #[.slice (some ⟨ga, oa, none⟩) la ca, .slice (some ⟨gb, ob, none⟩) la cb, .func (.func 106) #[] #[]] w fun e w' => e = .returned (.bool (alikeL f h)) ∧ Below w.heap.size w w' := by
  have H1 := hide hl1
  have H2 := hide hl2
  have HS := hide hs
  have ell : ((la : Int) == (la : Int)) = true := by simp
  clear hl1 hl2 hs
  go_enter Tryd.func105, Tryd.ntmps105
  go_wp2
  go_loopw [17] (fun i wr => ∃ j : Nat, j ≤ la ∧ i = .int .i64 j ∧ Below w.heap.size w wr ∧ alikeL f h = alikeL (f.drop j) (h.drop j)) (fun i _ => la - (intOf i).toNat)
  case atStart => exact ⟨0, Nat.zero_le _, rfl, Below.refl _ _, by rw [Forest.drop_zero, Forest.drop_zero]⟩
  case round =>
    obtain ⟨j, hj, rfl, hbw, heq⟩ := hrel
    by_cases hp : j < la
    · have hpi : (j : Int) < (la : Int) := by omega
      obtain ⟨k, sp, n, ats, tx, kids, hd⟩ := f.drop_cons j (by rw [unhide hla]; exact hp)
      obtain ⟨k', sp', n', ats', tx', kids', hd'⟩ := h.drop_cons j (by rw [unhide hlb]; exact hp)
      have hlw := ((unhide H1).drop j).below hbw
      have hlw' := ((unhide H2).drop j).below hbw
      have hsm := sm_drop j f (unhide HS)
      rw [hd] at hlw heq hsm
      rw [hd'] at hlw' heq
      have hat := hsm.head
      obtain ⟨⟨c0, c1, c2, ⟨qa, ka, c3, hsl⟩, c4, ⟨qk, ck, c5, _, _⟩⟩, _⟩ := hlw
      obtain ⟨⟨d0, d1, d2, ⟨qa', ka', d3, hsl'⟩, d4, ⟨qk', ck', d5, _, _⟩⟩, _⟩ := hlw'
      have HE : Hid (alikeL f h = (alikeN k sp n ats tx k' sp' n' ats' tx' && alikeL (f.drop (j + 1)) (h.drop (j + 1)))) := hide heq
      have hbA : Below wr.heap.size wr ((wr.alloc (Obj.cells #[.int .i64 k, .int .i64 sp, .string n, .slice qa ats.length ka, .string tx, .slice qk kids.len ck] 44)).alloc (Obj.cells #[.int .i64 k', .int .i64 sp', .string n', .slice qa' ats'.length ka', .string tx', .slice qk' kids'.len ck'] 44)) := ((Below.refl wr.heap.size wr).alloc (Nat.le_refl _) _).alloc (by simp) _
      have CA := hide (alike_any k sp n ats tx k' sp' n' ats' tx' qa qa' qk qk' ka ka' ck ck' kids.len kids'.len _ (hsl.below hbA) (hsl'.below hbA) hat)
      have HB := hide (tr2 hbw hbA)
      generalize alikeN k sp n ats tx k' sp' n' ats' tx' = bb at *
      generalize kids.len = kl at *
      generalize kids'.len = kl' at *
      generalize ats.length = al at *
      generalize ats'.length = al' at *
      have hgb : gb < wr.heap.size := World.block_lt_of_cell? wr _ d0
      have hne : gb ≠ wr.heap.size := by omega
      clear hsl hsl' hat hsm hd hd' heq hbA hbw
      cases bb with
      | true =>
        go_wp2_with fail
        refine (unhide CA).mono ?_
        rintro e w1 ⟨rfl, hb1⟩
        have HB1 := hide (tr2 (unhide HB) hb1)
        clear hb1 CA
        go_wp2
        go_roundw
        case rel => exact ⟨j + 1, by omega, by go_num, unhide HB1, by have := unhide HE; rw [Bool.true_and] at this; exact this⟩
        case measure => simp [intOf]; omega
      | false =>
        go_wp2_with fail
        refine (unhide CA).mono ?_
        rintro e w1 ⟨rfl, hb1⟩
        have HB1 := hide (tr2 (unhide HB) hb1)
        clear hb1 CA
        go_wp2
        go_ret
        exact ⟨by rw [unhide HE]; rfl, unhide HB1⟩
    · have hpi : ¬ (j : Int) < (la : Int) := by omega
      have HE : Hid (alikeL f h = true) := hide (by rw [heq, f.drop_out j (by rw [unhide hla]; omega), h.drop_out j (by rw [unhide hlb]; omega)]; rfl)
      clear hp heq
      go_wp2
      go_ret
      exact ⟨by rw [unhide HE]; rfl, hbw⟩
theorem eqf_any (f h : Forest) (qa qb : Option Addr) (ca cb : Nat) (w : World) (h1 : Fo qa f w) (h2 : Fo qb h w) (hs : SmF f) (hc : f.len ≤ 100000000) :
    Calls Tryd.prog 105 #[.slice qa f.len ca, .slice qb h.len cb, .func (.func 106) #[] #[]] w fun e w' => e = .returned (.bool (alikeL f h)) ∧ Below w.heap.size w w' := by
  by_cases hl : f.len = h.len
  · rcases h1 with rfl | ⟨ga, oa, rfl, hl1⟩
    · cases h with
      | nil => exact eqf_none qa qb ca cb w
      | cons _ _ _ _ _ _ _ => simp [Forest.len] at hl
    · rcases h2 with rfl | ⟨gb, ob, rfl, hl2⟩
      · cases f with
        | nil => exact eqf_none _ qb ca cb w
        | cons _ _ _ _ _ _ _ => simp [Forest.len] at hl
      · have := eqf_some f h ga oa gb ob ca cb f.len w (hide rfl) (hide hl.symm) hc hl1 hl2 hs
        rw [← hl]; exact this
  · rw [alikeL_len f h hl]
    exact eqf_other qa qb _ _ ca cb w hl
end Go.Proofs.YtbabmkilbbbmoaaDoor
