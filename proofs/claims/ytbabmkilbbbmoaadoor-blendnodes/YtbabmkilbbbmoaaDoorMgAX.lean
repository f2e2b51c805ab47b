/-
  Several texts in one: what the functions of the program and of the document's answer do.
-/
import Derived.Test.YtbabmkilbbbmoaaDoorMgAW
import Derived.Test.YtbabmkilbbbmoaaDoorMgAM
import Derived.BigQuiet
import Derived.Test.YtbabmkilbbbmoaaDoorMgAN

/-
  What a tree.writer's num, text and node write (made by mk_ybn.py).
-/
namespace Go.Proofs.YtbabmkilbbbmoaaDoor
open Go.RowKit
set_option linter.unusedVariables false
set_option linter.unusedSimpArgs false

def OthS (b : Nat) (w w' : World) : Prop := Oth b w w' ∧ w.heap.size ≤ w'.heap.size
theorem OthS.trans {b : Nat} {w w1 w2 : World} (h : OthS b w w1) (h' : OthS b w1 w2) : OthS b w w2 := ⟨Lib.OthersKept.trans h.1 h'.1, Nat.le_trans h.2 h'.2⟩
theorem OthS.alloc {b : Nat} {w w1 : World} (h : OthS b w w1) (o : Obj) : OthS b w (w1.alloc o) := ⟨Lib.OthersKept.alloc h.1 o, by have := h.2; simp; omega⟩
theorem othS_of_below {b : Nat} {w w' : World} (h : Below w.heap.size w w') : OthS b w w' := ⟨oth_of_below h, h.size⟩
def numW (n : Int) : List UInt8 := if 0 ≤ n ∧ n ≤ 1099511627776 then nb n else []
theorem numW_len (n : Int) : (numW n).length ≤ 7 := by
  unfold numW
  split
  · have := nb_size n; rw [bs_size] at this; exact this
  · exact Nat.zero_le _
/-- The bytes of attributes, of a node without its kids. -/
def atW : List (ByteArray × ByteArray) → List UInt8
  | [] => []
  | a :: r => tb a.1 ++ (tb a.2 ++ atW r)
def nodeL (k sp : Int) (n : ByteArray) (ats : List (ByteArray × ByteArray)) (tx : ByteArray) (kl : Nat) : List UInt8 :=
  if k = 1 then numW k ++ (numW sp ++ (tb n ++ (numW ats.length ++ (atW ats ++ numW kl)))) else numW k ++ tb tx
theorem atW_drop (ats : List (ByteArray × ByteArray)) (j : Nat) (hj : j < ats.length) : atW (ats.drop j) = tb (an ats j) ++ (tb (av ats j) ++ atW (ats.drop (j + 1))) := by
  rw [List.drop_eq_getElem_cons hj, atW]
  have h3 : ats.getD j (ByteArray.empty, ByteArray.empty) = ats[j] := by simp [List.getD, List.getElem?_eq_getElem hj]
  unfold an av
  rw [h3]
end Go.Proofs.YtbabmkilbbbmoaaDoor

/-
  'tree.Bytes': 'tree.walk' under its closure, which writes each node (made by mk_yby.py).
-/
namespace Go.Proofs.YtbabmkilbbbmoaaDoor
open Go.RowKit
set_option linter.unusedVariables false
set_option linter.unusedSimpArgs false

/-! ### tree.Bytes -/
def byStep (l : List UInt8) (it : Item) : List UInt8 × Bool := (l ++ nodeL it.k it.sp it.n it.ats it.tx it.kids.len, true)
def byF : Forest → List UInt8
  | .nil => []
  | .cons k sp n ats tx kids rest => nodeL k sp n ats tx kids.len ++ (byF kids ++ byF rest)
theorem tell_by_app : ∀ (l1 l2 : List Item) (s : List UInt8), tell byStep s (l1 ++ l2) = tell byStep (tell byStep s l1) l2
  | [], l2, s => rfl
  | it :: l1, l2, s => by
    show tell byStep (byStep s it).1 (l1 ++ l2) = tell byStep (tell byStep (byStep s it).1 l1) l2
    exact tell_by_app l1 l2 _
theorem tell_by : ∀ (f : Forest) (d : Nat) (s : List UInt8), tell byStep s (items f d) = s ++ byF f
  | .nil, d, s => by show s = s ++ []; simp
  | .cons k sp n ats tx kids rest, d, s => by
    show tell byStep (s ++ nodeL k sp n ats tx kids.len) (items kids (d + 1) ++ items rest d) = _
    rw [tell_by_app, tell_by kids, tell_by rest, byF]
    simp only [List.append_assoc]
theorem tell_by_len : ∀ (l : List Item) (s : List UInt8), s.length ≤ (tell byStep s l).length
  | [], s => Nat.le_refl _
  | it :: l, s => by
    show s.length ≤ (tell byStep (byStep s it).1 l).length
    refine Nat.le_trans ?_ (tell_by_len l _)
    show s.length ≤ (s ++ nodeL it.k it.sp it.n it.ats it.tx it.kids.len).length
    rw [List.length_append]; omega
theorem atW_len (ats : List (ByteArray × ByteArray)) (hf : Fits ats) : ∀ (m j : Nat), ats.length - j = m → (atW (ats.drop j)).length ≤ 20014 * m
  | 0, j, h => by rw [List.drop_eq_nil_of_le (by omega)]; exact Nat.zero_le _
  | m + 1, j, h => by
    have h1 := atW_len ats hf m (j + 1) (by omega)
    rw [atW_drop ats j (by omega), List.length_append, List.length_append]
    have h2 := hf.2 j (by omega)
    have h3 := tb_len (an ats j)
    have h4 := tb_len (av ats j)
    omega
theorem node_len (k sp : Int) (n : ByteArray) (ats : List (ByteArray × ByteArray)) (tx : ByteArray) (kl : Nat) (ht : tx.size ≤ 5000) (hn : n.size ≤ 5000) (hf : Fits ats) : (nodeL k sp n ats tx kl).length ≤ 21000000 := by
  unfold nodeL
  have h1 := numW_len k
  have h2 := numW_len sp
  have h3 := numW_len ats.length
  have h4 := numW_len kl
  have h5 := tb_len n
  have h6 := tb_len tx
  have h7 := atW_len ats hf _ 0 rfl
  have h8 := hf.1
  rw [List.drop_zero] at h7
  split
  · simp only [List.length_append]; omega
  · simp only [List.length_append]; omega
theorem by_len : ∀ (f : Forest), SmF f → (byF f).length ≤ 21000000 * f.count
  | .nil, _ => Nat.zero_le _
  | .cons k sp n ats tx kids rest, h => by
    have h1 := by_len kids h.2.1
    have h2 := by_len rest h.2.2
    have h3 := node_len k sp n ats tx kids.len h.1.1 h.1.2.1 h.1.2.2.1
    rw [byF, List.length_append, List.length_append]
    simp only [Forest.count]
    omega
theorem num_ne (n : Nat) (h : n ≤ 1099511627776) (l : List UInt8) : numW n ++ l ≠ [] := by
  unfold numW
  rw [if_pos (by omega), nb_cons]
  simp
def bytesL (f : Forest) : List UInt8 := numW f.len ++ byF f
def bytesV (f : Forest) : List UInt8 := if checkN f = 0 then bytesL f else []
end Go.Proofs.YtbabmkilbbbmoaaDoor

/-
  What 'quill.TakeNum' does: of every text the number with which it begins and what is behind, or the error.
-/
namespace Go.Proofs.YtbabmkilbbbmoaaDoor
open Go.RowKit
set_option linter.unusedVariables false

def numErr : Value := .tuple #[.int .i64 0, .string ⟨#[]⟩, .int .i64 4]
def takeNV (l : List UInt8) : Value :=
  match takeN l with
  | none => numErr
  | some (v, k) => .tuple #[.int .i64 v, .string (bs (l.drop k)), .int .i64 0]

theorem rest_eq (s : ByteArray) (c : Nat) (n : Nat) (hn : n = s.size - 1) : (s.extract 1 s.size).extract c n = bs (s.data.toList.drop (1 + c)) := by
  have e : (s.extract 1 s.size).size = s.size - 1 := by simp
  rw [hn, ← e, Lib.Pa.extract_from, Lib.extract_to_end, List.drop_drop]
  rfl

end Go.Proofs.YtbabmkilbbbmoaaDoor

/-
  What 'quill.TakeText' does.
-/
namespace Go.Proofs.YtbabmkilbbbmoaaDoor
open Go.RowKit
set_option linter.unusedVariables false

def textErr : Value := .tuple #[.string ⟨#[]⟩, .string ⟨#[]⟩, .int .i64 4]
def takeTV (l : List UInt8) : Value :=
  match takeT l with
  | none => textErr
  | some (k, n) => .tuple #[.string (bs ((l.drop k).take n)), .string (bs ((l.drop k).drop n)), .int .i64 0]

end Go.Proofs.YtbabmkilbbbmoaaDoor

/-
  What a tree.reader's num and text take off, where there is such a one.
-/
namespace Go.Proofs.YtbabmkilbbbmoaaDoor
open Go.RowKit
set_option linter.unusedVariables false
set_option linter.unusedSimpArgs false

/-- All but block R stands as it stood. -/
structure KpR (R : Nat) (w w' : World) : Prop where
  os : w'.os = w.os
  tape : w'.tape = w.tape
  output : w'.output = w.output
  size : w.heap.size ≤ w'.heap.size
  block : ∀ k, k < w.heap.size → k ≠ R → w'.heap[k]? = w.heap[k]?
theorem KpR.refl (R : Nat) (w : World) : KpR R w w := ⟨rfl, rfl, rfl, Nat.le_refl _, fun _ _ _ => rfl⟩
theorem KpR.trans {R : Nat} {w w1 w2 : World} (h : KpR R w w1) (h' : KpR R w1 w2) : KpR R w w2 :=
  ⟨h'.os.trans h.os, h'.tape.trans h.tape, h'.output.trans h.output, Nat.le_trans h.size h'.size, fun k hk hr => (h'.block k (by have := h.size; omega) hr).trans (h.block k hk hr)⟩
theorem KpR.of {R : Nat} {w w1 : World} (h : Below w.heap.size w w1) : KpR R w w1 := ⟨h.os, h.tape, h.output, h.size, fun k hk _ => h.block k hk⟩
theorem KpR.set {R : Nat} {w w1 : World} (h : KpR R w w1) (o : Nat) (v : Value) : KpR R w (w1.setCell ⟨R, o, none⟩ v) :=
  ⟨h.os, h.tape, h.output, by have := h.size; simp; omega, fun k hk hr => (Below.heap_setCell w1 ⟨R, o, none⟩ v k (by show k ≠ R; exact hr)).trans (h.block k hk hr)⟩
theorem KpR.setAt {R b : Nat} {w w1 : World} (h : KpR R w w1) (hb : w.heap.size ≤ b) (o : Nat) (v : Value) : KpR R w (w1.setCell ⟨b, o, none⟩ v) :=
  ⟨h.os, h.tape, h.output, by have := h.size; simp; omega, fun k hk hr => (Below.heap_setCell w1 ⟨b, o, none⟩ v k (by show k ≠ b; omega)).trans (h.block k hk hr)⟩
theorem KpR.alloc {R : Nat} {w w1 : World} (h : KpR R w w1) (o : Obj) : KpR R w (w1.alloc o) :=
  h.trans (KpR.of ((Below.refl _ _).alloc (Nat.le_refl _) o))
theorem KpR.below {R B : Nat} {w w1 : World} (h : KpR R w w1) (hB : B ≤ w.heap.size) (hR : B ≤ R) : Below B w w1 := ⟨h.os, h.tape, h.output, h.size, fun k hk => h.block k (by omega) (by omega)⟩
theorem KpR.blk {R b : Nat} {w w1 : World} {vs : Array Value} {t : TypeId} (h : KpR R w w1) (hb : Blk w b vs t) (hr : b ≠ R) : Blk w1 b vs t := (h.block b hb.lt hr).trans hb

end Go.Proofs.YtbabmkilbbbmoaaDoor

/-
  What 'rectoplain.Attrs' does: of every two lists of attributes, whether they are equal; it only reads.
-/
namespace Go.Proofs.YtbabmkilbbbmoaaDoor
open Go.RowKit
set_option linter.unusedVariables false

def sameA (a b : List (ByteArray × ByteArray)) : Bool := decide (a = b)
theorem attrs_a0 (a b : Option Addr) (ca lb cb : Nat) (w : World) (hb : lb ≤ 9223372036854775807) :
    Calls Tryd.prog 48 #[.slice a 0 ca, .slice b lb cb] w fun e w' => e = .returned (.bool (((0 : Int) == (lb : Int)))) ∧ Below w.heap.size w w' := by
  go_enter Tryd.func48, Tryd.ntmps48
  go_wp2
  refine wp_loop_rounds 1 ?_
  rw [rounds_succ]; go_wp2
  go_ret
  exact ⟨rfl, Below.refl _ _⟩

set_option maxHeartbeats 400000 in
theorem attrs_b0 (x : Nat) (xo la ca : Nat) (b : Option Addr) (cb : Nat) (w : World) (h0 : 0 < la) (ha : la ≤ 9223372036854775807) :
    Calls Tryd.prog 48 #[.slice (some ⟨x, xo, none⟩) la ca, .slice b 0 cb] w fun e w' => e = .returned (.bool false) ∧ Below w.heap.size w w' := by
  have h1 : (0 : Int) < (la : Int) := by omega
  go_enter Tryd.func48, Tryd.ntmps48
  go_wp2
  refine wp_loop_rounds 1 ?_
  rw [rounds_succ]; go_wp2
  go_quiet (fail)
  go_wp2
  go_ret
  exact ⟨rfl, below_draws _ _⟩

theorem same_ats (a b : List (ByteArray × ByteArray)) (hl : a.length = b.length) (h : ∀ i, i < a.length → an a i = an b i ∧ av a i = av b i) : a = b := by
  apply List.ext_getElem hl
  intro i h1 h2
  obtain ⟨e1, e2⟩ := h i h1
  unfold an at e1
  unfold av at e2
  rw [List.getD, List.getD, List.getElem?_eq_getElem h1, List.getElem?_eq_getElem h2] at e1 e2
  exact Prod.ext e1 e2

set_option maxHeartbeats 2000000 in
theorem attrs_loop (x xo ca y yo cb : Nat) (ta tb : List (ByteArray × ByteArray)) (la lb : Nat) (w : World) (hla : Hid (ta.length = la)) (hlb : Hid (tb.length = lb)) (h0 : 0 < la) (h0b : 0 < lb) (ha : la ≤ 4398046511104) (hb : lb ≤ 4398046511104)
    (hx : Cells2 x xo ta w) (hy : Cells2 y yo tb w) :
    Calls Tryd.prog 48 #[.slice (some ⟨x, xo, none⟩) la ca, .slice (some ⟨y, yo, none⟩) lb cb] w fun e w' => e = .returned (.bool (sameA ta tb)) ∧ Below w.heap.size w w' := by
  have HX := hide hx
  have HY := hide hy
  clear hx hy
  go_enter Tryd.func48, Tryd.ntmps48
  go_wp2
  go_loopw [8] (fun i wr => ∃ k : Nat, k ≤ la ∧ i = .int .i64 k ∧ Below w.heap.size w wr ∧ (∀ j, j < k → j < lb ∧ an ta j = an tb j ∧ av ta j = av tb j)) (fun i _ => la - (intOf i).toNat)
  case atStart => exact ⟨0, Nat.zero_le _, rfl, Below.refl _ _, fun j h => by omega⟩
  case round =>
    obtain ⟨k, hk, rfl, hbw, hall⟩ := hrel
    have HA := hide hall
    have HB := hide hbw
    clear hall
    by_cases hlt : k < la
    · have hlti : (k : Int) < (la : Int) := by omega
      by_cases hkb : k < lb
      · have hkbi : (k : Int) < (lb : Int) := by omega
        have hg : decide ((lb : Int) ≤ (k : Int)) = false := by simp; omega
        obtain ⟨c1, c2⟩ := (unhide HX).below hbw k (by rw [unhide hla]; exact hlt)
        obtain ⟨c3, c4⟩ := (unhide HY).below hbw k (by rw [unhide hlb]; exact hkb)
        generalize hp1 : an ta k = p1 at *
        generalize hp2 : av ta k = p2 at *
        generalize hq1 : an tb k = q1 at *
        generalize hq2 : av tb k = q2 at *
        have HP := hide (And.intro hp1 (And.intro hp2 (And.intro hq1 hq2)))
        clear hp1 hp2 hq1 hq2 hbw
        by_cases e1 : p1 = q1
        · have f1 := beq_yes e1
          by_cases e2 : p2 = q2
          · have f2 := beq_yes e2
            have HE := hide (And.intro e1 e2)
            clear e1 e2
            go_wp2
            go_quiet (fail)
            go_wp2
            refine ⟨⟨k + 1, by omega, by go_num, _root_.Go.below_drewN (unhide HB) _, fun j hj => ?_⟩, by simp [intOf]; omega⟩
            by_cases hjk : j = k
            · subst hjk
              obtain ⟨r1, r2, r3, r4⟩ := unhide HP
              exact ⟨hkb, by rw [r1, r3]; exact (unhide HE).1, by rw [r2, r4]; exact (unhide HE).2⟩
            · exact unhide HA j (by omega)
          · have f2 := beq_no e2
            have HS : Hid (sameA ta tb = false) := hide (decide_eq_false fun h => e2 (by obtain ⟨r1, r2, r3, r4⟩ := unhide HP; rw [← r2, ← r4, h]))
            clear e1 e2
            go_wp2
            go_quiet (fail)
            go_wp2
            go_ret
            exact ⟨by rw [unhide HS]; rfl, _root_.Go.below_drewN (unhide HB) _⟩
        · have f1 := beq_no e1
          have HS : Hid (sameA ta tb = false) := hide (decide_eq_false fun h => e1 (by obtain ⟨r1, r2, r3, r4⟩ := unhide HP; rw [← r1, ← r3, h]))
          clear e1
          go_wp2
          go_quiet (fail)
          go_wp2
          go_ret
          exact ⟨by rw [unhide HS]; rfl, _root_.Go.below_drewN (unhide HB) _⟩
      · have hg : decide ((lb : Int) ≤ (k : Int)) = true := by simp; omega
        have HS : Hid (sameA ta tb = false) := hide (decide_eq_false (by intro e; have := congrArg List.length e; rw [unhide hla, unhide hlb] at this; omega))
        clear hbw
        go_wp2
        go_quiet (fail)
        go_wp2
        go_ret
        exact ⟨by rw [unhide HS]; rfl, _root_.Go.below_drewN (unhide HB) _⟩
    · have hs : sameA ta tb = ((la : Int) == (lb : Int)) := by
        by_cases e : la = lb
        · rw [sameA, decide_eq_true (same_ats ta tb (by rw [unhide hla, unhide hlb]; exact e) (fun i hi => (unhide HA i (by rw [unhide hla] at hi; omega)).2))]
          simp [e]
        · rw [sameA, decide_eq_false (by intro e'; have := congrArg List.length e'; rw [unhide hla, unhide hlb] at this; exact e this)]
          symm; apply beq_eq_false_iff_ne.2; omega
      have HS := hide hs
      clear hs
      go_wp2
      go_ret
      exact ⟨by rw [unhide HS]; rfl, hbw⟩

theorem attrs_any (qa qb : Option Addr) (ca cb : Nat) (ta tb : List (ByteArray × ByteArray)) (w : World) (ha : Sl qa ta w) (hb : Sl qb tb w) (la : ta.length ≤ 4398046511104) (lb : tb.length ≤ 4398046511104) :
    Calls Tryd.prog 48 #[.slice qa ta.length ca, .slice qb tb.length cb] w fun e w' => e = .returned (.bool (sameA ta tb)) ∧ Below w.heap.size w w' := by
  rcases ha with rfl | ⟨x, xo, rfl, hx⟩
  · have : sameA [] tb = ((0 : Int) == (tb.length : Int)) := by
      cases tb with
      | nil => rfl
      | cons a l => rw [sameA, decide_eq_false (by simp)]; symm; apply beq_eq_false_iff_ne.2; simp; omega
    rw [this]
    exact attrs_a0 qa qb ca tb.length cb w (by omega)
  · by_cases h0 : ta.length = 0
    · have e0 : ta = [] := List.eq_nil_of_length_eq_zero h0
      subst e0
      have : sameA [] tb = ((0 : Int) == (tb.length : Int)) := by
        cases tb with
        | nil => rfl
        | cons a l => rw [sameA, decide_eq_false (by simp)]; symm; apply beq_eq_false_iff_ne.2; simp; omega
      rw [this]
      exact attrs_a0 _ qb ca tb.length cb w (by omega)
    rcases hb with rfl | ⟨y, yo, rfl, hy⟩
    · rw [sameA, decide_eq_false (by intro e; rw [e] at h0; exact h0 rfl)]
      exact attrs_b0 x xo _ ca qb cb w (by omega) (by omega)
    · by_cases h1 : tb.length = 0
      · rw [sameA, decide_eq_false (by intro e; rw [e] at h0; exact h0 h1), h1]
        exact attrs_b0 x xo _ ca _ cb w (by omega) (by omega)
      · exact attrs_loop x xo ca y yo cb ta tb _ _ w (hide rfl) (hide rfl) (by omega) (by omega) la lb hx hy
end Go.Proofs.YtbabmkilbbbmoaaDoor

/-
  'slices.Equal' of attributes; 'tree.alike' (made by mk_yeq.py).
-/
namespace Go.Proofs.YtbabmkilbbbmoaaDoor
open Go.RowKit
set_option linter.unusedVariables false
set_option linter.unusedSimpArgs false

set_option maxHeartbeats 2000000 in
theorem equal_loop (x xo ca y yo cb : Nat) (ta tb : List (ByteArray × ByteArray)) (la : Nat) (w : World) (hla : Hid (ta.length = la)) (hlb : Hid (tb.length = la)) (h0 : 0 < la) (ha : la ≤ 1000000000)
    (hx : Cells2 x xo ta w) (hy : Cells2 y yo tb w) :
    Calls Tryd.prog 120 #[.slice (some ⟨x, xo, none⟩) la ca, .slice (some ⟨y, yo, none⟩) la cb] w fun e w' => e = .returned (.bool (sameA ta tb)) ∧ Below w.heap.size w w' := by
  have HX := hide hx
  have HY := hide hy
  have ell : ((la : Int) == (la : Int)) = true := by simp
  clear hx hy
  go_enter Tryd.func120, Tryd.ntmps120
  go_wp2
  go_loopw [13] (fun i wr => ∃ k : Nat, k ≤ la ∧ i = .int .i64 k ∧ Below w.heap.size w wr ∧ (∀ j, j < k → an ta j = an tb j ∧ av ta j = av tb j)) (fun i _ => la - (intOf i).toNat)
  case atStart => exact ⟨0, Nat.zero_le _, rfl, Below.refl _ _, fun j h => by omega⟩
  case round =>
    obtain ⟨k, hk, rfl, hbw, hall⟩ := hrel
    have HA := hide hall
    have HB := hide hbw
    clear hall
    by_cases hlt : k < la
    · have hlti : (k : Int) < (la : Int) := by omega
      obtain ⟨c1, c2⟩ := (unhide HX).below hbw k (by rw [unhide hla]; exact hlt)
      obtain ⟨c3, c4⟩ := (unhide HY).below hbw k (by rw [unhide hlb]; exact hlt)
      generalize hp1 : an ta k = p1 at *
      generalize hp2 : av ta k = p2 at *
      generalize hq1 : an tb k = q1 at *
      generalize hq2 : av tb k = q2 at *
      have HP := hide (And.intro hp1 (And.intro hp2 (And.intro hq1 hq2)))
      clear hp1 hp2 hq1 hq2 hbw
      by_cases e1 : p1 = q1
      · have f1 := beq_yes e1
        by_cases e2 : p2 = q2
        · have f2 := beq_yes e2
          have HE := hide (And.intro e1 e2)
          clear e1 e2
          go_wp2
          go_quiet (fail)
          go_wp2
          refine ⟨⟨k + 1, by omega, by go_num, _root_.Go.below_drewN (unhide HB) _, fun j hj => ?_⟩, by simp [intOf]; omega⟩
          by_cases hjk : j = k
          · subst hjk
            obtain ⟨r1, r2, r3, r4⟩ := unhide HP
            exact ⟨by rw [r1, r3]; exact (unhide HE).1, by rw [r2, r4]; exact (unhide HE).2⟩
          · exact unhide HA j (by omega)
        · have f2 := beq_no e2
          have HS : Hid (sameA ta tb = false) := hide (decide_eq_false fun h => e2 (by obtain ⟨r1, r2, r3, r4⟩ := unhide HP; rw [← r2, ← r4, h]))
          clear e1 e2
          go_wp2
          go_quiet (fail)
          go_wp2
          go_ret
          exact ⟨by rw [unhide HS]; rfl, _root_.Go.below_drewN (unhide HB) _⟩
      · have f1 := beq_no e1
        have HS : Hid (sameA ta tb = false) := hide (decide_eq_false fun h => e1 (by obtain ⟨r1, r2, r3, r4⟩ := unhide HP; rw [← r1, ← r3, h]))
        clear e1
        go_wp2
        go_quiet (fail)
        go_wp2
        go_ret
        exact ⟨by rw [unhide HS]; rfl, _root_.Go.below_drewN (unhide HB) _⟩
    · have hs : sameA ta tb = true := by
        rw [sameA, decide_eq_true (same_ats ta tb (by rw [unhide hla, unhide hlb]) (fun i hi => unhide HA i (by rw [unhide hla] at hi; omega)))]
      have HS := hide hs
      have hlti : ¬ (k : Int) < (la : Int) := by omega
      clear hs hlt
      go_wp2
      go_ret
      exact ⟨by rw [unhide HS]; rfl, hbw⟩
theorem equal_none (qa qb : Option Addr) (ca cb : Nat) (w : World) : Calls Tryd.prog 120 #[.slice qa 0 ca, .slice qb 0 cb] w fun e w' => e = .returned (.bool true) ∧ Below w.heap.size w w' := by
  go_enter Tryd.func120, Tryd.ntmps120
  go_wp2
  refine wp_loop_rounds 1 ?_
  rw [rounds_succ]; go_wp2
  go_ret
  exact ⟨rfl, Below.refl _ _⟩
theorem equal_other (qa qb : Option Addr) (la lb ca cb : Nat) (w : World) (h : ¬ la = lb) : Calls Tryd.prog 120 #[.slice qa la ca, .slice qb lb cb] w fun e w' => e = .returned (.bool false) ∧ Below w.heap.size w w' := by
  have e : ((la : Int) == (lb : Int)) = false := beq_eq_false_iff_ne.2 (by omega)
  clear h
  go_enter Tryd.func120, Tryd.ntmps120
  go_wp2
  go_ret
  exact ⟨rfl, Below.refl _ _⟩
theorem equal_any (qa qb : Option Addr) (ca cb : Nat) (ta tb : List (ByteArray × ByteArray)) (w : World) (ha : Sl qa ta w) (hb : Sl qb tb w) (la : ta.length ≤ 1000000000) :
    Calls Tryd.prog 120 #[.slice qa ta.length ca, .slice qb tb.length cb] w fun e w' => e = .returned (.bool (sameA ta tb)) ∧ Below w.heap.size w w' := by
  by_cases hl : ta.length = tb.length
  · by_cases h0 : ta.length = 0
    · have e0 : ta = [] := List.eq_nil_of_length_eq_zero h0
      have e1 : tb = [] := List.eq_nil_of_length_eq_zero (by omega)
      subst e0 e1
      have : sameA [] [] = true := rfl
      rw [this]; exact equal_none qa qb ca cb w
    · rcases ha with rfl | ⟨x, xo, rfl, hx⟩
      · exact absurd rfl h0
      rcases hb with rfl | ⟨y, yo, rfl, hy⟩
      · exact absurd hl h0
      have := equal_loop x xo ca y yo cb ta tb ta.length w (hide rfl) (hide hl.symm) (by omega) la hx hy
      rw [← hl]; exact this
  · have : sameA ta tb = false := decide_eq_false fun e => hl (by rw [e])
    rw [this]; exact equal_other qa qb _ _ ca cb w hl

def alikeN (k sp : Int) (n : ByteArray) (ats : List (ByteArray × ByteArray)) (tx : ByteArray) (k' sp' : Int) (n' : ByteArray) (ats' : List (ByteArray × ByteArray)) (tx' : ByteArray) : Bool := decide (k = k') && (decide (sp = sp') && (decide (n = n') && (decide (tx = tx') && sameA ats ats')))
set_option maxHeartbeats 4000000 in
set_option maxRecDepth 100000 in
theorem alike_any (k sp : Int) (n : ByteArray) (ats : List (ByteArray × ByteArray)) (tx : ByteArray) (k' sp' : Int) (n' : ByteArray) (ats' : List (ByteArray × ByteArray)) (tx' : ByteArray) (q1 q2 q3 q4 : Option Addr) (c1 c2 c3 c4 l3 l4 : Nat) (w : World) (h1 : Sl q1 ats w) (h2 : Sl q2 ats' w) (l1 : ats.length ≤ 1000000000) :
    Calls Tryd.prog 106 #[.agg #[.int .i64 k, .int .i64 sp, .string n, .slice q1 ats.length c1, .string tx, .slice q3 l3 c3], .agg #[.int .i64 k', .int .i64 sp', .string n', .slice q2 ats'.length c2, .string tx', .slice q4 l4 c4]] w fun e w' => e = .returned (.bool (alikeN k sp n ats tx k' sp' n' ats' tx')) ∧ Below w.heap.size w w' := by
  have hbb : Below w.heap.size w ((w.alloc (Obj.cells #[.int .i64 k, .int .i64 sp, .string n, .slice q1 ats.length c1, .string tx, .slice q3 l3 c3] 44)).alloc (Obj.cells #[.int .i64 k', .int .i64 sp', .string n', .slice q2 ats'.length c2, .string tx', .slice q4 l4 c4] 44)) := ((Below.refl w.heap.size w).alloc (Nat.le_refl _) _).alloc (by simp) _
  have CA := hide (equal_any q1 q2 c1 c2 ats ats' ((w.alloc (Obj.cells #[.int .i64 k, .int .i64 sp, .string n, .slice q1 ats.length c1, .string tx, .slice q3 l3 c3] 44)).alloc (Obj.cells #[.int .i64 k', .int .i64 sp', .string n', .slice q2 ats'.length c2, .string tx', .slice q4 l4 c4] 44)) (h1.below hbb) (h2.below hbb) l1)
  unfold alikeN
  generalize sameA ats ats' = SA at *
  clear h1 h2
  have HB := hide hbb
  by_cases e0 : k = k'
  · subst e0
    have f0 : (k == k) = true := by simp
    rw [decide_eq_true rfl, Bool.true_and]
    by_cases e1 : sp = sp'
    · subst e1
      have f1 : (sp == sp) = true := by simp
      rw [decide_eq_true rfl, Bool.true_and]
      by_cases e2 : n = n'
      · subst e2
        have f2 := beq_yes (rfl : n = n)
        rw [decide_eq_true rfl, Bool.true_and]
        by_cases e3 : tx = tx'
        · subst e3
          have f3 := beq_yes (rfl : tx = tx)
          rw [decide_eq_true rfl, Bool.true_and]
          go_enter Tryd.func106, Tryd.ntmps106
          go_wp2_with fail
          refine (unhide CA).mono ?_
          rintro e w1 ⟨rfl, hb1⟩
          go_wp2
          go_ret
          exact ⟨rfl, tr2 (unhide HB) hb1⟩
        · have f3 := beq_no e3
          rw [decide_eq_false e3, Bool.false_and]
          clear e3 CA hbb
          go_enter Tryd.func106, Tryd.ntmps106
          go_wp2
          go_ret
          exact ⟨rfl, unhide HB⟩
      · have f2 := beq_no e2
        rw [decide_eq_false e2, Bool.false_and]
        clear e2 CA hbb
        go_enter Tryd.func106, Tryd.ntmps106
        go_wp2
        go_ret
        exact ⟨rfl, unhide HB⟩
    · have f1 : (sp == sp') = false := beq_eq_false_iff_ne.2 e1
      rw [decide_eq_false e1, Bool.false_and]
      clear e1 CA hbb
      go_enter Tryd.func106, Tryd.ntmps106
      go_wp2
      go_ret
      exact ⟨rfl, unhide HB⟩
  · have f0 : (k == k') = false := beq_eq_false_iff_ne.2 e0
    rw [decide_eq_false e0, Bool.false_and]
    clear e0 CA hbb
    go_enter Tryd.func106, Tryd.ntmps106
    go_wp2
    go_ret
    exact ⟨rfl, unhide HB⟩
end Go.Proofs.YtbabmkilbbbmoaaDoor
