/-
  Several texts in one: what the functions of the program and of the document's answer do.
-/
import Derived.Test.YtahclcoabffmiaaDoorRows
import Derived.WalkKit
import Derived.WalkSpells
import Derived.WalkLawsBesides
import Derived.Deep.QuietTactic
import Derived.BigQuiet
import Derived.Laws.BytesArg
import Derived.Lib.PathFns
import Derived.Lib.IndexBytes
import Derived.Lib.SmallJoins
import Derived.Maps.OwnSet
import Derived.Maps.Views

/-
  Small plain facts that the walks of this seat share: bytes as lists, what stays behind a call, how an answer is told.
-/
namespace Go.Proofs.YtahclcoabffmiaaDoor
open Go.RowKit
set_option linter.unusedVariables false

theorem hide {p : Prop} (h : p) : Hid p := h
theorem unhide {p : Prop} (h : Hid p) : p := h
theorem ret1 {a x : Value} (h1 : a = x) : Ending.returned a = .returned x := by rw [h1]
theorem ret2 {a b x y : Value} (h1 : a = x) (h2 : b = y) : Ending.returned (.tuple #[a, b]) = .returned (.tuple #[x, y]) := by rw [h1, h2]
theorem ret3 {a b c x y z : Value} (h1 : a = x) (h2 : b = y) (h3 : c = z) : Ending.returned (.tuple #[a, b, c]) = .returned (.tuple #[x, y, z]) := by rw [h1, h2, h3]

theorem below_draws (w : World) (n : Nat) : Below w.heap.size w (w.drewN n) := _root_.Go.below_drewN (Below.refl _ _) n
theorem bcell {W w1 : World} (hb : Below W.heap.size W w1) : (∀ b o, b < W.heap.size → w1.cell? ⟨b, o, none⟩ = W.cell? ⟨b, o, none⟩) ∧ (∀ b o, b < W.heap.size → w1.frozen? ⟨b, o, none⟩ = W.frozen? ⟨b, o, none⟩) :=
  ⟨fun b o h => hb.cell (p := ⟨b, o, none⟩) h, fun b o h => hb.frozen (p := ⟨b, o, none⟩) h⟩
theorem bel_of {w w1 : World} {X : Obj} (hb1 : Below (w.alloc X).heap.size (w.alloc X) w1) : Below w.heap.size w w1 :=
  ((Below.refl _ _).alloc (Nat.le_refl _) _).trans (hb1.mono (by simp))
theorem tr2 {w w1 w2 : World} (h1 : Below w.heap.size w w1) (h2 : Below w1.heap.size w1 w2) : Below w.heap.size w w2 := h1.trans (h2.mono h1.size)
theorem tr3 {w w1 w2 w3 : World} (h1 : Below w.heap.size w w1) (h2 : Below w1.heap.size w1 w2) (h3 : Below w2.heap.size w2 w3) : Below w.heap.size w w3 := tr2 (tr2 h1 h2) h3
theorem ownsRow_below {w w1 : World} {base : Nat} {e : TypeId} {size : Nat} {v : Value} {n : Nat} {xs : List Value} (h : w.ownsRow base e size v n xs) (hb : Below w.heap.size w w1) : w1.ownsRow base e size v n xs := by
  obtain ⟨hl, h⟩ := h
  refine ⟨hl, ?_⟩
  rcases h with h | ⟨g, cap, cur, h1, h2, h3, h4, h5, h6, h7⟩
  · exact .inl h
  · refine .inr ⟨g, cap, cur, h1, h2, ?_, h4, h5, h6, h7⟩
    have hg : g < w.heap.size := by
      rcases Nat.lt_or_ge g w.heap.size with h | h
      · exact h
      · rw [Array.getElem?_eq_none h] at h3; cases h3
    rw [hb.block g hg]; exact h3
theorem slice_of {w : World} {base : Nat} {e : TypeId} {size : Nat} {v : Value} {n : Nat} {xs : List Value} (h : w.ownsRow base e size v n xs) : ∃ a m cap, v = .slice a m cap := by
  rcases h.2 with ⟨h, _⟩ | ⟨g, cap, cur, h, _⟩
  · exact ⟨_, _, _, h⟩
  · exact ⟨_, _, _, h⟩

/-! ### bytes -/

def bs (l : List UInt8) : ByteArray := ⟨l.toArray⟩
def dgt (l : List UInt8) (k : Nat) : Nat := (l.getD k 0).toNat
def byt (x : Int) : UInt8 := UInt8.ofNat x.toNat
def str (xs : List Int) : ByteArray := strOfNums xs
theorem str_bs (xs : List Int) : str xs = bs (xs.map byt) := rfl
theorem byt_toNat (x : Int) (h0 : 0 ≤ x) (h1 : x < 256) : ((byt x).toNat : Int) = x := by
  have : x.toNat < 256 := by omega
  unfold byt
  rw [UInt8.toNat_ofNat']
  omega
theorem byt_nat (k : Nat) (h : k < 256) : (byt (k : Int)).toNat = k := by
  have := byt_toNat (k : Int) (by omega) (by omega)
  omega
theorem byt_self (c : UInt8) : byt (c.toNat : Int) = c := by
  apply UInt8.toNat.inj
  exact byt_nat _ (UInt8.toNat_lt c)
theorem bs_toList (l : List UInt8) : (bs l).data.toList = l := by simp [bs]
theorem bs_size (l : List UInt8) : (bs l).size = l.length := by simp [bs, ByteArray.size]
theorem bs_self (s : ByteArray) : bs s.data.toList = s := by simp [bs]
theorem bs_inj {a b : List UInt8} (h : bs a = bs b) : a = b := by
  have := congrArg (fun x : ByteArray => x.data.toList) h
  simpa [bs_toList] using this
theorem data_len (s : ByteArray) : s.data.toList.length = s.size := by simp
theorem add_bs (a b : ByteArray) : a ++ b = bs (a.data.toList ++ b.data.toList) := by
  apply ByteArray.ext
  simp [bs]
theorem bs_add (a : List UInt8) (b : ByteArray) : bs a ++ b = bs (a ++ b.data.toList) := by rw [add_bs, bs_toList]
theorem bs_bs (a b : List UInt8) : bs a ++ bs b = bs (a ++ b) := by rw [add_bs, bs_toList, bs_toList]
theorem str_size (xs : List Int) : (str xs).size = xs.length := strOfNums_size xs
theorem dgt_lt (l : List UInt8) (k : Nat) : dgt l k < 256 := by
  unfold dgt; exact UInt8.toNat_lt _
theorem dgt_at (s : ByteArray) (k : Nat) (h : k < s.size) : (s[k]).toNat = dgt s.data.toList k := by
  have h' : k < s.data.toList.length := by simpa using h
  unfold dgt
  rw [List.getD, List.getElem?_eq_getElem h']
  rfl
theorem dgt_drop (l : List UInt8) (a k : Nat) : dgt (l.drop a) k = dgt l (a + k) := by
  unfold dgt
  simp [List.getD, List.getElem?_drop]
theorem dgt_from (s : ByteArray) (a k : Nat) (h : k < (s.extract a s.size).size) : ((s.extract a s.size)[k]).toNat = dgt s.data.toList (a + k) := by
  rw [dgt_at, Lib.extract_to_end, dgt_drop]
theorem not_empty (s : ByteArray) (h : 0 < s.size) : s.toList.isEmpty = false := by
  have h' : 0 < s.data.toList.length := by simpa using h
  rw [Lib.toList_data]
  cases e : s.data.toList with
  | nil => simp [e] at h'
  | cons a b => rfl
theorem is_empty (s : ByteArray) (h : s.size = 0) : s.toList.isEmpty = true := by
  have : s.data.toList = [] := List.eq_nil_of_length_eq_zero (by simpa using h)
  simp [Lib.toList_data, this]
theorem not_bare (s : ByteArray) (h : 0 < s.size) : ¬ s = ByteArray.empty := by
  intro e; subst e; simp at h
theorem toList_eq {x y : ByteArray} : x.toList = y.toList ↔ x = y := by
  rw [Lib.toList_data, Lib.toList_data]
  constructor
  · intro h
    cases x; cases y
    simpa using h
  · intro h; rw [h]
theorem beq_yes {x y : ByteArray} (h : x = y) : (x.toList == y.toList) = true := by rw [h]; simp
theorem beq_no {x y : ByteArray} (h : ¬ x = y) : (x.toList == y.toList) = false := by
  apply beq_eq_false_iff_ne.2
  intro e; exact h (toList_eq.1 e)

/-- The text of a few bytes that lie in the last new block, told as numbers. -/
theorem convL (w : World) (n : Nat) (xs : List Int) (h : n = w.heap.size) :
    Sem.run Tryd.prog (convert 74 9 (Value.slice (some { block := n, off := 0 }) xs.length xs.length)) (w.alloc (Obj.cells (xs.map (Value.int .u8)).toArray 5)) = .ok (.string (str xs)) (w.alloc (Obj.cells (xs.map (Value.int .u8)).toArray 5)) := by
  subst h
  refine run_convert_bytes_arg (P := Tryd.prog) _ 74 5 Tryd.underlying74 Tryd.underlying5 w.heap.size 0 xs.length xs.length xs rfl ?_ 9 Tryd.underlying9
  intro i hi
  rw [World.cell?_alloc_mark]
  simp [List.getD, List.getElem?_eq_getElem hi]
end Go.Proofs.YtahclcoabffmiaaDoor

/-
  Attributes as they lie in memory.
-/
namespace Go.Proofs.YtahclcoabffmiaaDoor
open Go.RowKit Go.Maps Go.WideMaps
set_option linter.unusedVariables false

/-- Attributes that lie in memory, one behind the other. -/
def an (ats : List (ByteArray × ByteArray)) (k : Nat) : ByteArray := (ats.getD k (ByteArray.empty, ByteArray.empty)).1
def av (ats : List (ByteArray × ByteArray)) (k : Nat) : ByteArray := (ats.getD k (ByteArray.empty, ByteArray.empty)).2
def Cells2 (g o : Nat) (ats : List (ByteArray × ByteArray)) (w : World) : Prop :=
  ∀ k, k < ats.length → w.cell? ⟨g, o + k * 2, none⟩ = some (.string (an ats k)) ∧ w.cell? ⟨g, o + k * 2 + 1, none⟩ = some (.string (av ats k))
theorem Cells2.below {g o : Nat} {ats : List (ByteArray × ByteArray)} {w w' : World} (h : Cells2 g o ats w) (hb : Below w.heap.size w w') : Cells2 g o ats w' :=
  fun k hk => ⟨cell_later hb (h k hk).1, cell_later hb (h k hk).2⟩
/-- Attributes behind a slice, or none at all. -/
def Sl (q : Option Addr) (ats : List (ByteArray × ByteArray)) (w : World) : Prop := ats = [] ∨ ∃ g o, q = some ⟨g, o, none⟩ ∧ Cells2 g o ats w
theorem Sl.below {q : Option Addr} {ats : List (ByteArray × ByteArray)} {w w' : World} (h : Sl q ats w) (hb : Below w.heap.size w w') : Sl q ats w' :=
  h.imp id fun ⟨g, o, h1, h2⟩ => ⟨g, o, h1, h2.below hb⟩
theorem law9 : Keyed Tryd.prog 9 := string_keyed Tryd.underlying9
theorem isKey (b : ByteArray) : WideAt.IsKeyLit (.string b.data.toList) := by simp [WideAt.IsKeyLit]
end Go.Proofs.YtahclcoabffmiaaDoor

/-
  What 'rectoplain.Attrs' does: of every two lists of attributes, whether they are equal; it only reads.
-/
namespace Go.Proofs.YtahclcoabffmiaaDoor
open Go.RowKit
set_option linter.unusedVariables false

def sameA (a b : List (ByteArray × ByteArray)) : Bool := decide (a = b)
theorem attrs_a0 (a b : Option Addr) (ca lb cb : Nat) (w : World) (hb : lb ≤ 9223372036854775807) :
    Calls Tryd.prog 32 #[.slice a 0 ca, .slice b lb cb] w fun e w' => e = .returned (.bool (((0 : Int) == (lb : Int)))) ∧ Below w.heap.size w w' := by
  go_enter Tryd.func32, Tryd.ntmps32
  go_wp2
  refine wp_loop_rounds 1 ?_
  rw [rounds_succ]; go_wp2
  go_ret
  exact ⟨rfl, Below.refl _ _⟩

set_option maxHeartbeats 400000 in
theorem attrs_b0 (x : Nat) (xo la ca : Nat) (b : Option Addr) (cb : Nat) (w : World) (h0 : 0 < la) (ha : la ≤ 9223372036854775807) :
    Calls Tryd.prog 32 #[.slice (some ⟨x, xo, none⟩) la ca, .slice b 0 cb] w fun e w' => e = .returned (.bool false) ∧ Below w.heap.size w w' := by
  have h1 : (0 : Int) < (la : Int) := by omega
  go_enter Tryd.func32, Tryd.ntmps32
  go_wp2
  refine wp_loop_rounds 1 ?_
  rw [rounds_succ]; go_wp2
  go_quiet (fail)
  go_wp2
  go_ret
  exact ⟨rfl, below_draws _ _⟩

theorem same_ats (a b : List (ByteArray × ByteArray)) (hl : a.length = b.length) (h : ∀ i, i < a.length → an a i = an b i ∧ av a i = av b i) : a = b := by
  apply List.ext_getElem hl
  intro i h1 h2
  obtain ⟨e1, e2⟩ := h i h1
  unfold an at e1
  unfold av at e2
  rw [List.getD, List.getD, List.getElem?_eq_getElem h1, List.getElem?_eq_getElem h2] at e1 e2
  exact Prod.ext e1 e2

set_option maxHeartbeats 2000000 in
theorem attrs_loop (x xo ca y yo cb : Nat) (ta tb : List (ByteArray × ByteArray)) (la lb : Nat) (w : World) (hla : Hid (ta.length = la)) (hlb : Hid (tb.length = lb)) (h0 : 0 < la) (h0b : 0 < lb) (ha : la ≤ 4398046511104) (hb : lb ≤ 4398046511104)
    (hx : Cells2 x xo ta w) (hy : Cells2 y yo tb w) :
    Calls Tryd.prog 32 #[.slice (some ⟨x, xo, none⟩) la ca, .slice (some ⟨y, yo, none⟩) lb cb] w fun e w' => e = .returned (.bool (sameA ta tb)) ∧ Below w.heap.size w w' := by
  have HX := hide hx
  have HY := hide hy
  clear hx hy
  go_enter Tryd.func32, Tryd.ntmps32
  go_wp2
  go_loopw [8] (fun i wr => ∃ k : Nat, k ≤ la ∧ i = .int .i64 k ∧ Below w.heap.size w wr ∧ (∀ j, j < k → j < lb ∧ an ta j = an tb j ∧ av ta j = av tb j)) (fun i _ => la - (intOf i).toNat)
  case atStart => exact ⟨0, Nat.zero_le _, rfl, Below.refl _ _, fun j h => by omega⟩
  case round =>
    obtain ⟨k, hk, rfl, hbw, hall⟩ := hrel
    have HA := hide hall
    have HB := hide hbw
    clear hall
    by_cases hlt : k < la
    · have hlti : (k : Int) < (la : Int) := by omega
      by_cases hkb : k < lb
      · have hkbi : (k : Int) < (lb : Int) := by omega
        have hg : decide ((lb : Int) ≤ (k : Int)) = false := by simp; omega
        obtain ⟨c1, c2⟩ := (unhide HX).below hbw k (by rw [unhide hla]; exact hlt)
        obtain ⟨c3, c4⟩ := (unhide HY).below hbw k (by rw [unhide hlb]; exact hkb)
        generalize hp1 : an ta k = p1 at *
        generalize hp2 : av ta k = p2 at *
        generalize hq1 : an tb k = q1 at *
        generalize hq2 : av tb k = q2 at *
        have HP := hide (And.intro hp1 (And.intro hp2 (And.intro hq1 hq2)))
        clear hp1 hp2 hq1 hq2 hbw
        by_cases e1 : p1 = q1
        · have f1 := beq_yes e1
          by_cases e2 : p2 = q2
          · have f2 := beq_yes e2
            have HE := hide (And.intro e1 e2)
            clear e1 e2
            go_wp2
            go_quiet (fail)
            go_wp2
            refine ⟨⟨k + 1, by omega, by go_num, _root_.Go.below_drewN (unhide HB) _, fun j hj => ?_⟩, by simp [intOf]; omega⟩
            by_cases hjk : j = k
            · subst hjk
              obtain ⟨r1, r2, r3, r4⟩ := unhide HP
              exact ⟨hkb, by rw [r1, r3]; exact (unhide HE).1, by rw [r2, r4]; exact (unhide HE).2⟩
            · exact unhide HA j (by omega)
          · have f2 := beq_no e2
            have HS : Hid (sameA ta tb = false) := hide (decide_eq_false fun h => e2 (by obtain ⟨r1, r2, r3, r4⟩ := unhide HP; rw [← r2, ← r4, h]))
            clear e1 e2
            go_wp2
            go_quiet (fail)
            go_wp2
            go_ret
            exact ⟨by rw [unhide HS]; rfl, _root_.Go.below_drewN (unhide HB) _⟩
        · have f1 := beq_no e1
          have HS : Hid (sameA ta tb = false) := hide (decide_eq_false fun h => e1 (by obtain ⟨r1, r2, r3, r4⟩ := unhide HP; rw [← r1, ← r3, h]))
          clear e1
          go_wp2
          go_quiet (fail)
          go_wp2
          go_ret
          exact ⟨by rw [unhide HS]; rfl, _root_.Go.below_drewN (unhide HB) _⟩
      · have hg : decide ((lb : Int) ≤ (k : Int)) = true := by simp; omega
        have HS : Hid (sameA ta tb = false) := hide (decide_eq_false (by intro e; have := congrArg List.length e; rw [unhide hla, unhide hlb] at this; omega))
        clear hbw
        go_wp2
        go_quiet (fail)
        go_wp2
        go_ret
        exact ⟨by rw [unhide HS]; rfl, _root_.Go.below_drewN (unhide HB) _⟩
    · have hs : sameA ta tb = ((la : Int) == (lb : Int)) := by
        by_cases e : la = lb
        · rw [sameA, decide_eq_true (same_ats ta tb (by rw [unhide hla, unhide hlb]; exact e) (fun i hi => (unhide HA i (by rw [unhide hla] at hi; omega)).2))]
          simp [e]
        · rw [sameA, decide_eq_false (by intro e'; have := congrArg List.length e'; rw [unhide hla, unhide hlb] at this; exact e this)]
          symm; apply beq_eq_false_iff_ne.2; omega
      have HS := hide hs
      clear hs
      go_wp2
      go_ret
      exact ⟨by rw [unhide HS]; rfl, hbw⟩

theorem attrs_any (qa qb : Option Addr) (ca cb : Nat) (ta tb : List (ByteArray × ByteArray)) (w : World) (ha : Sl qa ta w) (hb : Sl qb tb w) (la : ta.length ≤ 4398046511104) (lb : tb.length ≤ 4398046511104) :
    Calls Tryd.prog 32 #[.slice qa ta.length ca, .slice qb tb.length cb] w fun e w' => e = .returned (.bool (sameA ta tb)) ∧ Below w.heap.size w w' := by
  rcases ha with rfl | ⟨x, xo, rfl, hx⟩
  · have : sameA [] tb = ((0 : Int) == (tb.length : Int)) := by
      cases tb with
      | nil => rfl
      | cons a l => rw [sameA, decide_eq_false (by simp)]; symm; apply beq_eq_false_iff_ne.2; simp; omega
    rw [this]
    exact attrs_a0 qa qb ca tb.length cb w (by omega)
  · by_cases h0 : ta.length = 0
    · have e0 : ta = [] := List.eq_nil_of_length_eq_zero h0
      subst e0
      have : sameA [] tb = ((0 : Int) == (tb.length : Int)) := by
        cases tb with
        | nil => rfl
        | cons a l => rw [sameA, decide_eq_false (by simp)]; symm; apply beq_eq_false_iff_ne.2; simp; omega
      rw [this]
      exact attrs_a0 _ qb ca tb.length cb w (by omega)
    rcases hb with rfl | ⟨y, yo, rfl, hy⟩
    · rw [sameA, decide_eq_false (by intro e; rw [e] at h0; exact h0 rfl)]
      exact attrs_b0 x xo _ ca qb cb w (by omega) (by omega)
    · by_cases h1 : tb.length = 0
      · rw [sameA, decide_eq_false (by intro e; rw [e] at h0; exact h0 h1), h1]
        exact attrs_b0 x xo _ ca _ cb w (by omega) (by omega)
      · exact attrs_loop x xo ca y yo cb ta tb _ _ w (hide rfl) (hide rfl) (by omega) (by omega) la lb hx hy
end Go.Proofs.YtahclcoabffmiaaDoor

/-
  A block of cells as it lies in memory; a world made a letter.
-/
namespace Go.Proofs.YtahclcoabffmiaaDoor
open Go.RowKit
set_option linter.unusedVariables false

/-- A block of cells, as it lies. -/
def Blk (w : World) (b : Nat) (vs : Array Value) (t : TypeId) : Prop := w.heap[b]? = some (.cells vs t (0, 0))
theorem Blk.lt {w : World} {b : Nat} {vs : Array Value} {t : TypeId} (h : Blk w b vs t) : b < w.heap.size := by
  rcases Nat.lt_or_ge b w.heap.size with h' | h'
  · exact h'
  · unfold Blk at h; rw [Array.getElem?_eq_none h'] at h; cases h
theorem Blk.cell {w : World} {b : Nat} {vs : Array Value} {t : TypeId} (h : Blk w b vs t) (o : Nat) : w.cell? ⟨b, o, none⟩ = vs[o]? := Joins.cell_of_block h o
theorem Blk.frozen {w : World} {b : Nat} {vs : Array Value} {t : TypeId} (h : Blk w b vs t) (o : Nat) : w.frozen? ⟨b, o, none⟩ = false := by
  have h' : w.heap[b]? = some (.cells vs t (0, 0)) := h
  simp [World.frozen?, h']
theorem Blk.below {w w' : World} {b B : Nat} {vs : Array Value} {t : TypeId} (h : Blk w b vs t) (hb : Below B w w') (hB : b < B) : Blk w' b vs t := (hb.block b hB).trans h
theorem Blk.later {w w' : World} {b : Nat} {vs : Array Value} {t : TypeId} (h : Blk w b vs t) (hb : Below w.heap.size w w') : Blk w' b vs t := h.below hb h.lt
theorem Blk.alloc {w : World} {b : Nat} {vs : Array Value} {t : TypeId} (h : Blk w b vs t) (o : Obj) : Blk (w.alloc o) b vs t := h.later ((Below.refl _ _).alloc (Nat.le_refl _) _)
theorem Blk.new (w : World) (vs : Array Value) (t : TypeId) : Blk (w.alloc (.cells vs t)) w.heap.size vs t := by show (w.heap.push _)[w.heap.size]? = _; simp
theorem Blk.away {w : World} {b : Nat} {vs : Array Value} {t : TypeId} (h : Blk w b vs t) {b' o : Nat} (hb : b ≠ b') (u : Value) : Blk (w.setCell ⟨b', o, none⟩ u) b vs t := (Below.heap_setCell w ⟨b', o, none⟩ u b hb).trans h
theorem Blk.set {w : World} {b : Nat} {vs : Array Value} {t : TypeId} (h : Blk w b vs t) (o : Nat) (ho : o < vs.size) (u : Value) : Blk (w.setCell ⟨b, o, none⟩ u) b (vs.set o u) t := by
  have h' : w.heap[b]? = some (.cells vs t (0, 0)) := h
  simp [Blk, World.setCell, Array.getElem?_modify, h', Array.setIfInBounds, ho]

/-- From here on no more is asked of the world than this. -/
theorem calls_from {P : Program} {f : FuncId} {args : Array Value} {W : World} {R : Ending → World → Prop} (S : World → Prop) (h : S W) (k : ∀ W', S W' → Calls P f args W' R) : Calls P f args W R := k W h
end Go.Proofs.YtahclcoabffmiaaDoor
