/-
  Several texts in one: what the functions of the program and of the document's answer do.
-/
import Derived.Test.YtbabmkilbbbmoaaDoorRows
import Derived.WalkKit
import Derived.WalkSpells
import Derived.WalkLawsBesides
import Derived.Deep.QuietTactic
import Derived.BigQuiet
import Derived.Laws.BytesArg
import Derived.Lib.PathFns
import Derived.Lib.IndexBytes
import Derived.Lib.SmallJoins
import Derived.SliceStrings

/-
  Small plain facts that the walks of this seat share: bytes as lists, what stays behind a call, how an answer is told.
-/
namespace Go.Proofs.YtbabmkilbbbmoaaDoor
open Go.RowKit
set_option linter.unusedVariables false

theorem hide {p : Prop} (h : p) : Hid p := h
theorem unhide {p : Prop} (h : Hid p) : p := h
theorem ret1 {a x : Value} (h1 : a = x) : Ending.returned a = .returned x := by rw [h1]
theorem ret2 {a b x y : Value} (h1 : a = x) (h2 : b = y) : Ending.returned (.tuple #[a, b]) = .returned (.tuple #[x, y]) := by rw [h1, h2]
theorem ret3 {a b c x y z : Value} (h1 : a = x) (h2 : b = y) (h3 : c = z) : Ending.returned (.tuple #[a, b, c]) = .returned (.tuple #[x, y, z]) := by rw [h1, h2, h3]

theorem below_draws (w : World) (n : Nat) : Below w.heap.size w (w.drewN n) := _root_.Go.below_drewN (Below.refl _ _) n
theorem bcell {W w1 : World} (hb : Below W.heap.size W w1) : (∀ b o, b < W.heap.size → w1.cell? ⟨b, o, none⟩ = W.cell? ⟨b, o, none⟩) ∧ (∀ b o, b < W.heap.size → w1.frozen? ⟨b, o, none⟩ = W.frozen? ⟨b, o, none⟩) :=
  ⟨fun b o h => hb.cell (p := ⟨b, o, none⟩) h, fun b o h => hb.frozen (p := ⟨b, o, none⟩) h⟩
theorem bel_of {w w1 : World} {X : Obj} (hb1 : Below (w.alloc X).heap.size (w.alloc X) w1) : Below w.heap.size w w1 :=
  ((Below.refl _ _).alloc (Nat.le_refl _) _).trans (hb1.mono (by simp))
theorem tr2 {w w1 w2 : World} (h1 : Below w.heap.size w w1) (h2 : Below w1.heap.size w1 w2) : Below w.heap.size w w2 := h1.trans (h2.mono h1.size)
theorem tr3 {w w1 w2 w3 : World} (h1 : Below w.heap.size w w1) (h2 : Below w1.heap.size w1 w2) (h3 : Below w2.heap.size w2 w3) : Below w.heap.size w w3 := tr2 (tr2 h1 h2) h3
theorem ownsRow_below {w w1 : World} {base : Nat} {e : TypeId} {size : Nat} {v : Value} {n : Nat} {xs : List Value} (h : w.ownsRow base e size v n xs) (hb : Below w.heap.size w w1) : w1.ownsRow base e size v n xs := by
  obtain ⟨hl, h⟩ := h
  refine ⟨hl, ?_⟩
  rcases h with h | ⟨g, cap, cur, h1, h2, h3, h4, h5, h6, h7⟩
  · exact .inl h
  · refine .inr ⟨g, cap, cur, h1, h2, ?_, h4, h5, h6, h7⟩
    have hg : g < w.heap.size := by
      rcases Nat.lt_or_ge g w.heap.size with h | h
      · exact h
      · rw [Array.getElem?_eq_none h] at h3; cases h3
    rw [hb.block g hg]; exact h3
theorem slice_of {w : World} {base : Nat} {e : TypeId} {size : Nat} {v : Value} {n : Nat} {xs : List Value} (h : w.ownsRow base e size v n xs) : ∃ a m cap, v = .slice a m cap := by
  rcases h.2 with ⟨h, _⟩ | ⟨g, cap, cur, h, _⟩
  · exact ⟨_, _, _, h⟩
  · exact ⟨_, _, _, h⟩

/-! ### bytes -/

def bs (l : List UInt8) : ByteArray := ⟨l.toArray⟩
def dgt (l : List UInt8) (k : Nat) : Nat := (l.getD k 0).toNat
def byt (x : Int) : UInt8 := UInt8.ofNat x.toNat
def str (xs : List Int) : ByteArray := strOfNums xs
theorem str_bs (xs : List Int) : str xs = bs (xs.map byt) := rfl
theorem byt_toNat (x : Int) (h0 : 0 ≤ x) (h1 : x < 256) : ((byt x).toNat : Int) = x := by
  have : x.toNat < 256 := by omega
  unfold byt
  rw [UInt8.toNat_ofNat']
  omega
theorem byt_nat (k : Nat) (h : k < 256) : (byt (k : Int)).toNat = k := by
  have := byt_toNat (k : Int) (by omega) (by omega)
  omega
theorem byt_self (c : UInt8) : byt (c.toNat : Int) = c := by
  apply UInt8.toNat.inj
  exact byt_nat _ (UInt8.toNat_lt c)
theorem bs_toList (l : List UInt8) : (bs l).data.toList = l := by simp [bs]
theorem bs_size (l : List UInt8) : (bs l).size = l.length := by simp [bs, ByteArray.size]
theorem bs_self (s : ByteArray) : bs s.data.toList = s := by simp [bs]
theorem bs_inj {a b : List UInt8} (h : bs a = bs b) : a = b := by
  have := congrArg (fun x : ByteArray => x.data.toList) h
  simpa [bs_toList] using this
theorem data_len (s : ByteArray) : s.data.toList.length = s.size := by simp
theorem add_bs (a b : ByteArray) : a ++ b = bs (a.data.toList ++ b.data.toList) := by
  apply ByteArray.ext
  simp [bs]
theorem bs_add (a : List UInt8) (b : ByteArray) : bs a ++ b = bs (a ++ b.data.toList) := by rw [add_bs, bs_toList]
theorem bs_bs (a b : List UInt8) : bs a ++ bs b = bs (a ++ b) := by rw [add_bs, bs_toList, bs_toList]
theorem str_size (xs : List Int) : (str xs).size = xs.length := strOfNums_size xs
theorem dgt_lt (l : List UInt8) (k : Nat) : dgt l k < 256 := by
  unfold dgt; exact UInt8.toNat_lt _
theorem dgt_at (s : ByteArray) (k : Nat) (h : k < s.size) : (s[k]).toNat = dgt s.data.toList k := by
  have h' : k < s.data.toList.length := by simpa using h
  unfold dgt
  rw [List.getD, List.getElem?_eq_getElem h']
  rfl
theorem dgt_drop (l : List UInt8) (a k : Nat) : dgt (l.drop a) k = dgt l (a + k) := by
  unfold dgt
  simp [List.getD, List.getElem?_drop]
theorem dgt_from (s : ByteArray) (a k : Nat) (h : k < (s.extract a s.size).size) : ((s.extract a s.size)[k]).toNat = dgt s.data.toList (a + k) := by
  rw [dgt_at, Lib.extract_to_end, dgt_drop]
theorem not_empty (s : ByteArray) (h : 0 < s.size) : s.toList.isEmpty = false := by
  have h' : 0 < s.data.toList.length := by simpa using h
  rw [Lib.toList_data]
  cases e : s.data.toList with
  | nil => simp [e] at h'
  | cons a b => rfl
theorem is_empty (s : ByteArray) (h : s.size = 0) : s.toList.isEmpty = true := by
  have : s.data.toList = [] := List.eq_nil_of_length_eq_zero (by simpa using h)
  simp [Lib.toList_data, this]
theorem not_bare (s : ByteArray) (h : 0 < s.size) : ¬ s = ByteArray.empty := by
  intro e; subst e; simp at h
theorem toList_eq {x y : ByteArray} : x.toList = y.toList ↔ x = y := by
  rw [Lib.toList_data, Lib.toList_data]
  constructor
  · intro h
    cases x; cases y
    simpa using h
  · intro h; rw [h]
theorem beq_yes {x y : ByteArray} (h : x = y) : (x.toList == y.toList) = true := by rw [h]; simp
theorem beq_no {x y : ByteArray} (h : ¬ x = y) : (x.toList == y.toList) = false := by
  apply beq_eq_false_iff_ne.2
  intro e; exact h (toList_eq.1 e)

/-- The text of a few bytes that lie in the last new block, told as numbers. -/
theorem convL (w : World) (n : Nat) (xs : List Int) (h : n = w.heap.size) :
    Sem.run Tryd.prog (convert 120 9 (Value.slice (some { block := n, off := 0 }) xs.length xs.length)) (w.alloc (Obj.cells (xs.map (Value.int .u8)).toArray 5)) = .ok (.string (str xs)) (w.alloc (Obj.cells (xs.map (Value.int .u8)).toArray 5)) := by
  subst h
  refine run_convert_bytes_arg (P := Tryd.prog) _ 120 5 Tryd.underlying120 Tryd.underlying5 w.heap.size 0 xs.length xs.length xs rfl ?_ 9 Tryd.underlying9
  intro i hi
  rw [World.cell?_alloc_mark]
  simp [List.getD, List.getElem?_eq_getElem hi]
end Go.Proofs.YtbabmkilbbbmoaaDoor

/-
  Lists of texts as slice values: what a slice shows in a world, and that it stays.
-/
namespace Go.Proofs.YtbabmkilbbbmoaaDoor
open Go.RowKit
set_option linter.unusedVariables false

/-- A slice value that shows these texts in a world. -/
def View (w : World) (v : Value) (ss : List ByteArray) : Prop :=
  ss.length ≤ 9223372036854775807 ∧ ∃ a cap, v = .slice a ss.length cap ∧
    (0 < ss.length → ∃ b off, a = some ⟨b, off, none⟩ ∧ ∀ i, i < ss.length → w.cell? ⟨b, off + i, none⟩ = some (.string (ss.getD i ByteArray.empty)))

def sameT (a b : List ByteArray) : Bool := decide (a = b)
theorem sameT_refl (a : List ByteArray) : sameT a a = true := by simp [sameT]
theorem sameT_true {a b : List ByteArray} (h : a = b) : sameT a b = true := by simp [sameT, h]
theorem sameT_false {a b : List ByteArray} (h : ¬ a = b) : sameT a b = false := by simp [sameT, h]
theorem same_of (a b : List ByteArray) (hl : a.length = b.length) (h : ∀ i, i < a.length → a.getD i ByteArray.empty = b.getD i ByteArray.empty) : a = b := by
  apply List.ext_getElem hl
  intro i h1 h2
  have := h i h1
  rw [List.getD, List.getD, List.getElem?_eq_getElem h1, List.getElem?_eq_getElem h2] at this
  simpa using this
theorem view_of_owns {w : World} {base : Nat} {v : Value} {ts : List ByteArray} (h : w.ownsRow base 9 1 v ts.length (ts.map Value.string)) : View w v ts := by
  obtain ⟨_, h⟩ := h
  rcases h with ⟨rfl, h0⟩ | ⟨g, cap, cur, rfl, h1, h2, h3, h4, h5, h6⟩
  · exact ⟨by rw [h0]; decide, none, 0, by rw [h0], fun h => by omega⟩
  · refine ⟨Nat.le_trans h3 h4, some ⟨g, 0, none⟩, cap, rfl, fun _ => ⟨g, 0, rfl, fun i hi => ?_⟩⟩
    rw [Joins.cell_of_block h2]
    have e : cur.toList[i]? = some (.string (ts.getD i ByteArray.empty)) := by
      have : (cur.toList.take (ts.length * 1))[i]? = some (.string (ts.getD i ByteArray.empty)) := by
        rw [h6, List.getElem?_map, List.getD, List.getElem?_eq_getElem hi]; rfl
      rw [List.getElem?_take] at this
      rw [if_pos (by omega)] at this
      exact this
    simpa using e

theorem view_below {w w1 : World} {v : Value} {ss : List ByteArray} (h : View w v ss) (hb : Below w.heap.size w w1) : View w1 v ss := by
  obtain ⟨la, a, cap, rfl, hx⟩ := h
  refine ⟨la, a, cap, rfl, fun h0 => ?_⟩
  obtain ⟨b, off, rfl, hc⟩ := hx h0
  exact ⟨b, off, rfl, fun i hi => (hb.cell (p := ⟨b, off + i, none⟩) (World.block_lt_of_cell? w ⟨b, off + i, none⟩ (hc i hi))).trans (hc i hi)⟩
theorem view_alloc {w : World} {v : Value} {ss : List ByteArray} (h : View w v ss) (o : Obj) : View (w.alloc o) v ss := view_below h ((Below.refl _ _).alloc (Nat.le_refl _) _)
theorem getD_mem (ss : List ByteArray) (k : Nat) (h : k < ss.length) : ss.getD k ByteArray.empty ∈ ss := by
  have e : ss.getD k ByteArray.empty = ss[k] := by rw [List.getD, List.getElem?_eq_getElem h]; rfl
  rw [e]; exact List.getElem_mem h

/-- A slice of texts that came in, as a view. -/
theorem view_in {w : World} {a : Addr} {len cap : Nat} {ss : List ByteArray} (hl : len ≤ cap) (hm : cap ≤ maxLen) (hz : ss.length = cap)
    (hcell : ∀ i, i < ss.length → w.cell? (a.add i) = some (.string (ss.getD i ByteArray.empty))) : View w (.slice (some a) len cap) (ss.take len) := by
  have hlen : (ss.take len).length = len := by simp; omega
  refine ⟨by rw [hlen]; exact Nat.le_trans hl hm, some a, cap, by rw [hlen], fun h0 => ?_⟩
  rw [hlen] at h0 ⊢
  obtain ⟨b, off, spot⟩ := a
  have hc := hcell 0 (by omega)
  have hspot : spot = none := by simpa [Addr.add] using World.cell?_spot hc
  subst hspot
  refine ⟨b, off, rfl, fun i hi => ?_⟩
  have := hcell i (by omega)
  have e : (ss.take len).getD i ByteArray.empty = ss.getD i ByteArray.empty := by
    rw [List.getD, List.getD, List.getElem?_take, if_pos hi]
  rw [e]
  have hplain : (⟨b, off, none⟩ : Addr).add i = ⟨b, off + i, none⟩ := by unfold Addr.add; split <;> simp_all
  rw [hplain] at this
  exact this
theorem view_none (w : World) : View w (.slice none 0 0) [] := ⟨by decide, none, 0, rfl, fun h => by cases h⟩


theorem Tryd.infoStr : (Tryd.prog.info? 9).map (fun i => (i.zero, i.size, i.bytes)) = some (some (.string ⟨#[]⟩), 1, 16) := by kernel_rfl
end Go.Proofs.YtbabmkilbbbmoaaDoor

/-
  What 'rectoplain.Texts' does: of every two lists of texts, whether they are equal; it only reads.
-/
namespace Go.Proofs.YtbabmkilbbbmoaaDoor
open Go.RowKit
set_option linter.unusedVariables false

theorem texts_a0 (a b : Option Addr) (ca lb cb : Nat) (w : World) (hb : lb ≤ 9223372036854775807) :
    Calls Tryd.prog 52 #[.slice a 0 ca, .slice b lb cb] w fun e w' => e = .returned (.bool (((0 : Int) == (lb : Int)))) ∧ Below w.heap.size w w' := by
  go_enter Tryd.func52, Tryd.ntmps52
  go_wp2
  refine wp_loop_rounds 1 ?_
  rw [rounds_succ]; go_wp2
  go_ret
  exact ⟨rfl, Below.refl _ _⟩

set_option maxHeartbeats 400000 in
theorem texts_b0 (x : Nat) (xo la ca : Nat) (b : Option Addr) (cb : Nat) (w : World) (h0 : 0 < la) (ha : la ≤ 9223372036854775807) :
    Calls Tryd.prog 52 #[.slice (some ⟨x, xo, none⟩) la ca, .slice b 0 cb] w fun e w' => e = .returned (.bool false) ∧ Below w.heap.size w w' := by
  have h1 : (0 : Int) < (la : Int) := by omega
  go_enter Tryd.func52, Tryd.ntmps52
  go_wp2
  refine wp_loop_rounds 1 ?_
  rw [rounds_succ]; go_wp2
  go_quiet (fail)
  go_wp2
  go_ret
  exact ⟨rfl, below_draws _ _⟩

set_option maxHeartbeats 400000 in
theorem texts_loop (x xo ca y yo cb : Nat) (ta tb : List ByteArray) (la lb : Nat) (w : World) (hla : Hid (ta.length = la)) (hlb : Hid (tb.length = lb)) (h0 : 0 < la) (h0b : 0 < lb) (ha : la ≤ 9223372036854775807) (hb : lb ≤ 9223372036854775807)
    (hx : ∀ i, i < la → w.cell? ⟨x, xo + i, none⟩ = some (.string (ta.getD i ByteArray.empty))) (hy : ∀ i, i < lb → w.cell? ⟨y, yo + i, none⟩ = some (.string (tb.getD i ByteArray.empty))) :
    Calls Tryd.prog 52 #[.slice (some ⟨x, xo, none⟩) la ca, .slice (some ⟨y, yo, none⟩) lb cb] w fun e w' => e = .returned (.bool (sameT ta tb)) ∧ Below w.heap.size w w' := by
  have HX := hide hx
  have HY := hide hy
  clear hx hy
  go_enter Tryd.func52, Tryd.ntmps52
  go_wp2
  go_loopw [8] (fun i wr => ∃ k : Nat, k ≤ la ∧ i = .int .i64 k ∧ Below w.heap.size w wr ∧ (∀ j, w.cell? j = wr.cell? j) ∧ (∀ j, j < k → j < lb ∧ ta.getD j ByteArray.empty = tb.getD j ByteArray.empty)) (fun i _ => la - (intOf i).toNat)
  case atStart => exact ⟨0, Nat.zero_le _, rfl, Below.refl _ _, fun _ => rfl, fun j h => by omega⟩
  case round =>
    obtain ⟨k, hk, rfl, hbw, hcw, hall⟩ := hrel
    have HC := hide hcw
    have HA := hide hall
    clear hcw hall
    by_cases hlt : k < la
    · have hlti : (k : Int) < (la : Int) := by omega
      by_cases hkb : k < lb
      · have hkbi : (k : Int) < (lb : Int) := by omega
        have hg : decide ((lb : Int) ≤ (k : Int)) = false := by simp; omega
        obtain ⟨p, hp⟩ : ∃ p, p = ta.getD k ByteArray.empty := ⟨_, rfl⟩
        obtain ⟨q, hq⟩ : ∃ q, q = tb.getD k ByteArray.empty := ⟨_, rfl⟩
        have c1 : wr.cell? ⟨x, xo + k, none⟩ = some (.string p) := by rw [← unhide HC, hp]; exact unhide HX k hlt
        have c2 : wr.cell? ⟨y, yo + k, none⟩ = some (.string q) := by rw [← unhide HC, hq]; exact unhide HY k hkb
        have HP := hide hp
        have HQ := hide hq
        clear hp hq
        by_cases hpq : p = q
        · have hpq' := beq_yes hpq
          have HE := hide hpq
          clear hpq
          go_wp2
          go_quiet (fail)
          go_wp2
          go_roundw
          case rel => exact ⟨k + 1, by omega, by go_num, _root_.Go.below_drewN hbw _, unhide HC, by
            intro j hj
            by_cases hjk : j = k
            · subst hjk; exact ⟨hkb, by rw [← unhide HP, ← unhide HQ]; exact unhide HE⟩
            · exact unhide HA j (by omega)⟩
          case measure => simp [intOf]; omega
        · have hpq' := beq_no hpq
          have hs : sameT ta tb = false := sameT_false (by intro e; apply hpq; rw [unhide HP, unhide HQ, e])
          have HS := hide hs
          clear hpq hs
          go_wp2
          go_quiet (fail)
          go_wp2
          go_ret
          exact ⟨by rw [unhide HS]; rfl, _root_.Go.below_drewN hbw _⟩
      · have hg : decide ((lb : Int) ≤ (k : Int)) = true := by simp; omega
        have hs : sameT ta tb = false := sameT_false (by intro e; have := congrArg List.length e; rw [unhide hla, unhide hlb] at this; omega)
        have HS := hide hs
        clear hs
        go_wp2
        go_quiet (fail)
        go_wp2
        go_ret
        exact ⟨by rw [unhide HS]; rfl, _root_.Go.below_drewN hbw _⟩
    · have hs : sameT ta tb = ((la : Int) == (lb : Int)) := by
        by_cases e : la = lb
        · rw [sameT_true (same_of ta tb (by rw [unhide hla, unhide hlb]; exact e) (fun i hi => (unhide HA i (by rw [unhide hla] at hi; omega)).2))]
          simp [e]
        · rw [sameT_false (by intro e'; have := congrArg List.length e'; rw [unhide hla, unhide hlb] at this; exact e this)]
          symm; apply beq_eq_false_iff_ne.2; omega
      have HS := hide hs
      clear hs
      go_wp2
      go_ret
      exact ⟨by rw [unhide HS]; rfl, hbw⟩

theorem texts_any (va vb : Value) (ta tb : List ByteArray) (w : World) (ha : View w va ta) (hb : View w vb tb) :
    Calls Tryd.prog 52 #[va, vb] w fun e w' => e = .returned (.bool (sameT ta tb)) ∧ Below w.heap.size w w' := by
  obtain ⟨la, a, ca, rfl, ha⟩ := ha
  obtain ⟨lb, b, cb, rfl, hb⟩ := hb
  by_cases h0 : ta.length = 0
  · have e0 : ta = [] := List.eq_nil_of_length_eq_zero h0
    have : sameT ta tb = ((0 : Int) == (tb.length : Int)) := by
      by_cases e : tb.length = 0
      · rw [e0, List.eq_nil_of_length_eq_zero e]; rfl
      · rw [sameT_false (by intro e'; rw [← e'] at e; exact e h0)]
        symm; apply beq_eq_false_iff_ne.2; omega
    rw [this, h0]
    exact texts_a0 a b ca tb.length cb w lb
  · obtain ⟨x, xo, rfl, hx⟩ := ha (by omega)
    by_cases h1 : tb.length = 0
    · rw [sameT_false (by intro e; rw [e] at h0; exact h0 h1), h1]
      exact texts_b0 x xo _ ca b cb w (by omega) la
    · obtain ⟨y, yo, rfl, hy⟩ := hb (by omega)
      exact texts_loop x xo ca y yo cb ta tb _ _ w (hide rfl) (hide rfl) (by omega) (by omega) la lb hx hy
end Go.Proofs.YtbabmkilbbbmoaaDoor
