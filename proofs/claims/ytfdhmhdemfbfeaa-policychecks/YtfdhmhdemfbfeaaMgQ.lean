/-
  Several texts in one: what the functions of the program and of the document's answer do.
-/
import Derived.Test.YtfdhmhdemfbfeaaMgA
import Derived.SliceStrings
import Derived.Test.YtfdhmhdemfbfeaaMgP

/-
  Lists of texts as slice values: what a slice shows in a world, and that it stays.
-/
namespace Go.Proofs.Ytfdhmhdemfbfeaa
open Go.RowKit
set_option linter.unusedVariables false

/-- A slice value that shows these texts in a world. -/
def View (w : World) (v : Value) (ss : List ByteArray) : Prop :=
  ss.length ≤ 9223372036854775807 ∧ ∃ a cap, v = .slice a ss.length cap ∧
    (0 < ss.length → ∃ b off, a = some ⟨b, off, none⟩ ∧ ∀ i, i < ss.length → w.cell? ⟨b, off + i, none⟩ = some (.string (ss.getD i ByteArray.empty)))

def sameT (a b : List ByteArray) : Bool := decide (a = b)
theorem sameT_refl (a : List ByteArray) : sameT a a = true := by simp [sameT]
theorem sameT_true {a b : List ByteArray} (h : a = b) : sameT a b = true := by simp [sameT, h]
theorem sameT_false {a b : List ByteArray} (h : ¬ a = b) : sameT a b = false := by simp [sameT, h]
theorem same_of (a b : List ByteArray) (hl : a.length = b.length) (h : ∀ i, i < a.length → a.getD i ByteArray.empty = b.getD i ByteArray.empty) : a = b := by
  apply List.ext_getElem hl
  intro i h1 h2
  have := h i h1
  rw [List.getD, List.getD, List.getElem?_eq_getElem h1, List.getElem?_eq_getElem h2] at this
  simpa using this
theorem view_of_owns {w : World} {base : Nat} {v : Value} {ts : List ByteArray} (h : w.ownsRow base 9 1 v ts.length (ts.map Value.string)) : View w v ts := by
  obtain ⟨_, h⟩ := h
  rcases h with ⟨rfl, h0⟩ | ⟨g, cap, cur, rfl, h1, h2, h3, h4, h5, h6⟩
  · exact ⟨by rw [h0]; decide, none, 0, by rw [h0], fun h => by omega⟩
  · refine ⟨Nat.le_trans h3 h4, some ⟨g, 0, none⟩, cap, rfl, fun _ => ⟨g, 0, rfl, fun i hi => ?_⟩⟩
    rw [Joins.cell_of_block h2]
    have e : cur.toList[i]? = some (.string (ts.getD i ByteArray.empty)) := by
      have : (cur.toList.take (ts.length * 1))[i]? = some (.string (ts.getD i ByteArray.empty)) := by
        rw [h6, List.getElem?_map, List.getD, List.getElem?_eq_getElem hi]; rfl
      rw [List.getElem?_take] at this
      rw [if_pos (by omega)] at this
      exact this
    simpa using e

theorem view_below {w w1 : World} {v : Value} {ss : List ByteArray} (h : View w v ss) (hb : Below w.heap.size w w1) : View w1 v ss := by
  obtain ⟨la, a, cap, rfl, hx⟩ := h
  refine ⟨la, a, cap, rfl, fun h0 => ?_⟩
  obtain ⟨b, off, rfl, hc⟩ := hx h0
  exact ⟨b, off, rfl, fun i hi => (hb.cell (p := ⟨b, off + i, none⟩) (World.block_lt_of_cell? w ⟨b, off + i, none⟩ (hc i hi))).trans (hc i hi)⟩
theorem view_alloc {w : World} {v : Value} {ss : List ByteArray} (h : View w v ss) (o : Obj) : View (w.alloc o) v ss := view_below h ((Below.refl _ _).alloc (Nat.le_refl _) _)
theorem getD_mem (ss : List ByteArray) (k : Nat) (h : k < ss.length) : ss.getD k ByteArray.empty ∈ ss := by
  have e : ss.getD k ByteArray.empty = ss[k] := by rw [List.getD, List.getElem?_eq_getElem h]; rfl
  rw [e]; exact List.getElem_mem h

/-- A slice of texts that came in, as a view. -/
theorem view_in {w : World} {a : Addr} {len cap : Nat} {ss : List ByteArray} (hl : len ≤ cap) (hm : cap ≤ maxLen) (hz : ss.length = cap)
    (hcell : ∀ i, i < ss.length → w.cell? (a.add i) = some (.string (ss.getD i ByteArray.empty))) : View w (.slice (some a) len cap) (ss.take len) := by
  have hlen : (ss.take len).length = len := by simp; omega
  refine ⟨by rw [hlen]; exact Nat.le_trans hl hm, some a, cap, by rw [hlen], fun h0 => ?_⟩
  rw [hlen] at h0 ⊢
  obtain ⟨b, off, spot⟩ := a
  have hc := hcell 0 (by omega)
  have hspot : spot = none := by simpa [Addr.add] using World.cell?_spot hc
  subst hspot
  refine ⟨b, off, rfl, fun i hi => ?_⟩
  have := hcell i (by omega)
  have e : (ss.take len).getD i ByteArray.empty = ss.getD i ByteArray.empty := by
    rw [List.getD, List.getD, List.getElem?_take, if_pos hi]
  rw [e]
  have hplain : (⟨b, off, none⟩ : Addr).add i = ⟨b, off + i, none⟩ := by unfold Addr.add; split <;> simp_all
  rw [hplain] at this
  exact this
theorem view_none (w : World) : View w (.slice none 0 0) [] := ⟨by decide, none, 0, rfl, fun h => by cases h⟩


theorem Try.infoStr : (Try.prog.info? 9).map (fun i => (i.zero, i.size, i.bytes)) = some (some (.string ⟨#[]⟩), 1, 16) := by kernel_rfl
end Go.Proofs.Ytfdhmhdemfbfeaa

/-
  What the reference's In does, and its lists.
-/
namespace Go.Proofs.Ytfdhmhdemfbfeaa
open Go.RowKit
set_option linter.unusedVariables false

def Ls (ns : List (List UInt8)) : List ByteArray := ns.map bs
theorem ls_len (ns : List (List UInt8)) : (Ls ns).length = ns.length := List.length_map _
theorem ls_get (ns : List (List UInt8)) (i : Nat) (h : i < ns.length) : ((Ls ns).getD i ByteArray.empty).toList = ns.getD i [] := by
  rw [Lib.toList_data, Ls, List.getD, List.getElem?_map, List.getElem?_eq_getElem h, List.getD, List.getElem?_eq_getElem h]
  exact bs_toList _

/-- A literal of texts, in new memory. -/
theorem view_lit (w : World) (ns : List (List UInt8)) (t : TypeId) (hn : ns.length ≤ 1000) (n : Nat) (h : n = ns.length) :
    View (w.alloc (Obj.cells (ns.map (fun l => Value.string (bs l))).toArray t)) (.slice (some ⟨w.heap.size, 0, none⟩) n n) (Ls ns) := by
  subst h
  refine ⟨by rw [ls_len]; omega, some ⟨w.heap.size, 0, none⟩, ns.length, by rw [ls_len], fun _ => ⟨w.heap.size, 0, rfl, fun i hi => ?_⟩⟩
  rw [ls_len] at hi
  rw [World.cell?_alloc_mark]
  simp [Ls, List.getD, List.getElem?_eq_getElem hi]

set_option maxHeartbeats 400000 in
theorem in_loop (s : ByteArray) (x xo ca : Nat) (ns : List (List UInt8)) (la : Nat) (w : World) (hla : Hid (ns.length = la)) (h0 : 0 < la) (ha : la ≤ 9223372036854775807)
    (hx : ∀ i, i < la → w.cell? ⟨x, xo + i, none⟩ = some (.string ((Ls ns).getD i ByteArray.empty))) :
    Calls Try.prog 31 #[.string s, .slice (some ⟨x, xo, none⟩) la ca] w fun e w' => e = .returned (.bool (inB s.toList ns)) ∧ Below w.heap.size w w' := by
  have HX := hide hx
  clear hx
  go_enter Try.func31, Try.ntmps31
  go_wp2
  go_loopw [9] (fun i wr => ∃ k : Nat, k ≤ la ∧ i = .int .i64 k ∧ Below w.heap.size w wr ∧ inB s.toList ns = inB s.toList (ns.drop k)) (fun i _ => la - (intOf i).toNat)
  case atStart => exact ⟨0, Nat.zero_le _, rfl, Below.refl _ _, rfl⟩
  case round =>
    obtain ⟨k, hk, rfl, hbw, hr⟩ := hrel
    have HR := hide hr
    clear hr
    by_cases hlt : k < la
    · have hlti : (k : Int) < (la : Int) := by omega
      obtain ⟨p, hp⟩ : ∃ p, p = (Ls ns).getD k ByteArray.empty := ⟨_, rfl⟩
      have c0 := unhide HX k hlt
      have c1 : wr.cell? ⟨x, xo + k, none⟩ = some (.string p) := by
        rw [hp]
        exact (hbw.cell (p := ⟨x, xo + k, none⟩) (World.block_lt_of_cell? w ⟨x, xo + k, none⟩ c0)).trans c0
      have hlt' : k < ns.length := by rw [unhide hla]; exact hlt
      have hpl : p.toList = ns.getD k [] := by rw [hp]; exact ls_get ns k hlt'
      have hst : inB s.toList (ns.drop k) = ((s.toList == p.toList) || inB s.toList (ns.drop (k + 1))) := by
        rw [List.drop_eq_getElem_cons hlt', inB, List.any_cons, hpl, List.getD, List.getElem?_eq_getElem hlt']; rfl
      have HST := hide hst
      clear c0 hp hpl hst
      by_cases hpq : p = s
      · have hpq' := beq_yes hpq
        have hv : inB s.toList ns = true := by rw [unhide HR, unhide HST, hpq]; simp
        have HV := hide hv
        clear hpq hv
        go_wp2
        go_ret
        exact ⟨by rw [unhide HV]; rfl, hbw⟩
      · have hpq' := beq_no hpq
        have hv : inB s.toList ns = inB s.toList (ns.drop (k + 1)) := by rw [unhide HR, unhide HST, beq_no (fun e => hpq e.symm), Bool.false_or]
        have HV := hide hv
        clear hpq hv
        go_wp2
        go_roundw
        case rel => exact ⟨k + 1, by omega, by go_num, hbw, unhide HV⟩
        case measure => simp [intOf]; omega
    · have hs : inB s.toList ns = false := by
        rw [unhide HR, List.drop_eq_nil_of_le (by rw [unhide hla]; omega)]; rfl
      have HS := hide hs
      clear hs
      go_wp2
      go_ret
      exact ⟨by rw [unhide HS]; rfl, hbw⟩

theorem in_none (s : ByteArray) (a : Option Addr) (ca : Nat) (w : World) :
    Calls Try.prog 31 #[.string s, .slice a 0 ca] w fun e w' => e = .returned (.bool false) ∧ Below w.heap.size w w' := by
  go_enter Try.func31, Try.ntmps31
  go_wp2
  refine wp_loop_rounds 1 ?_
  rw [rounds_succ]; go_wp2
  go_ret
  exact ⟨rfl, Below.refl _ _⟩

theorem in_any (s : ByteArray) (v : Value) (ns : List (List UInt8)) (w : World) (hv : View w v (Ls ns)) :
    Calls Try.prog 31 #[.string s, v] w fun e w' => e = .returned (.bool (inB s.toList ns)) ∧ Below w.heap.size w w' := by
  obtain ⟨la, a, ca, rfl, ha⟩ := hv
  rw [ls_len] at la ha ⊢
  by_cases h0 : ns.length = 0
  · have e0 : ns = [] := List.eq_nil_of_length_eq_zero h0
    subst e0
    exact in_none s a ca w
  · obtain ⟨x, xo, rfl, hx⟩ := ha (by omega)
    exact in_loop s x xo ca ns _ w (hide rfl) (by omega) la hx
end Go.Proofs.Ytfdhmhdemfbfeaa

/-
  What the reference of layer 7 does: of every name and space.
-/
namespace Go.Proofs.Ytfdhmhdemfbfeaa
open Go.RowKit
set_option linter.unusedVariables false

def GroupIs (g : Nat) : Prop := ∀ (w : World), Calls Try.prog 66 #[.int .i64 (g : Int)] w fun e w' => ∃ v, e = .returned v ∧ View w' v (Ls (gN g)) ∧ Below w.heap.size w w'
theorem rgroup_1 : GroupIs 1 := by
  intro w
  go_enter Try.func66, Try.ntmps66
  go_wp2
  go_ret
  exact ⟨_, rfl, view_lit w (gN 1) _ (by decide) _ rfl, (Below.refl _ _).alloc (Nat.le_refl _) _⟩
theorem rgroup_2 : GroupIs 2 := by
  intro w
  go_enter Try.func66, Try.ntmps66
  go_wp2
  go_ret
  exact ⟨_, rfl, view_lit w (gN 2) _ (by decide) _ rfl, (Below.refl _ _).alloc (Nat.le_refl _) _⟩
theorem rgroup_3 : GroupIs 3 := by
  intro w
  go_enter Try.func66, Try.ntmps66
  go_wp2
  go_ret
  exact ⟨_, rfl, view_lit w (gN 3) _ (by decide) _ rfl, (Below.refl _ _).alloc (Nat.le_refl _) _⟩
theorem rgroup_4 : GroupIs 4 := by
  intro w
  go_enter Try.func66, Try.ntmps66
  go_wp2
  go_ret
  exact ⟨_, rfl, view_lit w (gN 4) _ (by decide) _ rfl, (Below.refl _ _).alloc (Nat.le_refl _) _⟩
theorem rgroup_5 : GroupIs 5 := by
  intro w
  go_enter Try.func66, Try.ntmps66
  go_wp2
  go_ret
  exact ⟨_, rfl, view_lit w (gN 5) _ (by decide) _ rfl, (Below.refl _ _).alloc (Nat.le_refl _) _⟩
theorem rgroup_6 : GroupIs 6 := by
  intro w
  go_enter Try.func66, Try.ntmps66
  go_wp2
  go_ret
  exact ⟨_, rfl, view_lit w (gN 6) _ (by decide) _ rfl, (Below.refl _ _).alloc (Nat.le_refl _) _⟩
theorem rgroup_7 : GroupIs 7 := by
  intro w
  go_enter Try.func66, Try.ntmps66
  go_wp2
  go_ret
  exact ⟨_, rfl, view_lit w (gN 7) _ (by decide) _ rfl, (Below.refl _ _).alloc (Nat.le_refl _) _⟩
theorem rgroup_8 : GroupIs 8 := by
  intro w
  go_enter Try.func66, Try.ntmps66
  go_wp2
  go_ret
  exact ⟨_, rfl, view_lit w (gN 8) _ (by decide) _ rfl, (Below.refl _ _).alloc (Nat.le_refl _) _⟩
theorem rgroup_9 : GroupIs 9 := by
  intro w
  go_enter Try.func66, Try.ntmps66
  go_wp2
  go_ret
  exact ⟨_, rfl, view_lit w (gN 9) _ (by decide) _ rfl, (Below.refl _ _).alloc (Nat.le_refl _) _⟩
theorem rgroup_10 : GroupIs 10 := by
  intro w
  go_enter Try.func66, Try.ntmps66
  go_wp2
  go_ret
  exact ⟨_, rfl, view_lit w (gN 10) _ (by decide) _ rfl, (Below.refl _ _).alloc (Nat.le_refl _) _⟩
theorem rgroup_11 : GroupIs 11 := by
  intro w
  go_enter Try.func66, Try.ntmps66
  go_wp2
  go_ret
  exact ⟨_, rfl, view_lit w (gN 11) _ (by decide) _ rfl, (Below.refl _ _).alloc (Nat.le_refl _) _⟩
theorem rgroup_12 : GroupIs 12 := by
  intro w
  go_enter Try.func66, Try.ntmps66
  go_wp2
  go_ret
  exact ⟨_, rfl, view_lit w (gN 12) _ (by decide) _ rfl, (Below.refl _ _).alloc (Nat.le_refl _) _⟩
theorem rgroup_13 : GroupIs 13 := by
  intro w
  go_enter Try.func66, Try.ntmps66
  go_wp2
  go_ret
  exact ⟨_, rfl, view_lit w (gN 13) _ (by decide) _ rfl, (Below.refl _ _).alloc (Nat.le_refl _) _⟩
theorem rgroup_14 : GroupIs 14 := by
  intro w
  go_enter Try.func66, Try.ntmps66
  go_wp2
  go_ret
  exact ⟨_, rfl, view_lit w (gN 14) _ (by decide) _ rfl, (Below.refl _ _).alloc (Nat.le_refl _) _⟩
theorem rgroup_15 : GroupIs 15 := by
  intro w
  go_enter Try.func66, Try.ntmps66
  go_wp2
  go_ret
  exact ⟨_, rfl, view_lit w (gN 15) _ (by decide) _ rfl, (Below.refl _ _).alloc (Nat.le_refl _) _⟩
theorem rgroup_16 : GroupIs 16 := by
  intro w
  go_enter Try.func66, Try.ntmps66
  go_wp2
  go_ret
  exact ⟨_, rfl, view_lit w (gN 16) _ (by decide) _ rfl, (Below.refl _ _).alloc (Nat.le_refl _) _⟩
theorem rgroup_17 : GroupIs 17 := by
  intro w
  go_enter Try.func66, Try.ntmps66
  go_wp2
  go_ret
  exact ⟨_, rfl, view_lit w (gN 17) _ (by decide) _ rfl, (Below.refl _ _).alloc (Nat.le_refl _) _⟩
theorem rgroup_any (g : Nat) (h1 : 1 ≤ g) (h2 : g < 18) : GroupIs g := by
  rcases (by omega : g = 1 ∨ g = 2 ∨ g = 3 ∨ g = 4 ∨ g = 5 ∨ g = 6 ∨ g = 7 ∨ g = 8 ∨ g = 9 ∨ g = 10 ∨ g = 11 ∨ g = 12 ∨ g = 13 ∨ g = 14 ∨ g = 15 ∨ g = 16 ∨ g = 17) with rfl | rfl | rfl | rfl | rfl | rfl | rfl | rfl | rfl | rfl | rfl | rfl | rfl | rfl | rfl | rfl | rfl
  · exact rgroup_1
  · exact rgroup_2
  · exact rgroup_3
  · exact rgroup_4
  · exact rgroup_5
  · exact rgroup_6
  · exact rgroup_7
  · exact rgroup_8
  · exact rgroup_9
  · exact rgroup_10
  · exact rgroup_11
  · exact rgroup_12
  · exact rgroup_13
  · exact rgroup_14
  · exact rgroup_15
  · exact rgroup_16
  · exact rgroup_17

theorem ofN_hit {l : List UInt8} {k : Nat} (h1 : 1 ≤ k) (h2 : k < 18) (hn : ∀ j, 1 ≤ j → j < k → inB l (gN j) = false) (hy : inB l (gN k) = true) : ofN l = k := by
  rcases (by omega : k = 1 ∨ k = 2 ∨ k = 3 ∨ k = 4 ∨ k = 5 ∨ k = 6 ∨ k = 7 ∨ k = 8 ∨ k = 9 ∨ k = 10 ∨ k = 11 ∨ k = 12 ∨ k = 13 ∨ k = 14 ∨ k = 15 ∨ k = 16 ∨ k = 17) with rfl | rfl | rfl | rfl | rfl | rfl | rfl | rfl | rfl | rfl | rfl | rfl | rfl | rfl | rfl | rfl | rfl
  · unfold ofN; rw [hy]; rfl
  · unfold ofN; rw [hn 1 (by omega) (by omega), hy]; rfl
  · unfold ofN; rw [hn 1 (by omega) (by omega), hn 2 (by omega) (by omega), hy]; rfl
  · unfold ofN; rw [hn 1 (by omega) (by omega), hn 2 (by omega) (by omega), hn 3 (by omega) (by omega), hy]; rfl
  · unfold ofN; rw [hn 1 (by omega) (by omega), hn 2 (by omega) (by omega), hn 3 (by omega) (by omega), hn 4 (by omega) (by omega), hy]; rfl
  · unfold ofN; rw [hn 1 (by omega) (by omega), hn 2 (by omega) (by omega), hn 3 (by omega) (by omega), hn 4 (by omega) (by omega), hn 5 (by omega) (by omega), hy]; rfl
  · unfold ofN; rw [hn 1 (by omega) (by omega), hn 2 (by omega) (by omega), hn 3 (by omega) (by omega), hn 4 (by omega) (by omega), hn 5 (by omega) (by omega), hn 6 (by omega) (by omega), hy]; rfl
  · unfold ofN; rw [hn 1 (by omega) (by omega), hn 2 (by omega) (by omega), hn 3 (by omega) (by omega), hn 4 (by omega) (by omega), hn 5 (by omega) (by omega), hn 6 (by omega) (by omega), hn 7 (by omega) (by omega), hy]; rfl
  · unfold ofN; rw [hn 1 (by omega) (by omega), hn 2 (by omega) (by omega), hn 3 (by omega) (by omega), hn 4 (by omega) (by omega), hn 5 (by omega) (by omega), hn 6 (by omega) (by omega), hn 7 (by omega) (by omega), hn 8 (by omega) (by omega), hy]; rfl
  · unfold ofN; rw [hn 1 (by omega) (by omega), hn 2 (by omega) (by omega), hn 3 (by omega) (by omega), hn 4 (by omega) (by omega), hn 5 (by omega) (by omega), hn 6 (by omega) (by omega), hn 7 (by omega) (by omega), hn 8 (by omega) (by omega), hn 9 (by omega) (by omega), hy]; rfl
  · unfold ofN; rw [hn 1 (by omega) (by omega), hn 2 (by omega) (by omega), hn 3 (by omega) (by omega), hn 4 (by omega) (by omega), hn 5 (by omega) (by omega), hn 6 (by omega) (by omega), hn 7 (by omega) (by omega), hn 8 (by omega) (by omega), hn 9 (by omega) (by omega), hn 10 (by omega) (by omega), hy]; rfl
  · unfold ofN; rw [hn 1 (by omega) (by omega), hn 2 (by omega) (by omega), hn 3 (by omega) (by omega), hn 4 (by omega) (by omega), hn 5 (by omega) (by omega), hn 6 (by omega) (by omega), hn 7 (by omega) (by omega), hn 8 (by omega) (by omega), hn 9 (by omega) (by omega), hn 10 (by omega) (by omega), hn 11 (by omega) (by omega), hy]; rfl
  · unfold ofN; rw [hn 1 (by omega) (by omega), hn 2 (by omega) (by omega), hn 3 (by omega) (by omega), hn 4 (by omega) (by omega), hn 5 (by omega) (by omega), hn 6 (by omega) (by omega), hn 7 (by omega) (by omega), hn 8 (by omega) (by omega), hn 9 (by omega) (by omega), hn 10 (by omega) (by omega), hn 11 (by omega) (by omega), hn 12 (by omega) (by omega), hy]; rfl
  · unfold ofN; rw [hn 1 (by omega) (by omega), hn 2 (by omega) (by omega), hn 3 (by omega) (by omega), hn 4 (by omega) (by omega), hn 5 (by omega) (by omega), hn 6 (by omega) (by omega), hn 7 (by omega) (by omega), hn 8 (by omega) (by omega), hn 9 (by omega) (by omega), hn 10 (by omega) (by omega), hn 11 (by omega) (by omega), hn 12 (by omega) (by omega), hn 13 (by omega) (by omega), hy]; rfl
  · unfold ofN; rw [hn 1 (by omega) (by omega), hn 2 (by omega) (by omega), hn 3 (by omega) (by omega), hn 4 (by omega) (by omega), hn 5 (by omega) (by omega), hn 6 (by omega) (by omega), hn 7 (by omega) (by omega), hn 8 (by omega) (by omega), hn 9 (by omega) (by omega), hn 10 (by omega) (by omega), hn 11 (by omega) (by omega), hn 12 (by omega) (by omega), hn 13 (by omega) (by omega), hn 14 (by omega) (by omega), hy]; rfl
  · unfold ofN; rw [hn 1 (by omega) (by omega), hn 2 (by omega) (by omega), hn 3 (by omega) (by omega), hn 4 (by omega) (by omega), hn 5 (by omega) (by omega), hn 6 (by omega) (by omega), hn 7 (by omega) (by omega), hn 8 (by omega) (by omega), hn 9 (by omega) (by omega), hn 10 (by omega) (by omega), hn 11 (by omega) (by omega), hn 12 (by omega) (by omega), hn 13 (by omega) (by omega), hn 14 (by omega) (by omega), hn 15 (by omega) (by omega), hy]; rfl
  · unfold ofN; rw [hn 1 (by omega) (by omega), hn 2 (by omega) (by omega), hn 3 (by omega) (by omega), hn 4 (by omega) (by omega), hn 5 (by omega) (by omega), hn 6 (by omega) (by omega), hn 7 (by omega) (by omega), hn 8 (by omega) (by omega), hn 9 (by omega) (by omega), hn 10 (by omega) (by omega), hn 11 (by omega) (by omega), hn 12 (by omega) (by omega), hn 13 (by omega) (by omega), hn 14 (by omega) (by omega), hn 15 (by omega) (by omega), hn 16 (by omega) (by omega), hy]; rfl
theorem ofN_miss {l : List UInt8} (hn : ∀ j, 1 ≤ j → j < 18 → inB l (gN j) = false) : ofN l = 0 := by
  unfold ofN; rw [hn 1 (by omega) (by omega), hn 2 (by omega) (by omega), hn 3 (by omega) (by omega), hn 4 (by omega) (by omega), hn 5 (by omega) (by omega), hn 6 (by omega) (by omega), hn 7 (by omega) (by omega), hn 8 (by omega) (by omega), hn 9 (by omega) (by omega), hn 10 (by omega) (by omega), hn 11 (by omega) (by omega), hn 12 (by omega) (by omega), hn 13 (by omega) (by omega), hn 14 (by omega) (by omega), hn 15 (by omega) (by omega), hn 16 (by omega) (by omega), hn 17 (by omega) (by omega)]; rfl

set_option maxHeartbeats 1000000 in
theorem of_any (s : ByteArray) (w : World) :
    Calls Try.prog 49 #[.string s] w fun e w' => e = .returned (.int .i64 (ofN s.toList : Nat)) ∧ Below w.heap.size w w' := by
  go_enter Try.func49, Try.ntmps49
  go_wp2
  go_loopw [3] (fun i wr => ∃ k : Nat, 1 ≤ k ∧ k ≤ 18 ∧ i = .int .i64 k ∧ Below w.heap.size w wr ∧ ∀ j, 1 ≤ j → j < k → inB s.toList (gN j) = false) (fun i _ => 18 - (intOf i).toNat)
  case atStart => exact ⟨1, by omega, by omega, rfl, Below.refl _ _, fun j h1 h2 => by omega⟩
  case round =>
    obtain ⟨k, hk1, hk, rfl, hbw, hn⟩ := hrel
    have HN := hide hn
    clear hn
    by_cases hlt : k < 18
    · have hlti : (k : Int) < 18 := by omega
      have CG := hide (rgroup_any k hk1 hlt)
      cases hb : inB s.toList (gN k) with
      | true =>
        have HV := hide (ofN_hit hk1 hlt (unhide HN) hb)
        have CI := hide (fun v w h => hb ▸ in_any s v (gN k) w h)
        clear hb
        go_wp2_with fail
        refine (unhide CG _).mono ?_
        rintro e w1 ⟨v, rfl, hv, hb1⟩
        have HW := hide hv
        clear hv
        go_wp2_with fail
        refine (unhide CI _ _ (unhide HW)).mono ?_
        rintro e w2 ⟨rfl, hb2⟩
        go_wp2
        go_ret
        exact ⟨by rw [unhide HV]; rfl, tr3 hbw hb1 hb2⟩
      | false =>
        have HV := hide hb
        have CI := hide (fun v w h => hb ▸ in_any s v (gN k) w h)
        clear hb
        go_wp2_with fail
        refine (unhide CG _).mono ?_
        rintro e w1 ⟨v, rfl, hv, hb1⟩
        have HW := hide hv
        clear hv
        go_wp2_with fail
        refine (unhide CI _ _ (unhide HW)).mono ?_
        rintro e w2 ⟨rfl, hb2⟩
        go_wp2
        go_roundw
        case rel => exact ⟨k + 1, by omega, by omega, by go_num, tr3 hbw hb1 hb2, fun j h1 h2 => by
          by_cases hjk : j = k
          · subst hjk; exact unhide HV
          · exact unhide HN j h1 (by omega)⟩
        case measure => simp [intOf]; omega
    · have hk18 : k = 18 := by omega
      subst hk18
      have HV := hide (ofN_miss (unhide HN))
      clear hlt
      go_wp2
      go_ret
      exact ⟨by rw [unhide HV]; rfl, hbw⟩

end Go.Proofs.Ytfdhmhdemfbfeaa
