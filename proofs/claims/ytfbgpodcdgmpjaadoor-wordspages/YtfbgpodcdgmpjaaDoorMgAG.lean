/-
  Several texts in one: what the functions of the program and of the document's answer do.
-/
import Derived.Test.YtfbgpodcdgmpjaaDoorMgAC
import Derived.Test.YtfbgpodcdgmpjaaDoorXPm
import Derived.Test.YtfbgpodcdgmpjaaDoorBase
import Derived.SliceStrings

/-
  What 'words.wordEnd' and 'words.isLong' do.
-/
namespace Go.Proofs.YtfbgpodcdgmpjaaDoor
open Go.RowKit
set_option linter.unusedVariables false
set_option linter.unusedSimpArgs false

theorem weL_run (l : List UInt8) (h : 0 < l.length) : weL l = runL (spN (dgt l 0)) (l.drop 0) := by
  obtain ⟨c, hc, hn⟩ := drop_at l 0 h
  have e : spN (dgt l 0) = sp c := by rw [sp, hn]
  rw [List.drop_zero] at hc ⊢
  rw [e]
  generalize l.drop (0 + 1) = r at hc
  subst hc
  rw [weL_cons, runL, if_pos rfl]
theorem run_in (p : Bool) (l : List UInt8) (k : Nat) (h : k < l.length) (hs : spN (dgt l k) = p) : runL p (l.drop k) = 1 + runL p (l.drop (k + 1)) := by
  obtain ⟨c, hc, hn⟩ := drop_at l k h
  rw [hc, runL, if_pos (by rw [sp, hn, hs])]
theorem run_out (p : Bool) (l : List UInt8) (k : Nat) (h : k < l.length) (hs : ¬ spN (dgt l k) = p) : runL p (l.drop k) = 0 := by
  obtain ⟨c, hc, hn⟩ := drop_at l k h
  rw [hc, runL, if_neg (by rw [sp, hn]; exact hs)]
set_option maxHeartbeats 1000000 in
theorem wordEnd_any (s : ByteArray) (w : World) (hs : s.size ≤ 9223372036854775807) :
    Calls Tryd.prog 33 #[.string s] w fun e w' => e = .returned (.int .i64 (weL s.data.toList : Int)) ∧ Below w.heap.size w w' := by
  have C := hide space_any
  by_cases h0 : s.size = 0
  · have he : (weL s.data.toList : Int) = 0 := by
      have : s.data.toList = [] := List.eq_nil_of_length_eq_zero (by rw [data_len]; exact h0)
      rw [this]; rfl
    rw [he]
    have hg : decide ((0 : Int) < (s.size : Int)) = false := decide_eq_false (by omega)
    clear he
    go_enter Tryd.func33, Tryd.ntmps33
    go_wp2
    refine wp_loop_rounds 1 ?_
    rw [rounds_succ]; go_wp2
    go_quiet (fail)
    go_wp2
    go_ret
    exact ⟨rfl, below_draws _ _⟩
  · have hp : 0 < s.data.toList.length := by rw [data_len]; omega
    have hw := hide (weL_run s.data.toList hp)
    have hpi : (0 : Int) < (s.size : Int) := by omega
    have e0 := dgt_at s 0 (by omega)
    obtain ⟨b0, hb0⟩ : ∃ b0, dgt s.data.toList 0 = b0 := ⟨_, rfl⟩
    rw [hb0] at e0 hw
    obtain ⟨p, hpp⟩ : ∃ p, spN b0 = p := ⟨_, rfl⟩
    rw [hpp] at hw
    have HB0 := hide hb0
    clear hb0 h0
    go_enter Tryd.func33, Tryd.ntmps33
    go_wp2
    go_loopw [3] (fun i wr => ∃ k : Nat, k ≤ s.size ∧ i = .int .i64 (k : Int) ∧ weL s.data.toList = k + runL p (s.data.toList.drop k) ∧ Below w.heap.size w wr) (fun i _ => s.size - (intOf i).toNat)
    case atStart => exact ⟨0, Nat.zero_le _, rfl, by rw [unhide hw, Nat.zero_add], Below.refl _ _⟩
    case round =>
      obtain ⟨k, hk, rfl, hr, hbw⟩ := hrel
      have HR := hide hr
      clear hr
      by_cases hlt : k < s.size
      · have hki : (k : Int) < (s.size : Int) := by omega
        have hgi : decide ((k : Int) < (s.size : Int)) = true := decide_eq_true hki
        have hkl : k < s.data.toList.length := by rw [data_len]; exact hlt
        have e1 := dgt_at s k hlt
        have R1 := run_in p s.data.toList k hkl
        have R2 := run_out p s.data.toList k hkl
        generalize dgt s.data.toList k = b at *
        by_cases hb : spN b = p
        · have HS := hide (R1 hb)
          have hbb : (p == p) = true := beq_self_eq_true p
          clear R1 R2 hkl
          go_wp2
          go_quiet ((go_at_call 49; exact Calls.quiet_of_same (unhide C _ _)))
          go_wp2
          go_roundw
          case rel => exact ⟨k + 1, by omega, by go_num, by rw [unhide HR, unhide HS]; omega, _root_.Go.below_drewN hbw _⟩
          case measure => simp [intOf]; omega
        · have HS := hide (R2 hb)
          obtain ⟨q, hq⟩ : ∃ q, spN b = q := ⟨_, rfl⟩
          rw [hq] at hb
          have hbb : (q == p) = false := beq_eq_false_iff_ne.2 hb
          have hz : weL s.data.toList = k := by rw [unhide HR, unhide HS]; rfl
          have HZ := hide hz
          clear R1 R2 hb hkl hz
          go_wp2
          go_quiet ((go_at_call 49; exact Calls.quiet_of_same (unhide C _ _)))
          go_wp2
          go_ret
          exact ⟨by rw [unhide HZ]; rfl, _root_.Go.below_drewN hbw _⟩
      · have hz : weL s.data.toList = k := by
          rw [unhide HR, List.drop_eq_nil_of_le (by rw [data_len]; omega)]; rfl
        have HZ := hide hz
        have hg : decide ((k : Int) < (s.size : Int)) = false := decide_eq_false (by omega)
        clear hz
        go_wp2
        go_quiet (fail)
        go_wp2
        go_ret
        exact ⟨by rw [unhide HZ]; rfl, _root_.Go.below_drewN hbw _⟩
/-- What is left of a text behind so many words. -/
def restW : Nat → List UInt8 → List UInt8
  | 0, l => l
  | n + 1, l => restW n (l.drop (weL l))
theorem restW_grp : ∀ (n : Nat) (l : List UInt8), grp (restW n l) = (grp l).drop n
  | 0, l => rfl
  | n + 1, l => by
    rw [restW, restW_grp n]
    by_cases e : l = []
    · subst e; simp [grp]
    · rw [grp_step l e, List.drop_succ_cons]
theorem restW_nil (n : Nat) (l : List UInt8) : restW n l = [] ↔ (grp l).length ≤ n := by
  have h := restW_grp n l
  constructor
  · intro e
    rw [e] at h
    have := congrArg List.length h
    rw [List.length_drop] at this
    simp [grp] at this; omega
  · intro e
    rw [List.drop_eq_nil_of_le e] at h
    rcases hr : restW n l with _ | ⟨b, r⟩
    · rfl
    · rw [hr, grp_step _ (by simp)] at h; cases h
def longB (l : List UInt8) : Bool := decide (400 < (grp l).length)
set_option maxHeartbeats 1000000 in
theorem isLong_any (s : ByteArray) (w : World) (hs : s.size ≤ 9223372036854775807) :
    Calls Tryd.prog 18 #[.string s] w fun e w' => e = .returned (.bool (longB s.data.toList)) ∧ Below w.heap.size w w' := by
  have C := hide wordEnd_any
  go_enter Tryd.func18, Tryd.ntmps18
  go_wp2
  go_loopw [3, 0] (fun i t wr => ∃ (k : Nat) (x : ByteArray), k ≤ 400 ∧ i = .int .i64 (k : Int) ∧ t = .string x ∧ x.size ≤ s.size ∧ restW 400 s.data.toList = restW (400 - k) x.data.toList ∧ Below w.heap.size w wr) (fun i _ _ => 400 - (intOf i).toNat)
  case atStart => exact ⟨0, s, Nat.zero_le _, rfl, rfl, Nat.le_refl _, rfl, Below.refl _ _⟩
  case round =>
    obtain ⟨k, x, hk, rfl, rfl, hx, hr, hbw⟩ := hrel
    have HR := hide hr
    have HB := hide hbw
    clear hr
    by_cases hlt : k < 400
    · have hki : (k : Int) < 400 := by omega
      have CX := hide (unhide C x wr (by omega))
      have hle := weL_le x.data.toList
      rw [data_len] at hle
      have HX := hide (rest_of x (weL x.data.toList))
      have HN : Hid (restW (400 - k) x.data.toList = restW (400 - (k + 1)) (x.data.toList.drop (weL x.data.toList))) := hide (by
        obtain ⟨n, hn⟩ : ∃ n, 400 - k = n + 1 := ⟨400 - k - 1, by omega⟩
        rw [hn, show 400 - (k + 1) = n by omega]; rfl)
      generalize weL x.data.toList = n at *
      have hni : (n : Int) ≤ (x.size : Int) := by omega
      go_wp2_with fail
      refine (unhide CX).mono ?_
      rintro e1 w1 ⟨rfl, hb1⟩
      have HB1 := hide (tr2 (unhide HB) hb1)
      clear hb1 hbw
      go_wp2
      go_roundw
      case rel => exact ⟨k + 1, x.extract n x.size, by omega, by go_num, rfl, by simp; omega, by rw [unhide HR, unhide HN, unhide HX, bs_toList], unhide HB1⟩
      case measure => simp [intOf]; omega
    · have hk4 : k = 400 := by omega
      subst hk4
      have hz : restW 400 s.data.toList = x.data.toList := by rw [unhide HR]; rfl
      have hn := restW_nil 400 s.data.toList
      rw [hz] at hn
      by_cases h0 : x.size = 0
      · have he := is_empty x h0
        have hb : longB s.data.toList = false := decide_eq_false (by have := hn.1 (List.eq_nil_of_length_eq_zero (by rw [data_len]; exact h0)); omega)
        have HLB := hide hb
        clear hn hz hb
        go_wp2
        go_ret
        exact ⟨by rw [unhide HLB]; rfl, unhide HB⟩
      · have he := not_empty x (by omega)
        have hb : longB s.data.toList = true := decide_eq_true (by
          rcases Nat.lt_or_ge 400 (grp s.data.toList).length with h | h
          · exact h
          · exact absurd (by rw [← data_len, hn.2 h]; rfl) h0)
        have HLB := hide hb
        clear hn hz hb
        go_wp2
        go_ret
        exact ⟨by rw [unhide HLB]; rfl, unhide HB⟩
end Go.Proofs.YtfbgpodcdgmpjaaDoor

/-
  Lists of texts as slice values: what a slice shows in a world, and that it stays.
-/
namespace Go.Proofs.YtfbgpodcdgmpjaaDoor
open Go.RowKit
set_option linter.unusedVariables false

/-- A slice value that shows these texts in a world. -/
def View (w : World) (v : Value) (ss : List ByteArray) : Prop :=
  ss.length ≤ 9223372036854775807 ∧ ∃ a cap, v = .slice a ss.length cap ∧
    (0 < ss.length → ∃ b off, a = some ⟨b, off, none⟩ ∧ ∀ i, i < ss.length → w.cell? ⟨b, off + i, none⟩ = some (.string (ss.getD i ByteArray.empty)))

def sameT (a b : List ByteArray) : Bool := decide (a = b)
theorem sameT_refl (a : List ByteArray) : sameT a a = true := by simp [sameT]
theorem sameT_true {a b : List ByteArray} (h : a = b) : sameT a b = true := by simp [sameT, h]
theorem sameT_false {a b : List ByteArray} (h : ¬ a = b) : sameT a b = false := by simp [sameT, h]
theorem same_of (a b : List ByteArray) (hl : a.length = b.length) (h : ∀ i, i < a.length → a.getD i ByteArray.empty = b.getD i ByteArray.empty) : a = b := by
  apply List.ext_getElem hl
  intro i h1 h2
  have := h i h1
  rw [List.getD, List.getD, List.getElem?_eq_getElem h1, List.getElem?_eq_getElem h2] at this
  simpa using this
theorem view_of_owns {w : World} {base : Nat} {v : Value} {ts : List ByteArray} (h : w.ownsRow base 9 1 v ts.length (ts.map Value.string)) : View w v ts := by
  obtain ⟨_, h⟩ := h
  rcases h with ⟨rfl, h0⟩ | ⟨g, cap, cur, rfl, h1, h2, h3, h4, h5, h6⟩
  · exact ⟨by rw [h0]; decide, none, 0, by rw [h0], fun h => by omega⟩
  · refine ⟨Nat.le_trans h3 h4, some ⟨g, 0, none⟩, cap, rfl, fun _ => ⟨g, 0, rfl, fun i hi => ?_⟩⟩
    rw [Joins.cell_of_block h2]
    have e : cur.toList[i]? = some (.string (ts.getD i ByteArray.empty)) := by
      have : (cur.toList.take (ts.length * 1))[i]? = some (.string (ts.getD i ByteArray.empty)) := by
        rw [h6, List.getElem?_map, List.getD, List.getElem?_eq_getElem hi]; rfl
      rw [List.getElem?_take] at this
      rw [if_pos (by omega)] at this
      exact this
    simpa using e

theorem view_below {w w1 : World} {v : Value} {ss : List ByteArray} (h : View w v ss) (hb : Below w.heap.size w w1) : View w1 v ss := by
  obtain ⟨la, a, cap, rfl, hx⟩ := h
  refine ⟨la, a, cap, rfl, fun h0 => ?_⟩
  obtain ⟨b, off, rfl, hc⟩ := hx h0
  exact ⟨b, off, rfl, fun i hi => (hb.cell (p := ⟨b, off + i, none⟩) (World.block_lt_of_cell? w ⟨b, off + i, none⟩ (hc i hi))).trans (hc i hi)⟩
theorem view_alloc {w : World} {v : Value} {ss : List ByteArray} (h : View w v ss) (o : Obj) : View (w.alloc o) v ss := view_below h ((Below.refl _ _).alloc (Nat.le_refl _) _)
theorem getD_mem (ss : List ByteArray) (k : Nat) (h : k < ss.length) : ss.getD k ByteArray.empty ∈ ss := by
  have e : ss.getD k ByteArray.empty = ss[k] := by rw [List.getD, List.getElem?_eq_getElem h]; rfl
  rw [e]; exact List.getElem_mem h

/-- A slice of texts that came in, as a view. -/
theorem view_in {w : World} {a : Addr} {len cap : Nat} {ss : List ByteArray} (hl : len ≤ cap) (hm : cap ≤ maxLen) (hz : ss.length = cap)
    (hcell : ∀ i, i < ss.length → w.cell? (a.add i) = some (.string (ss.getD i ByteArray.empty))) : View w (.slice (some a) len cap) (ss.take len) := by
  have hlen : (ss.take len).length = len := by simp; omega
  refine ⟨by rw [hlen]; exact Nat.le_trans hl hm, some a, cap, by rw [hlen], fun h0 => ?_⟩
  rw [hlen] at h0 ⊢
  obtain ⟨b, off, spot⟩ := a
  have hc := hcell 0 (by omega)
  have hspot : spot = none := by simpa [Addr.add] using World.cell?_spot hc
  subst hspot
  refine ⟨b, off, rfl, fun i hi => ?_⟩
  have := hcell i (by omega)
  have e : (ss.take len).getD i ByteArray.empty = ss.getD i ByteArray.empty := by
    rw [List.getD, List.getD, List.getElem?_take, if_pos hi]
  rw [e]
  have hplain : (⟨b, off, none⟩ : Addr).add i = ⟨b, off + i, none⟩ := by unfold Addr.add; split <;> simp_all
  rw [hplain] at this
  exact this
theorem view_none (w : World) : View w (.slice none 0 0) [] := ⟨by decide, none, 0, rfl, fun h => by cases h⟩


theorem Tryd.infoStr : (Tryd.prog.info? 9).map (fun i => (i.zero, i.size, i.bytes)) = some (some (.string ⟨#[]⟩), 1, 16) := by kernel_rfl
end Go.Proofs.YtfbgpodcdgmpjaaDoor

/-
  What 'words.Split' does.
-/
namespace Go.Proofs.YtfbgpodcdgmpjaaDoor
open Go.RowKit
set_option linter.unusedVariables false
set_option linter.unusedSimpArgs false

theorem upto_w (s : ByteArray) (n : Nat) : s.extract 0 n = bs (s.data.toList.take n) := by
  have := extract_take s 0 n
  rw [Nat.zero_add, List.drop_zero] at this
  exact this
def bsL (gs : List (List UInt8)) : List ByteArray := gs.map bs
theorem bsL_len (gs : List (List UInt8)) : (bsL gs).length = gs.length := by unfold bsL; rw [List.length_map]
def SplitSaid (l : List UInt8) (w : World) (e : Ending) (w' : World) : Prop := ∃ v, e = .returned v ∧ w'.ownsRow w.heap.size 9 1 v (bsL (grp l)).length ((bsL (grp l)).map Value.string) ∧ Below w.heap.size w w'
set_option maxHeartbeats 1000000 in
theorem split_any (s : ByteArray) (w : World) (hs : s.size ≤ 100000) :
    Calls Tryd.prog 20 #[.string s] w (SplitSaid s.data.toList w) := by
  have C := hide wordEnd_any
  obtain ⟨i0, hi, hz0, hz1, hz2⟩ := info_parts Tryd.infoStr
  unfold SplitSaid
  go_enter Tryd.func20, Tryd.ntmps20
  go_wp2
  go_loopw [0, 3] (fun t v wr => ∃ (x : ByteArray) (ws : List (List UInt8)), t = .string x ∧ x.size + ws.length ≤ s.size ∧ grp s.data.toList = ws ++ grp x.data.toList ∧ wr.ownsRow w.heap.size 9 1 v (bsL ws).length ((bsL ws).map Value.string) ∧ Below w.heap.size w wr) (fun t _ _ => match t with | .string x => x.size | _ => 0)
  case atStart => exact ⟨s, [], rfl, Nat.le_refl _, rfl, World.ownsRow_nil _ _ _ _, Below.refl _ _⟩
  case round =>
    obtain ⟨x, ws, rfl, hx, hr, hown, hbw⟩ := hrel
    have HR := hide hr
    have HW := hide hown
    have HB := hide hbw
    clear hr
    by_cases h0 : x.size = 0
    · have he := is_empty x h0
      have hz : grp s.data.toList = ws := by
        have : x.data.toList = [] := List.eq_nil_of_length_eq_zero (by rw [data_len]; exact h0)
        rw [unhide HR, this]; simp [grp]
      have HZ := hide hz
      obtain ⟨q, n, c, hv⟩ := slice_of hown
      subst hv
      clear hz hown hbw
      go_wp2
      go_ret
      exact ⟨_, rfl, by rw [unhide HZ]; exact unhide HW, unhide HB⟩
    · have he := not_empty x (by omega)
      have hxl : x.data.toList ≠ [] := fun e => h0 (by rw [← data_len, e]; rfl)
      have CX := hide (unhide C x wr (by omega))
      have hle := weL_le x.data.toList
      have hpos := weL_pos hxl
      rw [data_len] at hle
      have HS := hide (grp_step x.data.toList hxl)
      have HX := hide (rest_of x (weL x.data.toList))
      have HU := hide (upto_w x (weL x.data.toList))
      generalize weL x.data.toList = n at *
      have hni : (n : Int) ≤ (x.size : Int) := by omega
      have hn0 : (0 : Int) ≤ (n : Int) := by omega
      obtain ⟨y, hy⟩ : ∃ y, x.extract 0 n = y := ⟨_, rfl⟩
      have HY := hide hy
      clear hxl hy hown hbw
      go_wp2_with fail
      refine (unhide CX).mono ?_
      rintro e1 w1 ⟨rfl, hb1⟩
      have HB1 := hide (tr2 (unhide HB) hb1)
      have hown1 := ownsRow_below (unhide HW) hb1
      clear hb1
      go_wp2_with (at_builtin; refine wpList_append_own _ rfl _ _ 26 rfl w.heap.size 9 i0 (.string ⟨#[]⟩) 1 16 Tryd.underlying26 hi hz0 hz1 hz2 rfl (by decide) _ _ _ rfl (hown1.alloc _) ⟨w1.heap.size, 0, none⟩ 1 1 [.string (x.extract 0 n)] rfl rfl ?c1 ?c2 ?c3 ?c4 ?c5 ?_)
      case c1 => exact cell_one_new _ _ _
      case c2 => first | rfl | (intro u hu; simp at hu; subst hu; rfl)
      case c3 => rw [bsL_len]; first | (unfold maxLen; omega) | (simp; unfold maxLen; omega) | (simp [maxLen]; omega)
      case c4 => first | omega | (simp; omega) | (simp [bsL_len]; omega)
      case c5 => have := (unhide HB1).size; simp; omega
      intro v' w2 hown' hgrow _
      have hbig : Below w.heap.size w w2 := ((unhide HB1).alloc (by have := (unhide HB1).size; omega) _).grown hgrow (by have := (unhide HB1).size; simp; omega) (fun j hj => (hown1.lt j hj).1)
      clear hgrow
      go_wp2
      go_roundw
      case rel => exact ⟨x.extract n x.size, ws ++ [y.data.toList], rfl, by simp; omega, by
        rw [unhide HR, unhide HS, unhide HX, bs_toList, List.append_assoc]
        have : x.data.toList.take n = y.data.toList := by rw [← unhide HY, unhide HU, bs_toList]
        rw [this]; rfl, by
        have e1 : bsL (ws ++ [y.data.toList]) = bsL ws ++ [x.extract 0 n] := by unfold bsL; rw [List.map_append, unhide HY]; simp [bs_self]
        rw [e1]; simpa using hown', hbig⟩
      case measure => simp; omega
end Go.Proofs.YtfbgpodcdgmpjaaDoor

/-
  A block of cells as it lies in memory; a world made a letter.
-/
namespace Go.Proofs.YtfbgpodcdgmpjaaDoor
open Go.RowKit
set_option linter.unusedVariables false

/-- A block of cells, as it lies. -/
def Blk (w : World) (b : Nat) (vs : Array Value) (t : TypeId) : Prop := w.heap[b]? = some (.cells vs t (0, 0))
theorem Blk.lt {w : World} {b : Nat} {vs : Array Value} {t : TypeId} (h : Blk w b vs t) : b < w.heap.size := by
  rcases Nat.lt_or_ge b w.heap.size with h' | h'
  · exact h'
  · unfold Blk at h; rw [Array.getElem?_eq_none h'] at h; cases h
theorem Blk.cell {w : World} {b : Nat} {vs : Array Value} {t : TypeId} (h : Blk w b vs t) (o : Nat) : w.cell? ⟨b, o, none⟩ = vs[o]? := Joins.cell_of_block h o
theorem Blk.frozen {w : World} {b : Nat} {vs : Array Value} {t : TypeId} (h : Blk w b vs t) (o : Nat) : w.frozen? ⟨b, o, none⟩ = false := by
  have h' : w.heap[b]? = some (.cells vs t (0, 0)) := h
  simp [World.frozen?, h']
theorem Blk.below {w w' : World} {b B : Nat} {vs : Array Value} {t : TypeId} (h : Blk w b vs t) (hb : Below B w w') (hB : b < B) : Blk w' b vs t := (hb.block b hB).trans h
theorem Blk.later {w w' : World} {b : Nat} {vs : Array Value} {t : TypeId} (h : Blk w b vs t) (hb : Below w.heap.size w w') : Blk w' b vs t := h.below hb h.lt
theorem Blk.alloc {w : World} {b : Nat} {vs : Array Value} {t : TypeId} (h : Blk w b vs t) (o : Obj) : Blk (w.alloc o) b vs t := h.later ((Below.refl _ _).alloc (Nat.le_refl _) _)
theorem Blk.new (w : World) (vs : Array Value) (t : TypeId) : Blk (w.alloc (.cells vs t)) w.heap.size vs t := by show (w.heap.push _)[w.heap.size]? = _; simp
theorem Blk.away {w : World} {b : Nat} {vs : Array Value} {t : TypeId} (h : Blk w b vs t) {b' o : Nat} (hb : b ≠ b') (u : Value) : Blk (w.setCell ⟨b', o, none⟩ u) b vs t := (Below.heap_setCell w ⟨b', o, none⟩ u b hb).trans h
theorem Blk.set {w : World} {b : Nat} {vs : Array Value} {t : TypeId} (h : Blk w b vs t) (o : Nat) (ho : o < vs.size) (u : Value) : Blk (w.setCell ⟨b, o, none⟩ u) b (vs.set o u) t := by
  have h' : w.heap[b]? = some (.cells vs t (0, 0)) := h
  simp [Blk, World.setCell, Array.getElem?_modify, h', Array.setIfInBounds, ho]

/-- From here on no more is asked of the world than this. -/
theorem calls_from {P : Program} {f : FuncId} {args : Array Value} {W : World} {R : Ending → World → Prop} (S : World → Prop) (h : S W) (k : ∀ W', S W' → Calls P f args W' R) : Calls P f args W R := k W h
end Go.Proofs.YtfbgpodcdgmpjaaDoor
