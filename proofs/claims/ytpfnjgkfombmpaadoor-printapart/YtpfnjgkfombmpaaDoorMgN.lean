/-
  Several texts in one: what the functions of the program and of the document's answer do.
-/
import Derived.Test.YtpfnjgkfombmpaaDoorYWw
import Derived.Test.YtpfnjgkfombmpaaDoorMgD
import Derived.Shelf.Strings.BuilderK

/-
  A strings.Builder that lies in a tree.writer, ahead of its error: what WriteString and String do there; the writer's num and text.
-/
namespace Go.Proofs.YtpfnjgkfombmpaaDoor
open Go.RowKit
set_option linter.unusedVariables false
set_option linter.unusedSimpArgs false

/-- A writer in block b: its builder holds these bytes; er is its error. -/
def WrtAt (B b : Nat) (p : Value) (er : Int) (bs : List Value) (w : World) : Prop :=
  B ≤ b ∧ ∃ v, w.heap[b]? = some (.cells #[p, v, .int .i64 er] 79 (0, 0)) ∧ w.ownsRowF B 5 1 v bs.length bs ∧ v.ownBlock ≠ some b
def Wrt (B b : Nat) (er : Int) (l : List UInt8) (w : World) : Prop := WrtAt B b (.pointer none) er (Lib.byteCells l) w ∨ WrtAt B b (.pointer (some ⟨b, 0, none⟩)) er (Lib.byteCells l) w
theorem WrtAt.lt {B b : Nat} {p : Value} {er : Int} {bs : List Value} {w : World} (h : WrtAt B b p er bs w) : b < w.heap.size := by
  obtain ⟨_, v, hb, _⟩ := h
  rcases Nat.lt_or_ge b w.heap.size with h' | h'
  · exact h'
  · rw [Array.getElem?_eq_none h'] at hb; cases hb
theorem WrtAt.used {B b : Nat} {p : Value} {er : Int} {bs : List Value} {w : World} (h : WrtAt B b p er bs w) (q : Value) : WrtAt B b q er bs (w.setCell ⟨b, 0, none⟩ q) := by
  obtain ⟨hB, v, hb, hown, hne⟩ := h
  refine ⟨hB, v, ?_, ?_, hne⟩
  · simp [World.setCell, Array.getElem?_modify, hb]
  · exact hown.kept (row := some b) ⟨rfl, rfl, rfl, by simp [World.setCell], fun k _ hk => Below.heap_setCell _ _ _ _ (fun e => hk (by simp [e]))⟩ (Or.inr hne)
theorem WrtAt.put {B b : Nat} {p v v' : Value} {er : Int} {bs' : List Value} {w : World} (hB : B ≤ b) (hb : w.heap[b]? = some (.cells #[p, v, .int .i64 er] 79 (0, 0))) (hown : w.ownsRowF B 5 1 v' bs'.length bs') : WrtAt B b p er bs' (w.setCell ⟨b, 1, none⟩ v') := by
  have hne := Lib.ownBlock_neF hown hb (by decide)
  refine ⟨hB, v', ?_, ?_, hne⟩
  · simp [World.setCell, Array.getElem?_modify, hb]
  · exact hown.kept (row := some b) ⟨rfl, rfl, rfl, by simp [World.setCell], fun k _ hk => Below.heap_setCell _ _ _ _ (fun e => hk (by simp [e]))⟩ (Or.inr hne)
theorem wrt_any {B b : Nat} {er : Int} {l : List UInt8} {w : World} (h : Wrt B b er l w) : ∃ p v, (p = .pointer none ∨ p = .pointer (some ⟨b, 0, none⟩)) ∧ B ≤ b ∧ w.heap[b]? = some (.cells #[p, v, .int .i64 er] 79 (0, 0)) ∧ w.ownsRowF B 5 1 v (Lib.byteCells l).length (Lib.byteCells l) ∧ v.ownBlock ≠ some b := by
  rcases h with ⟨h1, v, h2⟩ | ⟨h1, v, h2⟩
  · exact ⟨_, v, .inl rfl, h1, h2⟩
  · exact ⟨_, v, .inr rfl, h1, h2⟩
theorem wrt_of {B b : Nat} {er : Int} {l : List UInt8} {w : World} {p v : Value} (hp : p = .pointer none ∨ p = .pointer (some ⟨b, 0, none⟩)) (h : B ≤ b ∧ w.heap[b]? = some (.cells #[p, v, .int .i64 er] 79 (0, 0)) ∧ w.ownsRowF B 5 1 v (Lib.byteCells l).length (Lib.byteCells l) ∧ v.ownBlock ≠ some b) : Wrt B b er l w := by
  rcases hp with rfl | rfl
  · exact .inl ⟨h.1, v, h.2⟩
  · exact .inr ⟨h.1, v, h.2⟩
/-- A writer stands where its block and its buffer do. -/
theorem wrt_keep {B b : Nat} {er : Int} {l : List UInt8} {w w1 : World} (h : Wrt B b er l w) (hk : ∀ (k : Nat) (c : Array Value) (t : TypeId) (fz : Nat × Nat), w.heap[k]? = some (Obj.cells c t fz) → (t = 79 ∨ t = 5) → w1.heap[k]? = some (Obj.cells c t fz)) : Wrt B b er l w1 := by
  obtain ⟨p, v, hp, hB, hbk, hown, hne⟩ := wrt_any h
  refine wrt_of hp ⟨hB, hk _ _ _ _ hbk (.inl rfl), ?_, hne⟩
  obtain ⟨hl, h⟩ := hown
  refine ⟨hl, ?_⟩
  rcases h with h | ⟨g, cap, cur, fz, h1, h2, h3, h4⟩
  · exact .inl h
  · exact .inr ⟨g, cap, cur, fz, h1, h2, hk _ _ _ _ h3 (.inr rfl), h4⟩
theorem wrt_below {B b : Nat} {er : Int} {l : List UInt8} {w w1 : World} (h : Wrt B b er l w) (hb : Below w.heap.size w w1) : Wrt B b er l w1 :=
  wrt_keep h (fun k c t fz hk _ => (hb.block k (Array.getElem?_eq_some_iff.1 hk).1).trans hk)
theorem wrt_kept {B b : Nat} {er : Int} {l : List UInt8} {w w1 : World} (h : Wrt B b er l w) (hk : Lib.OthersKept 22 none w w1) : Wrt B b er l w1 :=
  wrt_keep h (fun k c t fz hk1 ht => hk k _ hk1 (by simp) (fun c' fz' e => by
    injection e with _ e
    rcases ht with ht | ht
    · rw [ht] at e; revert e; decide
    · rw [ht] at e; revert e; decide))
theorem oth_of_below {b : Nat} {w w' : World} (h : Below w.heap.size w w') : Oth b w w' := fun k o hk _ _ => (h.block k (Array.getElem?_eq_some_iff.1 hk).1).trans hk
theorem wrt_keepN {B b : Nat} {er : Int} {l : List UInt8} {w w' : World} (h : Wrt B b er l w) (hb : Below B w w') (ho : Oth b w w') : KeepN w w' := by
  obtain ⟨p, v, hp, hB, hbk, hown, hne⟩ := wrt_any h
  refine ⟨hb.size, fun k c hk => ho k _ hk ?_ ?_⟩
  · intro e
    injection e with e
    rw [e, hbk] at hk
    injection hk with hk
    injection hk with _ hk
    revert hk; decide
  · intro c' fz e
    injection e with _ e
    revert e; decide
theorem wrt_new (w : World) : Wrt w.heap.size w.heap.size 0 [] (w.alloc (.cells #[.pointer none, .slice none 0 0, .int .i64 0] 79)) :=
  .inl ⟨Nat.le_refl _, .slice none 0 0, heap_alloc_new _ _, World.ownsRowF_of (World.ownsRow_nil _ _ _ _), by simp [Value.ownBlock]⟩

theorem liesWrt : liesAt Tryd.prog Tryd.prog.depth 79 (3 / Tryd.prog.cellsOf 79) 0 62 1 = true := by kernel_rfl
theorem sizeBld : (Tryd.prog.info? 62).map (fun i => i.size) = some 2 := by kernel_rfl

set_option maxHeartbeats 1000000 in
set_option maxRecDepth 100000 in
theorem wcopy_used (b : Nat) (w : World) (h0 : w.cell? ⟨b, 0, none⟩ = some (.pointer (some ⟨b, 0, none⟩))) :
    Calls Tryd.prog 69 #[.pointer (some ⟨b, 0, none⟩)] w fun e w' => e = .returned (.tuple #[]) ∧ w' = w := by
  obtain ⟨j, hj, _⟩ := Option.map_eq_some_iff.1 sizeBld
  go_enter Tryd.func69, Tryd.ntmps69
  go_wp2
  rw [Lib.run_neq_ptr_same w _ Tryd.underlying59 hj]
  go_wp2
  refine bodyPost_end (v := .tuple #[]) (results_none Tryd.results69 _ _ _) rfl ?_
  exact ⟨rfl, rfl⟩
set_option maxHeartbeats 1000000 in
set_option maxRecDepth 100000 in
theorem wcopy_fresh (b : Nat) (w : World) (h0 : w.cell? ⟨b, 0, none⟩ = some (.pointer none)) (hsh : w.shape? b = some (79, 3)) (hfz : w.frozen? ⟨b, 0, none⟩ = false) :
    Calls Tryd.prog 69 #[.pointer (some ⟨b, 0, none⟩)] w fun e w' => e = .returned (.tuple #[]) ∧ w' = w.setCell ⟨b, 0, none⟩ (.pointer (some ⟨b, 0, none⟩)) := by
  obtain ⟨j, hj, hjs⟩ := Option.map_eq_some_iff.1 sizeBld
  go_enter Tryd.func69, Tryd.ntmps69
  go_wp2
  rw [Lib.run_to_unsafe w ⟨b, 0, none⟩ Tryd.underlying59 Tryd.underlying115 hj (by rw [hjs]; decide) hsh (Nat.zero_lt_succ 2)]
  simp only [Result.andThen]
  rw [Oper.upon_value]
  go_wp2
  rw [run_callFunc_extern Tryd.func92 (by kernel_rfl) (by kernel_rfl) (by kernel_rfl) (e := Extern.AbiNoEscape.same) (by kernel_rfl)]
  rw [Lib.run_noEscape]
  simp only [Result.andThen]
  rw [Oper.upon_value]
  go_wp2
  rw [Lib.run_from_unsafe w ⟨b, 0, none⟩ Tryd.underlying115 Tryd.underlying59 hj hsh liesWrt]
  simp only [Result.andThen]
  rw [Oper.upon_value]
  go_wp2
  refine bodyPost_end (v := .tuple #[]) (results_none Tryd.results69 _ _ _) rfl ?_
  exact ⟨rfl, rfl⟩
theorem wcopy_any (B b : Nat) (er : Int) (l : List UInt8) (w : World) (h : Wrt B b er l w) :
    Calls Tryd.prog 69 #[.pointer (some ⟨b, 0, none⟩)] w fun e w' => e = .returned (.tuple #[]) ∧ WrtAt B b (.pointer (some ⟨b, 0, none⟩)) er (Lib.byteCells l) w' ∧ Below B w w' ∧ Oth b w w' := by
  rcases h with h | h
  · have hbk := h
    obtain ⟨hB, v, hb, hown, hne⟩ := hbk
    refine (wcopy_fresh b w (by rw [Lib.cell_of_heap hb]; rfl) (by simp [World.shape?, hb]) (by simp [World.frozen?, hb])).mono ?_
    rintro e w' ⟨rfl, rfl⟩
    exact ⟨rfl, h.used _, (Below.refl B w).setCell (p := ⟨b, 0, none⟩) hB _, (Lib.OthersKept.refl _ _ w).setCell ⟨b, 0, none⟩ rfl _⟩
  · have hbk := h
    obtain ⟨hB, v, hb, hown, hne⟩ := hbk
    refine (wcopy_used b w (by rw [Lib.cell_of_heap hb]; rfl)).mono ?_
    rintro e w' ⟨rfl, rfl⟩
    exact ⟨rfl, h, Below.refl B _, Lib.OthersKept.refl _ _ _⟩

theorem infoByteW : (Tryd.prog.info? 5).map (fun i => (i.zero, i.size, i.bytes)) = some (some (.int .u8 0), 1, 1) := by kernel_rfl
set_option maxHeartbeats 2000000 in
set_option maxRecDepth 100000 in
theorem wwrite_any (B b : Nat) (er : Int) (l : List UInt8) (s : ByteArray) (w : World) (h : Wrt B b er l w) (hlen : l.length + s.size ≤ 140737488355328) (hBw : B ≤ w.heap.size) :
    Calls Tryd.prog 42 #[.pointer (some ⟨b, 0, none⟩), .string s] w fun e w' => e = .returned (.tuple #[.int .i64 s.size, .nilIface]) ∧ Wrt B b er (l ++ s.data.toList) w' ∧ Below B w w' ∧ Oth b w w' := by
  obtain ⟨i0, hi, hz0, hz1, hz2⟩ := info_parts infoByteW
  have CC := hide (wcopy_any B b er l w h)
  clear h
  go_enter Tryd.func42, Tryd.ntmps42
  go_wp2_with fail
  refine (unhide CC).mono ?_
  rintro e w1 ⟨rfl, h1, hb1, hk1⟩
  clear CC
  obtain ⟨hB, v, hbk, hown, hne⟩ := h1
  rw [Lib.byteCells_length] at hown
  have c0 : w1.cell? ⟨b, 0, none⟩ = some (.pointer (some ⟨b, 0, none⟩)) := by rw [Lib.cell_of_heap hbk]; rfl
  have c1 : w1.cell? ⟨b, 1, none⟩ = some v := by rw [Lib.cell_of_heap hbk]; rfl
  go_wp2_with (at_builtin; refine Lib.wpList_append_own_stringF _ rfl _ _ 60 9 rfl B 5 i0 Tryd.underlying60 Tryd.underlying9 hi hz0 hz1 hz2 _ _ _ rfl hown s rfl ?c3 ?c4 ?c5 ?_)
  case c3 => unfold maxLen; omega
  case c4 => omega
  case c5 => have := hb1.size; omega
  intro v' w2 hown' hgrow _
  have hlt : b < w1.heap.size := (Array.getElem?_eq_some_iff.1 hbk).1
  have hb2 : w2.heap[b]? = some (.cells #[.pointer (some ⟨b, 0, none⟩), v, .int .i64 er] 79 (0, 0)) := by
    rw [hgrow.block b hlt (fun e => hne e.symm)]
    exact hbk
  have d0 : w2.cell? ⟨b, 0, none⟩ = some (.pointer (some ⟨b, 0, none⟩)) := by rw [Lib.cell_of_heap hb2]; rfl
  have d1 : w2.cell? ⟨b, 1, none⟩ = some v := by rw [Lib.cell_of_heap hb2]; rfl
  have f1 : w2.frozen? ⟨b, 1, none⟩ = false := Lib.frozen_of_heap hb2 1
  have HW : Hid (Wrt B b er (l ++ s.data.toList) (w2.setCell ⟨b, 1, none⟩ v')) := hide (.inr (WrtAt.put hB hb2 (by rw [Lib.byteCells_append, ← Lib.strCells_eq, List.length_append, Lib.byteCells_length, Lib.strCells_length]; exact hown')))
  have HB : Hid (Below B w (w2.setCell ⟨b, 1, none⟩ v')) := hide ((hb1.grown hgrow (by have := hb1.size; omega) (fun k hk => (hown.lt k hk).1)).setCell (p := ⟨b, 1, none⟩) hB _)
  have HO : Hid (Oth b w (w2.setCell ⟨b, 1, none⟩ v')) := hide ((hk1.grown hgrow (Lib.ownsRowF_kind hown)).setCell ⟨b, 1, none⟩ rfl _)
  obtain ⟨ao, n', cap, rfl⟩ : ∃ ao n' cap, v' = .slice ao n' cap := by
    rcases hown'.2 with ⟨hv, _⟩ | ⟨g, cap, cur, fz, hv, _⟩
    · exact ⟨_, _, _, hv⟩
    · exact ⟨_, _, _, hv⟩
  clear hown hown' hgrow hb1 hk1 hbk hb2 hne
  go_wp2
  go_ret2
  exact ⟨rfl, unhide HW, unhide HB, unhide HO⟩

set_option maxHeartbeats 1000000 in
set_option maxRecDepth 100000 in
theorem wstring_any (B b : Nat) (er : Int) (l : List UInt8) (w : World) (h : Wrt B b er l w) (h0 : l ≠ []) :
    Calls Tryd.prog 43 #[.pointer (some ⟨b, 0, none⟩)] w fun e w' => e = .returned (.string (bs l)) ∧ Below B w w' := by
  obtain ⟨p, v, hp, hB, hbk, hown, hne⟩ := wrt_any h
  have hl0 : l.length ≠ 0 := by simpa using h0
  rw [Lib.byteCells_length] at hown
  obtain ⟨g, cap, cur, fz, rfl, hbg, hg, hfz, hnc, hcm, hcs, htake⟩ : ∃ g cap cur fz, v = .slice (some ⟨g, 0, none⟩) l.length cap ∧ B ≤ g ∧ w.heap[g]? = some (.cells cur 5 fz) ∧ fz.2 ≤ l.length * 1 ∧ l.length ≤ cap ∧ cap ≤ maxLen ∧ cur.size = cap * 1 ∧ cur.toList.take (l.length * 1) = Lib.byteCells l := by
    rcases hown.2 with ⟨_, hz⟩ | ⟨g, cap, cur, fz, hv, r⟩
    · exact absurd hz hl0
    · exact ⟨g, cap, cur, fz, hv, r⟩
  have c1 : w.drew.cell? ⟨b, 1, none⟩ = some (.slice (some ⟨g, 0, none⟩) l.length cap) := by
    have : w.drew.heap[b]? = some (.cells #[p, .slice (some ⟨g, 0, none⟩) l.length cap, .int .i64 er] 79 (0, 0)) := hbk
    rw [Lib.cell_of_heap this]; rfl
  have hSD : (Builtin.unsafeSliceData_ #[60] 98 #[.slice (some ⟨g, 0, none⟩) l.length cap]).run Tryd.prog w.drew = .ok (.pointer (some ⟨g, 0, none⟩)) w.drew :=
    Lib.run_unsafeSliceData_row _ _ _ _ _ _ (by omega)
  have hUS : (Builtin.unsafeString_ #[98, 3] 9 #[.pointer (some ⟨g, 0, none⟩), .int .i64 l.length]).run Tryd.prog w.drew = .ok (.string ⟨l.toArray⟩) (w.drew.freeze ⟨g, 0, none⟩ l.length) := by
    refine Lib.run_unsafeString_row w.drew 98 3 9 5 Tryd.underlying98 (by kernel_rfl) g cur.size (by have hg' : w.drew.heap[g]? = some (.cells cur 5 fz) := hg; simp [World.shape?, hg']) l h0 (by omega) (by unfold maxLen at hcm; omega) ?_
    intro j x hx
    exact hown.cells (g := g) rfl j (.int .u8 x.toNat) (by simp [Lib.byteCells, hx])
  have HBL := hide hbg
  clear hown htake hbk h hg hfz hcs hnc hcm hbg hne
  go_enter Tryd.func43, Tryd.ntmps43
  go_wp2
  go_region
  all_goals (go_wp2; go_ret; exact ⟨rfl, Lib.below_freeze (Below.drew (Below.refl B w)) (p := ⟨g, 0, none⟩) (unhide HBL) _⟩)
end Go.Proofs.YtpfnjgkfombmpaaDoor

/-
  What a tree.writer's num, text and node write (made by mk_ybn.py).
-/
namespace Go.Proofs.YtpfnjgkfombmpaaDoor
open Go.RowKit
set_option linter.unusedVariables false
set_option linter.unusedSimpArgs false

def OthS (b : Nat) (w w' : World) : Prop := Oth b w w' ∧ w.heap.size ≤ w'.heap.size
theorem OthS.trans {b : Nat} {w w1 w2 : World} (h : OthS b w w1) (h' : OthS b w1 w2) : OthS b w w2 := ⟨Lib.OthersKept.trans h.1 h'.1, Nat.le_trans h.2 h'.2⟩
theorem OthS.alloc {b : Nat} {w w1 : World} (h : OthS b w w1) (o : Obj) : OthS b w (w1.alloc o) := ⟨Lib.OthersKept.alloc h.1 o, by have := h.2; simp; omega⟩
theorem othS_of_below {b : Nat} {w w' : World} (h : Below w.heap.size w w') : OthS b w w' := ⟨oth_of_below h, h.size⟩
def numW (n : Int) : List UInt8 := if 0 ≤ n ∧ n ≤ 1099511627776 then nb n else []
theorem numW_len (n : Int) : (numW n).length ≤ 7 := by
  unfold numW
  split
  · have := nb_size n; rw [bs_size] at this; exact this
  · exact Nat.zero_le _
theorem qnum_any (n : Int) (w : World) : ∃ (s : ByteArray) (er : Int), s.data.toList = numW n ∧ s.size ≤ 7 ∧ Calls Tryd.prog 85 #[.int .i64 n] w fun e w' => e = .returned (.tuple #[.string s, .int .i64 er]) ∧ Below w.heap.size w w' := by
  by_cases h : 0 ≤ n ∧ n ≤ 1099511627776
  · exact ⟨bs (nb n), 0, by rw [bs_toList, numW, if_pos h], nb_size n, num_ok n w h.1 h.2⟩
  · exact ⟨⟨#[]⟩, 1, by rw [numW, if_neg h], Nat.zero_le _, num_no n w (by omega)⟩
set_option maxHeartbeats 2000000 in
theorem wnum_any (B b : Nat) (er : Int) (l : List UInt8) (n : Int) (w : World) (h : Wrt B b er l w) (hlen : l.length ≤ 100000000000000) (hBw : B ≤ w.heap.size) :
    Calls Tryd.prog 56 #[.pointer (some ⟨b, 0, none⟩), .int .i64 n] w fun e w' => e = .returned (.tuple #[]) ∧ Wrt B b er (l ++ numW n) w' ∧ Below B w w' ∧ OthS b w w' := by
  obtain ⟨s, e0, hs, hs7, C⟩ := qnum_any n w
  have CN := hide C
  have CW := hide (fun (W : World) (hW : Below w.heap.size w W) => wwrite_any B b er l s W (wrt_below h hW) (by omega) (by have := hW.size; omega))
  rw [hs] at CW
  have hbl : B ≤ w.heap.size := hBw
  clear C h hs
  go_enter Tryd.func56, Tryd.ntmps56
  go_wp2_with fail
  refine (unhide CN).mono ?_
  rintro e w1 ⟨rfl, hb1⟩
  have CW1 := hide (unhide CW w1 hb1)
  have HB1 := hide hb1
  clear CW CN hb1
  go_wp2_with fail
  refine (unhide CW1).mono ?_
  rintro e w2 ⟨rfl, h2, hb2, ho2⟩
  have HX := hide (And.intro h2 (And.intro (((unhide HB1).mono hbl).trans hb2) ((othS_of_below (b := b) (unhide HB1)).trans ⟨ho2, hb2.size⟩)))
  clear CW1 h2 hb2 ho2
  go_wp2
  refine bodyPost_end (v := .tuple #[]) (results_none Tryd.results56 _ _ _) rfl ?_
  exact ⟨rfl, unhide HX⟩
set_option maxHeartbeats 2000000 in
theorem wtext_any (B b : Nat) (er : Int) (l : List UInt8) (s : ByteArray) (w : World) (h : Wrt B b er l w) (hs : s.size ≤ 65536) (hlen : l.length ≤ 100000000000000) (hBw : B ≤ w.heap.size) :
    Calls Tryd.prog 86 #[.pointer (some ⟨b, 0, none⟩), .string s] w fun e w' => e = .returned (.tuple #[]) ∧ Wrt B b er (l ++ tb s) w' ∧ Below B w w' ∧ OthS b w w' := by
  have CN := hide (text_ok s w hs)
  have htl := tb_len s
  have hsz : (bs (tb s)).size ≤ 70000 := by rw [bs_size]; omega
  have CW := hide (fun (W : World) (hW : Below w.heap.size w W) => wwrite_any B b er l (bs (tb s)) W (wrt_below h hW) (by omega) (by have := hW.size; omega))
  rw [bs_toList] at CW
  rw [show nb s.size ++ s.data.toList = tb s from rfl] at CN
  have hbl : B ≤ w.heap.size := hBw
  generalize bs (tb s) = z at *
  clear h htl
  go_enter Tryd.func86, Tryd.ntmps86
  go_wp2_with fail
  refine (unhide CN).mono ?_
  rintro e w1 ⟨rfl, hb1⟩
  have CW1 := hide (unhide CW w1 hb1)
  have HB1 := hide hb1
  clear CW CN hb1
  go_wp2_with fail
  refine (unhide CW1).mono ?_
  rintro e w2 ⟨rfl, h2, hb2, ho2⟩
  have HX := hide (And.intro h2 (And.intro (((unhide HB1).mono hbl).trans hb2) ((othS_of_below (b := b) (unhide HB1)).trans ⟨ho2, hb2.size⟩)))
  clear CW1 h2 hb2 ho2
  go_wp2
  refine bodyPost_end (v := .tuple #[]) (results_none Tryd.results86 _ _ _) rfl ?_
  exact ⟨rfl, unhide HX⟩

/-- The bytes of attributes, of a node without its kids. -/
def atW : List (ByteArray × ByteArray) → List UInt8
  | [] => []
  | a :: r => tb a.1 ++ (tb a.2 ++ atW r)
def nodeL (k sp : Int) (n : ByteArray) (ats : List (ByteArray × ByteArray)) (tx : ByteArray) (kl : Nat) : List UInt8 :=
  if k = 1 then numW k ++ (numW sp ++ (tb n ++ (numW ats.length ++ (atW ats ++ numW kl)))) else numW k ++ tb tx
theorem atW_drop (ats : List (ByteArray × ByteArray)) (j : Nat) (hj : j < ats.length) : atW (ats.drop j) = tb (an ats j) ++ (tb (av ats j) ++ atW (ats.drop (j + 1))) := by
  rw [List.drop_eq_getElem_cons hj, atW]
  have h3 : ats.getD j (ByteArray.empty, ByteArray.empty) = ats[j] := by simp [List.getD, List.getElem?_eq_getElem hj]
  unfold an av
  rw [h3]
/-- What a call of the writer leaves. -/
def WrN (w0 : World) (b : Nat) (w : World) (l : List UInt8) (w' : World) : Prop := Wrt w0.heap.size b 0 l w' ∧ Below w0.heap.size w0 w' ∧ OthS b w w'
set_option maxHeartbeats 4000000 in
theorem wnode_text (w0 : World) (b : Nat) (l : List UInt8) (k sp : Int) (n : ByteArray) (ats : List (ByteArray × ByteArray)) (tx : ByteArray) (kids rest : Forest) (g o : Nat) (w : World) (hk : ¬ k = 1) (h : Wrt w0.heap.size b 0 l w) (hb : Below w0.heap.size w0 w) (hl : Lies (.cons k sp n ats tx kids rest) g o w0) (hs : SmF (.cons k sp n ats tx kids rest)) (hlen : l.length ≤ 10000000000000) :
    Calls Tryd.prog 58 #[.pointer (some ⟨b, 0, none⟩), .pointer (some ⟨g, o, none⟩)] w fun e w' => e = .returned (.tuple #[]) ∧ WrN w0 b w (l ++ nodeL k sp n ats tx kids.len) w' := by
  have CN := hide (wnum_any w0.heap.size b 0 l k w h (by omega) hb.size)
  have hn7 := numW_len k
  have htx : tx.size ≤ 65536 := by have := hs.1.1; omega
  have CT := hide (fun (W : World) (h1 : Wrt w0.heap.size b 0 (l ++ numW k) W) (h2 : Below w0.heap.size w0 W) => wtext_any w0.heap.size b 0 (l ++ numW k) tx W h1 htx (by rw [List.length_append]; omega) h2.size)
  have HL := hide (show ∀ W, Below w0.heap.size w0 W → W.cell? ⟨g, o, none⟩ = some (.int .i64 k) ∧ W.cell? ⟨g, o + 4, none⟩ = some (.string tx) from fun W hW => ⟨cell_later hW hl.1.1, cell_later hW hl.1.2.2.2.2.1⟩)
  have c0 := (unhide HL w hb).1
  have HB := hide hb
  have HR : Hid (l ++ nodeL k sp n ats tx kids.len = (l ++ numW k) ++ tb tx) := hide (by rw [nodeL, if_neg hk, List.append_assoc])
  have hbe : (k == 1) = false := beq_eq_false_iff_ne.2 hk
  rw [unhide HR]
  clear h hb hl hs hlen hn7 HR
  generalize l ++ numW k = l1 at *
  go_enter Tryd.func58, Tryd.ntmps58
  go_wp2_with fail
  refine (unhide CN).mono ?_
  rintro e w1 ⟨rfl, h1, hb1, ho1⟩
  have hB1 := (unhide HB).trans hb1
  have CT1 := hide (unhide CT w1 h1 hB1)
  obtain ⟨d0, d4⟩ := unhide HL w1 hB1
  have HX := hide (And.intro hB1 ho1)
  clear CN CT h1 hb1 ho1 hB1 c0 HB HL
  go_wp2_with fail
  refine (unhide CT1).mono ?_
  rintro e w2 ⟨rfl, h2, hb2, ho2⟩
  have HY : Hid (WrN w0 b w (l1 ++ tb tx) w2) := hide ⟨h2, (unhide HX).1.trans hb2, (unhide HX).2.trans ho2⟩
  clear CT1 h2 hb2 ho2 d0 d4
  go_wp2
  refine bodyPost_ret (v := .tuple #[]) (results_none Tryd.results58 _ _ _) rfl ?_
  exact ⟨rfl, unhide HY⟩
set_option maxHeartbeats 8000000 in
set_option maxRecDepth 100000 in
theorem wnode_elem (w0 : World) (b : Nat) (l : List UInt8) (sp : Int) (n : ByteArray) (ats : List (ByteArray × ByteArray)) (tx : ByteArray) (kids rest : Forest) (g o : Nat) (w : World) (h : Wrt w0.heap.size b 0 l w) (hb : Below w0.heap.size w0 w) (hl : Lies (.cons 1 sp n ats tx kids rest) g o w0) (hs : SmF (.cons 1 sp n ats tx kids rest)) (hlen : (l ++ nodeL 1 sp n ats tx kids.len).length ≤ 10000000000000) :
    Calls Tryd.prog 58 #[.pointer (some ⟨b, 0, none⟩), .pointer (some ⟨g, o, none⟩)] w fun e w' => e = .returned (.tuple #[]) ∧ WrN w0 b w (l ++ nodeL 1 sp n ats tx kids.len) w' := by
  have hnl : n.size ≤ 65536 := by have := hs.1.2.1; omega
  have hfit := hs.1.2.2.1
  obtain ⟨⟨l0, l1, l2, ⟨qa, ca, l3, hsl⟩, l4, ⟨qk, ck, l5, hck, hfo⟩⟩, _⟩ := hl
  have HL := hide (show ∀ W, Below w0.heap.size w0 W → W.cell? ⟨g, o, none⟩ = some (.int .i64 1) ∧ W.cell? ⟨g, o + 1, none⟩ = some (.int .i64 sp) ∧ W.cell? ⟨g, o + 2, none⟩ = some (.string n) ∧ W.cell? ⟨g, o + 3, none⟩ = some (.slice qa ats.length ca) ∧ W.cell? ⟨g, o + 5, none⟩ = some (.slice qk kids.len ck) from fun W hW => ⟨cell_later hW l0, cell_later hW l1, cell_later hW l2, cell_later hW l3, cell_later hW l5⟩)
  have HSL := hide (fun W (hW : Below w0.heap.size w0 W) => hsl.below hW)
  have HFT := hide hfit
  have hal : ats.length ≤ 1000 := hfit.1
  have HTOT : Hid (l ++ nodeL 1 sp n ats tx kids.len = ((((l ++ numW 1) ++ numW sp) ++ tb n) ++ numW ats.length) ++ atW ats ++ numW kids.len) := hide (by rw [nodeL, if_pos rfl]; simp only [List.append_assoc])
  rw [unhide HTOT] at hlen
  rw [unhide HTOT]
  simp only [List.length_append] at hlen
  have q0 : l.length ≤ 100000000000000 := by omega
  have q1 : (l ++ numW 1).length ≤ 100000000000000 := by simp only [List.length_append]; omega
  have q2 : ((l ++ numW 1) ++ numW sp).length ≤ 100000000000000 := by simp only [List.length_append]; omega
  have q3 : (((l ++ numW 1) ++ numW sp) ++ tb n).length ≤ 100000000000000 := by simp only [List.length_append]; omega
  have q4 : ((((l ++ numW 1) ++ numW sp) ++ tb n) ++ numW ats.length).length + (atW ats).length ≤ 10000000000000 := by simp only [List.length_append]; omega
  have CN := hide (wnum_any w0.heap.size b 0 l 1 w h q0 hb.size)
  have CS := hide (fun (W : World) (h1 : Wrt w0.heap.size b 0 (l ++ numW 1) W) (h2 : Below w0.heap.size w0 W) => wnum_any w0.heap.size b 0 (l ++ numW 1) sp W h1 q1 h2.size)
  have CT := hide (fun (W : World) (h1 : Wrt w0.heap.size b 0 ((l ++ numW 1) ++ numW sp) W) (h2 : Below w0.heap.size w0 W) => wtext_any w0.heap.size b 0 ((l ++ numW 1) ++ numW sp) n W h1 hnl q2 h2.size)
  have CA := hide (fun (W : World) (h1 : Wrt w0.heap.size b 0 (((l ++ numW 1) ++ numW sp) ++ tb n) W) (h2 : Below w0.heap.size w0 W) => wnum_any w0.heap.size b 0 (((l ++ numW 1) ++ numW sp) ++ tb n) ats.length W h1 q3 h2.size)
  generalize (((l ++ numW 1) ++ numW sp) ++ tb n) = m3 at *
  generalize (l ++ numW 1) ++ numW sp = m2 at *
  generalize l ++ numW 1 = m1 at *
  generalize m3 ++ numW ats.length = m4 at *
  have q5 : (m4 ++ atW ats).length ≤ 100000000000000 := by rw [List.length_append]; omega
  have CK := hide (fun (W : World) (h1 : Wrt w0.heap.size b 0 (m4 ++ atW ats) W) (h2 : Below w0.heap.size w0 W) => wnum_any w0.heap.size b 0 (m4 ++ atW ats) kids.len W h1 q5 h2.size)
  have c0 := (unhide HL w hb).1
  have HB := hide hb
  have hklc : kids.len ≤ ck := hck
  generalize kids.len = kl at *
  clear h hb hs hlen q0 q1 q2 q3 q5 hsl hfo hfit HTOT l0 l1 l2 l3 l4 l5 hck hnl
  go_enter Tryd.func58, Tryd.ntmps58
  go_wp2_with fail
  refine (unhide CN).mono ?_
  rintro e w1 ⟨rfl, h1, hb1, ho1⟩
  have HB1 := hide ((unhide HB).trans hb1)
  have HO1 := hide ho1
  have CS1 := hide (unhide CS w1 h1 (unhide HB1))
  obtain ⟨d0, d1, d2, d3, d5⟩ := unhide HL w1 (unhide HB1)
  clear CN CS h1 hb1 ho1 c0 HB d2 d3 d5
  go_wp2_with fail
  refine (unhide CS1).mono ?_
  rintro e w2 ⟨rfl, h2, hb2, ho2⟩
  have HB2 := hide ((unhide HB1).trans hb2)
  have HO2 := hide ((unhide HO1).trans ho2)
  have CT1 := hide (unhide CT w2 h2 (unhide HB2))
  clear d0 d1
  obtain ⟨d0, d1, d2, d3, d5⟩ := unhide HL w2 (unhide HB2)
  clear CT CS1 h2 hb2 ho2 HB1 HO1 d0 d1 d3 d5
  go_wp2_with fail
  refine (unhide CT1).mono ?_
  rintro e w3 ⟨rfl, h3, hb3, ho3⟩
  have HB3 := hide ((unhide HB2).trans hb3)
  have HO3 := hide ((unhide HO2).trans ho3)
  have CA1 := hide (unhide CA w3 h3 (unhide HB3))
  clear d2
  obtain ⟨d0, d1, d2, d3, d5⟩ := unhide HL w3 (unhide HB3)
  clear CA CT1 h3 hb3 ho3 HB2 HO2 d0 d1 d2 d5
  go_wp2_with fail
  refine (unhide CA1).mono ?_
  rintro e w4 ⟨rfl, h4, hb4, ho4⟩
  have HB4 := hide ((unhide HB3).trans hb4)
  have HO4 := hide ((unhide HO3).trans ho4)
  have HW4 := hide h4
  clear d3
  obtain ⟨d0, d1, d2, d3, d5⟩ := unhide HL w4 (unhide HB4)
  clear CA1 h4 hb4 ho4 HB3 HO3 d0 d1 d2 d5
  go_wp2
  clear d3
  go_loopw [47] (fun i wr => ∃ (j : Nat) (m : List UInt8), j ≤ ats.length ∧ i = .int .i64 j ∧ m ++ atW (ats.drop j) = m4 ++ atW ats ∧ Wrt w0.heap.size b 0 m wr ∧ Below w0.heap.size w0 wr ∧ OthS b w wr) (fun i _ => ats.length - (intOf i).toNat)
  case atStart => exact ⟨0, m4, Nat.zero_le _, rfl, rfl, unhide HW4, unhide HB4, unhide HO4⟩
  case round =>
    clear HB4 HO4 HW4
    obtain ⟨j, m, hj, rfl, hm, hwr, hbw, how⟩ := hrel
    by_cases hp : j < ats.length
    · have hpi : (j : Int) < (ats.length : Int) := by omega
      rcases unhide HSL wr hbw with h0 | ⟨ga, oa, hqa, hcl⟩
      · rw [h0] at hp; simp at hp
      subst hqa
      obtain ⟨c1, c2⟩ := hcl j hp
      obtain ⟨z1, z2⟩ := (unhide HFT).2 j hp
      rw [atW_drop ats j hp] at hm
      have hml := congrArg List.length hm
      simp only [List.length_append] at hml
      have CT1 := hide (fun (W : World) (h1 : Wrt w0.heap.size b 0 m W) (h2 : Below w0.heap.size w0 W) => wtext_any w0.heap.size b 0 m (an ats j) W h1 (by omega) (by omega) h2.size)
      have CT2 := hide (fun (W : World) (h1 : Wrt w0.heap.size b 0 (m ++ tb (an ats j)) W) (h2 : Below w0.heap.size w0 W) => wtext_any w0.heap.size b 0 (m ++ tb (an ats j)) (av ats j) W h1 (by omega) (by rw [List.length_append]; omega) h2.size)
      have HM : Hid (((m ++ tb (an ats j)) ++ tb (av ats j)) ++ atW (ats.drop (j + 1)) = m4 ++ atW ats) := hide (by rw [← hm]; simp only [List.append_assoc])
      have hbA := (Below.refl wr.heap.size wr).alloc (Nat.le_refl _) (Obj.cells #[.string (an ats j), .string (av ats j)] 55)
      have hblk := Blk.new wr #[.string (an ats j), .string (av ats j)] 55
      have hwA := wrt_below hwr hbA
      have hBA : Below w0.heap.size w0 (wr.alloc (Obj.cells #[.string (an ats j), .string (av ats j)] 55)) := tr2 hbw hbA
      have hbb : b < wr.heap.size := by
        obtain ⟨p, v, hp, hB, hbk, _⟩ := wrt_any hwr
        exact (Array.getElem?_eq_some_iff.1 hbk).1
      have CT1' := hide (unhide CT1 _ hwA hBA)
      have HX := hide (And.intro hblk (And.intro hBA (how.alloc (Obj.cells #[.string (an ats j), .string (av ats j)] 55))))
      generalize an ats j = x at *
      generalize av ats j = y at *
      clear hm hml hwr hbw how hcl hbA hblk hwA hBA z1 z2 CT1
      go_wp2_with fail
      refine (unhide CT1').mono ?_
      rintro e w5 ⟨rfl, h5, hb5, ho5⟩
      have hB5 := (unhide HX).2.1.trans hb5
      have hO5 := (unhide HX).2.2.trans ho5
      have hblk5 : Blk w5 wr.heap.size #[.string x, .string y] 55 := ho5.1 _ _ (unhide HX).1 (fun e => by injection e with e; omega) (fun c fz e => by injection e with _ e; revert e; decide)
      have k1 : w5.cell? ⟨wr.heap.size, 1, none⟩ = some (.string y) := hblk5.cell 1
      have CT2' := hide (unhide CT2 w5 h5 hB5)
      have HX5 := hide (And.intro hB5 hO5)
      clear CT1' CT2 h5 hb5 ho5 hB5 hO5 hblk5 HX c1 c2
      go_wp2_with fail
      refine (unhide CT2').mono ?_
      rintro e w6 ⟨rfl, h6, hb6, ho6⟩
      have HX6 := hide (And.intro h6 (And.intro ((unhide HX5).1.trans hb6) ((unhide HX5).2.trans ho6)))
      clear CT2' h6 hb6 ho6 HX5 k1
      go_wp2
      go_roundw
      case rel => exact ⟨j + 1, _, by omega, by go_num, unhide HM, unhide HX6⟩
      case measure => simp [intOf]; omega
    · have hpi : ¬ (j : Int) < (ats.length : Int) := by omega
      rw [List.drop_eq_nil_of_le (by omega), atW, List.append_nil] at hm
      subst hm
      have CK1 := hide (unhide CK wr hwr hbw)
      obtain ⟨d0, d1, d2, d3, d5⟩ := unhide HL wr hbw
      have HX := hide (And.intro hbw how)
      clear hwr hbw how CK d0 d1 d2 d3 hp
      go_wp2_with fail
      refine (unhide CK1).mono ?_
      rintro e w5 ⟨rfl, h5, hb5, ho5⟩
      have HY : Hid (WrN w0 b w (m4 ++ atW ats ++ numW kl) w5) := hide ⟨h5, (unhide HX).1.trans hb5, (unhide HX).2.trans ho5⟩
      clear CK1 h5 hb5 ho5 HX d5
      go_wp2
      refine bodyPost_end (v := .tuple #[]) (results_none Tryd.results58 _ _ _) rfl ?_
      exact ⟨rfl, unhide HY⟩
end Go.Proofs.YtpfnjgkfombmpaaDoor

/-
  'tree.Bytes': 'tree.walk' under its closure, which writes each node (made by mk_yby.py).
-/
namespace Go.Proofs.YtpfnjgkfombmpaaDoor
open Go.RowKit
set_option linter.unusedVariables false
set_option linter.unusedSimpArgs false

set_option maxHeartbeats 8000000 in
set_option maxRecDepth 100000 in
theorem walk_bytes {σ : Type} (stp : σ → Item → σ × Bool) (Inv : σ → World → Prop) (G : Nat) (w0 : World) (B0 : Nat)
    (fin : σ) (hstab : ∀ s w w', Inv s w → Lib.OthersKept 22 none w w' → Inv s w')
    (C : ∀ (s : σ) (k sp : Int) (n : ByteArray) (ats : List (ByteArray × ByteArray)) (tx : ByteArray) (kids rest : Forest) (g o d : Nat) (w : World), Inv s w → Below w0.heap.size w0 w → B0 ≤ w.heap.size → Lies (.cons k sp n ats tx kids rest) g o w0 → SmF (.cons k sp n ats tx kids rest) → d ≤ 2000000 → (∃ r, tell stp s (⟨k, sp, n, ats, tx, kids, d⟩ :: r) = fin) →
      Calls Tryd.prog 57 #[.pointer (some ⟨g, o, none⟩), .int .i64 (d : Int), .pointer (some ⟨G, 0, none⟩)] w fun e w' => e = .returned (.bool (stp s ⟨k, sp, n, ats, tx, kids, d⟩).2) ∧ Inv (stp s ⟨k, sp, n, ats, tx, kids, d⟩).1 w' ∧ Below w0.heap.size w0 w' ∧ KeepN w w')
    (f : Forest) (q : Option Addr) (cap : Nat) (w : World) (hf : Fo q f w0) (hsmf : SmF f) (hcap : f.len ≤ cap) (hc : f.count ≤ 1000000) (s : σ) (hfin : tell stp s (items f 1) = fin) (hI : Inv s w) (hb : Below w0.heap.size w0 w) (hB : w0.heap.size ≤ B0) (hB2 : B0 ≤ w.heap.size) :
    Calls Tryd.prog 34 #[.slice q f.len cap, .func (.func 57) #[] #[.pointer (some ⟨G, 0, none⟩)]] w fun e w' => e = .returned (.tuple #[]) ∧ Inv (tell stp s (items f 1)) w' ∧ Below w0.heap.size w0 w' := by
  rw [hfin]
  have HC := hide C
  have HST := hide hstab
  obtain ⟨i0, hi0, hi1, hi2, hi3⟩ := info_parts infoNodes0
  have hrow0 : (w.alloc (Obj.cells #[.slice q f.len cap] 22)).ownsRow w.heap.size 22 1 (.slice (some ⟨w.heap.size, 0, none⟩) 1 1) 1 [.slice q f.len cap] :=
    ⟨rfl, Or.inr ⟨w.heap.size, 1, #[.slice q f.len cap], rfl, Nat.le_refl _, Blk.new w _ _, Nat.le_refl _, by unfold maxLen; omega, rfl, rfl⟩⟩
  have HAT : Hid (WalkAtS stp Inv w0 w.heap.size fin (2 * f.count + 1) (.slice (some ⟨w.heap.size, 0, none⟩) 1 1) (w.alloc (Obj.cells #[.slice q f.len cap] 22))) := hide ⟨[(f, q, cap)], s, by simpa [cnt] using hc, by simp [cnt]; omega, by simp [cnt], fun e he => by rw [List.mem_singleton.1 he]; exact ⟨hf, hcap, hsmf⟩, hrow0, by simp [todo]; exact hfin, hstab s w _ hI ((Lib.OthersKept.refl _ _ _).alloc _), hb.alloc hb.size _, by simp⟩
  clear C hstab hrow0 hI hf
  go_enter Tryd.func34, Tryd.ntmps34
  go_wp2
  go_loopg [4] (2 * f.count + 1) (fun gk left wr => WalkAtS stp Inv w0 w.heap.size fin gk left wr)
  case atStart => exact unhide HAT
  case round =>
    clear HAT
    obtain ⟨st, s', hc1, hc2, hgk, hok, hrow, htl, hinv, hbw, hsz⟩ := hrel
    match st, hc1, hc2, hgk, hok, hrow, htl with
    | [], hc1, hc2, hgk, hok, hrow, htl =>
      obtain ⟨a4, cap4, rfl⟩ := slice_n hrow
      have HF : Hid (s' = fin) := hide htl
      have HX := hide (And.intro hinv hbw)
      simp only [List.length_nil]
      clear htl hok hrow hinv hbw
      go_wp2
      refine bodyPost_end (v := .tuple #[]) (results_none Tryd.results34 _ _ _) rfl ?_
      exact ⟨rfl, by rw [← unhide HF]; exact (unhide HX).1, (unhide HX).2⟩
    | (fo, qe, ce) :: st, hc1, hc2, hgk, hok, hrow, htl =>
      rw [rowOf_cons] at hrow
      obtain ⟨b, capb, rfl, hbb, hcb, c0, cf0, hblt, hpop, hset⟩ := row_last hrow (rowOf_len st)
      have HTY := hide (row_ty hrow)
      have hoke := hok (fo, qe, ce) (List.mem_cons_self ..)
      have HOK := hide (show StackOkS w0 st from fun e he => hok e (List.mem_cons_of_mem _ he))
      have hln : (st.length : Int) + 1 ≤ 1000001 := by simp at hc2; omega
      have hcbi : (st.length : Int) + 1 ≤ (capb : Int) := by omega
      cases fo with
      | nil =>
        have HT : Hid (tell stp s' (todo (st.map (·.1))) = fin) := hide htl
        have HX := hide (And.intro hinv (And.intro hbw (And.intro hsz hpop)))
        have hg' : 2 * cnt st + st.length < gk := by simp [cnt, Forest.count] at hgk; omega
        have hc1' : cnt st ≤ 1000000 := by simp [cnt, Forest.count] at hc1; omega
        have hc2' : st.length + cnt st ≤ 1000001 := by simp [cnt, Forest.count] at hc2; omega
        simp only [Entry.val, Forest.len] at c0
        clear htl hok hrow hinv hbw hset hpop hoke hgk hc1 hc2
        go_wp2
        go_roundg (2 * cnt st + st.length)
        case measure => exact hg'
        case rel => exact ⟨st, s', hc1', hc2', rfl, unhide HOK, (unhide HX).2.2.2, unhide HT, (unhide HX).1, (unhide HX).2.1, (unhide HX).2.2.1⟩
      | cons k sp n ats tx kids rest =>
        obtain ⟨hfo, hce, hsm⟩ := hoke
        have HSM := hide (show SmF (.cons k sp n ats tx kids rest) from hsm)
        rcases hfo with h | ⟨g, o, hq, hl⟩
        · cases h
        have hq' : qe = some ⟨g, o, none⟩ := hq
        subst hq'
        have hlr := hl.2
        have hll := hl
        obtain ⟨⟨_, _, _, _, _, ⟨qk, ck, l5, hck, hfk⟩⟩, _⟩ := hl
        have hce' : rest.len + 1 ≤ ce := hce
        have hcei : (rest.len : Int) + 1 ≤ (ce : Int) := by omega
        have hrl : (rest.len : Int) + 1 ≤ 1000001 := by
          have := rest.len_count
          simp [cnt, Forest.count] at hc1
          omega
        simp only [Entry.val, Forest.len] at c0
        have HP := hide hset
        have HTO : Hid (tell stp s' (todo ((Forest.cons k sp n ats tx kids rest) :: st.map (·.1))) = tell stp s' (⟨k, sp, n, ats, tx, kids, st.length + 1⟩ :: (items kids (st.length + 1 + 1) ++ (items rest (st.length + 1) ++ todo (st.map (·.1)))))) := hide (by show tell stp s' (items (Forest.cons k sp n ats tx kids rest) ((st.map (·.1)).length + 1) ++ todo (st.map (·.1))) = _; rw [List.length_map]; show tell stp s' (_ :: (items kids (st.length + 1 + 1) ++ items rest (st.length + 1)) ++ todo (st.map (·.1))) = _; rw [List.cons_append, List.append_assoc])
        have CC := hide (fun w h1 h2 h3 => unhide HC s' k sp n ats tx kids rest g o (st.length + 1) w h1 h2 h3 hll (unhide HSM) (by omega) ⟨_, (unhide HTO).symm.trans htl⟩)
        have e1 : ((rest.len : Int) + 1 == 0) = false := beq_eq_false_iff_ne.2 (by omega)
        have HX := hide (And.intro hinv (And.intro hbw (And.intro hsz (And.intro hc1 (And.intro hc2 (And.intro hgk htl))))))
        have HKD := hide (And.intro hll (And.intro hlr (And.intro l5 (And.intro hck hfk))))
        clear hok hrow hpop hce hset hinv hbw hsz hc1 hc2 hgk htl hll hlr l5 hck hfk hce'
        have HRN : Hid (rest.len = rest.len) := hide rfl
        obtain ⟨rl, hrlq⟩ : ∃ rl, rest.len = rl := ⟨_, rfl⟩
        obtain ⟨sl, hslq⟩ : ∃ sl, st.length = sl := ⟨_, rfl⟩
        rw [hrlq] at c0 hcei hrl e1
        rw [hslq] at c0 cf0 hln hcbi HP hcb CC
        rw [hslq]
        have HQ := hide (And.intro hrlq hslq)
        clear hrlq hslq HRN
        have j1 : (1 : Int) ≤ (rl : Int) + 1 := by omega
        have j2 : (0 : Int) < (rl : Int) + 1 := by omega
        go_upto_region 7 with fail
        generalize hqr : (if ce = 1 then some (⟨g, o, none⟩ : Addr) else some ⟨g, o + 6, none⟩) = qr at *
        have HQR : Hid (Fo qr rest w0) := hide (by
          by_cases h1 : ce = 1
          · left
            have hr0 : rest.len = 0 := by have := (unhide HQ).1; omega
            cases rest with
            | nil => rfl
            | cons _ _ _ _ _ _ r => simp [Forest.len] at hr0
          · right; rw [if_neg h1] at hqr; exact ⟨g, o + 6, hqr.symm, (unhide HKD).2.1⟩)
        clear hqr
        have hb0 : w0.heap.size ≤ b := by omega
        have hX1 : Inv s' (wr.setCell ⟨b, sl, none⟩ (.slice qr rl (ce - 1))) := unhide HST s' wr _ (unhide HX).1 (kept_set (unhide HTY) _)
        have hX2 := (unhide HX).2.1.setCell (p := ⟨b, sl, none⟩) hb0 (.slice qr rl (ce - 1))
        have hX3 : B0 ≤ (wr.setCell ⟨b, sl, none⟩ (.slice qr rl (ce - 1))).heap.size := by have := (unhide HX).2.2.1; simp; omega
        have HR := hide (unhide HP (.slice qr rl (ce - 1)))
        have HZ : Hid ((wr.setCell ⟨b, sl, none⟩ (.slice qr rl (ce - 1))).heap.size = wr.heap.size) := hide (by simp)
        go_wp2_with fail
        refine (unhide CC _ hX1 hX2 hX3).mono ?_
        rintro e3 W3 ⟨rfl, hI3, hb3, hs3⟩
        clear hX1 hX2 hX3 CC
        obtain ⟨s2, bb, hst⟩ : ∃ s2 bb, stp s' ⟨k, sp, n, ats, tx, kids, sl + 1⟩ = (s2, bb) := ⟨_, _, rfl⟩
        rw [hst] at hI3 ⊢
        cases bb with
        | false =>
          have HFN : Hid (s2 = fin) := hide (by
            have h1 := (unhide HX).2.2.2.2.2.2
            rw [show (((Forest.cons k sp n ats tx kids rest, (some ⟨g, o, none⟩ : Option Addr), ce) :: st).map (·.1)) = Forest.cons k sp n ats tx kids rest :: st.map (·.1) from rfl, unhide HTO, (unhide HQ).2, tell, hst] at h1
            simpa using h1)
          have HY := hide (And.intro hI3 hb3)
          clear hI3 hb3 hs3 hst
          go_wp2
          refine bodyPost_ret (v := .tuple #[]) (results_none Tryd.results34 _ _ _) rfl ?_
          exact ⟨rfl, by rw [← unhide HFN]; exact (unhide HY).1, (unhide HY).2⟩
        | true =>
          have HFN : Hid (tell stp s2 (items kids (sl + 1 + 1) ++ (items rest (sl + 1) ++ todo (st.map (·.1)))) = fin) := hide (by
            have h1 := (unhide HX).2.2.2.2.2.2
            rw [show (((Forest.cons k sp n ats tx kids rest, (some ⟨g, o, none⟩ : Option Addr), ce) :: st).map (·.1)) = Forest.cons k sp n ats tx kids rest :: st.map (·.1) from rfl, unhide HTO, (unhide HQ).2, tell, hst] at h1
            simpa using h1)
          obtain ⟨hll, hlr, l5, hck, hfk⟩ := unhide HKD
          have k5 : W3.cell? ⟨g, o + 5, none⟩ = some (.slice qk kids.len ck) := cell_later hb3 l5
          have hrow3 := ownsRow_keep (unhide HR) hs3
          have hsz3 : w.heap.size ≤ W3.heap.size := by have h1 := hs3.1; rw [unhide HZ] at h1; have := (unhide HX).2.2.1; omega
          have hlb : ∀ j, some j = (Value.slice (some ⟨b, 0, none⟩) (sl + 1) capb).ownBlock → w.heap.size ≤ j := fun j hj => (hrow3.lt j hj.symm).1
          have HY := hide (And.intro hI3 (And.intro hb3 (And.intro hfk hck)))
          clear hI3 hb3 hs3 hst hll hlr l5 hck hfk
          go_wp2_with (at_builtin; refine wpList_append_own _ rfl _ _ 89 rfl w.heap.size 22 i0 (.slice none 0 0) 1 24 Tryd.underlying89 hi0 hi1 hi2 hi3 rfl (by decide) _ _ _ rfl (hrow3.alloc _) ⟨W3.heap.size, 0, none⟩ 1 1 [.slice qk kids.len ck] rfl rfl ?c1 ?c2 ?c3 ?c4 ?c5 ?_)
          case c1 => intro j u hj; exact lit1 hj
          case c2 => intro u hu; simp at hu; rw [hu]; rfl
          case c3 => unfold maxLen; omega
          case c4 => omega
          case c5 => simp; omega
          intro v' w5 hrow5 hgrow5 _
          obtain ⟨a5, c5, hv5⟩ := slice_n hrow5
          subst hv5
          have hbL := (unhide HY).2.1.alloc (unhide HY).2.1.size (Obj.cells #[.slice qk kids.len ck] 22)
          have hb5 := hbL.grown hgrow5 hbL.size (fun j hj => by have := hlb _ hj.symm; omega)
          have hI5 : Inv s2 w5 := unhide HST s2 W3 w5 (unhide HY).1 (((Lib.OthersKept.refl _ _ _).alloc _).grown hgrow5 (fun g hg => by
            cases hg
            obtain ⟨c, hc⟩ := row_ty (hrow3.alloc (Obj.cells #[.slice qk kids.len ck] 22))
            exact ⟨c, _, hc⟩))
          have hs5 : w.heap.size ≤ w5.heap.size := by
            have := hgrow5.size
            simp at this
            omega
          have HZ5 := hide (And.intro hrow5 (And.intro hb5 (And.intro hI5 hs5)))
          clear hrow5 hgrow5 hbL hb5 hI5 hs5 hrow3 hlb
          go_wp2
          obtain ⟨hrow5, hb5, hI5, hs5⟩ := unhide HZ5
          obtain ⟨_, _, _, hc1, hc2, hgk, _⟩ := unhide HX
          obtain ⟨hrlq, hslq⟩ := unhide HQ
          simp only [cnt, Forest.count, List.length_cons] at hc1 hc2 hgk
          go_roundg (2 * (kids.count + (rest.count + cnt st)) + (st.length + 1 + 1))
          case measure => omega
          case rel =>
            refine ⟨(kids, qk, ck) :: (rest, qr, ce - 1) :: st, s2, ?_, ?_, rfl, ?_, ?_, ?_, hI5, hb5, hs5⟩
            · show kids.count + (rest.count + cnt st) ≤ 1000000; omega
            · show st.length + 1 + 1 + (kids.count + (rest.count + cnt st)) ≤ 1000001; omega
            · intro e he
              rcases List.mem_cons.1 he with rfl | he
              · exact ⟨(unhide HY).2.2.1, (unhide HY).2.2.2, (unhide HSM).2.1⟩
              rcases List.mem_cons.1 he with rfl | he
              · exact ⟨unhide HQR, by show rest.len ≤ ce - 1; omega, (unhide HSM).2.2⟩
              · exact unhide HOK e he
            · rw [rowOf_cons, rowOf_cons, List.append_assoc, List.length_cons, List.length_cons, hslq]
              show w5.ownsRow _ _ _ _ _ (rowOf st ++ ([.slice qr rest.len (ce - 1)] ++ [.slice qk kids.len ck]))
              rw [hrlq]; exact hrow5
            · rw [← unhide HFN]
              show tell stp s2 (items kids ((rest :: st.map (·.1)).length + 1) ++ (items rest ((st.map (·.1)).length + 1) ++ todo (st.map (·.1)))) = _
              rw [List.length_cons, List.length_map, hslq]




/-! ### tree.Bytes -/
def byStep (l : List UInt8) (it : Item) : List UInt8 × Bool := (l ++ nodeL it.k it.sp it.n it.ats it.tx it.kids.len, true)
def byF : Forest → List UInt8
  | .nil => []
  | .cons k sp n ats tx kids rest => nodeL k sp n ats tx kids.len ++ (byF kids ++ byF rest)
theorem tell_by_app : ∀ (l1 l2 : List Item) (s : List UInt8), tell byStep s (l1 ++ l2) = tell byStep (tell byStep s l1) l2
  | [], l2, s => rfl
  | it :: l1, l2, s => by
    show tell byStep (byStep s it).1 (l1 ++ l2) = tell byStep (tell byStep (byStep s it).1 l1) l2
    exact tell_by_app l1 l2 _
theorem tell_by : ∀ (f : Forest) (d : Nat) (s : List UInt8), tell byStep s (items f d) = s ++ byF f
  | .nil, d, s => by show s = s ++ []; simp
  | .cons k sp n ats tx kids rest, d, s => by
    show tell byStep (s ++ nodeL k sp n ats tx kids.len) (items kids (d + 1) ++ items rest d) = _
    rw [tell_by_app, tell_by kids, tell_by rest, byF]
    simp only [List.append_assoc]
theorem tell_by_len : ∀ (l : List Item) (s : List UInt8), s.length ≤ (tell byStep s l).length
  | [], s => Nat.le_refl _
  | it :: l, s => by
    show s.length ≤ (tell byStep (byStep s it).1 l).length
    refine Nat.le_trans ?_ (tell_by_len l _)
    show s.length ≤ (s ++ nodeL it.k it.sp it.n it.ats it.tx it.kids.len).length
    rw [List.length_append]; omega
theorem atW_len (ats : List (ByteArray × ByteArray)) (hf : Fits ats) : ∀ (m j : Nat), ats.length - j = m → (atW (ats.drop j)).length ≤ 20014 * m
  | 0, j, h => by rw [List.drop_eq_nil_of_le (by omega)]; exact Nat.zero_le _
  | m + 1, j, h => by
    have h1 := atW_len ats hf m (j + 1) (by omega)
    rw [atW_drop ats j (by omega), List.length_append, List.length_append]
    have h2 := hf.2 j (by omega)
    have h3 := tb_len (an ats j)
    have h4 := tb_len (av ats j)
    omega
theorem node_len (k sp : Int) (n : ByteArray) (ats : List (ByteArray × ByteArray)) (tx : ByteArray) (kl : Nat) (ht : tx.size ≤ 5000) (hn : n.size ≤ 5000) (hf : Fits ats) : (nodeL k sp n ats tx kl).length ≤ 21000000 := by
  unfold nodeL
  have h1 := numW_len k
  have h2 := numW_len sp
  have h3 := numW_len ats.length
  have h4 := numW_len kl
  have h5 := tb_len n
  have h6 := tb_len tx
  have h7 := atW_len ats hf _ 0 rfl
  have h8 := hf.1
  rw [List.drop_zero] at h7
  split
  · simp only [List.length_append]; omega
  · simp only [List.length_append]; omega
theorem by_len : ∀ (f : Forest), SmF f → (byF f).length ≤ 21000000 * f.count
  | .nil, _ => Nat.zero_le _
  | .cons k sp n ats tx kids rest, h => by
    have h1 := by_len kids h.2.1
    have h2 := by_len rest h.2.2
    have h3 := node_len k sp n ats tx kids.len h.1.1 h.1.2.1 h.1.2.2.1
    rw [byF, List.length_append, List.length_append]
    simp only [Forest.count]
    omega
theorem wrt_keepS {B b : Nat} {er : Int} {l : List UInt8} {w w' : World} (h : Wrt B b er l w) (ho : OthS b w w') : KeepN w w' := by
  obtain ⟨p, v, hp, hB, hbk, hown, hne⟩ := wrt_any h
  refine ⟨ho.2, fun k c hk => ho.1 k _ hk ?_ ?_⟩
  · intro e
    injection e with e
    rw [e, hbk] at hk
    injection hk with hk
    injection hk with _ hk
    revert hk; decide
  · intro c' fz e
    injection e with _ e
    revert e; decide
theorem num_ne (n : Nat) (h : n ≤ 1099511627776) (l : List UInt8) : numW n ++ l ≠ [] := by
  unfold numW
  rw [if_pos (by omega), nb_cons]
  simp
def bytesL (f : Forest) : List UInt8 := numW f.len ++ byF f
set_option maxHeartbeats 4000000 in
theorem bytes1_any (w0 : World) (b : Nat) (l : List UInt8) (d k sp : Int) (n : ByteArray) (ats : List (ByteArray × ByteArray)) (tx : ByteArray) (kids rest : Forest) (g o : Nat) (w : World) (h : Wrt w0.heap.size b 0 l w) (hb : Below w0.heap.size w0 w) (hl : Lies (.cons k sp n ats tx kids rest) g o w0) (hs : SmF (.cons k sp n ats tx kids rest)) (hlen : (l ++ nodeL k sp n ats tx kids.len).length ≤ 10000000000000) :
    Calls Tryd.prog 57 #[.pointer (some ⟨g, o, none⟩), .int .i64 d, .pointer (some ⟨b, 0, none⟩)] w fun e w' => e = .returned (.bool true) ∧ WrN w0 b w (l ++ nodeL k sp n ats tx kids.len) w' := by
  have C : Calls Tryd.prog 58 #[.pointer (some ⟨b, 0, none⟩), .pointer (some ⟨g, o, none⟩)] w fun e w' => e = .returned (.tuple #[]) ∧ WrN w0 b w (l ++ nodeL k sp n ats tx kids.len) w' := by
    by_cases hk : k = 1
    · subst hk
      exact wnode_elem w0 b l sp n ats tx kids rest g o w h hb hl hs hlen
    · exact wnode_text w0 b l k sp n ats tx kids rest g o w hk h hb hl hs (by rw [List.length_append] at hlen; omega)
  have HC := hide C
  clear C h hb hl hs hlen
  generalize l ++ nodeL k sp n ats tx kids.len = L at *
  go_enter Tryd.func57, Tryd.ntmps57
  go_wp2_with fail
  refine (unhide HC).mono ?_
  rintro e w1 ⟨rfl, h1⟩
  obtain ⟨p, v, hp, hB, hbk, _⟩ := wrt_any h1.1
  have c2 : w1.cell? ⟨b, 2, none⟩ = some (.int .i64 0) := by rw [Lib.cell_of_heap hbk]; rfl
  have HX := hide h1
  clear h1 hbk HC hp hB
  go_wp2
  go_ret
  exact ⟨rfl, unhide HX⟩
def bytesV (f : Forest) : List UInt8 := if checkN f = 0 then bytesL f else []
set_option maxHeartbeats 4000000 in
theorem tbytes_any (f : Forest) (q : Option Addr) (cap : Nat) (w : World) (ht : Tabs w) (hf : Fo q f w) (hs : SmF f) (hcap : f.len ≤ cap) (hc : f.count ≤ 100000) :
    Calls Tryd.prog 29 #[.slice q f.len cap] w fun e w' => e = .returned (.tuple #[.string (bs (bytesV f)), .int .i64 (checkN f)]) ∧ Below w.heap.size w w' := by
  have CC := hide (check_any f q cap w ht hf hs hcap (by omega))
  unfold bytesV
  by_cases h0 : checkN f = 0
  · rw [if_pos h0]
    rw [h0] at CC ⊢
    have hbl := by_len f hs
    have hn7 := numW_len f.len
    have CN := hide (fun (W : World) => wnum_any W.heap.size W.heap.size 0 [] f.len (W.alloc (.cells #[.pointer none, .slice none 0 0, .int .i64 0] 79)) (wrt_new W) (by simp) (by simp))
    have CW := hide (fun (W V : World) (hW : Below w.heap.size w W) (hV : Below W.heap.size W V) (hVs : W.heap.size + 1 ≤ V.heap.size) (hI : Wrt W.heap.size W.heap.size 0 (numW f.len) V) => walk_bytes byStep (fun l V => Wrt W.heap.size W.heap.size 0 l V) W.heap.size W (W.heap.size + 1) (bytesL f)
      (fun l V V' h hk => wrt_kept h hk)
      (fun l k sp n ats tx kids rest g o d V hI hb hB hl hsm hd hr => (bytes1_any W W.heap.size l d k sp n ats tx kids rest g o V hI hb hl hsm (by
          obtain ⟨r, hr⟩ := hr
          have hr : tell byStep (byStep l ⟨k, sp, n, ats, tx, kids, d⟩).1 r = bytesL f := hr
          have h1 := tell_by_len r (byStep l ⟨k, sp, n, ats, tx, kids, d⟩).1
          rw [hr] at h1
          have h2 : (byStep l ⟨k, sp, n, ats, tx, kids, d⟩).1 = l ++ nodeL k sp n ats tx kids.len := rfl
          rw [h2] at h1
          have h3 : (bytesL f).length ≤ 10000000000000 := by unfold bytesL; rw [List.length_append]; omega
          omega)).mono fun e V' ⟨h1, h2, h3, h4⟩ => ⟨h1, h2, h3, wrt_keepS hI h4⟩)
      f q cap V (hf.below hW) hs hcap (by omega) (numW f.len) (tell_by f 1 (numW f.len)) hI hV (by omega) hVs)
    have hne : bytesL f ≠ [] := num_ne f.len (by have := f.len_count; omega) _
    have CS := hide (fun (W V : World) (hI : Wrt W.heap.size W.heap.size 0 (bytesL f) V) => wstring_any W.heap.size W.heap.size 0 (bytesL f) V hI hne)
    rw [tell_by f 1 (numW f.len), show numW f.len ++ byF f = bytesL f from rfl] at CW
    rw [List.nil_append] at CN
    have hlb : (f.len : Int) ≤ 1000000 := by have := f.len_count; omega
    generalize bytesL f = L at *
    generalize numW f.len = N at *
    generalize f.len = fl at *
    clear hf hs ht hbl hn7 hne h0
    go_enter Tryd.func29, Tryd.ntmps29
    go_wp2_with fail
    refine (unhide CC).mono ?_
    rintro e w1 ⟨rfl, hb1⟩
    have CN1 := hide (unhide CN w1)
    have HB1 := hide hb1
    clear CC CN hb1
    go_wp2_with fail
    refine (unhide CN1).mono ?_
    rintro e w2 ⟨rfl, h2, hb2, ho2⟩
    have hbA := (Below.refl w1.heap.size w1).alloc (Nat.le_refl _) (Obj.cells #[.pointer none, .slice none 0 0, .int .i64 0] 79)
    have hB2 := hbA.trans hb2
    have hs2 : w1.heap.size + 1 ≤ w2.heap.size := by have := ho2.2; simp at this; omega
    have CW1 := hide (unhide CW w1 w2 (unhide HB1) hB2 hs2 h2)
    clear CW CN1 h2 hb2 ho2 hbA hB2 hs2
    go_wp2_with fail
    refine (unhide CW1).mono ?_
    rintro e w3 ⟨rfl, h3, hb3⟩
    obtain ⟨p, v, hp, hB, hbk, _⟩ := wrt_any h3
    have c2 : w3.cell? ⟨w1.heap.size, 2, none⟩ = some (.int .i64 0) := by rw [Lib.cell_of_heap hbk]; rfl
    have CS1 := hide (unhide CS w1 w3 h3)
    have HB3 := hide hb3
    clear CW1 CS h3 hb3 hbk hp hB
    go_wp2_with fail
    refine (unhide CS1).mono ?_
    rintro e w4 ⟨rfl, hb4⟩
    have HB4 := hide (tr2 (unhide HB1) ((unhide HB3).trans hb4))
    clear CS1 hb4 HB3 HB1 c2
    go_wp2
    go_ret2
    exact ⟨rfl, unhide HB4⟩
  · rw [if_neg h0]
    have hbe : (checkN f == 0) = false := beq_eq_false_iff_ne.2 h0
    generalize checkN f = c at *
    generalize f.len = fl at *
    clear hf hs ht
    go_enter Tryd.func29, Tryd.ntmps29
    go_wp2_with fail
    refine (unhide CC).mono ?_
    rintro e w1 ⟨rfl, hb1⟩
    go_wp2
    go_ret2
    exact ⟨rfl, hb1⟩
end Go.Proofs.YtpfnjgkfombmpaaDoor
