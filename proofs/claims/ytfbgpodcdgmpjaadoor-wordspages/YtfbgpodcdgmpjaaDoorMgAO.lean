/-
  Several texts in one: what the functions of the program and of the document's answer do.
-/
import Derived.Test.YtfbgpodcdgmpjaaDoorMgAG
import Derived.Test.YtfbgpodcdgmpjaaDoorMRb
import Derived.Lib.OthersKept
import Derived.Lib.BufferKept
import Derived.Test.YtfbgpodcdgmpjaaDoorRows
import Derived.Test.YtfbgpodcdgmpjaaDoorBase
import Derived.Shelf.Strings.Builder1

/-
  Pieces in memory; what 'words.appendAll' does.
-/
namespace Go.Proofs.YtfbgpodcdgmpjaaDoor
open Go.RowKit
set_option linter.unusedVariables false
set_option linter.unusedSimpArgs false

theorem infoPiece0 : (Tryd.prog.info? 36).map (fun i => (i.zero, i.size, i.bytes)) = some (some (.agg #[.int .i64 0, .string ⟨#[]⟩]), 2, 24) := by kernel_rfl
def flatQ : List Pc → List Value
  | [] => []
  | p :: r => [.int .i64 p.1, .string p.2] ++ flatQ r
theorem flatQ_app (L M : List Pc) : flatQ (L ++ M) = flatQ L ++ flatQ M := by
  induction L with
  | nil => rfl
  | cons p r ih => rw [List.cons_append, flatQ, flatQ, ih, List.append_assoc]
theorem flatQ_len (L : List Pc) : (flatQ L).length = L.length * 2 := by
  induction L with
  | nil => rfl
  | cons p r ih => rw [flatQ, List.length_append, ih]; simp only [List.length_cons, List.length_nil]; omega
/-- Pieces that a call owns. -/
def PcsV (w : World) (base : Nat) (v : Value) (L : List Pc) : Prop := w.ownsRow base 36 2 v L.length (flatQ L)
theorem pcs_nil (w : World) (base : Nat) : PcsV w base (.slice none 0 0) [] := World.ownsRow_nil _ _ _ _
theorem cell_two_new (w : World) (x y : Value) (t : TypeId) : ∀ j u, [x, y][j]? = some u → (w.alloc (Obj.cells #[x, y] t)).cell? ((⟨w.heap.size, 0, none⟩ : Addr).add j) = some u := by
  intro j u h
  have hj := (List.getElem?_eq_some_iff.1 h).1
  have e : (⟨w.heap.size, 0, none⟩ : Addr).add j = ⟨w.heap.size, 0 + j, none⟩ := by unfold Addr.add; split <;> simp_all
  rw [e, Nat.zero_add]
  exact ((Blk.new w #[x, y] t).cell j).trans (by simpa using h)
theorem owns_kind {w : World} {base : Nat} {e : TypeId} {size : Nat} {v : Value} {n : Nat} {xs : List Value} (h : w.ownsRow base e size v n xs) : ∀ g, v.ownBlock = some g → ∃ c fz, w.heap[g]? = some (.cells c e fz) := by
  intro g hg
  rcases h.2 with ⟨h1, _⟩ | ⟨g', cap, cur, h1, h2, h3, _⟩
  · rw [h1] at hg; cases hg
  · rw [h1] at hg
    have : g' = g := by simpa [Value.ownBlock] using hg
    subst this
    exact ⟨cur, (0, 0), h3⟩
theorem pcs_snoc {w : World} {base : Nat} {v : Value} {M : List Pc} {k : Int} {s : ByteArray} (h : w.ownsRow base 36 2 v (M.length + 1) (flatQ M ++ [.int .i64 k, .string s])) : PcsV w base v (M ++ [(k, s)]) := by
  unfold PcsV
  rw [List.length_append, flatQ_app]
  exact h
/-- What a call leaves that appends pieces to a row of base B. -/
def ApSaid (base : Nat) (L : List Pc) (w : World) (e : Ending) (w' : World) : Prop := ∃ v, e = .returned v ∧ PcsV w' base v L ∧ Below base w w' ∧ Lib.OthersKept 36 none w w'
set_option maxHeartbeats 1000000 in
theorem appendAll_any (base : Nat) (v : Value) (L : List Pc) (k : Int) (q : Option Addr) (n c : Nat) (ss : List ByteArray) (w : World) (hv : PcsV w base v L) (hs : ∀ W, Below base w W → Lib.OthersKept 36 none w W → View W (.slice q n c) ss) (hbw : base ≤ w.heap.size) (hl : L.length + ss.length ≤ 1000000) :
    Calls Tryd.prog 25 #[v, .int .i64 k, .slice q n c] w (ApSaid base (L ++ tk k ss) w) := by
  obtain ⟨i0, hi0, hi1, hi2, hi3⟩ := info_parts infoPiece0
  have hn : n = ss.length := by obtain ⟨_, a, c', e, _⟩ := hs w (Below.refl _ _) (Lib.OthersKept.refl _ _ _); cases e; rfl
  subst hn
  have HV := hide hs
  have H0 := hide hv
  obtain ⟨vq, vn, vc, hvs⟩ := slice_of hv
  subst hvs
  unfold ApSaid
  clear hs hv
  go_enter Tryd.func25, Tryd.ntmps25
  go_wp2
  go_loopw [11, 0] (fun i u wr => ∃ j : Nat, j ≤ ss.length ∧ i = .int .i64 (j : Int) ∧ PcsV wr base u (L ++ tk k (ss.take j)) ∧ Below base w wr ∧ Lib.OthersKept 36 none w wr) (fun i _ _ => ss.length - (intOf i).toNat)
  case atStart => exact ⟨0, Nat.zero_le _, rfl, by rw [List.take_zero]; show PcsV w base _ (L ++ []); rw [List.append_nil]; exact unhide H0, Below.refl _ _, Lib.OthersKept.refl _ _ _⟩
  case round =>
    obtain ⟨j, hj, rfl, hrow, hbx, hok⟩ := hrel
    obtain ⟨uq, un, uc, hu⟩ := slice_of hrow
    subst hu
    have HR := hide hrow
    have HBX := hide hbx
    have HOK := hide hok
    have hz := hbx.size
    by_cases hp : j < ss.length
    · have hpi : (j : Int) < (ss.length : Int) := by omega
      obtain ⟨bb, ob, rfl, cS⟩ := view_atR (unhide HV wr hbx hok) (Below.refl _ _) j hp
      have HT : Hid (tk k (ss.take (j + 1)) = tk k (ss.take j) ++ [(k, tx ss j)]) := hide (by
        unfold tk tx
        rw [List.take_add_one, List.getElem?_eq_getElem hp, List.getD, List.getElem?_eq_getElem hp, List.map_append]; rfl)
      have hlen : (L ++ tk k (ss.take j)).length ≤ 1000000 := by rw [List.length_append, tk_len, List.length_take]; omega
      generalize tx ss j = s at *
      obtain ⟨M, hM⟩ : ∃ M, M = L ++ tk k (ss.take j) := ⟨_, rfl⟩
      rw [← hM] at HR hlen
      have HM := hide hM
      unfold PcsV at HR
      clear hM
      clear hrow hbx hok
      go_wp2_with (at_builtin; refine wpList_append_own_at _ rfl _ _ 33 rfl base 36 i0 (.agg #[.int .i64 0, .string ⟨#[]⟩]) 2 24 Tryd.underlying33 hi0 hi1 hi2 hi3 rfl (by decide) (.slice uq un uc) _ _ rfl ((unhide HR).alloc _) ⟨wr.heap.size, 0, none⟩ 1 1 [.int .i64 k, .string s] rfl rfl (cell_two_new _ _ _ _) (by simp [Value.oneCell']) (by simp only [maxLen]; omega) (by omega) (by simp; omega) ?_)
      intro u' w3 hown hgr _ _
      have HO : Hid (PcsV w3 base u' (L ++ tk k (ss.take (j + 1)))) := hide (by
        rw [unhide HT, ← List.append_assoc, ← unhide HM]
        exact pcs_snoc hown)
      have HB3 : Hid (Below base w w3) := hide (((unhide HBX).alloc (Nat.le_trans hbw hz) _).grown hgr (by simp; omega) (fun q hq => ((unhide HR).lt q hq).1))
      have HK3 : Hid (Lib.OthersKept 36 none w w3) := hide (((unhide HOK).alloc _).grown hgr (owns_kind ((unhide HR).alloc _)))
      clear hown hgr
      go_wp2
      go_roundw
      case rel => exact ⟨j + 1, by omega, by go_num, unhide HO, unhide HB3, unhide HK3⟩
      case measure => simp [intOf]; omega
    · have hpi : ¬ (j : Int) < (ss.length : Int) := by omega
      have hje : ss.take j = ss := List.take_of_length_le (by omega)
      have HJ := hide hje
      clear hrow hbx hok hje
      go_wp2
      go_ret
      exact ⟨_, rfl, by have := unhide HR; rw [unhide HJ] at this; exact this, unhide HBX, unhide HOK⟩
end Go.Proofs.YtfbgpodcdgmpjaaDoor

/-
  What the methods of strings.Builder do that the program calls: the library's contracts, laid at this program: the builder holds the bytes that were written, one behind the other, and tells them.
-/
namespace Go.Proofs.YtfbgpodcdgmpjaaDoor
open Go.RowKit
set_option linter.unusedVariables false

def Tryd.renB : Go.Shelf.Ren := ⟨fun | 166 => 35 | 169 => 36 | 240 => 50 | 276 => 62 | n => n,
  fun | 0 => 0 | 3 => 3 | 4 => 4 | 5 => 5 | 9 => 9 | 20 => 20 | 37 => 73 | 70 => 72 | 72 => 75 | 75 => 77 | 80 => 80 | 127 => 100 | 164 => 115 | n => n,
  fun n => n⟩

theorem Tryd.lays166 : Go.Proofs.Lays.n166 Tryd.prog Tryd.renB where
  mixed := by kernel_rfl
  f166 := Tryd.func35.trans (congrArg some (by kernel_rfl))
  f240 := Tryd.func50.trans (congrArg some (by kernel_rfl))
  f276 := Tryd.func62.trans (congrArg some (by kernel_rfl))
  t0 := Tryd.underlying0
  a0 := Tryd.isAgg0
  z0 := Tryd.sizeOf0
  v0 := Tryd.zeroValue0
  t3 := Tryd.underlying3
  a3 := Tryd.isAgg3
  z3 := Tryd.sizeOf3
  v3 := Tryd.zeroValue3
  t4 := Tryd.underlying4
  a4 := Tryd.isAgg4
  z4 := Tryd.sizeOf4
  v4 := Tryd.zeroValue4
  t9 := Tryd.underlying9
  a9 := Tryd.isAgg9
  z9 := Tryd.sizeOf9
  v9 := Tryd.zeroValue9
  t20 := Tryd.underlying20
  a20 := Tryd.isAgg20
  z20 := Tryd.sizeOf20
  v20 := Tryd.zeroValue20
  t37 := Tryd.underlying73
  a37 := Tryd.isAgg73
  z37 := Tryd.sizeOf73
  v37 := Tryd.zeroValue73
  t70 := Tryd.underlying72
  a70 := Tryd.isAgg72
  z70 := Tryd.sizeOf72
  v70 := Tryd.zeroValue72
  t72 := Tryd.underlying75
  a72 := Tryd.isAgg75
  z72 := Tryd.sizeOf75
  v72 := Tryd.zeroValue75
  t75 := Tryd.underlying77
  a75 := Tryd.isAgg77
  z75 := Tryd.sizeOf77
  v75 := Tryd.zeroValue77
  t164 := Tryd.underlying115
  a164 := Tryd.isAgg115
  z164 := Tryd.sizeOf115
  v164 := Tryd.zeroValue115
theorem Tryd.lays169 : Go.Proofs.Lays.n169 Tryd.prog Tryd.renB where
  mixed := by kernel_rfl
  f169 := Tryd.func36.trans (congrArg some (by kernel_rfl))
  t0 := Tryd.underlying0
  a0 := Tryd.isAgg0
  z0 := Tryd.sizeOf0
  v0 := Tryd.zeroValue0
  t3 := Tryd.underlying3
  a3 := Tryd.isAgg3
  z3 := Tryd.sizeOf3
  v3 := Tryd.zeroValue3
  t9 := Tryd.underlying9
  a9 := Tryd.isAgg9
  z9 := Tryd.sizeOf9
  v9 := Tryd.zeroValue9
  t37 := Tryd.underlying73
  a37 := Tryd.isAgg73
  z37 := Tryd.sizeOf73
  v37 := Tryd.zeroValue73
  t70 := Tryd.underlying72
  a70 := Tryd.isAgg72
  z70 := Tryd.sizeOf72
  v70 := Tryd.zeroValue72
  t72 := Tryd.underlying75
  a72 := Tryd.isAgg75
  z72 := Tryd.sizeOf75
  v72 := Tryd.zeroValue75
  t127 := Tryd.underlying100
  a127 := Tryd.isAgg100
  z127 := Tryd.sizeOf100
  v127 := Tryd.zeroValue100
theorem Tryd.extraB : Builder.Extra Tryd.prog Tryd.renB where
  sizeBuilder := by kernel_rfl
  liesBuilder := by kernel_rfl
  t5 := Tryd.underlying5
  a5 := Tryd.isAgg5
  z5 := Tryd.sizeOf5
  v5 := Tryd.zeroValue5
  infoByte := by kernel_rfl
  cellsByte := by kernel_rfl
  sizeByte := by kernel_rfl
  neB5 := by decide

def Bld (B b : Nat) (l : List UInt8) (w : World) : Prop := Lib.IsBuilder 75 5 B b (Lib.byteCells l) w

theorem writeString_any (B b : Nat) (l : List UInt8) (s : ByteArray) (w : World) (h : Bld B b l w) (hlen : l.length + s.size ≤ 140737488355328) (hBw : B ≤ w.heap.size) :
    Calls Tryd.prog 35 #[.pointer (some ⟨b, 0, none⟩), .string s] w fun e w' => e = .returned (.tuple #[.int .i64 s.size, .nilIface]) ∧ Bld B b (l ++ s.data.toList) w' ∧ Below B w w' := by
  refine (Any.Builder_WriteString Tryd.lays166 Tryd.extraB B b (Lib.byteCells l) s w h (by rw [Lib.byteCells_length]; exact hlen) hBw).mono ?_
  rintro e w' ⟨he, hb, hbl⟩
  refine ⟨he, .inr ?_, hbl⟩
  rw [Lib.byteCells_append, ← Lib.strCells_eq]
  exact hb

theorem string_any (B b : Nat) (l : List UInt8) (w : World) (h : Bld B b l w) (h0 : l ≠ []) :
    Calls Tryd.prog 36 #[.pointer (some ⟨b, 0, none⟩)] w fun e w' => e = .returned (.string ⟨l.toArray⟩) ∧ Below B w w' :=
  Any.Builder_String Tryd.lays169 Tryd.extraB B b l w h h0

theorem string_nil (b : Nat) (p : Value) (w : World) (hbk : w.heap[b]? = some (.cells #[p, .slice none 0 0] 75 (0, 0))) :
    Calls Tryd.prog 36 #[.pointer (some ⟨b, 0, none⟩)] w fun e w' => e = .returned (.string ⟨#[]⟩) ∧ Below w.heap.size w w' :=
  Any.Builder_String_nil Tryd.lays169 Tryd.extraB w.heap.size b p w hbk

theorem bld_below {B b : Nat} {l : List UInt8} {w w1 : World} (h : Bld B b l w) (hb : Below w.heap.size w w1) : Bld B b l w1 := by
  have one : ∀ p, Lib.BuilderAt 75 5 B b p (Lib.byteCells l) w → Lib.BuilderAt 75 5 B b p (Lib.byteCells l) w1 := by
    intro p h
    have hlt := h.lt
    obtain ⟨hB, v, hbk, hown, hne⟩ := h
    refine ⟨hB, v, (hb.block b hlt).trans hbk, ?_, hne⟩
    obtain ⟨hl, h⟩ := hown
    refine ⟨hl, ?_⟩
    rcases h with h | ⟨g, cap, cur, h1, h2, h3, h4⟩
    · exact .inl h
    · refine .inr ⟨g, cap, cur, h1, h2, ?_, h4⟩
      have hg : g < w.heap.size := by
        rcases Nat.lt_or_ge g w.heap.size with h | h
        · exact h
        · rw [Array.getElem?_eq_none h] at h3; cases h3
      rw [hb.block g hg]; exact h3
  rcases h with h | h
  · exact .inl (one _ h)
  · exact .inr (one _ h)

theorem bld_new (w : World) : Bld w.heap.size w.heap.size [] (w.alloc (.cells #[.pointer none, .slice none 0 0] 75)) := by
  refine .inl ⟨Nat.le_refl _, .slice none 0 0, ?_, World.ownsRow_nil _ _ _ _, by simp [Value.ownBlock]⟩
  exact heap_alloc_new _ _
end Go.Proofs.YtfbgpodcdgmpjaaDoor
