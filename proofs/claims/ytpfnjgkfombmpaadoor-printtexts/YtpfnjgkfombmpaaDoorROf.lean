/-
  What 'rectoref02.Of' does: of every text that isn't too long all its characters, and whether it is right.
-/
import Derived.Test.YtpfnjgkfombmpaaDoorRAtt
namespace Go.Proofs.YtpfnjgkfombmpaaDoor
open Go.RowKit
set_option linter.unusedVariables false

theorem Tryd.infoInt : (Tryd.prog.info? 3).map (fun i => (i.zero, i.size, i.bytes)) = some (some (.int .i64 0), 1, 8) := by kernel_rfl

def OInv (w : World) (cs : List Int) (r : Bool) (v : Value) (wr : World) : Prop :=
  wr.heap[w.heap.size]? = some (.cells #[.slice none 0 0, .bool false] 128 (0, 0)) ∧ wr.heap[w.heap.size + 1]? = some (.cells #[v, .bool r] 128 (0, 0)) ∧
  wr.ownsRow (w.heap.size + 2) 3 1 v cs.length (cs.map (Value.int .i64)) ∧ Below w.heap.size w wr ∧ w.heap.size + 2 ≤ wr.heap.size

theorem ostart (w : World) : OInv w [] true (.slice none 0 0) ((w.alloc (.cells #[.slice none 0 0, .bool false] 128)).alloc (.cells #[.slice none 0 0, .bool true] 128)) := by
  refine ⟨?_, ?_, World.ownsRow_nil _ _ _ _, ((Below.refl _ _).alloc (Nat.le_refl _) _).alloc (by simp) _, by simp⟩
  · rw [Below.heap_alloc _ _ _ (by simp)]; exact heap_alloc_new _ _
  · have := heap_alloc_new (w.alloc (.cells #[.slice none 0 0, .bool false] 128)) (.cells #[.slice none 0 0, .bool true] 128)
    rw [World.size_alloc] at this
    exact this

theorem ostep {w wr w2 w3 : World} {cs : List Int} {r r' : Bool} {v v' : Value} {T S : Obj} {c : Int}
    (hI : OInv w cs r v wr) (hb : Below wr.heap.size wr w2) (hown' : w3.ownsRow (w.heap.size + 2) 3 1 v' (cs.length + 1) (cs.map (Value.int .i64) ++ [.int .i64 c]))
    (hgrow : ((w2.alloc T).alloc S).grownBy w3 v.ownBlock) :
    OInv w (cs ++ [c]) r' v' ((w3.setCell ⟨w.heap.size + 1, 0, none⟩ v').setCell ⟨w.heap.size + 1, 1, none⟩ (.bool r')) := by
  obtain ⟨h1, h2, h4, h5, h6⟩ := hI
  have hs2 := hb.size
  have hrow : ∀ k, k < w.heap.size + 2 → some k ≠ v.ownBlock := by
    intro k hk e
    have := (h4.lt k e.symm).1
    omega
  have keep : ∀ k, k < w.heap.size + 2 → w3.heap[k]? = wr.heap[k]? := by
    intro k hk
    rw [hgrow.block k (by simp; omega) (hrow k hk), Below.heap_alloc _ _ _ (by simp; omega), Below.heap_alloc _ _ _ (by omega), hb.block k (by omega)]
  have hne : v'.ownBlock ≠ some (w.heap.size + 1) := by
    intro e
    have := (hown'.lt _ e).1
    omega
  have hs3 := hgrow.size
  simp only [World.size_alloc] at hs3
  refine ⟨?_, ?_, ?_, ?_, ?_⟩
  · rw [Below.heap_setCell _ _ _ _ (by simp), Below.heap_setCell _ _ _ _ (by simp), keep _ (by omega)]; exact h1
  · have e3 := (keep (w.heap.size + 1) (by omega)).trans h2
    exact Joins.block_setCell (Joins.block_setCell e3 v') (.bool r')
  · have := ownsRow_setCell_other (ownsRow_setCell_other hown' (a := ⟨w.heap.size + 1, 0, none⟩) hne v') (a := ⟨w.heap.size + 1, 1, none⟩) hne (.bool r')
    simpa using this
  · refine ((h5.trans ?_).setCell (by simp) _).setCell (by simp) _
    refine ⟨?_, ?_, ?_, ?_, fun k hk => keep k (by omega)⟩
    · rw [hgrow.os]; exact hb.os
    · rw [hgrow.tape]; exact hb.tape
    · rw [hgrow.output]; exact hb.output
    · omega
  · simp; omega

theorem ofacts {w wr w2 w3 : World} {cs : List Int} {r : Bool} {v : Value} {S : Obj} {xs : Array Value}
    (hI : OInv w cs r v wr) (hb : Below wr.heap.size wr w2) (hgrow : ((w2.alloc (.cells xs 140)).alloc S).grownBy w3 v.ownBlock) :
    w3.cell? ⟨w.heap.size + 1, 0, none⟩ = some v ∧ w3.cell? ⟨w.heap.size + 1, 1, none⟩ = some (.bool r) ∧ (∀ o, w3.frozen? ⟨w.heap.size + 1, o, none⟩ = false) ∧ (∀ o, w3.cell? ⟨w2.heap.size, o, none⟩ = xs[o]?) := by
  obtain ⟨h1, h2, h4, h5, h6⟩ := hI
  have hs2 := hb.size
  have hlt : ∀ j, v.ownBlock = some j → j < w2.heap.size := fun j e => ((ownsRow_below h4 hb).lt j e).2
  have e1 : w3.heap[w.heap.size + 1]? = some (.cells #[v, .bool r] 128 (0, 0)) := by
    rw [hgrow.block _ (by simp; omega) (fun e => by have := (h4.lt _ e.symm).1; omega), Below.heap_alloc _ _ _ (by simp; omega), Below.heap_alloc _ _ _ (by omega), hb.block _ (by omega)]
    exact h2
  have e2 : w3.heap[w2.heap.size]? = some (.cells xs 140 (0, 0)) := by
    rw [hgrow.block _ (by simp; omega) (fun e => by have := hlt _ e.symm; omega), Below.heap_alloc _ _ _ (by simp)]
    exact heap_alloc_new _ _
  exact ⟨Joins.cell_of_block e1 0, Joins.cell_of_block e1 1, Joins.unfrozen_of_block e1, Joins.cell_of_block e2⟩

def OfPost (w : World) (l : List UInt8) (e : Ending) (w' : World) : Prop :=
  ∃ v, e = .returned (.agg #[v, .bool (rightB l)]) ∧ w'.ownsRow w.heap.size 3 1 v (ch l).length (((ch l).map (·.1)).map (Value.int .i64)) ∧ Below w.heap.size w w'

set_option maxHeartbeats 1000000 in
theorem of_any (s : ByteArray) (w : World) (hs : s.size ≤ 100000) :
    Calls Tryd.prog 100 #[.string s] w fun e w' => OfPost w s.data.toList e w' := by
  obtain ⟨i0, hi, hz0, hz1, hz2⟩ := info_parts Tryd.infoInt
  have hl := data_len s
  have HL := hide hl
  have hcl := ch_len s.size s.data.toList (by omega)
  rw [hl] at hcl
  have HCL := hide hcl
  clear hl hcl
  go_enter Tryd.func100, Tryd.ntmps100
  go_wp2
  go_loopw [4, 5] (fun i t wr => ∃ (k : Nat) (cs : List Int) (r : Bool) (v : Value), k ≤ s.size ∧ i = .int .i64 k ∧ (ch s.data.toList).map (·.1) = cs ++ (ch (s.data.toList.drop k)).map (·.1) ∧ rightB s.data.toList = (r && rightB (s.data.toList.drop k)) ∧ OInv w cs r v wr) (fun i _ _ => s.size - (intOf i).toNat)
  case atStart => exact ⟨0, [], true, .slice none 0 0, Nat.zero_le _, rfl, by simp, by simp, ostart w⟩
  case round =>
    obtain ⟨k, cs, r, v, hk, rfl, hcs, hrr, hI⟩ := hrel
    obtain ⟨va, vn, vc, hvs⟩ := slice_of hI.2.2.1
    subst hvs
    have HCS := hide hcs
    have HRR := hide hrr
    clear hcs hrr
    have HI := hide hI
    obtain ⟨b1, b2, hown, hbw, hsz⟩ := hI
    have HW := hide hbw
    have cO0 := Joins.cell_of_block b2 0
    have cO1 := Joins.cell_of_block b2 1
    have fO := Joins.unfrozen_of_block b2
    have cB := Joins.cell_of_block b1
    have fB := Joins.unfrozen_of_block b1
    simp at cO0 cO1
    clear b1 b2 hbw
    by_cases hlt : k < s.size
    · have hlti : (k : Int) < (s.size : Int) := by omega
      have hne : s.data.toList.drop k ≠ [] := by
        intro e
        have := congrArg List.length e
        rw [List.length_drop, unhide HL] at this; simp at this; omega
      have hok := step_ok hne
      rw [List.length_drop, unhide HL] at hok
      have hc1 := congrArg (fun l => l.map (fun p : Int × Bool => p.1)) (ch_cons hne)
      have hc2 := rightB_cons hne
      have C := hide (fun w => rat_any s k w (by omega) (by omega) hlt)
      simp only [gotStep, got] at C
      rw [List.drop_drop] at hc1 hc2
      generalize hst : step (s.data.toList.drop k) = st at *
      obtain ⟨c, n, ok⟩ := st
      simp only [List.map_cons] at hok C hc1 hc2
      have hn0 : 1 ≤ n := by omega
      have hn3 : k + n ≤ s.size := by omega
      have hn4 : (n : Int) ≤ 4 := by omega
      have hlen : cs.length + 1 ≤ 100000 := by
        have h1 := congrArg List.length (unhide HCS)
        rw [hc1] at h1
        have h2 := unhide HCL
        simp at h1; omega
      have HLEN := hide hlen
      have HC1 := hide hc1
      have HC2 := hide hc2
      clear hc1 hc2 hst hok hne hlen
      go_wp2_with fail
      refine (unhide C _).mono ?_
      rintro e w2 ⟨rfl, hb2⟩
      have hown1 := ownsRow_below hown hb2
      have hz3' : w.heap.size + 1 < w2.heap.size := by have := hb2.size; omega
      have d0 := (hb2.cell (p := ⟨w.heap.size + 1, 0, none⟩) (by show w.heap.size + 1 < wr.heap.size; omega)).trans cO0
      have d1 := (hb2.cell (p := ⟨w.heap.size + 1, 1, none⟩) (by show w.heap.size + 1 < wr.heap.size; omega)).trans cO1
      have f2 := fun o => (hb2.frozen (p := ⟨w.heap.size + 1, o, none⟩) (by show w.heap.size + 1 < wr.heap.size; omega)).trans (fO o)
      go_wp2_with (at_builtin; refine wpList_append_own _ rfl _ _ 126 rfl (w.heap.size + 2) 3 i0 (.int .i64 0) 1 8 Tryd.underlying126 hi hz0 hz1 hz2 rfl (by decide) _ _ _ rfl ((hown1.alloc _).alloc _) ⟨w2.heap.size + 1, 0, none⟩ 1 1 [.int .i64 c] rfl rfl ?c1 ?c2 ?c3 ?c4 ?c5 ?_)
      case c1 =>
        intro j u hj
        match j, hj with
        | 0, hj =>
          simp at hj; subst hj
          simp [Addr.add]
      case c2 => intro u hu; simp at hu; subst hu; rfl
      case c3 => have := unhide HLEN; unfold maxLen; omega
      case c4 => have := unhide HLEN; omega
      case c5 => simp; omega
      intro v' w3 hown' hgrow _
      obtain ⟨g0, g1, gf, gt⟩ := ofacts (unhide HI) hb2 hgrow
      have q1 := gt 1
      have q2 := gt 2
      simp at q1 q2
      have R := fun (r' : Bool) => ostep (r' := r') (unhide HI) hb2 hown' hgrow
      have HR := hide R
      obtain ⟨va', vn', vc', hvs'⟩ := slice_of hown'
      subst hvs'
      clear gt hgrow hown1 d0 d1 f2 hown' R
      cases r with
      | true =>
        go_wp2
        go_roundw
        case rel => exact ⟨k + n, cs ++ [c], ok, _, by omega, by go_num, by rw [unhide HCS, unhide HC1]; simp, by rw [unhide HRR, unhide HC2]; simp, unhide HR ok⟩
        case measure => simp [intOf]; omega
      | false =>
        go_wp2
        go_roundw
        case rel => exact ⟨k + n, cs ++ [c], false, _, by omega, by go_num, by rw [unhide HCS, unhide HC1]; simp, by rw [unhide HRR, unhide HC2]; simp, unhide HR false⟩
        case measure => simp [intOf]; omega
    · have hkn : k = s.size := by omega
      have hd : s.data.toList.drop k = [] := by rw [hkn, ← unhide HL, List.drop_length]
      have e1 : (ch s.data.toList).map (·.1) = cs := by rw [unhide HCS, hd, ch_nil]; simp
      have e2 : rightB s.data.toList = r := by rw [unhide HRR, hd, rightB_nil, Bool.and_true]
      have E1 := hide e1
      have E2 := hide e2
      clear e1 e2 hd hkn
      go_wp2
      refine bodyPost_ret (v := .agg #[.slice va vn vc, .bool r]) (by simp [results, Tryd.results100, go_sem, cB]) rfl ⟨_, by rw [unhide E2], ?_, ?_⟩
      · have hlen : (ch s.data.toList).length = cs.length := by have := congrArg List.length (unhide E1); simpa using this
        rw [hlen, unhide E1]
        refine Joins.ownsRow_le ?_ (show w.heap.size ≤ w.heap.size + 2 by omega)
        exact ownsRow_setCell_below (ownsRow_setCell_below hown (by show w.heap.size < _; omega) _) (by show w.heap.size < _; omega) _
      · exact ((unhide HW).setCell (by simp) _).setCell (by simp) _

/-- A slice value that shows these numbers in a world. -/
def IView (w : World) (v : Value) (cs : List Int) : Prop :=
  ∃ a cap, v = .slice a cs.length cap ∧ (0 < cs.length → ∃ b off, a = some ⟨b, off, none⟩ ∧ ∀ i, i < cs.length → w.cell? ⟨b, off + i, none⟩ = some (.int .i64 (cs.getD i 0)))
theorem iview_of_owns {w : World} {base : Nat} {v : Value} {cs : List Int} {n : Nat} (hn : cs.length = n) (h : w.ownsRow base 3 1 v n (cs.map (Value.int .i64))) : IView w v cs := by
  subst hn
  obtain ⟨_, h⟩ := h
  rcases h with ⟨rfl, h0⟩ | ⟨g, cap, cur, rfl, h1, h2, h3, h4, h5, h6⟩
  · exact ⟨none, 0, by rw [h0], fun h => by omega⟩
  · refine ⟨some ⟨g, 0, none⟩, cap, rfl, fun _ => ⟨g, 0, rfl, fun i hi => ?_⟩⟩
    rw [Joins.cell_of_block h2]
    have e : cur.toList[i]? = some (.int .i64 (cs.getD i 0)) := by
      have : (cur.toList.take (cs.length * 1))[i]? = some (.int .i64 (cs.getD i 0)) := by
        rw [h6, List.getElem?_map, List.getD, List.getElem?_eq_getElem hi]; rfl
      rw [List.getElem?_take] at this
      rw [if_pos (by omega)] at this
      exact this
    simpa using e
theorem IView.below {w w1 : World} {v : Value} {cs : List Int} (h : IView w v cs) (hb : Below w.heap.size w w1) : IView w1 v cs := by
  obtain ⟨a, cap, rfl, hx⟩ := h
  refine ⟨a, cap, rfl, fun h0 => ?_⟩
  obtain ⟨b, off, rfl, hc⟩ := hx h0
  exact ⟨b, off, rfl, fun i hi => cell_later hb (hc i hi)⟩

def OfIs (s : ByteArray) (cs : List Int) (r : Bool) : Prop := ∀ w, Calls Tryd.prog 100 #[.string s] w fun e w' => ∃ v, e = .returned (.agg #[v, .bool r]) ∧ IView w' v cs ∧ Below w.heap.size w w'
theorem ofIs (s : ByteArray) (hs : s.size ≤ 100000) : OfIs s ((ch s.data.toList).map (·.1)) (rightB s.data.toList) := by
  intro w
  refine (of_any s w hs).mono fun e w' h => ?_
  obtain ⟨v, h1, h2, h3⟩ := h
  exact ⟨v, h1, iview_of_owns (by simp) h2, h3⟩
end Go.Proofs.YtpfnjgkfombmpaaDoor
