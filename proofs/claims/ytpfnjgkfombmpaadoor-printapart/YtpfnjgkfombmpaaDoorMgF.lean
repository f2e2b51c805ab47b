/-
  Several texts in one: what the functions of the program and of the document's answer do.
-/
import Derived.Test.YtpfnjgkfombmpaaDoorRAt1
import Derived.Test.YtpfnjgkfombmpaaDoorRAt2
import Derived.Test.YtpfnjgkfombmpaaDoorRAt3
import Derived.Test.YtpfnjgkfombmpaaDoorRAt4
import Derived.Test.YtpfnjgkfombmpaaDoorRAt5
import Derived.Test.YtpfnjgkfombmpaaDoorRAt6

/-
  What 'rectoref02.At' does, told by the plain function.
-/
namespace Go.Proofs.YtpfnjgkfombmpaaDoor
open Go.RowKit
set_option linter.unusedVariables false

def gotStep (l : List UInt8) : Value := got (step l).1 ((step l).2.1 : Int) (step l).2.2
theorem gotStep_none {l : List UInt8} (h : dec l = none) : gotStep l = got 65533 1 false := by simp only [gotStep, step, h]; rfl
theorem gotStep_some {l : List UInt8} {c : Int} {n : Nat} (h : dec l = some (c, n)) : gotStep l = got c n true := by simp only [gotStep, step, h]

def RAtIs (s : ByteArray) (i : Nat) (w : World) (v : Value) : Prop := Calls Tryd.prog 115 #[.string s, .int .i64 (i : Int)] w fun e w' => e = .returned v ∧ Below w.heap.size w w'

theorem at_close (s : ByteArray) (i : Nat) (w : World) (c : Int) (n : Nat) (hs : s.size ≤ 9223372036854775807) (hi2 : i ≤ 9223372036854775000) (hi : i < s.size) (hc : cand (s.data.toList.drop i) = some (c, n))
    (f0 : RIsIs c false → RAtIs s i w (got 65533 1 false))
    (f1 : RIsIs c true → ∀ q, RBytesIs c q → q.size ≤ 4 → (s.size : Int) - (i : Int) < (q.size : Int) → RAtIs s i w (got 65533 1 false))
    (f2 : RIsIs c true → ∀ q, RBytesIs c q → q.size ≤ 4 → (q.size : Int) ≤ (s.size : Int) - (i : Int) → i + q.size ≤ s.size → ((s.extract i (i + q.size)).toList == q.toList) = false → RAtIs s i w (got 65533 1 false))
    (f3 : RIsIs c true → ∀ q, RBytesIs c q → q.size ≤ 4 → (q.size : Int) ≤ (s.size : Int) - (i : Int) → i + q.size ≤ s.size → ((s.extract i (i + q.size)).toList == q.toList) = true → RAtIs s i w (got c (q.size : Int) true)) :
    RAtIs s i w (gotStep (s.data.toList.drop i)) := by
  have hl := data_len s
  have hlen : (s.data.toList.drop i).length = s.size - i := by rw [List.length_drop, hl]
  have hne : s.data.toList.drop i ≠ [] := by
    intro e; rw [e] at hlen; simp at hlen; omega
  cases h : isC c with
  | false =>
    rw [gotStep_none (dec_not hc h)]
    exact f0 (fun w => by have := rIs_any c w; rw [h] at this; exact this)
  | true =>
    have I : RIsIs c true := fun w => by have := rIs_any c w; rw [h] at this; exact this
    have B : RBytesIs c (str (ubI c)) := fun w => rbytes_char c w h
    have hq := str_len c
    have hq4 := sz_le c
    have key := dec_of_cand hne hc h
    rw [hlen] at key
    by_cases g1 : s.size - i < sz c
    · rw [gotStep_none (dec_other hc (fun e => by have := (key.1 e).1; omega))]
      exact f1 I _ B (by omega) (by omega)
    · by_cases g2 : (s.data.toList.drop i).take (sz c) = ub c
      · have e := key.2 ⟨by omega, g2⟩
        rw [gotStep_some (dec_yes hc h e)]
        have := f3 I _ B (by omega) (by omega) (by omega) (beq_yes (by rw [hq, extract_take, g2]; rfl))
        rw [hq, e] at this
        exact this
      · rw [gotStep_none (dec_other hc (fun e => g2 (key.1 e).2))]
        exact f2 I _ B (by omega) (by omega) (by omega) (beq_no (by
          rw [hq, extract_take]
          intro e
          exact g2 (bs_inj e)))

theorem tl_drop (l : List UInt8) (i k : Nat) (h : i ≤ l.length) : (tl (l.drop i) k = true) ↔ (tl l (i + k) = true) := by
  rw [tl_iff, tl_iff, dgt_drop, List.length_drop]
  omega
theorem lo_drop (l : List UInt8) (i k : Nat) : lo (l.drop i) k = lo l (i + k) := by unfold lo; rw [dgt_drop]
theorem lowIs (s : ByteArray) (i k : Nat) (hs : s.size ≤ 9223372036854775807) (hi : i ≤ 9223372036854775000) (hk : k ≤ 3) : LowIs s ((i : Int) + (k : Int)) (lowI s.data.toList (i + k)) := by
  intro w
  have := low_any s (i + k) w (by omega) (by omega)
  rw [Int.natCast_add] at this
  exact this

theorem rat_any (s : ByteArray) (i : Nat) (w : World) (hs : s.size ≤ 9223372036854775807) (hi2 : i ≤ 9223372036854775000) (hi : i < s.size) :
    Calls Tryd.prog 115 #[.string s, .int .i64 (i : Int)] w fun e w' => e = .returned (gotStep (s.data.toList.drop i)) ∧ Below w.heap.size w w' := by
  show RAtIs s i w _
  have hl := data_len s
  have e := dgt_at s i hi
  have b0 := dgt_lt s.data.toList i
  have N1 : RIsIs (-1) false := fun w => rIs_any (-1) w
  have L1 := lowIs s i 1 hs (by omega) (by omega)
  have L2 := lowIs s i 2 hs (by omega) (by omega)
  have L3 := lowIs s i 3 hs (by omega) (by omega)
  have d0 : dgt (s.data.toList.drop i) 0 = dgt s.data.toList i := by rw [dgt_drop]; rfl
  have T := fun k => tl_drop s.data.toList i k (by omega)
  by_cases g5 : 248 ≤ dgt s.data.toList i
  · rw [gotStep_none (dec_none (cand_5 (by omega)))]
    exact at_none5 s i _ _ _ _ w hs hi2 hi e g5 b0 L1 L2 L3 N1
  by_cases g4 : 240 ≤ dgt s.data.toList i
  · have hc := cand_4 (l := s.data.toList.drop i) (by omega) (by omega)
    by_cases t1 : tl s.data.toList (i + 1) = true
    · have q1 := lo_bd t1
      rw [lowI_yes t1] at L1
      by_cases t2 : tl s.data.toList (i + 2) = true
      · have q2 := lo_bd t2
        rw [lowI_yes t2] at L2
        by_cases t3 : tl s.data.toList (i + 3) = true
        · have q3 := lo_bd t3
          rw [lowI_yes t3] at L3
          rw [if_pos ⟨(T 1).2 t1, (T 2).2 t2, (T 3).2 t3⟩, d0, lo_drop, lo_drop, lo_drop] at hc
          exact at_close s i w _ 4 hs hi2 hi hc (fun I => at_4_none s i _ _ _ _ w hs hi2 hi e g4 (by omega) L1 L2 L3 q1.1 q1.2 q2.1 q2.2 q3.1 q3.2 I)
            (fun I q B h1 h2 => at_4_short s i _ _ _ _ w hs hi2 hi e g4 (by omega) L1 L2 L3 q1.1 q1.2 q2.1 q2.2 q3.1 q3.2 I q B h1 h2)
            (fun I q B h1 h2 h3 h4 => at_4_other s i _ _ _ _ w hs hi2 hi e g4 (by omega) L1 L2 L3 q1.1 q1.2 q2.1 q2.2 q3.1 q3.2 I q B h1 h2 h3 h4)
            (fun I q B h1 h2 h3 h4 => at_4_ok s i _ _ _ _ w hs hi2 hi e g4 (by omega) L1 L2 L3 q1.1 q1.2 q2.1 q2.2 q3.1 q3.2 I q B h1 h2 h3 h4)
        · rw [lowI_no t3] at L3
          rw [if_neg (fun h => t3 ((T 3).1 h.2.2))] at hc
          rw [gotStep_none (dec_none hc)]
          exact at_none4c s i _ _ _ 0 w hs hi2 hi e g4 (by omega) L1 L2 L3 q1.1 q1.2 q2.1 q2.2 N1
      · rw [lowI_no t2] at L2
        rw [if_neg (fun h => t2 ((T 2).1 h.2.1))] at hc
        rw [gotStep_none (dec_none hc)]
        exact at_none4b s i _ _ 0 _ w hs hi2 hi e g4 (by omega) L1 L2 L3 q1.1 q1.2 N1
    · rw [lowI_no t1] at L1
      rw [if_neg (fun h => t1 ((T 1).1 h.1))] at hc
      rw [gotStep_none (dec_none hc)]
      exact at_none4a s i _ 0 _ _ w hs hi2 hi e g4 (by omega) L1 L2 L3 N1
  by_cases g3 : 224 ≤ dgt s.data.toList i
  · have hc := cand_3 (l := s.data.toList.drop i) (by omega) (by omega)
    by_cases t1 : tl s.data.toList (i + 1) = true
    · have q1 := lo_bd t1
      rw [lowI_yes t1] at L1
      by_cases t2 : tl s.data.toList (i + 2) = true
      · have q2 := lo_bd t2
        rw [lowI_yes t2] at L2
        rw [if_pos ⟨(T 1).2 t1, (T 2).2 t2⟩, d0, lo_drop, lo_drop] at hc
        exact at_close s i w _ 3 hs hi2 hi hc (fun I => at_3_none s i _ _ _ _ w hs hi2 hi e g3 (by omega) L1 L2 L3 q1.1 q1.2 q2.1 q2.2 I)
          (fun I q B h1 h2 => at_3_short s i _ _ _ _ w hs hi2 hi e g3 (by omega) L1 L2 L3 q1.1 q1.2 q2.1 q2.2 I q B h1 h2)
          (fun I q B h1 h2 h3 h4 => at_3_other s i _ _ _ _ w hs hi2 hi e g3 (by omega) L1 L2 L3 q1.1 q1.2 q2.1 q2.2 I q B h1 h2 h3 h4)
          (fun I q B h1 h2 h3 h4 => at_3_ok s i _ _ _ _ w hs hi2 hi e g3 (by omega) L1 L2 L3 q1.1 q1.2 q2.1 q2.2 I q B h1 h2 h3 h4)
      · rw [lowI_no t2] at L2
        rw [if_neg (fun h => t2 ((T 2).1 h.2))] at hc
        rw [gotStep_none (dec_none hc)]
        exact at_none3b s i _ _ 0 _ w hs hi2 hi e g3 (by omega) L1 L2 L3 q1.1 q1.2 N1
    · rw [lowI_no t1] at L1
      rw [if_neg (fun h => t1 ((T 1).1 h.1))] at hc
      rw [gotStep_none (dec_none hc)]
      exact at_none3a s i _ 0 _ _ w hs hi2 hi e g3 (by omega) L1 L2 L3 N1
  by_cases g2 : 192 ≤ dgt s.data.toList i
  · have hc := cand_2 (l := s.data.toList.drop i) (by omega) (by omega)
    by_cases t1 : tl s.data.toList (i + 1) = true
    · have q1 := lo_bd t1
      rw [lowI_yes t1] at L1
      rw [if_pos ((T 1).2 t1), d0, lo_drop] at hc
      exact at_close s i w _ 2 hs hi2 hi hc (fun I => at_2_none s i _ _ _ _ w hs hi2 hi e g2 (by omega) L1 L2 L3 q1.1 q1.2 I)
        (fun I q B h1 h2 => at_2_short s i _ _ _ _ w hs hi2 hi e g2 (by omega) L1 L2 L3 q1.1 q1.2 I q B h1 h2)
        (fun I q B h1 h2 h3 h4 => at_2_other s i _ _ _ _ w hs hi2 hi e g2 (by omega) L1 L2 L3 q1.1 q1.2 I q B h1 h2 h3 h4)
        (fun I q B h1 h2 h3 h4 => at_2_ok s i _ _ _ _ w hs hi2 hi e g2 (by omega) L1 L2 L3 q1.1 q1.2 I q B h1 h2 h3 h4)
    · rw [lowI_no t1] at L1
      rw [if_neg (fun h => t1 ((T 1).1 h))] at hc
      rw [gotStep_none (dec_none hc)]
      exact at_none2 s i _ 0 _ _ w hs hi2 hi e g2 (by omega) L1 L2 L3 N1
  by_cases g1 : 128 ≤ dgt s.data.toList i
  · rw [gotStep_none (dec_none (cand_0 (by omega) (by omega)))]
    exact at_none1 s i _ _ _ _ w hs hi2 hi e g1 (by omega) L1 L2 L3 N1
  · have hc := cand_1 (l := s.data.toList.drop i) (by omega)
    rw [d0] at hc
    exact at_close s i w _ 1 hs hi2 hi hc (fun I => at_1_none s i _ _ _ _ w hs hi2 hi e (by omega) L1 L2 L3 I)
      (fun I q B h1 h2 => at_1_short s i _ _ _ _ w hs hi2 hi e (by omega) L1 L2 L3 I q B h1 h2)
      (fun I q B h1 h2 h3 h4 => at_1_other s i _ _ _ _ w hs hi2 hi e (by omega) L1 L2 L3 I q B h1 h2 h3 h4)
      (fun I q B h1 h2 h3 h4 => at_1_ok s i _ _ _ _ w hs hi2 hi e (by omega) L1 L2 L3 I q B h1 h2 h3 h4)
end Go.Proofs.YtpfnjgkfombmpaaDoor

/-
  What 'rectoref02.Of' does: of every text that isn't too long all its characters, and whether it is right.
-/
namespace Go.Proofs.YtpfnjgkfombmpaaDoor
open Go.RowKit
set_option linter.unusedVariables false

theorem Tryd.infoInt : (Tryd.prog.info? 3).map (fun i => (i.zero, i.size, i.bytes)) = some (some (.int .i64 0), 1, 8) := by kernel_rfl

def OInv (w : World) (cs : List Int) (r : Bool) (v : Value) (wr : World) : Prop :=
  wr.heap[w.heap.size]? = some (.cells #[.slice none 0 0, .bool false] 128 (0, 0)) ∧ wr.heap[w.heap.size + 1]? = some (.cells #[v, .bool r] 128 (0, 0)) ∧
  wr.ownsRow (w.heap.size + 2) 3 1 v cs.length (cs.map (Value.int .i64)) ∧ Below w.heap.size w wr ∧ w.heap.size + 2 ≤ wr.heap.size

theorem ostart (w : World) : OInv w [] true (.slice none 0 0) ((w.alloc (.cells #[.slice none 0 0, .bool false] 128)).alloc (.cells #[.slice none 0 0, .bool true] 128)) := by
  refine ⟨?_, ?_, World.ownsRow_nil _ _ _ _, ((Below.refl _ _).alloc (Nat.le_refl _) _).alloc (by simp) _, by simp⟩
  · rw [Below.heap_alloc _ _ _ (by simp)]; exact heap_alloc_new _ _
  · have := heap_alloc_new (w.alloc (.cells #[.slice none 0 0, .bool false] 128)) (.cells #[.slice none 0 0, .bool true] 128)
    rw [World.size_alloc] at this
    exact this

theorem ostep {w wr w2 w3 : World} {cs : List Int} {r r' : Bool} {v v' : Value} {T S : Obj} {c : Int}
    (hI : OInv w cs r v wr) (hb : Below wr.heap.size wr w2) (hown' : w3.ownsRow (w.heap.size + 2) 3 1 v' (cs.length + 1) (cs.map (Value.int .i64) ++ [.int .i64 c]))
    (hgrow : ((w2.alloc T).alloc S).grownBy w3 v.ownBlock) :
    OInv w (cs ++ [c]) r' v' ((w3.setCell ⟨w.heap.size + 1, 0, none⟩ v').setCell ⟨w.heap.size + 1, 1, none⟩ (.bool r')) := by
  obtain ⟨h1, h2, h4, h5, h6⟩ := hI
  have hs2 := hb.size
  have hrow : ∀ k, k < w.heap.size + 2 → some k ≠ v.ownBlock := by
    intro k hk e
    have := (h4.lt k e.symm).1
    omega
  have keep : ∀ k, k < w.heap.size + 2 → w3.heap[k]? = wr.heap[k]? := by
    intro k hk
    rw [hgrow.block k (by simp; omega) (hrow k hk), Below.heap_alloc _ _ _ (by simp; omega), Below.heap_alloc _ _ _ (by omega), hb.block k (by omega)]
  have hne : v'.ownBlock ≠ some (w.heap.size + 1) := by
    intro e
    have := (hown'.lt _ e).1
    omega
  have hs3 := hgrow.size
  simp only [World.size_alloc] at hs3
  refine ⟨?_, ?_, ?_, ?_, ?_⟩
  · rw [Below.heap_setCell _ _ _ _ (by simp), Below.heap_setCell _ _ _ _ (by simp), keep _ (by omega)]; exact h1
  · have e3 := (keep (w.heap.size + 1) (by omega)).trans h2
    exact Joins.block_setCell (Joins.block_setCell e3 v') (.bool r')
  · have := ownsRow_setCell_other (ownsRow_setCell_other hown' (a := ⟨w.heap.size + 1, 0, none⟩) hne v') (a := ⟨w.heap.size + 1, 1, none⟩) hne (.bool r')
    simpa using this
  · refine ((h5.trans ?_).setCell (by simp) _).setCell (by simp) _
    refine ⟨?_, ?_, ?_, ?_, fun k hk => keep k (by omega)⟩
    · rw [hgrow.os]; exact hb.os
    · rw [hgrow.tape]; exact hb.tape
    · rw [hgrow.output]; exact hb.output
    · omega
  · simp; omega

theorem ofacts {w wr w2 w3 : World} {cs : List Int} {r : Bool} {v : Value} {S : Obj} {xs : Array Value}
    (hI : OInv w cs r v wr) (hb : Below wr.heap.size wr w2) (hgrow : ((w2.alloc (.cells xs 140)).alloc S).grownBy w3 v.ownBlock) :
    w3.cell? ⟨w.heap.size + 1, 0, none⟩ = some v ∧ w3.cell? ⟨w.heap.size + 1, 1, none⟩ = some (.bool r) ∧ (∀ o, w3.frozen? ⟨w.heap.size + 1, o, none⟩ = false) ∧ (∀ o, w3.cell? ⟨w2.heap.size, o, none⟩ = xs[o]?) := by
  obtain ⟨h1, h2, h4, h5, h6⟩ := hI
  have hs2 := hb.size
  have hlt : ∀ j, v.ownBlock = some j → j < w2.heap.size := fun j e => ((ownsRow_below h4 hb).lt j e).2
  have e1 : w3.heap[w.heap.size + 1]? = some (.cells #[v, .bool r] 128 (0, 0)) := by
    rw [hgrow.block _ (by simp; omega) (fun e => by have := (h4.lt _ e.symm).1; omega), Below.heap_alloc _ _ _ (by simp; omega), Below.heap_alloc _ _ _ (by omega), hb.block _ (by omega)]
    exact h2
  have e2 : w3.heap[w2.heap.size]? = some (.cells xs 140 (0, 0)) := by
    rw [hgrow.block _ (by simp; omega) (fun e => by have := hlt _ e.symm; omega), Below.heap_alloc _ _ _ (by simp)]
    exact heap_alloc_new _ _
  exact ⟨Joins.cell_of_block e1 0, Joins.cell_of_block e1 1, Joins.unfrozen_of_block e1, Joins.cell_of_block e2⟩

def OfPost (w : World) (l : List UInt8) (e : Ending) (w' : World) : Prop :=
  ∃ v, e = .returned (.agg #[v, .bool (rightB l)]) ∧ w'.ownsRow w.heap.size 3 1 v (ch l).length (((ch l).map (·.1)).map (Value.int .i64)) ∧ Below w.heap.size w w'

set_option maxHeartbeats 1000000 in
theorem of_any (s : ByteArray) (w : World) (hs : s.size ≤ 100000) :
    Calls Tryd.prog 100 #[.string s] w fun e w' => OfPost w s.data.toList e w' := by
  obtain ⟨i0, hi, hz0, hz1, hz2⟩ := info_parts Tryd.infoInt
  have hl := data_len s
  have HL := hide hl
  have hcl := ch_len s.size s.data.toList (by omega)
  rw [hl] at hcl
  have HCL := hide hcl
  clear hl hcl
  go_enter Tryd.func100, Tryd.ntmps100
  go_wp2
  go_loopw [4, 5] (fun i t wr => ∃ (k : Nat) (cs : List Int) (r : Bool) (v : Value), k ≤ s.size ∧ i = .int .i64 k ∧ (ch s.data.toList).map (·.1) = cs ++ (ch (s.data.toList.drop k)).map (·.1) ∧ rightB s.data.toList = (r && rightB (s.data.toList.drop k)) ∧ OInv w cs r v wr) (fun i _ _ => s.size - (intOf i).toNat)
  case atStart => exact ⟨0, [], true, .slice none 0 0, Nat.zero_le _, rfl, by simp, by simp, ostart w⟩
  case round =>
    obtain ⟨k, cs, r, v, hk, rfl, hcs, hrr, hI⟩ := hrel
    obtain ⟨va, vn, vc, hvs⟩ := slice_of hI.2.2.1
    subst hvs
    have HCS := hide hcs
    have HRR := hide hrr
    clear hcs hrr
    have HI := hide hI
    obtain ⟨b1, b2, hown, hbw, hsz⟩ := hI
    have HW := hide hbw
    have cO0 := Joins.cell_of_block b2 0
    have cO1 := Joins.cell_of_block b2 1
    have fO := Joins.unfrozen_of_block b2
    have cB := Joins.cell_of_block b1
    have fB := Joins.unfrozen_of_block b1
    simp at cO0 cO1
    clear b1 b2 hbw
    by_cases hlt : k < s.size
    · have hlti : (k : Int) < (s.size : Int) := by omega
      have hne : s.data.toList.drop k ≠ [] := by
        intro e
        have := congrArg List.length e
        rw [List.length_drop, unhide HL] at this; simp at this; omega
      have hok := step_ok hne
      rw [List.length_drop, unhide HL] at hok
      have hc1 := congrArg (fun l => l.map (fun p : Int × Bool => p.1)) (ch_cons hne)
      have hc2 := rightB_cons hne
      have C := hide (fun w => rat_any s k w (by omega) (by omega) hlt)
      simp only [gotStep, got] at C
      rw [List.drop_drop] at hc1 hc2
      generalize hst : step (s.data.toList.drop k) = st at *
      obtain ⟨c, n, ok⟩ := st
      simp only [List.map_cons] at hok C hc1 hc2
      have hn0 : 1 ≤ n := by omega
      have hn3 : k + n ≤ s.size := by omega
      have hn4 : (n : Int) ≤ 4 := by omega
      have hlen : cs.length + 1 ≤ 100000 := by
        have h1 := congrArg List.length (unhide HCS)
        rw [hc1] at h1
        have h2 := unhide HCL
        simp at h1; omega
      have HLEN := hide hlen
      have HC1 := hide hc1
      have HC2 := hide hc2
      clear hc1 hc2 hst hok hne hlen
      go_wp2_with fail
      refine (unhide C _).mono ?_
      rintro e w2 ⟨rfl, hb2⟩
      have hown1 := ownsRow_below hown hb2
      have hz3' : w.heap.size + 1 < w2.heap.size := by have := hb2.size; omega
      have d0 := (hb2.cell (p := ⟨w.heap.size + 1, 0, none⟩) (by show w.heap.size + 1 < wr.heap.size; omega)).trans cO0
      have d1 := (hb2.cell (p := ⟨w.heap.size + 1, 1, none⟩) (by show w.heap.size + 1 < wr.heap.size; omega)).trans cO1
      have f2 := fun o => (hb2.frozen (p := ⟨w.heap.size + 1, o, none⟩) (by show w.heap.size + 1 < wr.heap.size; omega)).trans (fO o)
      go_wp2_with (at_builtin; refine wpList_append_own _ rfl _ _ 126 rfl (w.heap.size + 2) 3 i0 (.int .i64 0) 1 8 Tryd.underlying126 hi hz0 hz1 hz2 rfl (by decide) _ _ _ rfl ((hown1.alloc _).alloc _) ⟨w2.heap.size + 1, 0, none⟩ 1 1 [.int .i64 c] rfl rfl ?c1 ?c2 ?c3 ?c4 ?c5 ?_)
      case c1 =>
        intro j u hj
        match j, hj with
        | 0, hj =>
          simp at hj; subst hj
          simp [Addr.add]
      case c2 => intro u hu; simp at hu; subst hu; rfl
      case c3 => have := unhide HLEN; unfold maxLen; omega
      case c4 => have := unhide HLEN; omega
      case c5 => simp; omega
      intro v' w3 hown' hgrow _
      obtain ⟨g0, g1, gf, gt⟩ := ofacts (unhide HI) hb2 hgrow
      have q1 := gt 1
      have q2 := gt 2
      simp at q1 q2
      have R := fun (r' : Bool) => ostep (r' := r') (unhide HI) hb2 hown' hgrow
      have HR := hide R
      obtain ⟨va', vn', vc', hvs'⟩ := slice_of hown'
      subst hvs'
      clear gt hgrow hown1 d0 d1 f2 hown' R
      cases r with
      | true =>
        go_wp2
        go_roundw
        case rel => exact ⟨k + n, cs ++ [c], ok, _, by omega, by go_num, by rw [unhide HCS, unhide HC1]; simp, by rw [unhide HRR, unhide HC2]; simp, unhide HR ok⟩
        case measure => simp [intOf]; omega
      | false =>
        go_wp2
        go_roundw
        case rel => exact ⟨k + n, cs ++ [c], false, _, by omega, by go_num, by rw [unhide HCS, unhide HC1]; simp, by rw [unhide HRR, unhide HC2]; simp, unhide HR false⟩
        case measure => simp [intOf]; omega
    · have hkn : k = s.size := by omega
      have hd : s.data.toList.drop k = [] := by rw [hkn, ← unhide HL, List.drop_length]
      have e1 : (ch s.data.toList).map (·.1) = cs := by rw [unhide HCS, hd, ch_nil]; simp
      have e2 : rightB s.data.toList = r := by rw [unhide HRR, hd, rightB_nil, Bool.and_true]
      have E1 := hide e1
      have E2 := hide e2
      clear e1 e2 hd hkn
      go_wp2
      refine bodyPost_ret (v := .agg #[.slice va vn vc, .bool r]) (by simp [results, Tryd.results100, go_sem, cB]) rfl ⟨_, by rw [unhide E2], ?_, ?_⟩
      · have hlen : (ch s.data.toList).length = cs.length := by have := congrArg List.length (unhide E1); simpa using this
        rw [hlen, unhide E1]
        refine Joins.ownsRow_le ?_ (show w.heap.size ≤ w.heap.size + 2 by omega)
        exact ownsRow_setCell_below (ownsRow_setCell_below hown (by show w.heap.size < _; omega) _) (by show w.heap.size < _; omega) _
      · exact ((unhide HW).setCell (by simp) _).setCell (by simp) _

/-- A slice value that shows these numbers in a world. -/
def IView (w : World) (v : Value) (cs : List Int) : Prop :=
  ∃ a cap, v = .slice a cs.length cap ∧ (0 < cs.length → ∃ b off, a = some ⟨b, off, none⟩ ∧ ∀ i, i < cs.length → w.cell? ⟨b, off + i, none⟩ = some (.int .i64 (cs.getD i 0)))
theorem iview_of_owns {w : World} {base : Nat} {v : Value} {cs : List Int} {n : Nat} (hn : cs.length = n) (h : w.ownsRow base 3 1 v n (cs.map (Value.int .i64))) : IView w v cs := by
  subst hn
  obtain ⟨_, h⟩ := h
  rcases h with ⟨rfl, h0⟩ | ⟨g, cap, cur, rfl, h1, h2, h3, h4, h5, h6⟩
  · exact ⟨none, 0, by rw [h0], fun h => by omega⟩
  · refine ⟨some ⟨g, 0, none⟩, cap, rfl, fun _ => ⟨g, 0, rfl, fun i hi => ?_⟩⟩
    rw [Joins.cell_of_block h2]
    have e : cur.toList[i]? = some (.int .i64 (cs.getD i 0)) := by
      have : (cur.toList.take (cs.length * 1))[i]? = some (.int .i64 (cs.getD i 0)) := by
        rw [h6, List.getElem?_map, List.getD, List.getElem?_eq_getElem hi]; rfl
      rw [List.getElem?_take] at this
      rw [if_pos (by omega)] at this
      exact this
    simpa using e
theorem IView.below {w w1 : World} {v : Value} {cs : List Int} (h : IView w v cs) (hb : Below w.heap.size w w1) : IView w1 v cs := by
  obtain ⟨a, cap, rfl, hx⟩ := h
  refine ⟨a, cap, rfl, fun h0 => ?_⟩
  obtain ⟨b, off, rfl, hc⟩ := hx h0
  exact ⟨b, off, rfl, fun i hi => cell_later hb (hc i hi)⟩

def OfIs (s : ByteArray) (cs : List Int) (r : Bool) : Prop := ∀ w, Calls Tryd.prog 100 #[.string s] w fun e w' => ∃ v, e = .returned (.agg #[v, .bool r]) ∧ IView w' v cs ∧ Below w.heap.size w w'
theorem ofIs (s : ByteArray) (hs : s.size ≤ 100000) : OfIs s ((ch s.data.toList).map (·.1)) (rightB s.data.toList) := by
  intro w
  refine (of_any s w hs).mono fun e w' h => ?_
  obtain ⟨v, h1, h2, h3⟩ := h
  exact ⟨v, h1, iview_of_owns (by simp) h2, h3⟩
end Go.Proofs.YtpfnjgkfombmpaaDoor
