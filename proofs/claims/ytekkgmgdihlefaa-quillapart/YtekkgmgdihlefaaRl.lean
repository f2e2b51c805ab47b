/-
  What 'rectoref01.TakeText' and 'rectoref01.TakeList' do: of every text the list with which it begins, and what is behind, as the plain functions say it.
-/
import Derived.Test.YtekkgmgdihlefaaRx
import Derived.Lib.SmallJoins
namespace Go.Proofs.Ytekkgmgdihlefaa
open Go.RowKit
set_option linter.unusedVariables false

def rtextV (l : List UInt8) : Value :=
  match takeT l with
  | none => takenV 0 ⟨#[]⟩ ⟨#[]⟩ 4
  | some (k, n) => takenV 0 (bs ((l.drop k).take n)) (bs ((l.drop k).drop n)) 0

theorem rtext_any (s : ByteArray) (w : World) (hs : s.size ≤ 9223372036854775807) :
    Calls Try.prog 20 #[.string s] w fun e w' => e = .returned (rtextV s.data.toList) ∧ Below w.heap.size w w' := by
  have hc := fun w => rnum_any s w hs
  have hl : s.data.toList.length = s.size := by simp
  cases ht : takeN s.data.toList with
  | none =>
    have e1 : rtextV s.data.toList = takenV 0 ⟨#[]⟩ ⟨#[]⟩ 4 := by simp only [rtextV, takeT, ht]
    rw [e1]
    exact rtext_none s w (hide (by simpa only [gotOf, ht, gotV] using hc))
  | some x =>
    obtain ⟨v, k⟩ := x
    have hb := takeN_some ht
    obtain ⟨n, rfl⟩ := Int.eq_ofNat_of_zero_le hb.1
    have hc2 : ∀ w, Calls Try.prog 30 #[.string s, .int .i64 0] w fun e w' => e = .returned (.agg #[.int .i64 n, .int .i64 k]) ∧ Below w.heap.size w w' := by
      simpa only [gotOf, ht, gotV] using hc
    by_cases h1 : (65536 : Int) < (n : Int)
    · have e1 : rtextV s.data.toList = takenV 0 ⟨#[]⟩ ⟨#[]⟩ 4 := by simp only [rtextV, takeT, ht, h1, true_or, if_true]
      rw [e1]
      exact rtext_long s w _ k h1 (hide hc2)
    by_cases h2 : ((s.size - k : Nat) : Int) < (n : Int)
    · have e1 : rtextV s.data.toList = takenV 0 ⟨#[]⟩ ⟨#[]⟩ 4 := by simp only [rtextV, takeT, ht, hl, h2, or_true, if_true]
      rw [e1]
      exact rtext_short s w _ k hs (by omega) (by omega) (by omega) (hide hc2)
    · have e1 : rtextV s.data.toList = takenV 0 (bs ((s.data.toList.drop k).take n)) (bs ((s.data.toList.drop k).drop n)) 0 := by
        simp only [rtextV, takeT, ht, hl, h1, h2, or_self, if_false, Int.toNat_natCast]
      rw [e1]
      have := rtext_some s w n k hs (by omega) (by omega) (hide hc2)
      rw [Lib.extract_eq, Lib.Pa.extract_from, Nat.add_sub_cancel_left] at this
      rw [List.drop_drop]
      exact this

def ref0 : Array Value := #[.int .i64 0, .string ⟨#[]⟩, .slice none 0 0, .string ⟨#[]⟩, .int .i64 0]

/-- What stands in memory at each round of TakeList: the answer's place, what the number was, and what has been read so far. -/
def RInv (w : World) (G c k0 : Nat) (ts : List ByteArray) (r : List UInt8) (v : Value) (wr : World) : Prop :=
  wr.heap[w.heap.size]? = some (.cells ref0 38 (0, 0)) ∧ wr.heap[G]? = some (.cells #[.int .i64 c, .int .i64 k0] 54 (0, 0)) ∧
  wr.heap[G + 1]? = some (.cells #[.int .i64 0, .string ⟨#[]⟩, v, .string (bs r), .int .i64 0] 38 (0, 0)) ∧
  wr.ownsRow (G + 2) 9 1 v ts.length (ts.map Value.string) ∧ Below w.heap.size w wr ∧ G + 2 ≤ wr.heap.size ∧ w.heap.size < G

theorem heap_setCell_ne (w : World) (a : Addr) (u : Value) (k : Nat) (h : k ≠ a.block) : (w.setCell a u).heap[k]? = w.heap[k]? := Below.heap_setCell w a u k h

theorem rstep {w wr w2 w3 : World} {G c k0 : Nat} {ts : List ByteArray} {r : List UInt8} {v v' : Value} {T S : Obj} {x1 : ByteArray} {x2 : List UInt8}
    (hI : RInv w G c k0 ts r v wr) (hb : Below wr.heap.size wr w2) (hown' : w3.ownsRow (G + 2) 9 1 v' (ts.length + 1) (ts.map Value.string ++ [.string x1]))
    (hgrow : ((w2.alloc T).alloc S).grownBy w3 v.ownBlock) :
    RInv w G c k0 (ts ++ [x1]) x2 v' ((w3.setCell ⟨G + 1, 2, none⟩ v').setCell ⟨G + 1, 3, none⟩ (.string (bs x2))) := by
  obtain ⟨h1, h2, h3, h4, h5, h6, h7⟩ := hI
  have hs2 := hb.size
  have hrow : ∀ k, k < G + 2 → some k ≠ v.ownBlock := by
    intro k hk e
    have := (h4.lt k e.symm).1
    omega
  have keep : ∀ k, k < G + 2 → w3.heap[k]? = wr.heap[k]? := by
    intro k hk
    rw [hgrow.block k (by simp; omega) (hrow k hk), Below.heap_alloc _ _ _ (by simp; omega), Below.heap_alloc _ _ _ (by omega), hb.block k (by omega)]
  have hne : v'.ownBlock ≠ some (G + 1) := by
    intro e
    have := (hown'.lt _ e).1
    omega
  have hs3 := hgrow.size
  simp only [World.size_alloc] at hs3
  refine ⟨?_, ?_, ?_, ?_, ?_, ?_, h7⟩
  · rw [heap_setCell_ne _ _ _ _ (by simp; omega), heap_setCell_ne _ _ _ _ (by simp; omega), keep _ (by omega)]; exact h1
  · rw [heap_setCell_ne _ _ _ _ (by simp), heap_setCell_ne _ _ _ _ (by simp), keep _ (by omega)]; exact h2
  · have e3 := (keep (G + 1) (by omega)).trans h3
    exact Joins.block_setCell (Joins.block_setCell e3 v') (.string (bs x2))
  · have := ownsRow_setCell_other (ownsRow_setCell_other hown' (a := ⟨G + 1, 2, none⟩) hne v') (a := ⟨G + 1, 3, none⟩) hne (.string (bs x2))
    simpa using this
  · refine ((h5.trans ?_).setCell (by simp; omega) _).setCell (by simp; omega) _
    refine ⟨?_, ?_, ?_, ?_, fun k hk => keep k (by omega)⟩
    · rw [hgrow.os]; exact hb.os
    · rw [hgrow.tape]; exact hb.tape
    · rw [hgrow.output]; exact hb.output
    · omega
  · simp; omega

theorem slice_of {w : World} {base : Nat} {e : TypeId} {size : Nat} {v : Value} {n : Nat} {xs : List Value} (h : w.ownsRow base e size v n xs) : ∃ a m cap, v = .slice a m cap := by
  rcases h.2 with ⟨h, _⟩ | ⟨g, cap, cur, h, _⟩
  · exact ⟨_, _, _, h⟩
  · exact ⟨_, _, _, h⟩

theorem rfacts {w wr w2 w3 : World} {G c k0 : Nat} {ts : List ByteArray} {r : List UInt8} {v : Value} {S : Obj} {cs : Array Value}
    (hI : RInv w G c k0 ts r v wr) (hb : Below wr.heap.size wr w2) (hgrow : ((w2.alloc (.cells cs 38)).alloc S).grownBy w3 v.ownBlock) :
    w3.cell? ⟨G + 1, 2, none⟩ = some v ∧ w3.cell? ⟨G + 1, 3, none⟩ = some (.string (bs r)) ∧ (∀ o, w3.frozen? ⟨G + 1, o, none⟩ = false) ∧ (∀ o, w3.cell? ⟨w2.heap.size, o, none⟩ = cs[o]?) := by
  obtain ⟨h1, h2, h3, h4, h5, h6, h7⟩ := hI
  have hs2 := hb.size
  have hlt : ∀ j, v.ownBlock = some j → j < w2.heap.size := fun j e => ((ownsRow_below h4 hb).lt j e).2
  have e1 : w3.heap[G + 1]? = some (.cells #[.int .i64 0, .string ⟨#[]⟩, v, .string (bs r), .int .i64 0] 38 (0, 0)) := by
    rw [hgrow.block _ (by simp; omega) (fun e => by have := (h4.lt _ e.symm).1; omega), Below.heap_alloc _ _ _ (by simp; omega), Below.heap_alloc _ _ _ (by omega), hb.block _ (by omega)]
    exact h3
  have e2 : w3.heap[w2.heap.size]? = some (.cells cs 38 (0, 0)) := by
    rw [hgrow.block _ (by simp; omega) (fun e => by have := hlt _ e.symm; omega), Below.heap_alloc _ _ _ (by simp)]
    exact heap_alloc_new _ _
  exact ⟨Joins.cell_of_block e1 2, Joins.cell_of_block e1 3, Joins.unfrozen_of_block e1, Joins.cell_of_block e2⟩
end Go.Proofs.Ytekkgmgdihlefaa
