/-
  Several texts in one: what the functions of the program and of the document's answer do.
-/
import Derived.Test.YtfdhmhdemfbfeaaGreatDoorMgAA
import Derived.Test.YtfdhmhdemfbfeaaGreatDoorMgAH

/-
  A block of cells as it lies in memory; a world made a letter.
-/
namespace Go.Proofs.YtfdhmhdemfbfeaaGreatDoor
open Go.RowKit
set_option linter.unusedVariables false

/-- A block of cells, as it lies. -/
def Blk (w : World) (b : Nat) (vs : Array Value) (t : TypeId) : Prop := w.heap[b]? = some (.cells vs t (0, 0))
theorem Blk.lt {w : World} {b : Nat} {vs : Array Value} {t : TypeId} (h : Blk w b vs t) : b < w.heap.size := by
  rcases Nat.lt_or_ge b w.heap.size with h' | h'
  · exact h'
  · unfold Blk at h; rw [Array.getElem?_eq_none h'] at h; cases h
theorem Blk.cell {w : World} {b : Nat} {vs : Array Value} {t : TypeId} (h : Blk w b vs t) (o : Nat) : w.cell? ⟨b, o, none⟩ = vs[o]? := Joins.cell_of_block h o
theorem Blk.frozen {w : World} {b : Nat} {vs : Array Value} {t : TypeId} (h : Blk w b vs t) (o : Nat) : w.frozen? ⟨b, o, none⟩ = false := by
  have h' : w.heap[b]? = some (.cells vs t (0, 0)) := h
  simp [World.frozen?, h']
theorem Blk.below {w w' : World} {b B : Nat} {vs : Array Value} {t : TypeId} (h : Blk w b vs t) (hb : Below B w w') (hB : b < B) : Blk w' b vs t := (hb.block b hB).trans h
theorem Blk.later {w w' : World} {b : Nat} {vs : Array Value} {t : TypeId} (h : Blk w b vs t) (hb : Below w.heap.size w w') : Blk w' b vs t := h.below hb h.lt
theorem Blk.alloc {w : World} {b : Nat} {vs : Array Value} {t : TypeId} (h : Blk w b vs t) (o : Obj) : Blk (w.alloc o) b vs t := h.later ((Below.refl _ _).alloc (Nat.le_refl _) _)
theorem Blk.new (w : World) (vs : Array Value) (t : TypeId) : Blk (w.alloc (.cells vs t)) w.heap.size vs t := by show (w.heap.push _)[w.heap.size]? = _; simp
theorem Blk.away {w : World} {b : Nat} {vs : Array Value} {t : TypeId} (h : Blk w b vs t) {b' o : Nat} (hb : b ≠ b') (u : Value) : Blk (w.setCell ⟨b', o, none⟩ u) b vs t := (Below.heap_setCell w ⟨b', o, none⟩ u b hb).trans h
theorem Blk.set {w : World} {b : Nat} {vs : Array Value} {t : TypeId} (h : Blk w b vs t) (o : Nat) (ho : o < vs.size) (u : Value) : Blk (w.setCell ⟨b, o, none⟩ u) b (vs.set o u) t := by
  have h' : w.heap[b]? = some (.cells vs t (0, 0)) := h
  simp [Blk, World.setCell, Array.getElem?_modify, h', Array.setIfInBounds, ho]

/-- From here on no more is asked of the world than this. -/
theorem calls_from {P : Program} {f : FuncId} {args : Array Value} {W : World} {R : Ending → World → Prop} (S : World → Prop) (h : S W) (k : ∀ W', S W' → Calls P f args W' R) : Calls P f args W R := k W h
end Go.Proofs.YtfdhmhdemfbfeaaGreatDoor

/-
  The methods of 'urls.cutter': each cuts a part off, keeps it in its own block, and tells what is left.
-/
namespace Go.Proofs.YtfdhmhdemfbfeaaGreatDoor
open Go.RowKit
set_option linter.unusedVariables false

/-- What a call that changes one block leaves. -/
def Cz (b : Nat) (w w' : World) : Prop := Below b w w' ∧ ∀ i, i < w.heap.size → i ≠ b → w'.heap[i]? = w.heap[i]?
theorem Cz.refl (b : Nat) (w : World) : Cz b w w := ⟨Below.refl _ _, fun _ _ _ => rfl⟩
theorem Cz.of {b : Nat} {w w' : World} (h : Below w.heap.size w w') (hb : b ≤ w.heap.size) : Cz b w w' := ⟨h.mono hb, fun i hi _ => h.block i hi⟩
theorem Cz.trans {b : Nat} {w w1 w2 : World} (h1 : Cz b w w1) (h2 : Cz b w1 w2) : Cz b w w2 :=
  ⟨h1.1.trans h2.1, fun i hi hn => (h2.2 i (Nat.lt_of_lt_of_le hi h1.1.size) hn).trans (h1.2 i hi hn)⟩
theorem Cz.set {b o : Nat} {w w1 : World} (h : Cz b w w1) (u : Value) : Cz b w (w1.setCell ⟨b, o, none⟩ u) :=
  h.trans ⟨Below.setCell (Below.refl b w1) (show b ≤ (⟨b, o, none⟩ : Addr).block from Nat.le_refl b) u, fun i hi hn => by
    rw [Below.heap_setCell w1 ⟨b, o, none⟩ u i hn]⟩
theorem Cz.blk {b i : Nat} {w w' : World} {vs : Array Value} {t : TypeId} (h : Cz b w w') (k : Blk w i vs t) (hn : i ≠ b) : Blk w' i vs t := (h.2 i k.lt hn).trans k

/-- The nine cells of an address's parts. -/
def ptC (sc ho pa qu ma : ByteArray) (hs hh hq hm : Bool) : Array Value := #[.string sc, .string ho, .string pa, .string qu, .string ma, .bool hs, .bool hh, .bool hq, .bool hm]

set_option maxHeartbeats 1000000 in
theorem mark_any (b : Nat) (s sc ho pa qu ma : ByteArray) (hs hh hq hm : Bool) (n : Nat) (w : World) (hz : s.size ≤ 100000) (hn : tkN (nfN 35 35) s.data.toList = n)
    (hB : Blk w b (ptC sc ho pa qu ma hs hh hq hm) 124) :
    Calls Tryz.prog 92 #[.pointer (some ⟨b, 0, none⟩), .string s] w fun e w' => e = .returned (.string (bs (s.data.toList.take n))) ∧ Blk w' b (ptC sc ho pa qu (bs (s.data.toList.drop (n + 1))) hs hh hq (decide (n < s.size))) 124 ∧ Cz b w w' := by
  have C := hide (fun w => cut_any s 35 n w hz hn)
  have HB := hide hB
  have hlt := hB.lt
  clear hB hn
  generalize bs (s.data.toList.take n) = A at *
  generalize bs (s.data.toList.drop (n + 1)) = M at *
  generalize decide (n < s.size) = D at *
  go_enter Tryz.func92, Tryz.ntmps92
  go_wp2_with fail
  refine (unhide C _).mono ?_
  rintro e1 w1 ⟨rfl, hb⟩
  have k1 : Blk w1 b (ptC sc ho pa qu ma hs hh hq hm) 124 := (unhide HB).later hb
  have c4 : w1.cell? ⟨b, 4, none⟩ = some (.string ma) := k1.cell 4
  have f4 : w1.frozen? ⟨b, 4, none⟩ = false := k1.frozen 4
  have c8 : w1.cell? ⟨b, 8, none⟩ = some (.bool hm) := k1.cell 8
  have f8 : w1.frozen? ⟨b, 8, none⟩ = false := k1.frozen 8
  have K1 := hide k1
  clear k1
  go_wp2
  go_ret
  refine ⟨rfl, ?_, ((Cz.of hb (by omega)).set _).set _⟩
  exact ((unhide K1).set 4 (by simp [ptC]) _).set 8 (by simp [ptC]) _
set_option maxHeartbeats 1000000 in
theorem query_any (b : Nat) (s sc ho pa qu ma : ByteArray) (hs hh hq hm : Bool) (n : Nat) (w : World) (hz : s.size ≤ 100000) (hn : tkN (nfN 63 63) s.data.toList = n)
    (hB : Blk w b (ptC sc ho pa qu ma hs hh hq hm) 124) :
    Calls Tryz.prog 93 #[.pointer (some ⟨b, 0, none⟩), .string s] w fun e w' => e = .returned (.string (bs (s.data.toList.take n))) ∧ Blk w' b (ptC sc ho pa (bs (s.data.toList.drop (n + 1))) ma hs hh (decide (n < s.size)) hm) 124 ∧ Cz b w w' := by
  have C := hide (fun w => cut_any s 63 n w hz hn)
  have HB := hide hB
  have hlt := hB.lt
  clear hB hn
  generalize bs (s.data.toList.take n) = A at *
  generalize bs (s.data.toList.drop (n + 1)) = M at *
  generalize decide (n < s.size) = D at *
  go_enter Tryz.func93, Tryz.ntmps93
  go_wp2_with fail
  refine (unhide C _).mono ?_
  rintro e1 w1 ⟨rfl, hb⟩
  have k1 : Blk w1 b (ptC sc ho pa qu ma hs hh hq hm) 124 := (unhide HB).later hb
  have c4 : w1.cell? ⟨b, 3, none⟩ = some (.string qu) := k1.cell 3
  have f4 : w1.frozen? ⟨b, 3, none⟩ = false := k1.frozen 3
  have c8 : w1.cell? ⟨b, 7, none⟩ = some (.bool hq) := k1.cell 7
  have f8 : w1.frozen? ⟨b, 7, none⟩ = false := k1.frozen 7
  have K1 := hide k1
  clear k1
  go_wp2
  go_ret
  refine ⟨rfl, ?_, ((Cz.of hb (by omega)).set _).set _⟩
  exact ((unhide K1).set 3 (by simp [ptC]) _).set 7 (by simp [ptC]) _

set_option maxHeartbeats 1000000 in
theorem scheme_no (p : Value) (s : ByteArray) (w : World) (hz : s.size ≤ 100000) (h : schN s.data.toList = 0) :
    Calls Tryz.prog 91 #[p, .string s] w fun e w' => e = .returned (.string s) ∧ w' = w := by
  have C := hide (fun w => vsize_any s w (by omega))
  have hle := szN_le s.data.toList
  rw [data_len] at hle
  have hno : ¬ (0 < szN s.data.toList ∧ szN s.data.toList < s.size ∧ dgt s.data.toList (szN s.data.toList) = 58) := by
    intro hh
    rw [schN_yes hh.1 (by rw [data_len]; exact hh.2.1) hh.2.2] at h
    omega
  generalize szN s.data.toList = n at *
  by_cases h0 : n = 0
  · subst h0
    clear hno h
    go_enter Tryz.func91, Tryz.ntmps91
    go_wp2_with fail
    refine (unhide C _).mono ?_
    rintro e1 w1 ⟨rfl, hw1⟩
    obtain rfl : w = w1 := hw1.symm
    clear hw1
    go_wp2
    go_ret
    exact ⟨rfl, rfl⟩
  have i0 : ((n : Int) == 0) = false := beqI _ _ (by omega)
  by_cases h1 : n = s.size
  · have i1 : ((n : Int) == (s.size : Int)) = true := by rw [h1]; simp
    clear hno h h0 h1
    go_enter Tryz.func91, Tryz.ntmps91
    go_wp2_with fail
    refine (unhide C _).mono ?_
    rintro e1 w1 ⟨rfl, hw1⟩
    obtain rfl : w = w1 := hw1.symm
    clear hw1
    go_wp2
    go_ret
    exact ⟨rfl, rfl⟩
  have hp : n < s.size := by omega
  have hpi : (n : Int) < (s.size : Int) := by omega
  have i1 : ((n : Int) == (s.size : Int)) = false := beqI _ _ (by omega)
  have e := dgt_at s n hp
  have h58 : ¬ dgt s.data.toList n = 58 := fun x => hno ⟨by omega, hp, x⟩
  have j1 : (((dgt s.data.toList n : Nat) : Int) == 58) = false := beqI _ _ (by omega)
  have j2 : (((dgt s.data.toList n : Nat) : Int) != 58) = true := bneI' _ _ (by omega)
  clear hno h h0 h1 h58
  generalize dgt s.data.toList n = d at *
  go_enter Tryz.func91, Tryz.ntmps91
  go_wp2_with fail
  refine (unhide C _).mono ?_
  rintro e1 w1 ⟨rfl, hw1⟩
  obtain rfl : w = w1 := hw1.symm
  clear hw1
  go_wp2
  go_ret
  exact ⟨rfl, rfl⟩

theorem schN_parts {l : List UInt8} (h : 0 < schN l) : szN l = schN l ∧ schN l < l.length ∧ dgt l (schN l) = 58 := by
  by_cases hy : 0 < szN l ∧ szN l < l.length ∧ dgt l (szN l) = 58
  · have := schN_yes hy.1 hy.2.1 hy.2.2
    rw [this]
    exact ⟨rfl, hy.2.1, hy.2.2⟩
  · rw [schN_no hy] at h; omega

set_option maxHeartbeats 1000000 in
theorem scheme_yes (b : Nat) (s sc ho pa qu ma : ByteArray) (hs hh hq hm : Bool) (n : Nat) (w : World) (hz : s.size ≤ 100000) (hn : schN s.data.toList = n) (h0 : 0 < n)
    (hB : Blk w b (ptC sc ho pa qu ma hs hh hq hm) 124) :
    Calls Tryz.prog 91 #[.pointer (some ⟨b, 0, none⟩), .string s] w fun e w' => e = .returned (.string (bs (s.data.toList.drop (n + 1)))) ∧ Blk w' b (ptC (bs (lowL (s.data.toList.take n))) ho pa qu ma true hh hq hm) 124 ∧ Cz b w w' := by
  have C := hide (fun w => vsize_any s w (by omega))
  obtain ⟨p1, p2, p3⟩ := schN_parts (l := s.data.toList) (by omega)
  rw [hn] at p1 p2 p3
  rw [data_len] at p2
  rw [p1] at C
  have CL := hide (fun w => lower_any (s.extract 0 n) w (by simp; omega))
  rw [Lib.Pa.extract_upto_list] at CL
  have HB := hide hB
  have hlt := hB.lt
  have hpi : (n : Int) < (s.size : Int) := by omega
  have hpl : (n : Int) ≤ (s.size : Int) := by omega
  have hp1 : (n : Int) + 1 ≤ (s.size : Int) := by omega
  have hn0 : (0 : Int) ≤ (n : Int) := by omega
  have i0 : ((n : Int) == 0) = false := beqI _ _ (by omega)
  have i1 : ((n : Int) == (s.size : Int)) = false := beqI _ _ (by omega)
  have e := dgt_at s n p2
  rw [p3] at e
  have E2 := hide (Lib.extract_to_end s (n + 1))
  clear hB hn p1 p3
  generalize bs (lowL (s.data.toList.take n)) = A at *
  go_enter Tryz.func91, Tryz.ntmps91
  go_wp2_with fail
  refine (unhide C _).mono ?_
  rintro e1 w1 ⟨rfl, hw1⟩
  obtain rfl : w = w1 := hw1.symm
  clear hw1
  go_wp2_with fail
  refine (unhide CL _).mono ?_
  rintro e1 w1 ⟨rfl, hb⟩
  have k1 : Blk w1 b (ptC sc ho pa qu ma hs hh hq hm) 124 := (unhide HB).later hb
  have c4 : w1.cell? ⟨b, 0, none⟩ = some (.string sc) := k1.cell 0
  have f4 : w1.frozen? ⟨b, 0, none⟩ = false := k1.frozen 0
  have c8 : w1.cell? ⟨b, 5, none⟩ = some (.bool hs) := k1.cell 5
  have f8 : w1.frozen? ⟨b, 5, none⟩ = false := k1.frozen 5
  have K1 := hide k1
  clear k1
  go_wp2
  go_ret
  refine ⟨ret1 (congrArg Value.string ?_), ?_, ((Cz.of hb (by omega)).set _).set _⟩
  · rw [← bs_self (s.extract _ _)]
    exact congrArg bs (unhide E2)
  · exact ((unhide K1).set 0 (by simp [ptC]) _).set 5 (by simp [ptC]) _

def hstB (l : List UInt8) : Bool := [47, 47].isPrefixOf l
set_option maxHeartbeats 1000000 in
theorem host_no (p : Value) (s : ByteArray) (w : World) (hz : s.size ≤ 100000) (h : hstB s.data.toList = false) :
    Calls Tryz.prog 94 #[p, .string s] w fun e w' => e = .returned (.string s) ∧ w' = w := by
  have C := hide (fun w => Tryz.strings_CutPrefix s ⟨#[47, 47]⟩ w)
  have e : Lib.hasPrefix s.data.toList (⟨#[47, 47]⟩ : ByteArray).data.toList = false := h
  rw [e] at C
  generalize (⟨(Lib.trimPrefix s.data.toList (⟨#[47, 47]⟩ : ByteArray).data.toList).toArray⟩ : ByteArray) = X at *
  clear e h
  go_enter Tryz.func94, Tryz.ntmps94
  go_wp2_with fail
  refine (unhide C _).mono ?_
  rintro e1 w1 ⟨rfl, hw1⟩
  obtain rfl : w = w1 := hw1.symm
  clear hw1
  go_wp2
  go_ret
  exact ⟨rfl, rfl⟩

set_option maxHeartbeats 1000000 in
theorem host_yes (b : Nat) (s sc ho pa qu ma : ByteArray) (hs hh hq hm : Bool) (n : Nat) (w : World) (hz : s.size ≤ 100000) (h : hstB s.data.toList = true) (hn : tkN (nfN 47 92) (s.data.toList.drop 2) = n)
    (hB : Blk w b (ptC sc ho pa qu ma hs hh hq hm) 124) :
    Calls Tryz.prog 94 #[.pointer (some ⟨b, 0, none⟩), .string s] w fun e w' => e = .returned (.string (bs ((s.data.toList.drop 2).drop n))) ∧ Blk w' b (ptC sc (bs ((s.data.toList.drop 2).take n)) pa qu ma hs true hq hm) 124 ∧ Cz b w w' := by
  have C := hide (fun w => Tryz.strings_CutPrefix s ⟨#[47, 47]⟩ w)
  have e : Lib.hasPrefix s.data.toList (⟨#[47, 47]⟩ : ByteArray).data.toList = true := h
  have e2 : (⟨(Lib.trimPrefix s.data.toList (⟨#[47, 47]⟩ : ByteArray).data.toList).toArray⟩ : ByteArray) = bs (s.data.toList.drop 2) := by
    rw [Lib.trimPrefix, e, if_pos rfl]; rfl
  rw [e, e2] at C
  have hx : (bs (s.data.toList.drop 2)).data.toList = s.data.toList.drop 2 := bs_toList _
  have hxs : (bs (s.data.toList.drop 2)).size ≤ 100000 := by rw [bs_size, List.length_drop, data_len]; omega
  rw [← hx] at hn
  rw [← hx]
  have CA := hide (fun w => iany_any (bs (s.data.toList.drop 2)) w hxs)
  generalize bs (s.data.toList.drop 2) = X at *
  have hle := tkN_le (nfN 47 92) X.data.toList
  rw [hn, data_len] at hle
  have E1 := hide (Lib.Pa.extract_upto X n)
  have E2 := hide (Lib.extract_to_end X n)
  have HB := hide hB
  have hlt := hB.lt
  have hpl : (n : Int) ≤ (X.size : Int) := by omega
  have hn0 : (0 : Int) ≤ (n : Int) := by omega
  by_cases hnx : n < X.size
  · have ha : anI X.data.toList = (n : Int) := by rw [anI, hn, if_pos (by rw [data_len]; exact hnx)]
    rw [ha] at CA
    have i1 : decide ((n : Int) < 0) = false := by simp
    clear hB hn e e2 h hx hxs ha
    go_enter Tryz.func94, Tryz.ntmps94
    go_wp2_with fail
    refine (unhide C _).mono ?_
    rintro e1 w1 ⟨rfl, hw1⟩
    obtain rfl : w = w1 := hw1.symm
    clear hw1
    go_wp2_with fail
    refine (unhide CA _).mono ?_
    rintro e1 w1 ⟨rfl, hb⟩
    have k1 : Blk w1 b (ptC sc ho pa qu ma hs hh hq hm) 124 := (unhide HB).later hb
    have c4 : w1.cell? ⟨b, 1, none⟩ = some (.string ho) := k1.cell 1
    have f4 : w1.frozen? ⟨b, 1, none⟩ = false := k1.frozen 1
    have c8 : w1.cell? ⟨b, 6, none⟩ = some (.bool hh) := k1.cell 6
    have f8 : w1.frozen? ⟨b, 6, none⟩ = false := k1.frozen 6
    have K1 := hide k1
    clear k1
    go_wp2
    go_ret
    refine ⟨ret1 (congrArg Value.string ?_), ?_, ((Cz.of hb (by omega)).set _).set _⟩
    · rw [← bs_self (X.extract _ _)]
      exact congrArg bs (unhide E2)
    · have := ((unhide K1).set 1 (by simp [ptC]) (.string (X.extract 0 n))).set 6 (by simp [ptC]) (.bool true)
      rw [unhide E1] at this
      rw [unhide E1]
      exact this
  · have hnn : n = X.size := by omega
    have ha : anI X.data.toList = -1 := by rw [anI, hn, if_neg (by rw [data_len]; omega)]
    rw [ha] at CA
    clear hB hn e e2 h hx hxs ha hnx
    subst hnn
    go_enter Tryz.func94, Tryz.ntmps94
    go_wp2_with fail
    refine (unhide C _).mono ?_
    rintro e1 w1 ⟨rfl, hw1⟩
    obtain rfl : w = w1 := hw1.symm
    clear hw1
    go_wp2_with fail
    refine (unhide CA _).mono ?_
    rintro e1 w1 ⟨rfl, hb⟩
    have k1 : Blk w1 b (ptC sc ho pa qu ma hs hh hq hm) 124 := (unhide HB).later hb
    have c4 : w1.cell? ⟨b, 1, none⟩ = some (.string ho) := k1.cell 1
    have f4 : w1.frozen? ⟨b, 1, none⟩ = false := k1.frozen 1
    have c8 : w1.cell? ⟨b, 6, none⟩ = some (.bool hh) := k1.cell 6
    have f8 : w1.frozen? ⟨b, 6, none⟩ = false := k1.frozen 6
    have K1 := hide k1
    clear k1
    go_wp2
    go_ret
    have t1 : bs (List.drop X.size X.data.toList) = ByteArray.empty := by rw [List.drop_eq_nil_of_le (by rw [data_len]; omega)]; rfl
    have t2 : bs (List.take X.size X.data.toList) = X := by rw [List.take_of_length_le (by rw [data_len]; omega), bs_self]
    rw [t1, t2]
    refine ⟨by first | rfl | trivial, ?_, ((Cz.of hb (by omega)).set _).set _⟩
    exact ((unhide K1).set 1 (by simp [ptC]) _).set 6 (by simp [ptC]) _
end Go.Proofs.YtfdhmhdemfbfeaaGreatDoor
