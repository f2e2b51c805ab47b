/-
  What 'words.told' does under both its closures, and 'Old', 'New', 'Marked' (made by mk_xto.py).
-/
import Derived.Test.YtfbgpodcdgmpjaaDoorMgAO
import Derived.Test.YtfbgpodcdgmpjaaDoorSh
import Derived.Laws.EntriesVeiled
namespace Go.Proofs.YtfbgpodcdgmpjaaDoor
open Go.RowKit
set_option linter.unusedVariables false
set_option linter.unusedSimpArgs false

/-- Pieces that are read. -/
def PcA (w : World) (q : Option Addr) (L : List Pc) : Prop := 0 < L.length → ∃ g o, q = some ⟨g, o, none⟩ ∧ ∀ i, i < L.length → w.cell? ⟨g, o + i * 2, none⟩ = some (.int .i64 (L.getD i (0, ByteArray.empty)).1) ∧ w.cell? ⟨g, o + i * 2 + 1, none⟩ = some (.string (L.getD i (0, ByteArray.empty)).2)
theorem PcA.below {w w' : World} {q : Option Addr} {L : List Pc} (h : PcA w q L) (hb : Below w.heap.size w w') : PcA w' q L := fun h0 => by
  obtain ⟨g, o, h1, h2⟩ := h h0
  exact ⟨g, o, h1, fun i hi => ⟨cell_later hb (h2 i hi).1, cell_later hb (h2 i hi).2⟩⟩
theorem flatQ_get (L : List Pc) (i : Nat) (h : i < L.length) : (flatQ L)[i * 2]? = some (.int .i64 (L.getD i (0, ByteArray.empty)).1) ∧ (flatQ L)[i * 2 + 1]? = some (.string (L.getD i (0, ByteArray.empty)).2) := by
  induction L generalizing i with
  | nil => simp at h
  | cons p r ih =>
    cases i with
    | zero => exact ⟨rfl, rfl⟩
    | succ i =>
      have := ih i (by simpa using h)
      simp only [flatQ]
      rw [List.getElem?_append_right (by simp; omega), List.getElem?_append_right (by simp; omega)]
      have e1 : (i + 1) * 2 - ([Value.int .i64 p.1, .string p.2] : List Value).length = i * 2 := by simp; omega
      have e2 : (i + 1) * 2 + 1 - ([Value.int .i64 p.1, .string p.2] : List Value).length = i * 2 + 1 := by simp; omega
      rw [e1, e2]
      simpa using this
/-- Pieces that a call owns, read. -/
theorem PcsV.read {w : World} {base : Nat} {v : Value} {L : List Pc} (h : PcsV w base v L) : ∃ q c, v = .slice q L.length c ∧ L.length ≤ c ∧ PcA w q L := by
  obtain ⟨_, h⟩ := h
  rcases h with ⟨h1, h0⟩ | ⟨g, cap, cur, h0, h1, h2, h3, h4, h5, h6⟩
  · exact ⟨none, 0, by rw [h0]; exact h1, by omega, fun x => by omega⟩
  · refine ⟨_, cap, h0, h3, fun hp => ⟨g, 0, rfl, fun i hi => ?_⟩⟩
    have hc : ∀ j, j < L.length * 2 → w.cell? ⟨g, 0 + j, none⟩ = (flatQ L)[j]? := by
      intro j hj
      rw [Nat.zero_add, Joins.cell_of_block h2, ← h6, List.getElem?_take, if_pos hj]
      simp
    obtain ⟨f1, f2⟩ := flatQ_get L i hi
    exact ⟨(hc _ (by omega)).trans f1, by rw [Nat.add_assoc]; exact (hc _ (by omega)).trans f2⟩
theorem bld_string (B b : Nat) (l : List UInt8) (w : World) (h : Bld B b l w) (hBw : B ≤ w.heap.size) :
    Calls Tryd.prog 36 #[.pointer (some ⟨b, 0, none⟩)] w fun e w' => e = .returned (.string (bs l)) ∧ Below B w w' :=
  Any.Builder_String_any Tryd.lays169 Tryd.extraB B b l w h hBw
/-- A box that holds some Kinds. -/
def KindsAt (w : World) (bx : Nat) (zs : List Int) : Prop := ∃ kb, w.cell? ⟨bx, 0, none⟩ = some (.slice (some ⟨kb, 0, none⟩) zs.length zs.length) ∧ ∀ j, j < zs.length → w.cell? ⟨kb, 0 + j, none⟩ = some (.int .i64 (zs.getD j 0))
theorem KindsAt.below {w w' : World} {bx : Nat} {zs : List Int} (h : KindsAt w bx zs) (hb : Below w.heap.size w w') : KindsAt w' bx zs := by
  obtain ⟨kb, h1, h2⟩ := h
  exact ⟨kb, cell_later hb h1, fun j hj => cell_later hb (h2 j hj)⟩
def inK (zs : List Int) (k : Int) : Bool := zs.contains k
set_option maxHeartbeats 1000000 in
theorem if1_any (bx : Nat) (zs : List Int) (k : Int) (t : ByteArray) (w : World) (h : KindsAt w bx zs) (hz : zs.length ≤ 9223372036854775807) :
    Calls Tryd.prog 37 #[.agg #[.int .i64 k, .string t], .pointer (some ⟨bx, 0, none⟩)] w fun e w' => e = .returned (.string (bs (ifK (inK zs) (k, t)))) ∧ Below w.heap.size w w' := by
  have hbA : Below w.heap.size w (w.alloc (Obj.cells #[.int .i64 k, .string t] 36)) := (Below.refl _ _).alloc (Nat.le_refl _) _
  obtain ⟨kb, h1, h2⟩ := h
  have hl := World.block_lt_of_cell? w ⟨bx, 0, none⟩ h1
  have C := hide (Tryd.slices_Contains_int kb 0 zs.length zs.length zs k (w.alloc (Obj.cells #[.int .i64 k, .string t] 36)) (Nat.le_refl _) hz (fun j hj => cell_later hbA (h2 j hj)))
  rw [List.take_length] at C
  have HK : Hid (ifK (inK zs) (k, t) = if zs.contains k = true then t.data.toList else []) := hide rfl
  have HB := hide hbA
  rw [unhide HK]
  generalize zs.contains k = p at *
  clear HK h2 hbA hz
  generalize zs.length = nz at *
  cases p with
  | true =>
    rw [if_pos rfl, bs_self]
    go_enter Tryd.func37, Tryd.ntmps37
    go_wp2_with fail
    refine Calls.mono (unhide C) ?_
    rintro e w1 ⟨rfl, rfl⟩
    go_wp2
    go_ret
    exact ⟨rfl, unhide HB⟩
  | false =>
    rw [if_neg (by decide)]
    go_enter Tryd.func37, Tryd.ntmps37
    go_wp2_with fail
    refine Calls.mono (unhide C) ?_
    rintro e w1 ⟨rfl, rfl⟩
    go_wp2
    go_ret
    exact ⟨rfl, unhide HB⟩
def mkF (x : Pc) : List UInt8 := if x.1 = 1 then x.2.data.toList else if x.1 = 2 then [91, 45] ++ x.2.data.toList ++ [45, 93] else if x.1 = 3 then [91, 43] ++ x.2.data.toList ++ [43, 93] else []
theorem mk_app (a b : UInt8) (c d : UInt8) (t : ByteArray) : (⟨#[a, b]⟩ : ByteArray) ++ t ++ ⟨#[c, d]⟩ = bs ([a, b] ++ t.data.toList ++ [c, d]) := by
  rw [add_bs, add_bs, bs_toList]
set_option maxHeartbeats 1000000 in
theorem marked_any (k : Int) (t : ByteArray) (w : World) (ht : t.size ≤ 1000000000000000) :
    Calls Tryd.prog 22 #[.agg #[.int .i64 k, .string t]] w fun e w' => e = .returned (.string (bs (mkF (k, t)))) ∧ Below w.heap.size w w' := by
  have hbA : Below w.heap.size w (w.alloc (Obj.cells #[.int .i64 k, .string t] 36)) := (Below.refl _ _).alloc (Nat.le_refl _) _
  have HB := hide hbA
  have g1 : ¬ 9223372036854775807 < 2 + t.size := by omega
  have g2 : ¬ 9223372036854775807 < 2 + t.size + 2 := by omega
  clear hbA
  by_cases k1 : k = 1
  · subst k1
    have e : mkF (1, t) = t.data.toList := rfl
    rw [e, bs_self]
    go_enter Tryd.func22, Tryd.ntmps22
    go_wp2
    go_ret
    exact ⟨rfl, unhide HB⟩
  have n1 : (k == 1) = false := beq_eq_false_iff_ne.2 k1
  by_cases k2 : k = 2
  · subst k2
    have e : mkF (2, t) = [91, 45] ++ t.data.toList ++ [45, 93] := rfl
    rw [e, ← mk_app]
    go_enter Tryd.func22, Tryd.ntmps22
    go_wp2
    go_ret
    exact ⟨rfl, unhide HB⟩
  have n2 : (k == 2) = false := beq_eq_false_iff_ne.2 k2
  by_cases k3 : k = 3
  · subst k3
    have e : mkF (3, t) = [91, 43] ++ t.data.toList ++ [43, 93] := rfl
    rw [e, ← mk_app]
    go_enter Tryd.func22, Tryd.ntmps22
    go_wp2
    go_ret
    exact ⟨rfl, unhide HB⟩
  have n3 : (k == 3) = false := beq_eq_false_iff_ne.2 k3
  have e : mkF (k, t) = [] := by unfold mkF; dsimp only; rw [if_neg k1, if_neg k2, if_neg k3]
  rw [e]
  clear k1 k2 k3 e
  go_enter Tryd.func22, Tryd.ntmps22
  go_wp2
  go_ret
  exact ⟨rfl, unhide HB⟩
theorem toldF_take (f : Pc → List UInt8) (L : List Pc) (i : Nat) (h : i < L.length) : toldF f (L.take (i + 1)) = toldF f (L.take i) ++ f (L.getD i (0, ByteArray.empty)) := by
  rw [List.take_add_one, List.getElem?_eq_getElem h, toldF_app, List.getD, List.getElem?_eq_getElem h]
  simp [toldF]
theorem toldF_le (f : Pc → List UInt8) (L : List Pc) (i : Nat) : (toldF f (L.take i)).length ≤ (toldF f L).length := by
  have : toldF f L = toldF f (L.take i) ++ toldF f (L.drop i) := by rw [← toldF_app, List.take_append_drop]
  rw [this, List.length_append]; omega
set_option maxHeartbeats 2000000 in
theorem told_if (bx : Nat) (zs : List Int) (q : Option Addr) (c : Nat) (L : List Pc) (w : World) (hL : PcA w q L) (hk : KindsAt w bx zs) (hz : zs.length ≤ 9223372036854775807) (hl : L.length ≤ 1000000) (hs : (toldF (ifK (inK zs)) L).length ≤ 140737488355328) :
    Calls Tryd.prog 21 #[.slice q L.length c, .func (.func 37) #[] #[.pointer (some ⟨bx, 0, none⟩)]] w fun e w' => e = .returned (.string (bs (toldF (ifK (inK zs)) L))) ∧ Below w.heap.size w w' := by
  have C := hide (fun (i : Nat) (hi : i < L.length) (W : World) (hW : Below w.heap.size w W) => if1_any bx zs (L.getD i (0, ByteArray.empty)).1 (L.getD i (0, ByteArray.empty)).2 W (hk.below hW) hz)
  have HL := hide hL
  have HN := bld_new w
  have HT := hide (toldF_take (ifK (inK zs)) L)
  have HE := hide (toldF_le (ifK (inK zs)) L)
  have HA : Hid (toldF (ifK (inK zs)) (L.take L.length) = toldF (ifK (inK zs)) L) := hide (by rw [List.take_length])
  obtain ⟨z, hz⟩ : ∃ z, toldF (ifK (inK zs)) L = z := ⟨_, rfl⟩
  rw [hz] at hs HA ⊢
  have HZ := hide hz
  have hb0 : Below w.heap.size w (w.alloc (.cells #[.pointer none, .slice none 0 0] 75)) := (Below.refl _ _).alloc (Nat.le_refl _) _
  clear hL hz
  go_enter Tryd.func21, Tryd.ntmps21
  go_wp2
  go_loopw [10] (fun i wr => ∃ j : Nat, j ≤ L.length ∧ i = .int .i64 (j : Int) ∧ Bld w.heap.size w.heap.size (toldF (ifK (inK zs)) (L.take j)) wr ∧ Below w.heap.size w wr) (fun i _ => L.length - (intOf i).toNat)
  case atStart => exact ⟨0, Nat.zero_le _, rfl, HN, hb0⟩
  case round =>
    obtain ⟨j, hj, rfl, hbd, hbw⟩ := hrel
    have hz := hbw.size
    by_cases hp : j < L.length
    · have hpi : (j : Int) < (L.length : Int) := by omega
      obtain ⟨g, o, rfl, hc⟩ := (unhide HL).below hbw (by omega)
      obtain ⟨x0, x1⟩ := hc j hp
      have hba : Below wr.heap.size wr (wr.alloc (Obj.cells #[.int .i64 (L.getD j (0, ByteArray.empty)).1, .string (L.getD j (0, ByteArray.empty)).2] 36)) := (Below.refl _ _).alloc (Nat.le_refl _) _
      have CP := hide (unhide C j hp _ (tr2 hbw hba))
      have HT2 := hide (unhide HT j hp)
      have hle := unhide HE (j + 1)
      rw [unhide HT2, List.length_append] at hle
      rw [unhide HZ] at hle
      have HBD := hide (bld_below hbd hba)
      have HBW := hide (tr2 hbw hba)
      obtain ⟨pc, hpc⟩ : ∃ pc, L.getD j (0, ByteArray.empty) = pc := ⟨_, rfl⟩
      rw [hpc] at x0 x1 CP HT2 hle HBD HBW
      obtain ⟨k, t⟩ := pc
      dsimp only at x0 x1 CP HBD HBW
      have hfl : (bs (ifK (inK zs) (k, t))).size = (ifK (inK zs) (k, t)).length := bs_size _
      have hbt : (bs (ifK (inK zs) (k, t))).data.toList = ifK (inK zs) (k, t) := bs_toList _
      generalize ifK (inK zs) (k, t) = y at *
      clear hc hpc hbd hba hbw
      go_wp2_with fail
      refine Calls.mono (unhide CP) ?_
      rintro e w2 ⟨rfl, hb2⟩
      have HBD2 := bld_below (unhide HBD) hb2
      have HBW2 := hide (tr2 (unhide HBW) hb2)
      have hz2 := (unhide HBW2).size
      clear hb2
      go_wp2_with fail
      refine Calls.mono (writeString_any w.heap.size w.heap.size (toldF (ifK (inK zs)) (L.take j)) (bs y) w2 HBD2 (by omega) hz2) ?_
      rintro e w3 ⟨rfl, hbd3, hb3⟩
      rw [hbt, ← unhide HT2] at hbd3
      have HB3 := hide ((unhide HBW2).trans hb3)
      have HBD3 := hide hbd3
      clear hb3 hbd3 HBD2
      go_wp2
      go_roundw
      case rel => exact ⟨j + 1, by omega, by go_num, unhide HBD3, unhide HB3⟩
      case measure => simp [intOf]; omega
    · have hje : j = L.length := by omega
      subst hje
      rw [unhide HA] at hbd
      have HBW := hide hbw
      clear hbw
      have hpi : ¬ (L.length : Int) < (L.length : Int) := by omega
      go_wp2_with fail
      refine Calls.mono (bld_string w.heap.size w.heap.size z wr hbd hz) ?_
      rintro e w3 ⟨rfl, hb3⟩
      have HB3 := hide ((unhide HBW).trans hb3)
      clear hb3
      go_wp2
      go_ret
      exact ⟨rfl, unhide HB3⟩
set_option maxHeartbeats 2000000 in
theorem told_mk (q : Option Addr) (c : Nat) (L : List Pc) (w : World) (hL : PcA w q L) (ht : ∀ p ∈ L, p.2.size ≤ 1000000000000000) (hl : L.length ≤ 1000000) (hs : (toldF (mkF) L).length ≤ 140737488355328) :
    Calls Tryd.prog 21 #[.slice q L.length c, .func (.func 22) #[] #[]] w fun e w' => e = .returned (.string (bs (toldF (mkF) L))) ∧ Below w.heap.size w w' := by
  have C := hide (fun (i : Nat) (hi : i < L.length) (W : World) (hW : Below w.heap.size w W) => marked_any (L.getD i (0, ByteArray.empty)).1 (L.getD i (0, ByteArray.empty)).2 W (by rw [List.getD, List.getElem?_eq_getElem hi]; exact ht _ (List.getElem_mem hi)))
  have HL := hide hL
  have HN := bld_new w
  have HT := hide (toldF_take (mkF) L)
  have HE := hide (toldF_le (mkF) L)
  have HA : Hid (toldF (mkF) (L.take L.length) = toldF (mkF) L) := hide (by rw [List.take_length])
  obtain ⟨z, hz⟩ : ∃ z, toldF (mkF) L = z := ⟨_, rfl⟩
  rw [hz] at hs HA ⊢
  have HZ := hide hz
  have hb0 : Below w.heap.size w (w.alloc (.cells #[.pointer none, .slice none 0 0] 75)) := (Below.refl _ _).alloc (Nat.le_refl _) _
  clear hL hz
  go_enter Tryd.func21, Tryd.ntmps21
  go_wp2
  go_loopw [10] (fun i wr => ∃ j : Nat, j ≤ L.length ∧ i = .int .i64 (j : Int) ∧ Bld w.heap.size w.heap.size (toldF (mkF) (L.take j)) wr ∧ Below w.heap.size w wr) (fun i _ => L.length - (intOf i).toNat)
  case atStart => exact ⟨0, Nat.zero_le _, rfl, HN, hb0⟩
  case round =>
    obtain ⟨j, hj, rfl, hbd, hbw⟩ := hrel
    have hz := hbw.size
    by_cases hp : j < L.length
    · have hpi : (j : Int) < (L.length : Int) := by omega
      obtain ⟨g, o, rfl, hc⟩ := (unhide HL).below hbw (by omega)
      obtain ⟨x0, x1⟩ := hc j hp
      have hba : Below wr.heap.size wr (wr.alloc (Obj.cells #[.int .i64 (L.getD j (0, ByteArray.empty)).1, .string (L.getD j (0, ByteArray.empty)).2] 36)) := (Below.refl _ _).alloc (Nat.le_refl _) _
      have CP := hide (unhide C j hp _ (tr2 hbw hba))
      have HT2 := hide (unhide HT j hp)
      have hle := unhide HE (j + 1)
      rw [unhide HT2, List.length_append] at hle
      rw [unhide HZ] at hle
      have HBD := hide (bld_below hbd hba)
      have HBW := hide (tr2 hbw hba)
      obtain ⟨pc, hpc⟩ : ∃ pc, L.getD j (0, ByteArray.empty) = pc := ⟨_, rfl⟩
      rw [hpc] at x0 x1 CP HT2 hle HBD HBW
      obtain ⟨k, t⟩ := pc
      dsimp only at x0 x1 CP HBD HBW
      have hfl : (bs (mkF (k, t))).size = (mkF (k, t)).length := bs_size _
      have hbt : (bs (mkF (k, t))).data.toList = mkF (k, t) := bs_toList _
      generalize mkF (k, t) = y at *
      clear hc hpc hbd hba hbw
      go_wp2_with fail
      refine Calls.mono (unhide CP) ?_
      rintro e w2 ⟨rfl, hb2⟩
      have HBD2 := bld_below (unhide HBD) hb2
      have HBW2 := hide (tr2 (unhide HBW) hb2)
      have hz2 := (unhide HBW2).size
      clear hb2
      go_wp2_with fail
      refine Calls.mono (writeString_any w.heap.size w.heap.size (toldF (mkF) (L.take j)) (bs y) w2 HBD2 (by omega) hz2) ?_
      rintro e w3 ⟨rfl, hbd3, hb3⟩
      rw [hbt, ← unhide HT2] at hbd3
      have HB3 := hide ((unhide HBW2).trans hb3)
      have HBD3 := hide hbd3
      clear hb3 hbd3 HBD2
      go_wp2
      go_roundw
      case rel => exact ⟨j + 1, by omega, by go_num, unhide HBD3, unhide HB3⟩
      case measure => simp [intOf]; omega
    · have hje : j = L.length := by omega
      subst hje
      rw [unhide HA] at hbd
      have HBW := hide hbw
      clear hbw
      have hpi : ¬ (L.length : Int) < (L.length : Int) := by omega
      go_wp2_with fail
      refine Calls.mono (bld_string w.heap.size w.heap.size z wr hbd hz) ?_
      rintro e w3 ⟨rfl, hb3⟩
      have HB3 := hide ((unhide HBW).trans hb3)
      clear hb3
      go_wp2
      go_ret
      exact ⟨rfl, unhide HB3⟩
end Go.Proofs.YtfbgpodcdgmpjaaDoor
