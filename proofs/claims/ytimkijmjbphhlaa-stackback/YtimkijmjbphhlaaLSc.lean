/-
  The walk of StackBack.
-/
import Derived.Test.YtimkijmjbphhlaaLSb
namespace Go.Proofs.Ytimkijmjbphhlaa
open Go.RowKit
set_option linter.unusedVariables false
set_option linter.unusedSimpArgs false

theorem back_small (q : Option Addr) (len cap : Nat) (scope : Int) (name : ByteArray) (w : World) (h : 100 < len) :
    Calls Try.prog 4 #[.slice q len cap, .int .i64 scope, .string name] w fun e w' => e = .returned (.bool true) ∧ Below w.heap.size w w' := by
  have CN := hide (fun w => new_any w.heap.size w (Nat.le_refl _))
  have CC := hide (fun w => cell_any w)
  have h1 : (100 : Int) < (len : Int) := by omega
  unfold ptr at *
  go_enter Try.func4, Try.ntmps4
  go_wp2_with fail
  refine (unhide CN _).mono ?_
  rintro e w1 ⟨rfl, _, hb1⟩
  have HB := hide hb1
  clear hb1
  go_wp2_with fail
  refine (unhide CN _).mono ?_
  rintro e w2 ⟨rfl, _, hb2⟩
  have HB2 := hide (cellB2 (unhide HB) hb2)
  clear hb2
  go_wp2_with fail
  refine (unhide CC _).mono ?_
  rintro e w3 ⟨rfl, hb3⟩
  go_wp2
  go_ret
  exact ⟨rfl, cellB2 (unhide HB2) hb3⟩

/-- What the loop that pushes all of a list onto two stacks keeps. -/
def BackAt (L : List Ent) (p r : Nat) (w : World) (i : Value) (wr : World) : Prop :=
  ∃ (k : Nat) (v u : Value), k ≤ L.length ∧ i = .int .i64 k ∧ Two w.heap.size p v (L.take k) r u (L.take k) wr ∧ Below w.heap.size w wr
theorem lit_safe {base p : Nat} {v : Value} {L : List Ent} {w : World} (h : Stk base p v L w) (k n c : Nat) (hk : k = w.heap.size) : ∀ b, (Value.slice (some ⟨k, 0, none⟩) n c).ownBlock = some b → b ≠ p ∧ some b ≠ v.ownBlock := by
  intro b hb
  simp only [Value.ownBlock, Option.some.injEq] at hb
  subst hb hk
  exact ⟨by have := h.lt; omega, fun e => by have := h.own _ e.symm; omega⟩

set_option maxHeartbeats 40000000 in
set_option maxRecDepth 100000 in
theorem back_no (q : Option Addr) (n cap : Nat) (L : List Ent) (scope : Int) (name : ByteArray) (w : World) (hn : Hid (L.length = n)) (h100 : n ≤ 100) (hL : L = [] ∨ ∃ g o, q = some ⟨g, o, none⟩ ∧ Cells3 g o L w) (hlt : ¬ offN (backF [name.data.toList]) L < L.length) :
    Calls Try.prog 4 #[.slice q n cap, .int .i64 scope, .string name] w fun e w' => e = .returned (.bool true) ∧ Below w.heap.size w w' := by
  have CN := hide (fun w1 hb => new_any w.heap.size w1 hb)
  have CC := hide (fun w => cell_any w)
  have CP := hide (fun p v x M W h hb => push_any w.heap.size p v x M W h hb)
  have IS := hide (fun v nv W h hv => in_s w.heap.size w.heap.size v nv scope [name.data.toList] L W h hv)
  have BK := hide (fun v nv W h hv hsf => back_any w.heap.size w.heap.size v nv [name.data.toList] L W h (by rw [unhide hn]; omega) hv hsf)
  have TO := hide (fun r v nv W h hv hsf => to_any w.heap.size r v nv [name.data.toList] L W h (by rw [unhide hn]; omega) hv hsf)
  have hNle := offN_le (backF [name.data.toList]) L
  have hto : toN [name.data.toList] L = offN (backF [name.data.toList]) L := by unfold toN; rw [if_neg hlt]
  rw [hto] at TO
  have hlen : offN (backF [name.data.toList]) L = n := by rw [← unhide hn]; omega
  rw [hlen] at BK TO
  rw [unhide hn, Nat.sub_self, List.take_zero] at BK
  rw [in_ok scope [name.data.toList] _ L rfl hlt] at IS
  have TP := hide (fun (v : Value) W (hW : Stk w.heap.size w.heap.size v [] W) => by
    obtain ⟨q, cap, e, _⟩ := hW.slice
    exact top_none (ptr w.heap.size) q cap W (hide fun w2 hb2 => by
      have hl := hW.later hb2
      rw [e] at hl
      exact entries_at w.heap.size _ w2 hl.1 ⟨_, _, _, rfl⟩))
  have AL := hide (fun v W h => all_any w.heap.size w.heap.size v [] W h (by decide))
  unfold entV e0 at TP
  dsimp only at TP
  have HV : Hid (∀ (W : World) (k : Nat), k = W.heap.size → View (W.alloc (Obj.cells #[.string name] 9)) (.slice (some ⟨k, 0, none⟩) 1 1) (Ls [name.data.toList])) := hide fun W k hk =>
    view_litk W [name.data.toList] _ (by simp) 1 rfl k hk #[.string name] (by simp [bs_self])
  have HC := hide hL
  have hni : (n : Int) ≤ 100 := by omega
  have hn1 : ¬ 100 < (n : Int) := by omega
  clear hL hto
  clear hlt hNle hlen
  unfold ptr at *
  go_enter Try.func4, Try.ntmps4
  go_wp2_with fail
  refine (unhide CN _ (Nat.le_refl _)).mono ?_
  rintro e w1 ⟨rfl, hs1, hb1⟩
  have S1 := hide hs1
  have B1 := hide hb1
  have hz1 := hb1.size
  have hz2 := hs1.lt
  clear hs1 hb1
  go_wp2_with fail
  refine (unhide CN w1 hz1).mono ?_
  rintro e w2 ⟨rfl, hs2, hb2⟩
  have hsz2 := hs2.lt
  have HAT : Hid (BackAt L w.heap.size w1.heap.size w (.int .i64 0) w2) := hide ⟨0, _, _, Nat.zero_le _, rfl, ⟨(unhide S1).later hb2, hs2, by omega, by simp [Value.ownBlock], by simp [Value.ownBlock], by simp [Value.ownBlock]⟩, cellB2 (unhide B1) hb2⟩
  clear hs2 hb2 S1 B1
  have HR := hide hz1
  generalize w1.heap.size = r at *
  go_wp2
  go_loopw [40] (fun i wr => BackAt L w.heap.size r w i wr) (fun i _ => n - (intOf i).toNat)
  case atStart => exact unhide HAT
  case round =>
    clear HAT
    obtain ⟨k, v, u, hk, rfl, hT, hb⟩ := hrel
    rw [unhide hn] at hk
    have HT := hide hT
    have HB := hide hb
    have hsz := hb.size
    by_cases hlk : k < n
    · have hlti : (k : Int) < (n : Int) := by omega
      rcases unhide HC with hnil | ⟨g, o, hq, hcs⟩
      · have := unhide hn; rw [hnil] at this; simp at this; omega
      subst hq
      have hkl : k < L.length := by rw [unhide hn]; exact hlk
      obtain ⟨c0, c1, c2⟩ := hcs.below hb k hkl
      have HP := hide (take_push L k hkl)
      have hl2 : ¬ 200 ≤ (L.take k).length := by rw [List.length_take]; omega
      have CP1 := hide (fun p v W h hb => unhide CP p v (L.getD k e0) (L.take k) W h hb)
      simp only [if_neg hl2] at CP1
      generalize hy : L.getD k e0 = y at *
      obtain ⟨yi, ys, yn⟩ := y
      unfold entV at CP1
      dsimp only at *
      have hbx : Below wr.heap.size wr (wr.alloc (Obj.cells #[.int .i64 yi, .int .i64 ys, .string yn] 32)) := (Below.refl _ _).alloc (Nat.le_refl _) _
      have BX := hide hbx
      have HTX := hide (hT.later hbx)
      clear hT hb hcs hkl hl2 hy hbx
      go_wp2_with fail
      refine (unhide CP1 w.heap.size v _ (unhide HTX).1 (by simp; omega)).mono ?_
      rintro e w3 ⟨rfl, hu⟩
      have B3 := twoB (cellB2 (unhide HB) (unhide BX)) (unhide HTX).1 (Nat.le_refl _) hu
      obtain ⟨v', hT3⟩ := (unhide HTX).upd hu
      have kB : Blk w3 wr.heap.size #[.int .i64 yi, .int .i64 ys, .string yn] 32 := by
        obtain ⟨_, _, ht, _⟩ := hu
        exact ht.blk_new (Blk.new wr _ _) (unhide HT).1.lt (unhide HT).1.own
      have d0 : w3.cell? ⟨wr.heap.size, 0, none⟩ = some (.int .i64 yi) := kB.cell 0
      have d1 : w3.cell? ⟨wr.heap.size, 1, none⟩ = some (.int .i64 ys) := kB.cell 1
      have d2 : w3.cell? ⟨wr.heap.size, 2, none⟩ = some (.string yn) := kB.cell 2
      have HT3 := hide hT3.symm
      have HB3 := hide B3
      have hsz3 := B3.size
      clear hT3 B3 kB hu
      go_wp2_with fail
      refine (unhide CP1 r u _ (unhide HT3).1 hsz3).mono ?_
      rintro e w4 ⟨rfl, hu⟩
      have B4 := twoB (unhide HB3) (unhide HT3).1 (unhide HR) hu
      obtain ⟨u', hT4⟩ := (unhide HT3).upd hu
      have HT4 := hide hT4.symm
      have HB4 := hide B4
      clear hT4 B4 hu
      go_wp2
      go_roundw
      case rel => exact ⟨k + 1, v', u', by rw [unhide hn]; omega, by go_num, by rw [unhide HP]; exact unhide HT4, unhide HB4⟩
      case measure => simp [intOf]; omega
    · have hkn : n = k := by omega
      subst hkn
      have hnl : ¬ (n : Int) < (n : Int) := by omega
      rw [← unhide hn, List.take_length] at hT
      replace HT := hide hT
      clear hT hb hlk
      go_wp2_with fail
      have al : Below wr.heap.size wr (wr.alloc (Obj.cells #[.string name] 9)) := (Below.refl _ _).alloc (Nat.le_refl _) _
      refine (unhide IS v _ _ ((unhide HT).1.later al) (unhide HV wr _ rfl)).mono ?_
      rintro e w3 ⟨rfl, hb⟩
      have T3 := hide ((unhide HT).later (tr2 al hb))
      have B3 := hide (cellB2 (unhide HB) (tr2 al hb))
      clear hb al HT HB
      go_wp2_with fail
      have al : Below w3.heap.size w3 (w3.alloc (Obj.cells #[.string name] 9)) := (Below.refl _ _).alloc (Nat.le_refl _) _
      refine (unhide BK v _ _ ((unhide T3).1.later al) (unhide HV w3 _ rfl) (lit_safe (unhide T3).1 _ _ _ rfl)).mono ?_
      rintro e w4 ⟨rfl, hu⟩
      have B4 := hide (twoB (cellB2 (unhide B3) al) ((unhide T3).1.later al) (Nat.le_refl _) hu)
      obtain ⟨v', hT4⟩ := ((unhide T3).later al).upd hu
      have T4 := hide hT4.symm
      clear hu al T3 B3 hT4
      go_wp2_with fail
      have al : Below w4.heap.size w4 (w4.alloc (Obj.cells #[.string name] 9)) := (Below.refl _ _).alloc (Nat.le_refl _) _
      refine (unhide TO r u _ _ ((unhide T4).1.later al) (unhide HV w4 _ rfl) (lit_safe (unhide T4).1 _ _ _ rfl)).mono ?_
      rintro e w5 ⟨rfl, hu⟩
      have B5 := hide (twoB (cellB2 (unhide B4) al) ((unhide T4).1.later al) (unhide HR) hu)
      obtain ⟨u', hT5⟩ := ((unhide T4).later al).upd hu
      have T5 := hide hT5.symm
      clear hu al T4 B4 hT5
      go_wp2_with fail
      refine (unhide TP v' _ (unhide T5).1).mono ?_
      rintro e w6 ⟨rfl, hb⟩
      have T6 := hide ((unhide T5).1.later hb)
      have B6 := hide (cellB2 (unhide B5) hb)
      clear hb T5 B5
      have al : Below w6.heap.size w6 (w6.alloc (Obj.cells #[.int .i64 0, .int .i64 0, .string ⟨#[]⟩] 32)) := (Below.refl _ _).alloc (Nat.le_refl _) _
      have AX := hide al
      clear al
      have enn : ((n : Int) == (n : Int)) = true := by simp
      go_wp2_with fail
      refine (unhide AL v' _ ((unhide T6).later (unhide AX))).mono ?_
      rintro e w7 ⟨uu, rfl, hu, hb⟩
      obtain ⟨q7, n7, c7, rfl⟩ := slice_of hu
      have hlen7 : n7 = 0 := by
        rcases hu.2 with ⟨h, h0⟩ | ⟨g, cap, cur, h, _⟩
        · simp at h; omega
        · simp at h; omega
      subst hlen7
      have B7 := hide (cellB2 (unhide B6) (tr2 (unhide AX) hb))
      clear hu hb
      go_wp2_with fail
      refine (unhide CC _).mono ?_
      rintro e w8 ⟨rfl, hb⟩
      have B8 := hide (cellB2 (unhide B7) hb)
      clear hb
      go_wp2
      go_ret
      exact ⟨rfl, unhide B8⟩

set_option maxHeartbeats 40000000 in
set_option maxRecDepth 100000 in
theorem back_ok (q : Option Addr) (n cap : Nat) (L : List Ent) (scope : Int) (name : ByteArray) (w : World) (hn : Hid (L.length = n)) (h100 : n ≤ 100) (hL : L = [] ∨ ∃ g o, q = some ⟨g, o, none⟩ ∧ Cells3 g o L w) (hlt : offN (backF [name.data.toList]) L < L.length) :
    Calls Try.prog 4 #[.slice q n cap, .int .i64 scope, .string name] w fun e w' => e = .returned (.bool true) ∧ Below w.heap.size w w' := by
  have CN := hide (fun w1 hb => new_any w.heap.size w1 hb)
  have CC := hide (fun w => cell_any w)
  have CP := hide (fun p v x M W h hb => push_any w.heap.size p v x M W h hb)
  have IS := hide (fun v nv W h hv => in_s w.heap.size w.heap.size v nv scope [name.data.toList] L W h hv)
  have BK := hide (fun v nv W h hv hsf => back_any w.heap.size w.heap.size v nv [name.data.toList] L W h (by rw [unhide hn]; omega) hv hsf)
  have TO := hide (fun r v nv W h hv hsf => to_any w.heap.size r v nv [name.data.toList] L W h (by rw [unhide hn]; omega) hv hsf)
  have hNle := offN_le (backF [name.data.toList]) L
  obtain ⟨a, x, hM, ha⟩ := take_snoc L (offN (backF [name.data.toList]) L) hlt
  obtain ⟨hxs, hxn⟩ := back_top hM
  have hMl : (a ++ [x]).length = n - offN (backF [name.data.toList]) L := by rw [← hM, List.length_take, unhide hn]; omega
  have hto : toN [name.data.toList] L = offN (backF [name.data.toList]) L + 1 := by unfold toN; rw [if_pos hlt]
  rw [hto] at TO
  rw [hM] at BK
  have TP := hide (fun v W h => top_some w.heap.size w.heap.size v a x W h)
  have AL := hide (fun v W h => all_any w.heap.size w.heap.size v (a ++ [x]) W h (by rw [hMl]; omega))
  obtain ⟨xi, xsp, xn⟩ := x
  dsimp only at hxs hxn
  subst hxs
  subst hxn
  unfold entV at TP
  dsimp only at TP
  generalize hbi : inS scope [xn.data.toList] L = bi at *
  rw [unhide hn] at hlt hNle
  generalize offN (backF [xn.data.toList]) L = N1 at *
  have HV : Hid (∀ (W : World) (k : Nat), k = W.heap.size → View (W.alloc (Obj.cells #[.string xn] 9)) (.slice (some ⟨k, 0, none⟩) 1 1) (Ls [xn.data.toList])) := hide fun W k hk =>
    view_litk W [xn.data.toList] _ (by simp) 1 rfl k hk #[.string xn] (by simp [bs_self])
  have HC := hide hL
  have hni : (n : Int) ≤ 100 := by omega
  have hn1 : ¬ 100 < (n : Int) := by omega
  clear hL hto
  have HMl := hide hMl
  clear hM ha hMl hbi
  unfold ptr at *
  go_enter Try.func4, Try.ntmps4
  go_wp2_with fail
  refine (unhide CN _ (Nat.le_refl _)).mono ?_
  rintro e w1 ⟨rfl, hs1, hb1⟩
  have S1 := hide hs1
  have B1 := hide hb1
  have hz1 := hb1.size
  have hz2 := hs1.lt
  clear hs1 hb1
  go_wp2_with fail
  refine (unhide CN w1 hz1).mono ?_
  rintro e w2 ⟨rfl, hs2, hb2⟩
  have hsz2 := hs2.lt
  have HAT : Hid (BackAt L w.heap.size w1.heap.size w (.int .i64 0) w2) := hide ⟨0, _, _, Nat.zero_le _, rfl, ⟨(unhide S1).later hb2, hs2, by omega, by simp [Value.ownBlock], by simp [Value.ownBlock], by simp [Value.ownBlock]⟩, cellB2 (unhide B1) hb2⟩
  clear hs2 hb2 S1 B1
  have HR := hide hz1
  generalize w1.heap.size = r at *
  go_wp2
  go_loopw [40] (fun i wr => BackAt L w.heap.size r w i wr) (fun i _ => n - (intOf i).toNat)
  case atStart => exact unhide HAT
  case round =>
    clear HAT
    obtain ⟨k, v, u, hk, rfl, hT, hb⟩ := hrel
    rw [unhide hn] at hk
    have HT := hide hT
    have HB := hide hb
    have hsz := hb.size
    by_cases hlk : k < n
    · have hlti : (k : Int) < (n : Int) := by omega
      rcases unhide HC with hnil | ⟨g, o, hq, hcs⟩
      · have := unhide hn; rw [hnil] at this; simp at this; omega
      subst hq
      have hkl : k < L.length := by rw [unhide hn]; exact hlk
      obtain ⟨c0, c1, c2⟩ := hcs.below hb k hkl
      have HP := hide (take_push L k hkl)
      have hl2 : ¬ 200 ≤ (L.take k).length := by rw [List.length_take]; omega
      have CP1 := hide (fun p v W h hb => unhide CP p v (L.getD k e0) (L.take k) W h hb)
      simp only [if_neg hl2] at CP1
      generalize hy : L.getD k e0 = y at *
      obtain ⟨yi, ys, yn⟩ := y
      unfold entV at CP1
      dsimp only at *
      have hbx : Below wr.heap.size wr (wr.alloc (Obj.cells #[.int .i64 yi, .int .i64 ys, .string yn] 32)) := (Below.refl _ _).alloc (Nat.le_refl _) _
      have BX := hide hbx
      have HTX := hide (hT.later hbx)
      clear hT hb hcs hkl hl2 hy hbx
      go_wp2_with fail
      refine (unhide CP1 w.heap.size v _ (unhide HTX).1 (by simp; omega)).mono ?_
      rintro e w3 ⟨rfl, hu⟩
      have B3 := twoB (cellB2 (unhide HB) (unhide BX)) (unhide HTX).1 (Nat.le_refl _) hu
      obtain ⟨v', hT3⟩ := (unhide HTX).upd hu
      have kB : Blk w3 wr.heap.size #[.int .i64 yi, .int .i64 ys, .string yn] 32 := by
        obtain ⟨_, _, ht, _⟩ := hu
        exact ht.blk_new (Blk.new wr _ _) (unhide HT).1.lt (unhide HT).1.own
      have d0 : w3.cell? ⟨wr.heap.size, 0, none⟩ = some (.int .i64 yi) := kB.cell 0
      have d1 : w3.cell? ⟨wr.heap.size, 1, none⟩ = some (.int .i64 ys) := kB.cell 1
      have d2 : w3.cell? ⟨wr.heap.size, 2, none⟩ = some (.string yn) := kB.cell 2
      have HT3 := hide hT3.symm
      have HB3 := hide B3
      have hsz3 := B3.size
      clear hT3 B3 kB hu
      go_wp2_with fail
      refine (unhide CP1 r u _ (unhide HT3).1 hsz3).mono ?_
      rintro e w4 ⟨rfl, hu⟩
      have B4 := twoB (unhide HB3) (unhide HT3).1 (unhide HR) hu
      obtain ⟨u', hT4⟩ := (unhide HT3).upd hu
      have HT4 := hide hT4.symm
      have HB4 := hide B4
      clear hT4 B4 hu
      go_wp2
      go_roundw
      case rel => exact ⟨k + 1, v', u', by rw [unhide hn]; omega, by go_num, by rw [unhide HP]; exact unhide HT4, unhide HB4⟩
      case measure => simp [intOf]; omega
    · have hkn : n = k := by omega
      subst hkn
      have hnl : ¬ (n : Int) < (n : Int) := by omega
      rw [← unhide hn, List.take_length] at hT
      replace HT := hide hT
      clear hT hb hlk
      go_wp2_with fail
      have al : Below wr.heap.size wr (wr.alloc (Obj.cells #[.string xn] 9)) := (Below.refl _ _).alloc (Nat.le_refl _) _
      refine (unhide IS v _ _ ((unhide HT).1.later al) (unhide HV wr _ rfl)).mono ?_
      rintro e w3 ⟨rfl, hb⟩
      have T3 := hide ((unhide HT).later (tr2 al hb))
      have B3 := hide (cellB2 (unhide HB) (tr2 al hb))
      clear hb al HT HB
      go_wp2_with fail
      have al : Below w3.heap.size w3 (w3.alloc (Obj.cells #[.string xn] 9)) := (Below.refl _ _).alloc (Nat.le_refl _) _
      refine (unhide BK v _ _ ((unhide T3).1.later al) (unhide HV w3 _ rfl) (lit_safe (unhide T3).1 _ _ _ rfl)).mono ?_
      rintro e w4 ⟨rfl, hu⟩
      have B4 := hide (twoB (cellB2 (unhide B3) al) ((unhide T3).1.later al) (Nat.le_refl _) hu)
      obtain ⟨v', hT4⟩ := ((unhide T3).later al).upd hu
      have T4 := hide hT4.symm
      clear hu al T3 B3 hT4
      go_wp2_with fail
      have al : Below w4.heap.size w4 (w4.alloc (Obj.cells #[.string xn] 9)) := (Below.refl _ _).alloc (Nat.le_refl _) _
      refine (unhide TO r u _ _ ((unhide T4).1.later al) (unhide HV w4 _ rfl) (lit_safe (unhide T4).1 _ _ _ rfl)).mono ?_
      rintro e w5 ⟨rfl, hu⟩
      have B5 := hide (twoB (cellB2 (unhide B4) al) ((unhide T4).1.later al) (unhide HR) hu)
      obtain ⟨u', hT5⟩ := ((unhide T4).later al).upd hu
      have T5 := hide hT5.symm
      clear hu al T4 B4 hT5
      go_wp2_with fail
      refine (unhide TP v' _ (unhide T5).1).mono ?_
      rintro e w6 ⟨rfl, hb⟩
      have T6 := hide ((unhide T5).1.later hb)
      have B6 := hide (cellB2 (unhide B5) hb)
      clear hb T5 B5
      have al : Below w6.heap.size w6 (w6.alloc (Obj.cells #[.int .i64 xi, .int .i64 0, .string xn] 32)) := (Below.refl _ _).alloc (Nat.le_refl _) _
      have AX := hide al
      clear al
      have e1 : (xn.toList == xn.toList) = true := by simp
      have hN1 : (0 : Int) < (N1 : Int) + 1 := by omega
      have hn0 : (0 : Int) < (n : Int) := by omega
      have hN3 : (N1 : Int) + 1 ≤ 100 := by omega
      cases bi <;> (
        go_wp2_with fail
        refine (unhide AL v' _ ((unhide T6).later (unhide AX))).mono ?_
        rintro e w7 ⟨uu, rfl, hu, hb⟩
        obtain ⟨q7, n7, c7, rfl⟩ := slice_of hu
        have hlen7 : n7 = n - N1 := by
          rcases hu.2 with ⟨h, h0⟩ | ⟨g, cap, cur, h, _⟩
          · simp at h; have := unhide HMl; omega
          · simp at h; rw [← unhide HMl]; simp; omega
        have hs7 : (N1 : Int) + (n7 : Int) = (n : Int) := by omega
        have B7 := hide (cellB2 (unhide B6) (tr2 (unhide AX) hb))
        clear hu hb hlen7
        go_wp2_with fail
        refine (unhide CC _).mono ?_
        rintro e w8 ⟨rfl, hb⟩
        have B8 := hide (cellB2 (unhide B7) hb)
        clear hb
        go_wp2
        go_ret
        exact ⟨rfl, unhide B8⟩)

theorem stackBack_walk (q : Option Addr) (len cap : Nat) (L : List Ent) (scope : Int) (name : ByteArray) (w : World) (hn : L.length = len) (hL : L = [] ∨ ∃ g o, q = some ⟨g, o, none⟩ ∧ Cells3 g o L w) :
    Calls Try.prog 4 #[.slice q len cap, .int .i64 scope, .string name] w fun e w' => e = .returned (.bool true) ∧ Below w.heap.size w w' := by
  by_cases h : 100 < len
  · exact back_small q len cap scope name w h
  · by_cases hlt : offN (backF [name.data.toList]) L < L.length
    · exact back_ok q len cap L scope name w (hide hn) (by omega) hL hlt
    · exact back_no q len cap L scope name w (hide hn) (by omega) hL hlt
end Go.Proofs.Ytimkijmjbphhlaa
