/-
  Several texts in one: what the functions of the program and of the document's answer do.
-/
import Derived.Test.YtbabmkilbbbmoaaDoorMgBU
import Derived.Test.YtbabmkilbbbmoaaDoorMgAA
import Derived.Test.YtbabmkilbbbmoaaDoorMgBS
import Derived.Test.YtbabmkilbbbmoaaDoorMgAV

/-
  What 'blend.Join' does.
-/
namespace Go.Proofs.YtbabmkilbbbmoaaDoor
open Go.RowKit
set_option linter.unusedVariables false
set_option linter.unusedSimpArgs false

theorem jnF_take {o a b : List ByteArray} (L : List PT) (k : Nat) (h : k < L.length) : jnF o a b (L.take (k + 1)) = jnF o a b (L.take k) ++ jn1 o a b (L.getD k p7) ∧ clF (L.take (k + 1)) = clF (L.take k) + (if (L.getD k p7).1 = 5 then 1 else 0) := by
  have e : L.take (k + 1) = L.take k ++ [L.getD k p7] := by rw [List.take_add_one, List.getD, List.getElem?_eq_getElem h]; rfl
  rw [e, jnF_app, clF_app]
  simp [jnF, clF]
theorem take_pre {α : Type} (L : List α) (k : Nat) : L.take k ++ L.drop k = L := List.take_append_drop k L
theorem jnF_le (o a b : List ByteArray) (k : Nat) : (jnF o a b ((allQ o a b).take k)).length ≤ o.length + a.length + b.length := by
  have h1 := goP_jn _ _ _ o a b (Nat.le_refl _) (Nat.le_refl _) (Nat.le_refl _) (allQ o a b) 0 0 0 (Nat.zero_le _) (Nat.zero_le _) (Nat.zero_le _) (allQ_go o a b)
  have h2 : jnF o a b (allQ o a b) = jnF o a b ((allQ o a b).take k) ++ jnF o a b ((allQ o a b).drop k) := by rw [← jnF_app, take_pre]
  rw [h2, List.length_append] at h1
  omega

set_option maxHeartbeats 4000000 in
set_option maxRecDepth 100000 in
theorem bjoin_any (qo qa qb : Option Addr) (co ca cb : Nat) (o a b : List ByteArray) (w : World) (ho : ArgV w qo co o) (ha : ArgV w qa ca a) (hb : ArgV w qb cb b) (so : SzT o) (sa : SzT a) (sb : SzT b) (lo : o.length ≤ 1000) (la : a.length ≤ 1000) (lb : b.length ≤ 1000) :
    Calls Tryd.prog 50 #[.slice qo o.length co, .slice qa a.length ca, .slice qb b.length cb] w fun e w' => ∃ u, e = .returned (.tuple #[u, .int .i64 (clF (allQ o a b) : Nat)]) ∧ TxsV w' w.heap.size u (jnF o a b (allQ o a b)) ∧ Below w.heap.size w w' := by
  have C := hide (btexts_any qo qa qb co ca cb o a b w ho ha hb so sa sb lo la lb)
  have HO := hide ho
  have HA := hide ha
  have HB := hide hb
  have HIN := hide (goP_in _ _ _ _ _ _ _ (allQ_go o a b))
  have hPl := allQ_len o a b
  have HJL := hide (jnF_le o a b)
  have HJT := hide (fun k (h : k < (allQ o a b).length) => jnF_take (o := o) (a := a) (b := b) (allQ o a b) k h)
  have HCL := hide (fun k => clF_le ((allQ o a b).take k))
  have HFIN : Hid ((allQ o a b).take (allQ o a b).length = allQ o a b) := hide (List.take_length)
  generalize allQ o a b = P at *
  clear ho ha hb
  go_enter Tryd.func50, Tryd.ntmps50
  go_wp2_with fail
  refine (unhide C).mono ?_
  rintro e w1 ⟨v, rfl, hrow, hb1⟩
  obtain ⟨tq, tc, rfl, hcells⟩ := parts_cells hrow
  have HC := hide hcells
  have HB1 := hide hb1
  have hz1 := hb1.size
  clear hrow hb1 hcells C
  go_wp2
  go_loopw [17, 8, 9] (fun x u n wr => ∃ m : Nat, m ≤ P.length ∧ x = .int .i64 (m : Int) ∧ n = .int .i64 (clF (P.take m) : Nat) ∧ TxsV wr w1.heap.size u (jnF o a b (P.take m)) ∧ Below w1.heap.size w1 wr) (fun x _ _ _ => P.length - (intOf x).toNat)
  case atStart => exact ⟨0, Nat.zero_le _, rfl, rfl, World.ownsRow_nil _ _ _ _, Below.refl _ _⟩
  case round =>
    obtain ⟨m, hm, rfl, rfl, hrow, hbl⟩ := hrel
    obtain ⟨uq, un, uc, hu⟩ := slice_of hrow
    subst hu
    have hz := hbl.size
    have HR := hide hrow
    have HBL := hide hbl
    have hcl := unhide HCL m
    rw [List.length_take] at hcl
    by_cases hp : m < P.length
    · have hpi : (m : Int) < (P.length : Int) := by omega
      obtain ⟨g, rfl, hg, hcell⟩ := unhide HC (by omega)
      have hck := hcell m hp
      obtain ⟨ej, ec⟩ := unhide HJT m hp
      have hl1 := unhide HJL m
      have hl2 := unhide HJL (m + 1)
      have hmem : P.getD m p7 ∈ P := by rw [List.getD, List.getElem?_eq_getElem hp]; exact List.getElem_mem hp
      have hin := unhide HIN _ hmem
      rw [ej, List.length_append] at hl2
      generalize hgt : P.getD m p7 = t at *
      obtain ⟨kd, ⟨o1, o2⟩, ⟨a1, a2⟩, ⟨b1, b2⟩⟩ := t
      obtain ⟨i1, i2, i3, i4, i5, i6, i7, i8⟩ := hin
      dsimp only at i1 i2 i3 i4 i5 i6 i7 i8
      have k0 : wr.cell? ⟨g, m * 7, none⟩ = some (.int .i64 (kd : Int)) := cellB hbl (hck 0 (by decide))
      have k1 : wr.cell? ⟨g, m * 7 + 1, none⟩ = some (.int .i64 (o1 : Int)) := cellB hbl (hck 1 (by decide))
      have k2 : wr.cell? ⟨g, m * 7 + 2, none⟩ = some (.int .i64 (o2 : Int)) := cellB hbl (hck 2 (by decide))
      have k3 : wr.cell? ⟨g, m * 7 + 3, none⟩ = some (.int .i64 (a1 : Int)) := cellB hbl (hck 3 (by decide))
      have k4 : wr.cell? ⟨g, m * 7 + 4, none⟩ = some (.int .i64 (a2 : Int)) := cellB hbl (hck 4 (by decide))
      have k5 : wr.cell? ⟨g, m * 7 + 5, none⟩ = some (.int .i64 (b1 : Int)) := cellB hbl (hck 5 (by decide))
      have k6 : wr.cell? ⟨g, m * 7 + 6, none⟩ = some (.int .i64 (b2 : Int)) := cellB hbl (hck 6 (by decide))
      have PO := hide (fun W (hW : Below w.heap.size w W) => ((unhide HO).below hW).part i3 i6)
      have PA := hide (fun W (hW : Below w.heap.size w W) => ((unhide HA).below hW).part i4 i7)
      have PB := hide (fun W (hW : Below w.heap.size w W) => ((unhide HB).below hW).part i5 i8)
      have r1 := run_partT qo o.length co o1 o2 i3 (by have := (unhide HO).2.1; omega)
      have r2 := run_partT qa a.length ca a1 a2 i4 (by have := (unhide HA).2.1; omega)
      have r3 := run_partT qb b.length cb b1 b2 i5 (by have := (unhide HB).2.1; omega)
      have HEJ := hide ej
      have HEC := hide ec
      have hown0 : ∀ q, (Value.slice uq un uc).ownBlock = some q → w1.heap.size ≤ q ∧ q < wr.heap.size := fun q hq => (unhide HR).lt q hq
      have HNB := hide hown0
      have HBw : Hid (Below w.heap.size w wr) := hide ((unhide HB1).trans ((unhide HBL).mono hz1))
      have hzw : w.heap.size ≤ wr.heap.size := (unhide HBw).size
      clear hown0
      generalize hcn : clF (P.take m) = cn at *
      have hkk : kd = 1 ∨ kd = 2 ∨ kd = 3 ∨ kd = 4 ∨ kd = 5 := by omega
      clear hck hcell hgt hmem hrow hbl ej ec HIN hcn i1 i2
      rcases hkk with rfl | rfl | rfl | rfl | rfl
      · have hl3 : (jnF o a b (P.take m)).length + (sub o o1 o2).length ≤ 1000000 := by
          have h9 : (jn1 o a b (1, (o1, o2), (a1, a2), (b1, b2))).length = (sub o o1 o2).length := rfl
          omega
        go_wp2_with (at_builtin; refine wpList_append_view _ rfl _ _ rfl w1.heap.size (.slice uq un uc) _ rfl ((unhide HR).alloc _) _ _ _ _ rfl (unhide PO _ ((unhide HBw).alloc hzw _)) hl3 (by simp; omega) ?_)
        intro u9 z9 hown9 hgr9 _
        have HO9 : Hid (TxsV z9 w1.heap.size u9 (jnF o a b (P.take (m + 1)))) := hide (by rw [unhide HEJ]; exact hown9)
        have HB9 : Hid (Below w1.heap.size w1 z9) := hide (((unhide HBL).alloc hz _).grown hgr9 (by simp; omega) (fun q hq => (unhide HNB q hq).1))
        clear hown9 hgr9
        go_wp2
        go_roundw
        case rel => exact ⟨m + 1, by omega, by go_num, by rw [unhide HEC]; rfl, unhide HO9, unhide HB9⟩
        case measure => simp [intOf]; omega
      · have hl3 : (jnF o a b (P.take m)).length + (sub b b1 b2).length ≤ 1000000 := by
          have h9 : (jn1 o a b (2, (o1, o2), (a1, a2), (b1, b2))).length = (sub b b1 b2).length := rfl
          omega
        go_wp2_with (at_builtin; refine wpList_append_view _ rfl _ _ rfl w1.heap.size (.slice uq un uc) _ rfl ((unhide HR).alloc _) _ _ _ _ rfl (unhide PB _ ((unhide HBw).alloc hzw _)) hl3 (by simp; omega) ?_)
        intro u9 z9 hown9 hgr9 _
        have HO9 : Hid (TxsV z9 w1.heap.size u9 (jnF o a b (P.take (m + 1)))) := hide (by rw [unhide HEJ]; exact hown9)
        have HB9 : Hid (Below w1.heap.size w1 z9) := hide (((unhide HBL).alloc hz _).grown hgr9 (by simp; omega) (fun q hq => (unhide HNB q hq).1))
        clear hown9 hgr9
        go_wp2
        go_roundw
        case rel => exact ⟨m + 1, by omega, by go_num, by rw [unhide HEC]; rfl, unhide HO9, unhide HB9⟩
        case measure => simp [intOf]; omega
      · have hl3 : (jnF o a b (P.take m)).length + (sub a a1 a2).length ≤ 1000000 := by
          have h9 : (jn1 o a b (3, (o1, o2), (a1, a2), (b1, b2))).length = (sub a a1 a2).length := rfl
          omega
        go_wp2_with (at_builtin; refine wpList_append_view _ rfl _ _ rfl w1.heap.size (.slice uq un uc) _ rfl ((unhide HR).alloc _) _ _ _ _ rfl (unhide PA _ ((unhide HBw).alloc hzw _)) hl3 (by simp; omega) ?_)
        intro u9 z9 hown9 hgr9 _
        have HO9 : Hid (TxsV z9 w1.heap.size u9 (jnF o a b (P.take (m + 1)))) := hide (by rw [unhide HEJ]; exact hown9)
        have HB9 : Hid (Below w1.heap.size w1 z9) := hide (((unhide HBL).alloc hz _).grown hgr9 (by simp; omega) (fun q hq => (unhide HNB q hq).1))
        clear hown9 hgr9
        go_wp2
        go_roundw
        case rel => exact ⟨m + 1, by omega, by go_num, by rw [unhide HEC]; rfl, unhide HO9, unhide HB9⟩
        case measure => simp [intOf]; omega
      · have hl3 : (jnF o a b (P.take m)).length + (sub a a1 a2).length ≤ 1000000 := by
          have h9 : (jn1 o a b (4, (o1, o2), (a1, a2), (b1, b2))).length = (sub a a1 a2).length := rfl
          omega
        go_wp2_with (at_builtin; refine wpList_append_view _ rfl _ _ rfl w1.heap.size (.slice uq un uc) _ rfl ((unhide HR).alloc _) _ _ _ _ rfl (unhide PA _ ((unhide HBw).alloc hzw _)) hl3 (by simp; omega) ?_)
        intro u9 z9 hown9 hgr9 _
        have HO9 : Hid (TxsV z9 w1.heap.size u9 (jnF o a b (P.take (m + 1)))) := hide (by rw [unhide HEJ]; exact hown9)
        have HB9 : Hid (Below w1.heap.size w1 z9) := hide (((unhide HBL).alloc hz _).grown hgr9 (by simp; omega) (fun q hq => (unhide HNB q hq).1))
        clear hown9 hgr9
        go_wp2
        go_roundw
        case rel => exact ⟨m + 1, by omega, by go_num, by rw [unhide HEC]; rfl, unhide HO9, unhide HB9⟩
        case measure => simp [intOf]; omega
      · have h9 : (jn1 o a b (5, (o1, o2), (a1, a2), (b1, b2))).length = (sub a a1 a2).length + (sub b b1 b2).length := by
          show (sub a a1 a2 ++ sub b b1 b2).length = _
          rw [List.length_append]
        have hl3 : (jnF o a b (P.take m)).length + (sub a a1 a2).length ≤ 1000000 := by omega
        have hl4 : (jnF o a b (P.take m) ++ sub a a1 a2).length + (sub b b1 b2).length ≤ 1000000 := by rw [List.length_append]; omega
        have BX := hide (Blk.new wr #[.int .i64 5, .int .i64 (o1 : Int), .int .i64 (o2 : Int), .int .i64 (a1 : Int), .int .i64 (a2 : Int), .int .i64 (b1 : Int), .int .i64 (b2 : Int)] 99)
        clear h9
        go_wp2_with (at_builtin; refine wpList_append_view _ rfl _ _ rfl w1.heap.size (.slice uq un uc) _ rfl ((unhide HR).alloc _) _ _ _ _ rfl (unhide PA _ ((unhide HBw).alloc hzw _)) hl3 (by simp; omega) ?_)
        intro u8 z8 hown8 hgr8 _
        have K8 : Blk z8 wr.heap.size #[.int .i64 5, .int .i64 (o1 : Int), .int .i64 (o2 : Int), .int .i64 (a1 : Int), .int .i64 (a2 : Int), .int .i64 (b1 : Int), .int .i64 (b2 : Int)] 99 := (unhide BX).grown hgr8 (fun e => by have := (unhide HNB _ e.symm).2; omega)
        have y5 := K8.cell 5
        have y6 := K8.cell 6
        have HB8 : Hid (Below w1.heap.size w1 z8) := hide (((unhide HBL).alloc hz _).grown hgr8 (by simp; omega) (fun q hq => (unhide HNB q hq).1))
        have HBw8 : Hid (Below w.heap.size w z8) := hide ((unhide HB1).trans ((unhide HB8).mono hz1))
        have hz8 := (unhide HB8).size
        obtain ⟨vq, vn, vc, hv8⟩ := slice_of hown8
        subst hv8
        have H8 := hide hown8
        have HNB8 : Hid (∀ q, (Value.slice vq vn vc).ownBlock = some q → w1.heap.size ≤ q) := hide (fun q hq => (hown8.lt q hq).1)
        clear hown8 hgr8 K8 BX
        go_wp2_with (at_builtin; refine wpList_append_view _ rfl _ _ rfl w1.heap.size (.slice vq vn vc) _ rfl (unhide H8) _ _ _ _ rfl (unhide PB _ (unhide HBw8)) hl4 (by omega) ?_)
        intro u9 z9 hown9 hgr9 _
        have HO9 : Hid (TxsV z9 w1.heap.size u9 (jnF o a b (P.take (m + 1)))) := hide (by rw [unhide HEJ]; first | exact hown9 | (rw [List.append_assoc] at hown9; exact hown9))
        have HB9 : Hid (Below w1.heap.size w1 z9) := hide ((unhide HB8).grown hgr9 hz8 (fun q hq => unhide HNB8 q hq))
        clear hown9 hgr9
        go_wp2
        go_roundw
        case rel => exact ⟨m + 1, by omega, by go_num, by rw [unhide HEC]; go_num, unhide HO9, unhide HB9⟩
        case measure => simp [intOf]; omega
    · have hpi : ¬ (m : Int) < (P.length : Int) := by omega
      have hme : m = P.length := by omega
      subst hme
      rw [unhide HFIN] at HR
      rw [unhide HFIN]
      have HRR : Hid (TxsV wr w1.heap.size (.slice uq un uc) (jnF o a b P)) := HR
      clear hrow hpi hp
      go_wp2
      go_ret2
      exact ⟨_, rfl, owns_mono (unhide HRR) hz1, (unhide HB1).trans ((unhide HBL).mono hz1)⟩
end Go.Proofs.YtbabmkilbbbmoaaDoor

/-
  'long', and the small case of layer 25.
-/
namespace Go.Proofs.YtbabmkilbbbmoaaDoor
open Go.RowKit
set_option linter.unusedVariables false
set_option linter.unusedSimpArgs false

theorem arg_lit (W : World) (ss : List ByteArray) (hl : ss.length ≤ 1000) : ArgV (W.alloc (.cells (ss.map Value.string).toArray 9)) (some ⟨W.heap.size, 0, none⟩) ss.length ss := by
  have h := World.ownsRow_lit (base := W.heap.size) (e := 9) (size := 1) W (ss.map Value.string).toArray ss.length (Nat.le_refl _) (by simp only [maxLen]; omega) (by simp)
  rw [List.toList_toArray] at h
  have hv := view_of_owns h
  exact ⟨hv, Nat.le_refl _, fun e => by cases e⟩
def s1 (a : UInt8) : ByteArray := ⟨#[a]⟩
def lA : List ByteArray := [s1 97, s1 98, s1 99]
def lB : List ByteArray := [s1 97, s1 120, s1 99]
def lC : List ByteArray := [s1 97, s1 98, s1 99, s1 100]
def lD : List ByteArray := [s1 97, s1 120, s1 99, s1 100]
theorem four_p1 : allQ lA lB lC = [(1, (0, 1), (0, 1), (0, 1)), (3, (1, 2), (1, 2), (1, 2)), (1, (2, 3), (2, 3), (2, 3)), (2, (3, 3), (3, 3), (3, 4))] := by
  have e1 : lnP (eqT lA lB) lA.length lB.length 0 0 = [(0, 0), (2, 2)] := by kernel_rfl
  have e2 : lnP (eqT lA lC) lA.length lC.length 0 0 = [(0, 0), (1, 1), (2, 2)] := by kernel_rfl
  have e3 : trF [(0, 0), (2, 2)] [(0, 0), (1, 1), (2, 2)] = [(0, 0, 0), (2, 2, 2)] := by simp [trF]
  unfold allQ
  rw [e1, e2, e3]
  rfl
theorem four_p2 : allQ [s1 97] [s1 98] [s1 99] = [(5, (0, 1), (0, 1), (0, 1))] := by
  have e1 : lnP (eqT [s1 97] [s1 98]) [s1 97].length [s1 98].length 0 0 = [] := by kernel_rfl
  have e2 : lnP (eqT [s1 97] [s1 99]) [s1 97].length [s1 99].length 0 0 = [] := by kernel_rfl
  have e3 : trF [] [] = [] := by simp [trF]
  unfold allQ
  rw [e1, e2, e3]
  rfl
theorem four_j : jnF lA lB lC (allQ lA lB lC) = lD ∧ clF (allQ lA lB lC) = 0 := by
  rw [four_p1]
  exact ⟨by kernel_rfl, by kernel_rfl⟩
theorem szT_small {ss : List ByteArray} (h : ∀ s ∈ ss, s.size ≤ 9223372036854775807) : SzT ss := fun k hk => h _ (getD_mem ss k hk)
theorem szT_lit (l : List UInt8) : SzT (l.map s1) := szT_small (fun s hs => by obtain ⟨a, _, rfl⟩ := List.mem_map.1 hs; show (1 : Nat) ≤ _; decide)

set_option maxHeartbeats 4000000 in
set_option maxRecDepth 100000 in
theorem four_any (w : World) : Calls Tryd.prog 23 #[] w fun e w' => e = .returned (.bool true) ∧ Below w.heap.size w w' := by
  have A1 := arg_lit w lA (by decide)
  have A2 := arg_lit (w.alloc (.cells (lA.map Value.string).toArray 9)) lB (by decide)
  have A3 := arg_lit ((w.alloc (.cells (lA.map Value.string).toArray 9)).alloc (.cells (lB.map Value.string).toArray 9)) lC (by decide)
  have z1 : (w.alloc (.cells (lA.map Value.string).toArray 9)).heap.size = w.heap.size + 1 := by simp
  have z2 : ((w.alloc (.cells (lA.map Value.string).toArray 9)).alloc (.cells (lB.map Value.string).toArray 9)).heap.size = w.heap.size + 1 + 1 := by simp
  rw [z1] at A2
  rw [z2] at A3
  have CJ := hide (bjoin_any _ _ _ _ _ _ lA lB lC _ ((A1.below ((Below.refl _ _).alloc (Nat.le_refl _) _)).below ((Below.refl _ _).alloc (Nat.le_refl _) _)) (A2.below ((Below.refl _ _).alloc (Nat.le_refl _) _)) A3 (szT_lit [97, 98, 99]) (szT_lit [97, 120, 99]) (szT_lit [97, 98, 99, 100]) (by decide) (by decide) (by decide))
  rw [four_j.1, four_j.2] at CJ
  have HW0 : Hid (Below w.heap.size w (((w.alloc (.cells (lA.map Value.string).toArray 9)).alloc (.cells (lB.map Value.string).toArray 9)).alloc (.cells (lC.map Value.string).toArray 9))) := hide ((((Below.refl _ _).alloc (Nat.le_refl _) _).alloc (by simp) _).alloc (by simp; omega) _)
  clear A1 A2 A3 z1 z2
  go_enter Tryd.func23, Tryd.ntmps23
  go_wp2_with fail
  refine (unhide CJ).mono ?_
  rintro e w1 ⟨u, rfl, hu, hb1⟩
  have HB1 := hide (tr2 (unhide HW0) hb1)
  obtain ⟨uq, uc, rfl, huv⟩ : ∃ uq uc, u = .slice uq lD.length uc ∧ View w1 (.slice uq lD.length uc) lD := by
    have hv := view_of_owns hu
    obtain ⟨_, a, c, e, _⟩ := hv
    exact ⟨a, c, e, by rw [← e]; exact view_of_owns hu⟩
  have HU := hide huv
  clear hu hb1 huv CJ HW0
  have A1 := arg_lit w1 [s1 97] (by decide)
  have A2 := arg_lit (w1.alloc (.cells ([s1 97].map Value.string).toArray 9)) [s1 98] (by decide)
  have A3 := arg_lit ((w1.alloc (.cells ([s1 97].map Value.string).toArray 9)).alloc (.cells ([s1 98].map Value.string).toArray 9)) [s1 99] (by decide)
  have z1 : (w1.alloc (.cells ([s1 97].map Value.string).toArray 9)).heap.size = w1.heap.size + 1 := by simp
  have z2 : ((w1.alloc (.cells ([s1 97].map Value.string).toArray 9)).alloc (.cells ([s1 98].map Value.string).toArray 9)).heap.size = w1.heap.size + 1 + 1 := by simp
  rw [z1] at A2
  rw [z2] at A3
  have CT := hide (btexts_any _ _ _ _ _ _ [s1 97] [s1 98] [s1 99] _ ((A1.below ((Below.refl _ _).alloc (Nat.le_refl _) _)).below ((Below.refl _ _).alloc (Nat.le_refl _) _)) (A2.below ((Below.refl _ _).alloc (Nat.le_refl _) _)) A3 (szT_lit [97]) (szT_lit [98]) (szT_lit [99]) (by decide) (by decide) (by decide))
  rw [four_p2] at CT
  have HW1 : Hid (Below w1.heap.size w1 (((w1.alloc (.cells ([s1 97].map Value.string).toArray 9)).alloc (.cells ([s1 98].map Value.string).toArray 9)).alloc (.cells ([s1 99].map Value.string).toArray 9))) := hide ((((Below.refl _ _).alloc (Nat.le_refl _) _).alloc (by simp) _).alloc (by simp; omega) _)
  clear A1 A2 A3 z1 z2
  go_wp2_with fail
  refine (unhide CT).mono ?_
  rintro e w2 ⟨v, rfl, hv, hb2⟩
  obtain ⟨vq, vc, rfl, hva⟩ := parts_at hv
  have HB12 := hide (tr2 (unhide HW1) hb2)
  have HV := hide hva
  obtain ⟨g, rfl, hcell⟩ := hva (by decide)
  have x0 : w2.cell? ⟨g, 0, none⟩ = some (.int .i64 5) := hcell 0 (by decide) 0 (by decide)
  have A4 := arg_lit w2 lD (by decide)
  have HW2 : Hid (Below w2.heap.size w2 (w2.alloc (.cells (lD.map Value.string).toArray 9))) := hide ((Below.refl _ _).alloc (Nat.le_refl _) _)
  have CX := hide (texts_any _ _ lD lD _ (view_below (view_below (unhide HU) (unhide HB12)) (unhide HW2)) A4.1)
  have CC1 := hide (fun W hW => bclean_any _ vc _ W (hva.below hW) (by decide) (by decide))
  have CC2 := hide (fun W => bclean_any none 0 [] W (fun h => by cases h) (by decide) (by decide))
  have h5 : decide (clF [(5, (0, 1), (0, 1), (0, 1))] = 0) = false := by rfl
  have h0 : decide (clF [] = 0) = true := by rfl
  rw [h5] at CC1
  rw [h0] at CC2
  rw [sameT_refl] at CX
  have hlen : [(5, (0, 1), (0, 1), (0, 1))].length = (1 : Nat) := rfl
  have HB2 := hide (tr2 (unhide HB1) (unhide HB12))
  clear hcell hva hv hb2 A4 h5 h0 HB12 HB1 HW1 CT HU HV
  simp only [List.length_cons, List.length_nil] at *
  go_wp2_with fail
  refine (unhide CX).mono ?_
  rintro e w3 ⟨rfl, hb3⟩
  have HB23 := hide (tr2 (unhide HW2) hb3)
  have y0 := cellB (unhide HB23) x0
  clear hb3 CX
  go_wp2_with fail
  refine (unhide CC1 _ (unhide HB23)).mono ?_
  rintro e w4 ⟨rfl, hb4⟩
  have HB4 := hide (tr2 (unhide HB23) hb4)
  clear hb4 CC1
  go_wp2_with fail
  refine (unhide CC2 _).mono ?_
  rintro e w5 ⟨rfl, hb5⟩
  have HB5 := hide (tr2 (unhide HB4) hb5)
  clear hb5 CC2
  go_wp2
  go_ret
  exact ⟨rfl, tr2 (unhide HB2) (unhide HB5)⟩
end Go.Proofs.YtbabmkilbbbmoaaDoor

/-
  The law MatchLists.
-/
namespace Go.Proofs.YtbabmkilbbbmoaaDoor
open Go.RowKit Go.Maps
set_option linter.unusedVariables false
set_option linter.unusedSimpArgs false

set_option maxHeartbeats 2000000 in
theorem large20_any (f : Forest) (q : Option Addr) (cap : Nat) (w : World) (hf : Fo q f w) :
    Calls Tryd.prog 8 #[.slice q f.len cap] w fun e w' => e = .returned (.bool (lgT 1 f 250).1) ∧ Below w.heap.size w w' := by
  have CL := hide (large_any f.count f (Nat.le_refl _) 1 q cap w.heap.size 250 w (w.alloc (Obj.cells #[.int .i64 250] 60)) (by omega) (Nat.le_refl _) (by omega) hf ((Below.refl _ _).alloc (Nat.le_refl _) _) (Blk.new w _ _))
  rw [show ((1 : Nat) : Int) = 1 from rfl] at CL
  generalize lgT 1 f 250 = r at *
  generalize f.len = fl at *
  clear hf
  go_enter Tryd.func8, Tryd.ntmps8
  go_wp2_with fail
  refine (unhide CL).mono ?_
  rintro e w1 ⟨rfl, _, hb⟩
  go_wp2
  go_ret
  exact ⟨rfl, hb⟩
theorem open_nodesR {H : Type} {enc : TypeId × Value → H} {W : World} {qa : Option Addr} {len cap : Nat} {d : DataW H} {ps : List MemPlace}
    (h : DataW.Trod enc Tryd.prog W 0 (fun _ => true) true 22 (.slice qa len cap) d ps) : ∃ f : Forest, f.len = len ∧ len ≤ cap ∧ Fo qa f W ∧ RngF f := by
  obtain ⟨n, t0⟩ := h
  have t1 : DataW.trod enc Tryd.prog W 0 (fun _ => true) true n 22 [.slice qa len cap] = some (d, ps) := by simpa [Value.cells] using t0
  obtain ⟨f, q, c, e, hc, hf, hr⟩ := open_forestR _ n _ d ps (Nat.le_refl _) t1
  injection e with e1 e2 e3
  subst e1 e2 e3
  exact ⟨f, rfl, hc, hf, hr⟩
theorem kidsOk_count (f : Forest) (h : f.count ≤ 4000) : KidsOk f := fun k kk sp n ats tx kids rest hk hd => by
  have h1 := f.count_drop k
  rw [hd] at h1
  simp only [Forest.count] at h1
  omega

set_option maxHeartbeats 4000000 in
set_option maxRecDepth 100000 in
theorem matchLists_walk (f h : Forest) (qa qb : Option Addr) (ca cb : Nat) (w : World) (hf : Fo qa f w) (hh : Fo qb h w) (rf : RngF f) (rh : RngF h) (ht : TabP w) :
    Calls Tryd.prog 3 #[.slice qa f.len ca, .slice qb h.len cb] w fun e w' => e = .returned (.bool true) ∧ Below w.heap.size w w' := by
  have CLf := hide (large20_any f qa ca w hf)
  have CLh := hide (fun W hW => large20_any h qb cb W (hh.below hW))
  have CS := hide lines_any
  obtain ⟨b1, n1, hlg1⟩ : ∃ b n, lgT 1 f 250 = (b, n) := ⟨_, _, rfl⟩
  obtain ⟨b2, n2, hlg2⟩ : ∃ b n, lgT 1 h 250 = (b, n) := ⟨_, _, rfl⟩
  rw [hlg1] at CLf
  simp only [hlg2] at CLh
  dsimp only at CLf CLh
  by_cases hbig : b1 = true ∨ b2 = true
  · have hpick : Hid (b1 = true ∨ (b1 = false ∧ b2 = true)) := hide (by cases b1 <;> simp_all)
    clear hf hh rf rh ht hlg1 hlg2 hbig
    generalize f.len = fl at *
    generalize h.len = hl at *
    go_enter Tryd.func3, Tryd.ntmps3
    go_wp2_with fail
    refine (unhide CLf).mono ?_
    rintro e w1 ⟨rfl, hb1⟩
    have HB := hide hb1
    clear CLf
    rcases unhide hpick with rfl | ⟨rfl, rfl⟩
    · have C3 := hide (unhide CS w1)
      clear hb1
      go_wp2_with fail
      refine (unhide C3).mono ?_
      rintro e w2 ⟨rfl, hb2⟩
      have HB2 := hide (tr2 (unhide HB) hb2)
      clear C3 hb2
      go_wp2
      go_ret
      exact ⟨rfl, unhide HB2⟩
    · have C2 := hide (unhide CLh w1 hb1)
      clear hb1
      go_wp2_with fail
      refine (unhide C2).mono ?_
      rintro e w2 ⟨rfl, hb2⟩
      have HB2 := hide (tr2 (unhide HB) hb2)
      have C3 := hide (unhide CS w2)
      clear C2 hb2
      go_wp2_with fail
      refine (unhide C3).mono ?_
      rintro e w3 ⟨rfl, hb3⟩
      have HB3 := hide (tr2 (unhide HB2) hb3)
      clear C3 hb3
      go_wp2
      go_ret
      exact ⟨rfl, unhide HB3⟩
  have hx1 : b1 = false := by cases b1 <;> simp_all
  have hx2 : b2 = false := by cases b2 <;> simp_all
  subst hx1
  subst hx2
  obtain ⟨sf, _⟩ := lgT_small (by omega) hlg1
  obtain ⟨sh, _⟩ := lgT_small (by omega) hlg2
  have r1 := lgT_room 1 f 250 n1 hlg1
  have r2 := lgT_room 1 h 250 n2 hlg2
  have c1 : f.count ≤ 250 := by omega
  have c2 : h.count ≤ 250 := by omega
  have l1 := f.len_count
  have l2 := h.len_count
  have kf := kidsOk_count f (by omega)
  have kh := kidsOk_count h (by omega)
  have hfl := mtF_len (eqT (lsT f) (lsT h)) f.len h.len _ 0 0 (Nat.zero_le _) (rise_any _ _ _ (lnP_riseM (eqT (ksT f) (ksT h)) f.len h.len _ 0 0 (Nat.le_refl _)))
  have hll : (ltP f h).length ≤ 1000000 := by unfold ltP; omega
  have C1 := hide (fun W hW => mlists_any qa qb ca cb f h W (hf.below hW) (hh.below hW) sf sh rf rh kf kh (ht.below hW) (by omega) (by omega))
  have C2 := hide (fun W hW => rlists_any qa qb ca cb f h W (hf.below hW) (hh.below hW) sf sh kf kh (by omega) (by omega))
  generalize ltP f h = L at *
  clear hf hh rf rh ht hlg1 hlg2 hbig sf sh r1 r2 c1 c2 l1 l2 kf kh hfl
  generalize f.len = fl at *
  generalize h.len = hl at *
  go_enter Tryd.func3, Tryd.ntmps3
  go_wp2_with fail
  refine (unhide CLf).mono ?_
  rintro e w1 ⟨rfl, hb1⟩
  have HB1 := hide hb1
  have CLh' := hide (unhide CLh w1 hb1)
  clear CLf CLh hb1
  go_wp2_with fail
  refine (unhide CLh').mono ?_
  rintro e w2 ⟨rfl, hb2⟩
  have HB2 := hide (tr2 (unhide HB1) hb2)
  have C1' := hide (unhide C1 w2 (unhide HB2))
  clear CLh' hb2 C1
  go_wp2_with fail
  refine (unhide C1').mono ?_
  rintro e w3 ⟨u1, rfl, hp1, hb3⟩
  have HB3 := hide (tr2 (unhide HB2) hb3)
  have P1 := owns_pr hp1
  obtain ⟨q1, k1, hu1, _⟩ := P1
  subst hu1
  have HP1 := hide (owns_pr hp1)
  have C2' := hide (unhide C2 w3 (unhide HB3))
  clear C1' C2 hp1 hb3
  go_wp2_with fail
  refine (unhide C2').mono ?_
  rintro e w4 ⟨u2, rfl, hp2, hb4⟩
  have P1' := (unhide HP1).below hb4
  have P2 := owns_pr hp2
  obtain ⟨q2, k2, hu2, _⟩ := P2
  subst hu2
  have CM := hide (same20_yes _ _ L w4 P1' (owns_pr hp2) hll)
  have HB4 := hide (tr2 (unhide HB3) hb4)
  clear hp2 hb4 P1' HP1 C2'
  go_wp2_with fail
  refine (unhide CM).mono ?_
  rintro e w5 ⟨rfl, hb5⟩
  have HB5 := hide (tr2 (unhide HB4) hb5)
  have C3 := hide (unhide CS w5)
  clear hb5 CM
  go_wp2_with fail
  refine (unhide C3).mono ?_
  rintro e w6 ⟨rfl, hb6⟩
  have HB6 := hide (tr2 (unhide HB5) hb6)
  clear hb6 C3
  go_wp2
  go_ret
  exact ⟨rfl, unhide HB6⟩
end Go.Proofs.YtbabmkilbbbmoaaDoor
