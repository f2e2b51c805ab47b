/-
  What 'blend.Join' does.
-/
import Derived.Test.YtbaoomkdlbjhlaaZTx
namespace Go.Proofs.Ytbaoomkdlbjhlaa
open Go.RowKit
set_option linter.unusedVariables false
set_option linter.unusedSimpArgs false

theorem jnF_take {o a b : List ByteArray} (L : List PT) (k : Nat) (h : k < L.length) : jnF o a b (L.take (k + 1)) = jnF o a b (L.take k) ++ jn1 o a b (L.getD k p7) ∧ clF (L.take (k + 1)) = clF (L.take k) + (if (L.getD k p7).1 = 5 then 1 else 0) := by
  have e : L.take (k + 1) = L.take k ++ [L.getD k p7] := by rw [List.take_add_one, List.getD, List.getElem?_eq_getElem h]; rfl
  rw [e, jnF_app, clF_app]
  simp [jnF, clF]
theorem take_pre {α : Type} (L : List α) (k : Nat) : L.take k ++ L.drop k = L := List.take_append_drop k L
theorem jnF_le (o a b : List ByteArray) (k : Nat) : (jnF o a b ((allP o a b).take k)).length ≤ o.length + a.length + b.length := by
  have h1 := goP_jn _ _ _ o a b (Nat.le_refl _) (Nat.le_refl _) (Nat.le_refl _) (allP o a b) 0 0 0 (Nat.zero_le _) (Nat.zero_le _) (Nat.zero_le _) (allP_go o a b)
  have h2 : jnF o a b (allP o a b) = jnF o a b ((allP o a b).take k) ++ jnF o a b ((allP o a b).drop k) := by rw [← jnF_app, take_pre]
  rw [h2, List.length_append] at h1
  omega

set_option maxHeartbeats 4000000 in
set_option maxRecDepth 100000 in
theorem bjoin_any (qo qa qb : Option Addr) (co ca cb : Nat) (o a b : List ByteArray) (w : World) (ho : ArgV w qo co o) (ha : ArgV w qa ca a) (hb : ArgV w qb cb b) (so : SzT o) (sa : SzT a) (sb : SzT b) (lo : o.length ≤ 1000) (la : a.length ≤ 1000) (lb : b.length ≤ 1000) :
    Calls Try.prog 9 #[.slice qo o.length co, .slice qa a.length ca, .slice qb b.length cb] w fun e w' => ∃ u, e = .returned (.tuple #[u, .int .i64 (clF (allP o a b) : Nat)]) ∧ TxsV w' w.heap.size u (jnF o a b (allP o a b)) ∧ Below w.heap.size w w' := by
  have C := hide (btexts_any qo qa qb co ca cb o a b w ho ha hb so sa sb lo la lb)
  have HO := hide ho
  have HA := hide ha
  have HB := hide hb
  have HIN := hide (goP_in _ _ _ _ _ _ _ (allP_go o a b))
  have hPl := allP_len o a b
  have HJL := hide (jnF_le o a b)
  have HJT := hide (fun k (h : k < (allP o a b).length) => jnF_take (o := o) (a := a) (b := b) (allP o a b) k h)
  have HCL := hide (fun k => clF_le ((allP o a b).take k))
  have HFIN : Hid ((allP o a b).take (allP o a b).length = allP o a b) := hide (List.take_length)
  generalize allP o a b = P at *
  clear ho ha hb
  go_enter Try.func9, Try.ntmps9
  go_wp2_with fail
  refine (unhide C).mono ?_
  rintro e w1 ⟨v, rfl, hrow, hb1⟩
  obtain ⟨tq, tc, rfl, hcells⟩ := parts_cells hrow
  have HC := hide hcells
  have HB1 := hide hb1
  have hz1 := hb1.size
  clear hrow hb1 hcells C
  go_wp2
  go_loopw [17, 8, 9] (fun x u n wr => ∃ m : Nat, m ≤ P.length ∧ x = .int .i64 (m : Int) ∧ n = .int .i64 (clF (P.take m) : Nat) ∧ TxsV wr w1.heap.size u (jnF o a b (P.take m)) ∧ Below w1.heap.size w1 wr) (fun x _ _ _ => P.length - (intOf x).toNat)
  case atStart => exact ⟨0, Nat.zero_le _, rfl, rfl, World.ownsRow_nil _ _ _ _, Below.refl _ _⟩
  case round =>
    obtain ⟨m, hm, rfl, rfl, hrow, hbl⟩ := hrel
    obtain ⟨uq, un, uc, hu⟩ := slice_of hrow
    subst hu
    have hz := hbl.size
    have HR := hide hrow
    have HBL := hide hbl
    have hcl := unhide HCL m
    rw [List.length_take] at hcl
    by_cases hp : m < P.length
    · have hpi : (m : Int) < (P.length : Int) := by omega
      obtain ⟨g, rfl, hg, hcell⟩ := unhide HC (by omega)
      have hck := hcell m hp
      obtain ⟨ej, ec⟩ := unhide HJT m hp
      have hl1 := unhide HJL m
      have hl2 := unhide HJL (m + 1)
      have hmem : P.getD m p7 ∈ P := by rw [List.getD, List.getElem?_eq_getElem hp]; exact List.getElem_mem hp
      have hin := unhide HIN _ hmem
      rw [ej, List.length_append] at hl2
      generalize hgt : P.getD m p7 = t at *
      obtain ⟨kd, ⟨o1, o2⟩, ⟨a1, a2⟩, ⟨b1, b2⟩⟩ := t
      obtain ⟨i1, i2, i3, i4, i5, i6, i7, i8⟩ := hin
      dsimp only at i1 i2 i3 i4 i5 i6 i7 i8
      have k0 : wr.cell? ⟨g, m * 7, none⟩ = some (.int .i64 (kd : Int)) := cellB hbl (hck 0 (by decide))
      have k1 : wr.cell? ⟨g, m * 7 + 1, none⟩ = some (.int .i64 (o1 : Int)) := cellB hbl (hck 1 (by decide))
      have k2 : wr.cell? ⟨g, m * 7 + 2, none⟩ = some (.int .i64 (o2 : Int)) := cellB hbl (hck 2 (by decide))
      have k3 : wr.cell? ⟨g, m * 7 + 3, none⟩ = some (.int .i64 (a1 : Int)) := cellB hbl (hck 3 (by decide))
      have k4 : wr.cell? ⟨g, m * 7 + 4, none⟩ = some (.int .i64 (a2 : Int)) := cellB hbl (hck 4 (by decide))
      have k5 : wr.cell? ⟨g, m * 7 + 5, none⟩ = some (.int .i64 (b1 : Int)) := cellB hbl (hck 5 (by decide))
      have k6 : wr.cell? ⟨g, m * 7 + 6, none⟩ = some (.int .i64 (b2 : Int)) := cellB hbl (hck 6 (by decide))
      have PO := hide (fun W (hW : Below w.heap.size w W) => ((unhide HO).below hW).part i3 i6)
      have PA := hide (fun W (hW : Below w.heap.size w W) => ((unhide HA).below hW).part i4 i7)
      have PB := hide (fun W (hW : Below w.heap.size w W) => ((unhide HB).below hW).part i5 i8)
      have r1 := run_partT qo o.length co o1 o2 i3 (by have := (unhide HO).2.1; omega)
      have r2 := run_partT qa a.length ca a1 a2 i4 (by have := (unhide HA).2.1; omega)
      have r3 := run_partT qb b.length cb b1 b2 i5 (by have := (unhide HB).2.1; omega)
      have HEJ := hide ej
      have HEC := hide ec
      have hown0 : ∀ q, (Value.slice uq un uc).ownBlock = some q → w1.heap.size ≤ q ∧ q < wr.heap.size := fun q hq => (unhide HR).lt q hq
      have HNB := hide hown0
      have HBw : Hid (Below w.heap.size w wr) := hide ((unhide HB1).trans ((unhide HBL).mono hz1))
      have hzw : w.heap.size ≤ wr.heap.size := (unhide HBw).size
      clear hown0
      generalize hcn : clF (P.take m) = cn at *
      have hkk : kd = 1 ∨ kd = 2 ∨ kd = 3 ∨ kd = 4 ∨ kd = 5 := by omega
      clear hck hcell hgt hmem hrow hbl ej ec HIN hcn i1 i2
      rcases hkk with rfl | rfl | rfl | rfl | rfl
      · have hl3 : (jnF o a b (P.take m)).length + (sub o o1 o2).length ≤ 1000000 := by
          have h9 : (jn1 o a b (1, (o1, o2), (a1, a2), (b1, b2))).length = (sub o o1 o2).length := rfl
          omega
        go_wp2_with (at_builtin; refine wpList_append_view _ rfl _ _ rfl w1.heap.size (.slice uq un uc) _ rfl ((unhide HR).alloc _) _ _ _ _ rfl (unhide PO _ ((unhide HBw).alloc hzw _)) hl3 (by simp; omega) ?_)
        intro u9 z9 hown9 hgr9 _
        have HO9 : Hid (TxsV z9 w1.heap.size u9 (jnF o a b (P.take (m + 1)))) := hide (by rw [unhide HEJ]; exact hown9)
        have HB9 : Hid (Below w1.heap.size w1 z9) := hide (((unhide HBL).alloc hz _).grown hgr9 (by simp; omega) (fun q hq => (unhide HNB q hq).1))
        clear hown9 hgr9
        go_wp2
        go_roundw
        case rel => exact ⟨m + 1, by omega, by go_num, by rw [unhide HEC]; rfl, unhide HO9, unhide HB9⟩
        case measure => simp [intOf]; omega
      · have hl3 : (jnF o a b (P.take m)).length + (sub b b1 b2).length ≤ 1000000 := by
          have h9 : (jn1 o a b (2, (o1, o2), (a1, a2), (b1, b2))).length = (sub b b1 b2).length := rfl
          omega
        go_wp2_with (at_builtin; refine wpList_append_view _ rfl _ _ rfl w1.heap.size (.slice uq un uc) _ rfl ((unhide HR).alloc _) _ _ _ _ rfl (unhide PB _ ((unhide HBw).alloc hzw _)) hl3 (by simp; omega) ?_)
        intro u9 z9 hown9 hgr9 _
        have HO9 : Hid (TxsV z9 w1.heap.size u9 (jnF o a b (P.take (m + 1)))) := hide (by rw [unhide HEJ]; exact hown9)
        have HB9 : Hid (Below w1.heap.size w1 z9) := hide (((unhide HBL).alloc hz _).grown hgr9 (by simp; omega) (fun q hq => (unhide HNB q hq).1))
        clear hown9 hgr9
        go_wp2
        go_roundw
        case rel => exact ⟨m + 1, by omega, by go_num, by rw [unhide HEC]; rfl, unhide HO9, unhide HB9⟩
        case measure => simp [intOf]; omega
      · have hl3 : (jnF o a b (P.take m)).length + (sub a a1 a2).length ≤ 1000000 := by
          have h9 : (jn1 o a b (3, (o1, o2), (a1, a2), (b1, b2))).length = (sub a a1 a2).length := rfl
          omega
        go_wp2_with (at_builtin; refine wpList_append_view _ rfl _ _ rfl w1.heap.size (.slice uq un uc) _ rfl ((unhide HR).alloc _) _ _ _ _ rfl (unhide PA _ ((unhide HBw).alloc hzw _)) hl3 (by simp; omega) ?_)
        intro u9 z9 hown9 hgr9 _
        have HO9 : Hid (TxsV z9 w1.heap.size u9 (jnF o a b (P.take (m + 1)))) := hide (by rw [unhide HEJ]; exact hown9)
        have HB9 : Hid (Below w1.heap.size w1 z9) := hide (((unhide HBL).alloc hz _).grown hgr9 (by simp; omega) (fun q hq => (unhide HNB q hq).1))
        clear hown9 hgr9
        go_wp2
        go_roundw
        case rel => exact ⟨m + 1, by omega, by go_num, by rw [unhide HEC]; rfl, unhide HO9, unhide HB9⟩
        case measure => simp [intOf]; omega
      · have hl3 : (jnF o a b (P.take m)).length + (sub a a1 a2).length ≤ 1000000 := by
          have h9 : (jn1 o a b (4, (o1, o2), (a1, a2), (b1, b2))).length = (sub a a1 a2).length := rfl
          omega
        go_wp2_with (at_builtin; refine wpList_append_view _ rfl _ _ rfl w1.heap.size (.slice uq un uc) _ rfl ((unhide HR).alloc _) _ _ _ _ rfl (unhide PA _ ((unhide HBw).alloc hzw _)) hl3 (by simp; omega) ?_)
        intro u9 z9 hown9 hgr9 _
        have HO9 : Hid (TxsV z9 w1.heap.size u9 (jnF o a b (P.take (m + 1)))) := hide (by rw [unhide HEJ]; exact hown9)
        have HB9 : Hid (Below w1.heap.size w1 z9) := hide (((unhide HBL).alloc hz _).grown hgr9 (by simp; omega) (fun q hq => (unhide HNB q hq).1))
        clear hown9 hgr9
        go_wp2
        go_roundw
        case rel => exact ⟨m + 1, by omega, by go_num, by rw [unhide HEC]; rfl, unhide HO9, unhide HB9⟩
        case measure => simp [intOf]; omega
      · have h9 : (jn1 o a b (5, (o1, o2), (a1, a2), (b1, b2))).length = (sub a a1 a2).length + (sub b b1 b2).length := by
          show (sub a a1 a2 ++ sub b b1 b2).length = _
          rw [List.length_append]
        have hl3 : (jnF o a b (P.take m)).length + (sub a a1 a2).length ≤ 1000000 := by omega
        have hl4 : (jnF o a b (P.take m) ++ sub a a1 a2).length + (sub b b1 b2).length ≤ 1000000 := by rw [List.length_append]; omega
        have BX := hide (Blk.new wr #[.int .i64 5, .int .i64 (o1 : Int), .int .i64 (o2 : Int), .int .i64 (a1 : Int), .int .i64 (a2 : Int), .int .i64 (b1 : Int), .int .i64 (b2 : Int)] 41)
        clear h9
        go_wp2_with (at_builtin; refine wpList_append_view _ rfl _ _ rfl w1.heap.size (.slice uq un uc) _ rfl ((unhide HR).alloc _) _ _ _ _ rfl (unhide PA _ ((unhide HBw).alloc hzw _)) hl3 (by simp; omega) ?_)
        intro u8 z8 hown8 hgr8 _
        have K8 : Blk z8 wr.heap.size #[.int .i64 5, .int .i64 (o1 : Int), .int .i64 (o2 : Int), .int .i64 (a1 : Int), .int .i64 (a2 : Int), .int .i64 (b1 : Int), .int .i64 (b2 : Int)] 41 := (unhide BX).grown hgr8 (fun e => by have := (unhide HNB _ e.symm).2; omega)
        have y5 := K8.cell 5
        have y6 := K8.cell 6
        have HB8 : Hid (Below w1.heap.size w1 z8) := hide (((unhide HBL).alloc hz _).grown hgr8 (by simp; omega) (fun q hq => (unhide HNB q hq).1))
        have HBw8 : Hid (Below w.heap.size w z8) := hide ((unhide HB1).trans ((unhide HB8).mono hz1))
        have hz8 := (unhide HB8).size
        obtain ⟨vq, vn, vc, hv8⟩ := slice_of hown8
        subst hv8
        have H8 := hide hown8
        have HNB8 : Hid (∀ q, (Value.slice vq vn vc).ownBlock = some q → w1.heap.size ≤ q) := hide (fun q hq => (hown8.lt q hq).1)
        clear hown8 hgr8 K8 BX
        go_wp2_with (at_builtin; refine wpList_append_view _ rfl _ _ rfl w1.heap.size (.slice vq vn vc) _ rfl (unhide H8) _ _ _ _ rfl (unhide PB _ (unhide HBw8)) hl4 (by omega) ?_)
        intro u9 z9 hown9 hgr9 _
        have HO9 : Hid (TxsV z9 w1.heap.size u9 (jnF o a b (P.take (m + 1)))) := hide (by rw [unhide HEJ]; first | exact hown9 | (rw [List.append_assoc] at hown9; exact hown9))
        have HB9 : Hid (Below w1.heap.size w1 z9) := hide ((unhide HB8).grown hgr9 hz8 (fun q hq => unhide HNB8 q hq))
        clear hown9 hgr9
        go_wp2
        go_roundw
        case rel => exact ⟨m + 1, by omega, by go_num, by rw [unhide HEC]; go_num, unhide HO9, unhide HB9⟩
        case measure => simp [intOf]; omega
    · have hpi : ¬ (m : Int) < (P.length : Int) := by omega
      have hme : m = P.length := by omega
      subst hme
      rw [unhide HFIN] at HR
      rw [unhide HFIN]
      have HRR : Hid (TxsV wr w1.heap.size (.slice uq un uc) (jnF o a b P)) := HR
      clear hrow hpi hp
      go_wp2
      go_ret2
      exact ⟨_, rfl, owns_mono (unhide HRR) hz1, (unhide HB1).trans ((unhide HBL).mono hz1)⟩
end Go.Proofs.Ytbaoomkdlbjhlaa
