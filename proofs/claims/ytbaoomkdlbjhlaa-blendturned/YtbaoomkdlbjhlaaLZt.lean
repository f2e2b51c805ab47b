/-
  The law BlendTurned.
-/
import Derived.Test.YtbaoomkdlbjhlaaZFo
import Derived.Test.YtbaoomkdlbjhlaaZTx
import Derived.Test.YtbaoomkdlbjhlaaZOp
import Derived.Test.YtbaoomkdlbjhlaaZQe
import Derived.Deep.RegionWith
import Derived.Deep.RegionHeld
import Derived.Deep.DeepCutAuto
namespace Go.Proofs.Ytbaoomkdlbjhlaa
open Go.RowKit
set_option linter.unusedVariables false
set_option linter.unusedSimpArgs false

set_option maxHeartbeats 2000000 in
theorem blendTurned_great (qo : Option Addr) (co : Nat) (o : List ByteArray) (qa : Option Addr) (ca : Nat) (a : List ByteArray) (qb : Option Addr) (cb : Nat) (b : List ByteArray) (w : World) (lo : o.length ≤ 9223372036854775807) (la : a.length ≤ 9223372036854775807) (lb : b.length ≤ 9223372036854775807) (h : 40 < o.length ∨ 40 < a.length ∨ 40 < b.length) :
    Calls Try.prog 6 #[.slice qo o.length co, .slice qa a.length ca, .slice qb b.length cb] w fun e w' => e = .returned (.bool true) ∧ Below w.heap.size w w' := by
  have CF := hide (fun W => four_any W)
  have Co := hide (fun W => long25_any qo o.length co W lo)
  have Ca := hide (fun W => long25_any qa a.length ca W la)
  have Cb := hide (fun W => long25_any qb b.length cb W lb)
  by_cases go : 40 < o.length
  · rw [decide_eq_true go] at Co
    go_enter Try.func6, Try.ntmps6
    go_wp2_with fail
    refine (unhide Co _).mono ?_
    rintro e w1 ⟨rfl, hb1⟩
    have HB1 := hide hb1
    clear hb1
    go_wp2_with fail
    refine (unhide CF _).mono ?_
    rintro e w9 ⟨rfl, hb9⟩
    have HB9 := hide (tr2 (unhide HB1) hb9)
    clear hb9
    go_wp2
    go_ret
    exact ⟨rfl, unhide HB9⟩
  · by_cases ga : 40 < a.length
    · rw [decide_eq_false go] at Co
      rw [decide_eq_true ga] at Ca
      go_enter Try.func6, Try.ntmps6
      go_wp2_with fail
      refine (unhide Co _).mono ?_
      rintro e w1 ⟨rfl, hb1⟩
      have HB1 := hide hb1
      clear hb1
      go_wp2_with fail
      refine (unhide Ca _).mono ?_
      rintro e w2 ⟨rfl, hb2⟩
      have HB2 := hide (tr2 (unhide HB1) hb2)
      clear hb2
      go_wp2_with fail
      refine (unhide CF _).mono ?_
      rintro e w9 ⟨rfl, hb9⟩
      have HB9 := hide (tr2 (unhide HB2) hb9)
      clear hb9
      go_wp2
      go_ret
      exact ⟨rfl, unhide HB9⟩
    · have gb : 40 < b.length := by omega
      rw [decide_eq_false go] at Co
      rw [decide_eq_false ga] at Ca
      rw [decide_eq_true gb] at Cb
      go_enter Try.func6, Try.ntmps6
      go_wp2_with fail
      refine (unhide Co _).mono ?_
      rintro e w1 ⟨rfl, hb1⟩
      have HB1 := hide hb1
      clear hb1
      go_wp2_with fail
      refine (unhide Ca _).mono ?_
      rintro e w2 ⟨rfl, hb2⟩
      have HB2 := hide (tr2 (unhide HB1) hb2)
      clear hb2
      go_wp2_with fail
      refine (unhide Cb _).mono ?_
      rintro e w3 ⟨rfl, hb3⟩
      have HB3 := hide (tr2 (unhide HB2) hb3)
      clear hb3
      go_wp2_with fail
      refine (unhide CF _).mono ?_
      rintro e w9 ⟨rfl, hb9⟩
      have HB9 := hide (tr2 (unhide HB3) hb9)
      clear hb9
      go_wp2
      go_ret
      exact ⟨rfl, unhide HB9⟩
def SxT (W0 : World) (b1 b2 : Nat) (x1 x2 x3 x4 x5 x6 : Int) (X : World) : Prop :=
  Below W0.heap.size W0 X ∧ X.cell? ⟨b1, 0, none⟩ = some (.int .i64 2) ∧ X.cell? ⟨b1, 1, none⟩ = some (.int .i64 x1) ∧ X.cell? ⟨b1, 2, none⟩ = some (.int .i64 x2) ∧ X.cell? ⟨b1, 3, none⟩ = some (.int .i64 x3) ∧ X.cell? ⟨b1, 4, none⟩ = some (.int .i64 x4) ∧ X.cell? ⟨b1, 5, none⟩ = some (.int .i64 x5) ∧ X.cell? ⟨b1, 6, none⟩ = some (.int .i64 x6) ∧ X.cell? ⟨b2, 0, none⟩ = some (.int .i64 2)
theorem SxT.below {W0 : World} {b1 b2 : Nat} {x1 x2 x3 x4 x5 x6 : Int} {X X' : World} (h : SxT W0 b1 b2 x1 x2 x3 x4 x5 x6 X) (hb : Below X.heap.size X X') : SxT W0 b1 b2 x1 x2 x3 x4 x5 x6 X' :=
  ⟨tr2 h.1 hb, cellB hb h.2.1, cellB hb h.2.2.1, cellB hb h.2.2.2.1, cellB hb h.2.2.2.2.1, cellB hb h.2.2.2.2.2.1, cellB hb h.2.2.2.2.2.2.1, cellB hb h.2.2.2.2.2.2.2.1, cellB hb h.2.2.2.2.2.2.2.2⟩
theorem turned_any (x y z : Bool) (w : World) :
    Calls Try.prog 16 #[.int .i64 (kd3 x y z : Nat)] w fun e w' => e = .returned (.int .i64 (if kd3 x y z = 3 then 2 else if kd3 x y z = 2 then 3 else (kd3 x y z : Nat))) ∧ w' = w := by
  cases x <;> cases y <;> cases z <;>
  (go_enter Try.func16, Try.ntmps16
   go_wp2
   go_ret
   exact ⟨rfl, rfl⟩)
theorem turned_one (w : World) :
    Calls Try.prog 16 #[.int .i64 1] w fun e w' => e = .returned (.int .i64 1) ∧ w' = w := by
  go_enter Try.func16, Try.ntmps16
  go_wp2
  go_ret
  exact ⟨rfl, rfl⟩
theorem allP_kinds (o a b : List ByteArray) : ∀ p ∈ allP o a b, p.1 = 1 ∨ p.1 = kdF (smT o a b) p.2.1.1 p.2.1.2 p.2.2.1.1 p.2.2.1.2 p.2.2.2.1 p.2.2.2.2 := ptF_kinds _ _ _ _ _ _ _ _
theorem sameT_comm2 (a b : List ByteArray) : sameT a b = sameT b a := by
  unfold sameT
  by_cases h : a = b
  · subst h; rfl
  · rw [decide_eq_false h, decide_eq_false (fun e => h e.symm)]
/-- What holds of a part and of it turned about: kinds, and what is the same. -/
theorem tw_cases (o a b : List ByteArray) (p : PT) (h : p.1 = 1 ∨ p.1 = kdF (smT o a b) p.2.1.1 p.2.1.2 p.2.2.1.1 p.2.2.1.2 p.2.2.2.1 p.2.2.2.2) :
    (p.1 = 1 ∧ (twP o a b p).1 = 1) ∨ ∃ x y z : Bool, p.1 = kd3 x y z ∧ (twP o a b p).1 = kd3 y x z ∧ sameT (sub o p.2.1.1 p.2.1.2) (sub a p.2.2.1.1 p.2.2.1.2) = x ∧ sameT (sub o p.2.1.1 p.2.1.2) (sub b p.2.2.2.1 p.2.2.2.2) = y := by
  rcases h with h | h
  · exact .inl ⟨h, by unfold twP; rw [if_pos h]⟩
  · refine .inr ⟨_, _, _, h, ?_, sameT_comm2 _ _, sameT_comm2 _ _⟩
    unfold twP
    rw [if_neg (by rw [h]; exact kdF_ne1 _ _ _ _ _ _ _)]
    show kd3 (sameT (sub b _ _) (sub o _ _)) (sameT (sub a _ _) (sub o _ _)) (sameT (sub b _ _) (sub a _ _)) = kd3 (sameT (sub b _ _) (sub o _ _)) (sameT (sub a _ _) (sub o _ _)) (sameT (sub a _ _) (sub b _ _))
    rw [sameT_comm2 (sub b p.2.2.2.1 p.2.2.2.2) (sub a p.2.2.1.1 p.2.2.1.2)]
set_option maxHeartbeats 8000000 in
set_option maxRecDepth 100000 in
theorem blendTurned_small (qo qa qb : Option Addr) (co ca cb : Nat) (o a b : List ByteArray) (w : World) (ho : ArgV w qo co o) (ha : ArgV w qa ca a) (hb : ArgV w qb cb b) (so : SzT o) (sa : SzT a) (sb : SzT b) (lo : o.length ≤ 40) (la : a.length ≤ 40) (lb : b.length ≤ 40) :
    Calls Try.prog 6 #[.slice qo o.length co, .slice qa a.length ca, .slice qb b.length cb] w fun e w' => e = .returned (.bool true) ∧ Below w.heap.size w w' := by
  have CF := hide (fun W => four_any W)
  have Co := hide (fun W => long25_any qo o.length co W (by omega))
  rw [decide_eq_false (by omega)] at Co
  have Ca := hide (fun W => long25_any qa a.length ca W (by omega))
  rw [decide_eq_false (by omega)] at Ca
  have Cb := hide (fun W => long25_any qb b.length cb W (by omega))
  rw [decide_eq_false (by omega)] at Cb
  have CT := hide (fun W (hW : Below w.heap.size w W) => btexts_any qo qa qb co ca cb o a b W (ho.below hW) (ha.below hW) (hb.below hW) so sa sb (by omega) (by omega) (by omega))
  have CU := hide (fun W (hW : Below w.heap.size w W) => btexts_any qo qb qa co cb ca o b a W (ho.below hW) (hb.below hW) (ha.below hW) so sb sa (by omega) (by omega) (by omega))
  rw [allP_tw o a b] at CU
  have HIN := hide (goP_in _ _ _ _ _ _ _ (allP_go o a b))
  have HKI := hide (fun p hp => tw_cases o a b p (allP_kinds o a b p hp))
  have hPl := allP_len o a b
  generalize allP o a b = P at *
  have HO := hide ho
  have HAa := hide ha
  have HBb := hide hb
  have hlc : o.length ≤ co ∧ a.length ≤ ca ∧ b.length ≤ cb := ⟨ho.2.1, ha.2.1, hb.2.1⟩
  have hml : (P.map (twP o a b)).length = P.length := List.length_map _
  clear ho ha hb
  go_enter Try.func6, Try.ntmps6
  go_wp2_with fail
  refine (unhide Co _).mono ?_
  rintro e w1 ⟨rfl, hb1⟩
  have HB1 := hide hb1
  clear hb1 Co
  go_wp2_with fail
  refine (unhide Ca _).mono ?_
  rintro e w2 ⟨rfl, hb2⟩
  have HB2 := hide (tr2 (unhide HB1) hb2)
  clear hb2 Ca
  go_wp2_with fail
  refine (unhide Cb _).mono ?_
  rintro e w3 ⟨rfl, hb3⟩
  have HB3 := hide (tr2 (unhide HB2) hb3)
  clear hb3 Cb
  go_wp2_with fail
  refine (unhide CT _ (unhide HB3)).mono ?_
  rintro e w4 ⟨u, rfl, hu, hb4⟩
  obtain ⟨q, c, rfl, hat⟩ := parts_at hu
  have HB4 := hide (tr2 (unhide HB3) hb4)
  have HA4 := hide hat
  clear hu hb4 hat CT HB1 HB2 HB3
  go_wp2_with fail
  refine (unhide CU _ (unhide HB4)).mono ?_
  rintro e w5 ⟨v, rfl, hv, hb5⟩
  obtain ⟨q', c', rfl, hat'⟩ := parts_at hv
  have HB5 := hide (tr2 (unhide HB4) hb5)
  have HA := hide ((unhide HA4).below hb5)
  have HV := hide hat'
  rw [hml]
  clear hv hb5 hat' CU HB4 HA4
  have HML := hide hml
  clear hml
  go_wp2
  go_loopw [39] (fun x wr => ∃ m : Nat, m ≤ P.length ∧ x = .int .i64 (m : Int) ∧ Below w5.heap.size w5 wr) (fun x _ => P.length - (intOf x).toNat)
  case atStart => exact ⟨0, Nat.zero_le _, rfl, Below.refl _ _⟩
  case round =>
    obtain ⟨m, hm, rfl, hbl⟩ := hrel
    have hz := hbl.size
    by_cases hp : m < P.length
    · have hpi : (m : Int) < (P.length : Int) := by omega
      obtain ⟨g, rfl, hcell⟩ := (unhide HA).below hbl (by omega)
      obtain ⟨g', rfl, hcell'⟩ := (unhide HV).below hbl (by rw [unhide HML]; omega)
      have hck := hcell m hp
      have hck' := hcell' m (by rw [unhide HML]; exact hp)
      have hmem : P.getD m p7 ∈ P := by rw [List.getD, List.getElem?_eq_getElem hp]; exact List.getElem_mem hp
      have hin := unhide HIN _ hmem
      have hki := unhide HKI _ hmem
      have hgd : (P.map (twP o a b)).getD m p7 = twP o a b (P.getD m p7) := by
        rw [List.getD, List.getD, List.getElem?_map, List.getElem?_eq_getElem hp]; rfl
      rw [hgd] at hck'
      generalize P.getD m p7 = t at *
      obtain ⟨kd, ⟨o1, o2⟩, ⟨a1, a2⟩, ⟨b1, b2⟩⟩ := t
      have hke : ∃ ke, (twP o a b (kd, (o1, o2), (a1, a2), (b1, b2))).1 = ke := ⟨_, rfl⟩
      obtain ⟨ke, hke⟩ := hke
      rw [hke] at hki
      have k0 : wr.cell? ⟨g, m * 7, none⟩ = some (.int .i64 (kd : Int)) := hck 0 (by decide)
      have k1 : wr.cell? ⟨g, m * 7 + 1, none⟩ = some (.int .i64 (o1 : Int)) := hck 1 (by decide)
      have k2 : wr.cell? ⟨g, m * 7 + 2, none⟩ = some (.int .i64 (o2 : Int)) := hck 2 (by decide)
      have k3 : wr.cell? ⟨g, m * 7 + 3, none⟩ = some (.int .i64 (a1 : Int)) := hck 3 (by decide)
      have k4 : wr.cell? ⟨g, m * 7 + 4, none⟩ = some (.int .i64 (a2 : Int)) := hck 4 (by decide)
      have k5 : wr.cell? ⟨g, m * 7 + 5, none⟩ = some (.int .i64 (b1 : Int)) := hck 5 (by decide)
      have k6 : wr.cell? ⟨g, m * 7 + 6, none⟩ = some (.int .i64 (b2 : Int)) := hck 6 (by decide)
      have e0 : wr.cell? ⟨g', m * 7, none⟩ = some (.int .i64 (ke : Int)) := by have := hck' 0 (by decide); rw [← hke]; exact this
      have e1 : wr.cell? ⟨g', m * 7 + 1, none⟩ = some (.int .i64 (o1 : Int)) := hck' 1 (by decide)
      have e2 : wr.cell? ⟨g', m * 7 + 2, none⟩ = some (.int .i64 (o2 : Int)) := hck' 2 (by decide)
      have e3 : wr.cell? ⟨g', m * 7 + 3, none⟩ = some (.int .i64 (b1 : Int)) := hck' 3 (by decide)
      have e4 : wr.cell? ⟨g', m * 7 + 4, none⟩ = some (.int .i64 (b2 : Int)) := hck' 4 (by decide)
      have e5 : wr.cell? ⟨g', m * 7 + 5, none⟩ = some (.int .i64 (a1 : Int)) := hck' 5 (by decide)
      have e6 : wr.cell? ⟨g', m * 7 + 6, none⟩ = some (.int .i64 (a2 : Int)) := hck' 6 (by decide)
      have hgl : g' < wr.heap.size := World.block_lt_of_cell? wr _ e0
      dsimp only at hki
      obtain ⟨_, _, i3, i4, i5, i6, i7, i8⟩ := hin
      dsimp only at i3 i4 i5 i6 i7 i8
      have r1 := run_partT qo o.length co o1 o2 i3 (by omega)
      have r2 := run_partT qa a.length ca a1 a2 i4 (by omega)
      have r3 := run_partT qb b.length cb b1 b2 i5 (by omega)
      have Q1 := fun W => eq2 (o1 : Int) (o2 : Int) (o1 : Int) (o2 : Int) W
      have Q2 := fun W => eq2 (a1 : Int) (a2 : Int) (a1 : Int) (a2 : Int) W
      have Q3 := fun W => eq2 (b1 : Int) (b2 : Int) (b1 : Int) (b2 : Int) W
      simp only [beq_self_eq_true, Bool.and_self] at Q1 Q2 Q3
      have HBL := hide hbl
      have HBw : Hid (Below w.heap.size w wr) := hide (tr2 (unhide HB5) hbl)
      have BX1 := hide (Blk.new wr #[.int .i64 (kd : Int), .int .i64 (o1 : Int), .int .i64 (o2 : Int), .int .i64 (a1 : Int), .int .i64 (a2 : Int), .int .i64 (b1 : Int), .int .i64 (b2 : Int)] 41)
      clear hck hck' hcell hcell' hgd hmem hke hbl HIN HKI
      have KA : Hid (Blk ((wr.alloc (Obj.cells #[.int .i64 (kd : Int), .int .i64 (o1 : Int), .int .i64 (o2 : Int), .int .i64 (a1 : Int), .int .i64 (a2 : Int), .int .i64 (b1 : Int), .int .i64 (b2 : Int)] 41)).alloc (Obj.cells #[.int .i64 (ke : Int), .int .i64 (o1 : Int), .int .i64 (o2 : Int), .int .i64 (b1 : Int), .int .i64 (b2 : Int), .int .i64 (a1 : Int), .int .i64 (a2 : Int)] 41)) wr.heap.size #[.int .i64 (kd : Int), .int .i64 (o1 : Int), .int .i64 (o2 : Int), .int .i64 (a1 : Int), .int .i64 (a2 : Int), .int .i64 (b1 : Int), .int .i64 (b2 : Int)] 41) := hide ((Blk.new wr #[.int .i64 (kd : Int), .int .i64 (o1 : Int), .int .i64 (o2 : Int), .int .i64 (a1 : Int), .int .i64 (a2 : Int), .int .i64 (b1 : Int), .int .i64 (b2 : Int)] 41).alloc _)
      have KC : Hid (Blk ((wr.alloc (Obj.cells #[.int .i64 (kd : Int), .int .i64 (o1 : Int), .int .i64 (o2 : Int), .int .i64 (a1 : Int), .int .i64 (a2 : Int), .int .i64 (b1 : Int), .int .i64 (b2 : Int)] 41)).alloc (Obj.cells #[.int .i64 (ke : Int), .int .i64 (o1 : Int), .int .i64 (o2 : Int), .int .i64 (b1 : Int), .int .i64 (b2 : Int), .int .i64 (a1 : Int), .int .i64 (a2 : Int)] 41)) (wr.heap.size + 1) #[.int .i64 (ke : Int), .int .i64 (o1 : Int), .int .i64 (o2 : Int), .int .i64 (b1 : Int), .int .i64 (b2 : Int), .int .i64 (a1 : Int), .int .i64 (a2 : Int)] 41) := hide (by have := Blk.new (wr.alloc (Obj.cells #[.int .i64 (kd : Int), .int .i64 (o1 : Int), .int .i64 (o2 : Int), .int .i64 (a1 : Int), .int .i64 (a2 : Int), .int .i64 (b1 : Int), .int .i64 (b2 : Int)] 41)) #[.int .i64 (ke : Int), .int .i64 (o1 : Int), .int .i64 (o2 : Int), .int .i64 (b1 : Int), .int .i64 (b2 : Int), .int .i64 (a1 : Int), .int .i64 (a2 : Int)] 41; rw [show (wr.alloc (Obj.cells #[.int .i64 (kd : Int), .int .i64 (o1 : Int), .int .i64 (o2 : Int), .int .i64 (a1 : Int), .int .i64 (a2 : Int), .int .i64 (b1 : Int), .int .i64 (b2 : Int)] 41)).heap.size = wr.heap.size + 1 by simp] at this; exact this)
      have HBX : Hid (Below w5.heap.size w5 ((wr.alloc (Obj.cells #[.int .i64 (kd : Int), .int .i64 (o1 : Int), .int .i64 (o2 : Int), .int .i64 (a1 : Int), .int .i64 (a2 : Int), .int .i64 (b1 : Int), .int .i64 (b2 : Int)] 41)).alloc (Obj.cells #[.int .i64 (ke : Int), .int .i64 (o1 : Int), .int .i64 (o2 : Int), .int .i64 (b1 : Int), .int .i64 (b2 : Int), .int .i64 (a1 : Int), .int .i64 (a2 : Int)] 41))) := hide (((unhide HBL).alloc hz _).alloc (by simp; omega) _)
      have HWX : Hid (Below wr.heap.size wr ((wr.alloc (Obj.cells #[.int .i64 (kd : Int), .int .i64 (o1 : Int), .int .i64 (o2 : Int), .int .i64 (a1 : Int), .int .i64 (a2 : Int), .int .i64 (b1 : Int), .int .i64 (b2 : Int)] 41)).alloc (Obj.cells #[.int .i64 (ke : Int), .int .i64 (o1 : Int), .int .i64 (o2 : Int), .int .i64 (b1 : Int), .int .i64 (b2 : Int), .int .i64 (a1 : Int), .int .i64 (a2 : Int)] 41))) := hide (((Below.refl _ _).alloc (Nat.le_refl _) _).alloc (by simp) _)
      clear BX1
      go_upto_region 11 with fail
      generalize ((wr.alloc (Obj.cells #[.int .i64 (kd : Int), .int .i64 (o1 : Int), .int .i64 (o2 : Int), .int .i64 (a1 : Int), .int .i64 (a2 : Int), .int .i64 (b1 : Int), .int .i64 (b2 : Int)] 41)).alloc (Obj.cells #[.int .i64 (ke : Int), .int .i64 (o1 : Int), .int .i64 (o2 : Int), .int .i64 (b1 : Int), .int .i64 (b2 : Int), .int .i64 (a1 : Int), .int .i64 (a2 : Int)] 41)) = WX at *
      have f0 := (unhide KA).cell 0
      have f1 := (unhide KA).cell 1
      have f2 := (unhide KA).cell 2
      have f3 := (unhide KA).cell 3
      have f4 := (unhide KA).cell 4
      have f5 := (unhide KA).cell 5
      have f6 := (unhide KA).cell 6
      have h0 := (unhide KC).cell 0
      have h1 := (unhide KC).cell 1
      have h2 := (unhide KC).cell 2
      have h3 := (unhide KC).cell 3
      have h4 := (unhide KC).cell 4
      have h5 := (unhide KC).cell 5
      have h6 := (unhide KC).cell 6
      clear e0 e1 e2 e3 e4 e5 e6 k0 k1 k2 k3 k4 k5 k6
      rcases hki with ⟨rfl, rfl⟩ | ⟨x, y, z, hk1, hk2, hx, hy⟩
      · have CTD := hide (fun W => turned_one W)
        go_quiet (fail)
        go_wp2
        go_quiet ((go_at_call 16; refine (unhide CTD _).mono ?_; rintro e9 w9 ⟨rfl, rfl⟩; exact ⟨rfl, _, rfl⟩))
        go_wp2
        go_roundw
        case rel => exact ⟨m + 1, by omega, by go_num, _root_.Go.below_drewN (unhide HBX) _⟩
        case measure => simp [intOf]; omega
      · have CTD := hide (fun W => turned_any x y z W)
        cases x with
        | false =>
          have hk3 : ¬ kd = 2 := by rw [hk1]; cases y <;> cases z <;> decide
          have hk4 : ((kd : Int) == 2) = false := beq_eq_false_iff_ne.2 (by omega)
          have hk5 : (if kd3 false y z = 3 then 2 else if kd3 false y z = 2 then 3 else (kd3 false y z : Int)) = (ke : Int) := by rw [hk2]; cases y <;> cases z <;> rfl
          rw [hk5, ← hk1] at CTD
          clear hk1 hk2 hx hy hk5
          go_quiet (fail)
          go_wp2
          go_quiet ((go_at_call 16; refine (unhide CTD _).mono ?_; rintro e9 w9 ⟨rfl, rfl⟩; exact ⟨rfl, _, rfl⟩))
          go_wp2
          go_roundw
          case rel => exact ⟨m + 1, by omega, by go_num, _root_.Go.below_drewN (unhide HBX) _⟩
          case measure => simp [intOf]; omega
        | true =>
          obtain rfl : kd = 2 := hk1
          cases y with
          | false =>
            obtain rfl : ke = 3 := hk2
            have hk5 : (if kd3 true false z = 3 then 2 else if kd3 true false z = 2 then 3 else (kd3 true false z : Int)) = (3 : Int) := rfl
            have hk6 : kd3 true false z = 2 := rfl
            rw [hk5, hk6] at CTD
            clear hx hy hk5 hk6
            go_quiet (fail)
            go_wp2
            go_quiet ((go_at_call 16; refine (unhide CTD _).mono ?_; rintro e9 w9 ⟨rfl, rfl⟩; exact ⟨rfl, _, rfl⟩))
            go_wp2
            go_roundw
            case rel => exact ⟨m + 1, by omega, by go_num, _root_.Go.below_drewN (unhide HBX) _⟩
            case measure => simp [intOf]; omega
          | true =>
            obtain rfl : ke = 2 := hk2
            have hk5 : (if kd3 true true z = 3 then 2 else if kd3 true true z = 2 then 3 else (kd3 true true z : Int)) = (3 : Int) := rfl
            have hk6 : kd3 true true z = 2 := rfl
            rw [hk5, hk6] at CTD
            have T1 := hide (fun W (hW : Below wr.heap.size wr W) => texts_any _ _ _ _ W (view_below (view_part (unhide HO).1 i3 i6 hlc.1) (tr2 (unhide HBw) hW)) (view_below (view_part (unhide HAa).1 i4 i7 hlc.2.1) (tr2 (unhide HBw) hW)))
            have T2 := hide (fun W (hW : Below wr.heap.size wr W) => texts_any _ _ _ _ W (view_below (view_part (unhide HO).1 i3 i6 hlc.1) (tr2 (unhide HBw) hW)) (view_below (view_part (unhide HBb).1 i5 i8 hlc.2.2) (tr2 (unhide HBw) hW)))
            rw [hx] at T1
            rw [hy] at T2
            have hSa : SxT WX wr.heap.size (wr.heap.size + 1) (o1 : Int) (o2 : Int) (a1 : Int) (a2 : Int) (b1 : Int) (b2 : Int) WX.drew := ⟨below_draws WX 1, f0, f1, f2, f3, f4, f5, f6, h0⟩
            clear hx hy hk5 hk6 f0 f1 f2 f3 f4 f5 f6 h0 h1 h2 h3 h4 h5 h6
            refine wp_region_held (S := SxT WX wr.heap.size (wr.heap.size + 1) (o1 : Int) (o2 : Int) (a1 : Int) (a2 : Int) (b1 : Int) (b2 : Int)) (by kernel_rfl) ?_
            change wpAnyH _ _ _ _ _ _ _ _ (World.drew _)
            refine wpAnyH_take (i := 0) (oi := { dst := some 48, op := _, type := _, pos := _, after := _, guard := _ }) (v := ?va0) rfl (by kernel_rfl) (by kernel_rfl) (by kernel_rfl) (fun _ _ _ h => h) (Or.inl ⟨by kernel_rfl, ?ha0⟩) hSa ?ra0
            case ha0 => first | (intro w hSw; obtain ⟨s0, s1, s2, s3, s4, s5, s6, s7, s8⟩ := hSw; go_simp; done) | (intro w hSw; obtain ⟨s0, s1, s2, s3, s4, s5, s6, s7, s8⟩ := hSw; go_simp; with_reducible rfl)
            try simp only [Act.put, List.setIfInBounds_toArray, List.set_cons_zero, List.set_cons_succ]
            refine wpAnyH_take (i := 1) (oi := { dst := some 49, op := _, type := _, pos := _, after := _, guard := _ }) (v := ?va1) rfl (by kernel_rfl) (by kernel_rfl) (by kernel_rfl) (fun _ _ _ h => h) (Or.inl ⟨by kernel_rfl, ?ha1⟩) hSa ?ra1
            case ha1 => first | (intro w hSw; obtain ⟨s0, s1, s2, s3, s4, s5, s6, s7, s8⟩ := hSw; go_simp; done) | (intro w hSw; obtain ⟨s0, s1, s2, s3, s4, s5, s6, s7, s8⟩ := hSw; go_simp; with_reducible rfl)
            try simp only [Act.put, List.setIfInBounds_toArray, List.set_cons_zero, List.set_cons_succ]
            refine wpAnyH_take (i := 2) (oi := { dst := some 50, op := _, type := _, pos := _, after := _, guard := _ }) (v := ?va2) rfl (by kernel_rfl) (by kernel_rfl) (by kernel_rfl) (fun _ _ _ h => h) (Or.inl ⟨by kernel_rfl, ?ha2⟩) hSa ?ra2
            case ha2 => first | (intro w hSw; obtain ⟨s0, s1, s2, s3, s4, s5, s6, s7, s8⟩ := hSw; go_simp; done) | (intro w hSw; obtain ⟨s0, s1, s2, s3, s4, s5, s6, s7, s8⟩ := hSw; go_simp; with_reducible rfl)
            try simp only [Act.put, List.setIfInBounds_toArray, List.set_cons_zero, List.set_cons_succ]
            refine wpAnyH_take (i := 3) (oi := { dst := some 51, op := _, type := _, pos := _, after := _, guard := _ }) (v := ?va3) rfl (by kernel_rfl) (by kernel_rfl) (by kernel_rfl) (fun _ _ _ h => h) (Or.inl ⟨by kernel_rfl, ?ha3⟩) hSa ?ra3
            case ha3 => first | (intro w hSw; obtain ⟨s0, s1, s2, s3, s4, s5, s6, s7, s8⟩ := hSw; go_simp; done) | (intro w hSw; obtain ⟨s0, s1, s2, s3, s4, s5, s6, s7, s8⟩ := hSw; go_simp; with_reducible rfl)
            try simp only [Act.put, List.setIfInBounds_toArray, List.set_cons_zero, List.set_cons_succ]
            refine wpAnyH_take (i := 4) (oi := { dst := some 52, op := _, type := _, pos := _, after := _, guard := _ }) (v := ?va4) rfl (by kernel_rfl) (by kernel_rfl) (by kernel_rfl) (fun _ _ _ h => h) (Or.inl ⟨by kernel_rfl, ?ha4⟩) hSa ?ra4
            case ha4 => first | (intro w hSw; obtain ⟨s0, s1, s2, s3, s4, s5, s6, s7, s8⟩ := hSw; go_simp; done) | (intro w hSw; obtain ⟨s0, s1, s2, s3, s4, s5, s6, s7, s8⟩ := hSw; go_simp; with_reducible rfl)
            try simp only [Act.put, List.setIfInBounds_toArray, List.set_cons_zero, List.set_cons_succ]
            refine wpAnyH_take (i := 5) (oi := { dst := some 53, op := _, type := _, pos := _, after := _, guard := _ }) (v := ?va5) rfl (by kernel_rfl) (by kernel_rfl) (by kernel_rfl) (fun _ _ _ h => h) (Or.inl ⟨by kernel_rfl, ?ha5⟩) hSa ?ra5
            case ha5 => first | (intro w hSw; obtain ⟨s0, s1, s2, s3, s4, s5, s6, s7, s8⟩ := hSw; go_simp; done) | (intro w hSw; obtain ⟨s0, s1, s2, s3, s4, s5, s6, s7, s8⟩ := hSw; go_simp; with_reducible rfl)
            try simp only [Act.put, List.setIfInBounds_toArray, List.set_cons_zero, List.set_cons_succ]
            refine wpAnyH_take (i := 6) (oi := { dst := some 54, op := _, type := _, pos := _, after := _, guard := _ }) (v := ?va6) rfl (by kernel_rfl) (by kernel_rfl) (by kernel_rfl) (fun _ _ _ h => h) (Or.inl ⟨by kernel_rfl, ?ha6⟩) hSa ?ra6
            case ha6 => first | (intro w hSw; obtain ⟨s0, s1, s2, s3, s4, s5, s6, s7, s8⟩ := hSw; go_simp; done) | (intro w hSw; obtain ⟨s0, s1, s2, s3, s4, s5, s6, s7, s8⟩ := hSw; go_simp; with_reducible rfl)
            try simp only [Act.put, List.setIfInBounds_toArray, List.set_cons_zero, List.set_cons_succ]
            refine wpAnyH_take (i := 7) (oi := { dst := some 55, op := _, type := _, pos := _, after := _, guard := _ }) (v := ?va7) rfl (by kernel_rfl) (by kernel_rfl) (by kernel_rfl) (fun _ _ _ h => h) (Or.inl ⟨by kernel_rfl, ?ha7⟩) hSa ?ra7
            case ha7 => first | (intro w hSw; obtain ⟨s0, s1, s2, s3, s4, s5, s6, s7, s8⟩ := hSw; go_simp; done) | (intro w hSw; obtain ⟨s0, s1, s2, s3, s4, s5, s6, s7, s8⟩ := hSw; go_simp; with_reducible rfl)
            try simp only [Act.put, List.setIfInBounds_toArray, List.set_cons_zero, List.set_cons_succ]
            refine wpAnyH_take (i := 8) (oi := { dst := some 56, op := _, type := _, pos := _, after := _, guard := _ }) (v := ?va8) rfl (by kernel_rfl) (by kernel_rfl) (by kernel_rfl) (fun _ _ _ h => h) (Or.inl ⟨by kernel_rfl, ?ha8⟩) hSa ?ra8
            case ha8 => first | (intro w hSw; obtain ⟨s0, s1, s2, s3, s4, s5, s6, s7, s8⟩ := hSw; go_simp; done) | (intro w hSw; obtain ⟨s0, s1, s2, s3, s4, s5, s6, s7, s8⟩ := hSw; go_simp; with_reducible rfl)
            try simp only [Act.put, List.setIfInBounds_toArray, List.set_cons_zero, List.set_cons_succ]
            refine wpAnyH_take (i := 9) (oi := { dst := some 57, op := _, type := _, pos := _, after := _, guard := _ }) (v := ?va9) rfl (by kernel_rfl) (by kernel_rfl) (by kernel_rfl) (fun _ _ _ h => h) (Or.inl ⟨by kernel_rfl, ?ha9⟩) hSa ?ra9
            case ha9 => first | (intro w hSw; obtain ⟨s0, s1, s2, s3, s4, s5, s6, s7, s8⟩ := hSw; go_simp; done) | (intro w hSw; obtain ⟨s0, s1, s2, s3, s4, s5, s6, s7, s8⟩ := hSw; go_simp; with_reducible rfl)
            try simp only [Act.put, List.setIfInBounds_toArray, List.set_cons_zero, List.set_cons_succ]
            refine wpAnyH_take (i := 10) (oi := { dst := some 58, op := _, type := _, pos := _, after := _, guard := _ }) (v := ?va10) rfl (by kernel_rfl) (by kernel_rfl) (by kernel_rfl) (fun _ _ _ h => h) (Or.inl ⟨by kernel_rfl, ?ha10⟩) hSa ?ra10
            case ha10 => first | (intro w hSw; obtain ⟨s0, s1, s2, s3, s4, s5, s6, s7, s8⟩ := hSw; go_simp; done) | (intro w hSw; obtain ⟨s0, s1, s2, s3, s4, s5, s6, s7, s8⟩ := hSw; go_simp; with_reducible rfl)
            try simp only [Act.put, List.setIfInBounds_toArray, List.set_cons_zero, List.set_cons_succ]
            refine wpAnyH_take (i := 11) (oi := { dst := some 59, op := _, type := _, pos := _, after := _, guard := _ }) (v := ?va11) rfl (by kernel_rfl) (by kernel_rfl) (by kernel_rfl) (fun _ _ _ h => h) (Or.inl ⟨by kernel_rfl, ?ha11⟩) hSa ?ra11
            case ha11 => first | (intro w hSw; obtain ⟨s0, s1, s2, s3, s4, s5, s6, s7, s8⟩ := hSw; go_simp; done) | (intro w hSw; obtain ⟨s0, s1, s2, s3, s4, s5, s6, s7, s8⟩ := hSw; go_simp; with_reducible rfl)
            try simp only [Act.put, List.setIfInBounds_toArray, List.set_cons_zero, List.set_cons_succ]
            refine wpAnyH_take (i := 12) (oi := { dst := some 60, op := _, type := _, pos := _, after := _, guard := _ }) (v := ?va12) rfl (by kernel_rfl) (by kernel_rfl) (by kernel_rfl) (fun _ _ _ h => h) (Or.inl ⟨by kernel_rfl, ?ha12⟩) hSa ?ra12
            case ha12 => first | (intro w hSw; obtain ⟨s0, s1, s2, s3, s4, s5, s6, s7, s8⟩ := hSw; go_simp; done) | (intro w hSw; obtain ⟨s0, s1, s2, s3, s4, s5, s6, s7, s8⟩ := hSw; go_simp; with_reducible rfl)
            try simp only [Act.put, List.setIfInBounds_toArray, List.set_cons_zero, List.set_cons_succ]
            refine wpAnyH_take (i := 13) (oi := { dst := some 61, op := _, type := _, pos := _, after := _, guard := _ }) (v := ?va13) rfl (by kernel_rfl) (by kernel_rfl) (by kernel_rfl) (fun _ _ _ h => h) (Or.inl ⟨by kernel_rfl, ?ha13⟩) hSa ?ra13
            case ha13 => first | (intro w hSw; obtain ⟨s0, s1, s2, s3, s4, s5, s6, s7, s8⟩ := hSw; go_simp; done) | (intro w hSw; obtain ⟨s0, s1, s2, s3, s4, s5, s6, s7, s8⟩ := hSw; go_simp; with_reducible rfl)
            try simp only [Act.put, List.setIfInBounds_toArray, List.set_cons_zero, List.set_cons_succ]
            refine wpAnyH_take (i := 14) (oi := { dst := some 62, op := _, type := _, pos := _, after := _, guard := _ }) (v := ?va14) rfl (by kernel_rfl) (by kernel_rfl) (by kernel_rfl) (fun _ _ _ h => h) (Or.inl ⟨by kernel_rfl, ?ha14⟩) hSa ?ra14
            case ha14 => first | (intro w hSw; obtain ⟨s0, s1, s2, s3, s4, s5, s6, s7, s8⟩ := hSw; go_simp; done) | (intro w hSw; obtain ⟨s0, s1, s2, s3, s4, s5, s6, s7, s8⟩ := hSw; go_simp; with_reducible rfl)
            try simp only [Act.put, List.setIfInBounds_toArray, List.set_cons_zero, List.set_cons_succ]
            refine wpAnyH_take (i := 15) (oi := { dst := some 63, op := _, type := _, pos := _, after := _, guard := _ }) (v := ?va15) rfl (by kernel_rfl) (by kernel_rfl) (by kernel_rfl) (fun _ _ _ h => h) (Or.inl ⟨by kernel_rfl, ?ha15⟩) hSa ?ra15
            case ha15 => first | (intro w hSw; obtain ⟨s0, s1, s2, s3, s4, s5, s6, s7, s8⟩ := hSw; go_simp; done) | (intro w hSw; obtain ⟨s0, s1, s2, s3, s4, s5, s6, s7, s8⟩ := hSw; go_simp; with_reducible rfl)
            try simp only [Act.put, List.setIfInBounds_toArray, List.set_cons_zero, List.set_cons_succ]
            refine wpAnyH_take (i := 16) (oi := { dst := some 64, op := _, type := _, pos := _, after := _, guard := _ }) (v := ?va16) rfl (by kernel_rfl) (by kernel_rfl) (by kernel_rfl) (fun _ _ _ h => h) (Or.inl ⟨by kernel_rfl, ?ha16⟩) hSa ?ra16
            case ha16 => first | (intro w hSw; obtain ⟨s0, s1, s2, s3, s4, s5, s6, s7, s8⟩ := hSw; go_simp; done) | (intro w hSw; obtain ⟨s0, s1, s2, s3, s4, s5, s6, s7, s8⟩ := hSw; go_simp; with_reducible rfl)
            try simp only [Act.put, List.setIfInBounds_toArray, List.set_cons_zero, List.set_cons_succ]
            refine wpAnyH_take (i := 17) (oi := { dst := some 65, op := _, type := _, pos := _, after := _, guard := _ }) (v := ?va17) rfl (by kernel_rfl) (by kernel_rfl) (by kernel_rfl) (fun _ _ _ h => h) (Or.inl ⟨by kernel_rfl, ?ha17⟩) hSa ?ra17
            case ha17 => first | (intro w hSw; obtain ⟨s0, s1, s2, s3, s4, s5, s6, s7, s8⟩ := hSw; go_simp; done) | (intro w hSw; obtain ⟨s0, s1, s2, s3, s4, s5, s6, s7, s8⟩ := hSw; go_simp; with_reducible rfl)
            try simp only [Act.put, List.setIfInBounds_toArray, List.set_cons_zero, List.set_cons_succ]
            refine wpAnyH_take (i := 18) (oi := { dst := some 66, op := _, type := _, pos := _, after := _, guard := _ }) (v := ?va18) rfl (by kernel_rfl) (by kernel_rfl) (by kernel_rfl) (fun _ _ _ h => h) (Or.inl ⟨by kernel_rfl, ?ha18⟩) hSa ?ra18
            case ha18 => first | (intro w hSw; obtain ⟨s0, s1, s2, s3, s4, s5, s6, s7, s8⟩ := hSw; go_simp; done) | (intro w hSw; obtain ⟨s0, s1, s2, s3, s4, s5, s6, s7, s8⟩ := hSw; go_simp; with_reducible rfl)
            try simp only [Act.put, List.setIfInBounds_toArray, List.set_cons_zero, List.set_cons_succ]
            refine wpAnyH_take (i := 19) (oi := { dst := some 67, op := _, type := _, pos := _, after := _, guard := _ }) (v := ?va19) rfl (by kernel_rfl) (by kernel_rfl) (by kernel_rfl) (fun _ _ _ h => h) (Or.inl ⟨by kernel_rfl, ?ha19⟩) hSa ?ra19
            case ha19 => first | (intro w hSw; obtain ⟨s0, s1, s2, s3, s4, s5, s6, s7, s8⟩ := hSw; go_simp; done) | (intro w hSw; obtain ⟨s0, s1, s2, s3, s4, s5, s6, s7, s8⟩ := hSw; go_simp; with_reducible rfl)
            try simp only [Act.put, List.setIfInBounds_toArray, List.set_cons_zero, List.set_cons_succ]
            refine wpAnyH_take (i := 20) (oi := { dst := some 68, op := _, type := _, pos := _, after := _, guard := _ }) (v := ?va20) rfl (by kernel_rfl) (by kernel_rfl) (by kernel_rfl) (fun _ _ _ h => h) (Or.inl ⟨by kernel_rfl, ?ha20⟩) hSa ?ra20
            case ha20 => first | (intro w hSw; obtain ⟨s0, s1, s2, s3, s4, s5, s6, s7, s8⟩ := hSw; go_simp; done) | (intro w hSw; obtain ⟨s0, s1, s2, s3, s4, s5, s6, s7, s8⟩ := hSw; go_simp; with_reducible rfl)
            try simp only [Act.put, List.setIfInBounds_toArray, List.set_cons_zero, List.set_cons_succ]
            refine wpAnyH_take (i := 21) (oi := { dst := some 69, op := _, type := _, pos := _, after := _, guard := _ }) (v := ?va21) rfl (by kernel_rfl) (by kernel_rfl) (by kernel_rfl) (fun _ _ _ h => h) (Or.inl ⟨by kernel_rfl, ?ha21⟩) hSa ?ra21
            case ha21 => first | (intro w hSw; obtain ⟨s0, s1, s2, s3, s4, s5, s6, s7, s8⟩ := hSw; go_simp; done) | (intro w hSw; obtain ⟨s0, s1, s2, s3, s4, s5, s6, s7, s8⟩ := hSw; go_simp; with_reducible rfl)
            try simp only [Act.put, List.setIfInBounds_toArray, List.set_cons_zero, List.set_cons_succ]
            refine wpAnyH_take (i := 22) (oi := { dst := some 70, op := _, type := _, pos := _, after := _, guard := _ }) (v := ?va22) rfl (by kernel_rfl) (by kernel_rfl) (by kernel_rfl) (fun _ _ _ h => h) (Or.inl ⟨by kernel_rfl, ?ha22⟩) hSa ?ra22
            case ha22 => first | (intro w hSw; obtain ⟨s0, s1, s2, s3, s4, s5, s6, s7, s8⟩ := hSw; go_simp; done) | (intro w hSw; obtain ⟨s0, s1, s2, s3, s4, s5, s6, s7, s8⟩ := hSw; go_simp; with_reducible rfl)
            try simp only [Act.put, List.setIfInBounds_toArray, List.set_cons_zero, List.set_cons_succ]
            refine wpAnyH_take (i := 23) (oi := { dst := some 71, op := _, type := _, pos := _, after := _, guard := _ }) (v := ?va23) rfl (by kernel_rfl) (by kernel_rfl) (by kernel_rfl) (fun _ _ _ h => h) (Or.inl ⟨by kernel_rfl, ?ha23⟩) hSa ?ra23
            case ha23 => first | (intro w hSw; obtain ⟨s0, s1, s2, s3, s4, s5, s6, s7, s8⟩ := hSw; go_simp; done) | (intro w hSw; obtain ⟨s0, s1, s2, s3, s4, s5, s6, s7, s8⟩ := hSw; go_simp; with_reducible rfl)
            try simp only [Act.put, List.setIfInBounds_toArray, List.set_cons_zero, List.set_cons_succ]
            refine wpAnyH_take (i := 24) (oi := { dst := some 72, op := _, type := _, pos := _, after := _, guard := _ }) (v := ?va24) rfl (by kernel_rfl) (by kernel_rfl) (by kernel_rfl) (fun _ _ _ h => h) (Or.inl ⟨by kernel_rfl, ?ha24⟩) hSa ?ra24
            case ha24 => first | (intro w hSw; obtain ⟨s0, s1, s2, s3, s4, s5, s6, s7, s8⟩ := hSw; go_simp; done) | (intro w hSw; obtain ⟨s0, s1, s2, s3, s4, s5, s6, s7, s8⟩ := hSw; go_simp; with_reducible rfl)
            try simp only [Act.put, List.setIfInBounds_toArray, List.set_cons_zero, List.set_cons_succ]
            refine wpAnyH_ready (rs := [25]) (by kernel_rfl) (by simp) ?_
            refine AllReadyH.cons rfl (fun KK hK => ?_) AllReadyH.nil
            go_simp
            refine (unhide T1 _ (tr2 (unhide HWX) hSa.1)).mono ?_
            rintro e9 y1 ⟨rfl, hb9⟩
            have hSa' := SxT.below hSa hb9
            clear hb9
            refine hK _ _ hSa' (fun _ => ?_)
            clear hK KK hSa
            have hSa := hSa'
            clear hSa'
            refine wpAnyH_take (i := 26) (oi := { dst := some 74, op := _, type := _, pos := _, after := _, guard := _ }) (v := ?va26) rfl (by kernel_rfl) (by kernel_rfl) (by kernel_rfl) (fun _ _ _ h => h) (Or.inl ⟨by kernel_rfl, ?ha26⟩) hSa ?ra26
            case ha26 => first | (intro w hSw; obtain ⟨s0, s1, s2, s3, s4, s5, s6, s7, s8⟩ := hSw; go_simp; done) | (intro w hSw; obtain ⟨s0, s1, s2, s3, s4, s5, s6, s7, s8⟩ := hSw; go_simp; with_reducible rfl)
            try simp only [Act.put, List.setIfInBounds_toArray, List.set_cons_zero, List.set_cons_succ]
            refine wpAnyH_take (i := 27) (oi := { dst := some 75, op := _, type := _, pos := _, after := _, guard := _ }) (v := ?va27) rfl (by kernel_rfl) (by kernel_rfl) (by kernel_rfl) (fun _ _ _ h => h) (Or.inl ⟨by kernel_rfl, ?ha27⟩) hSa ?ra27
            case ha27 => first | (intro w hSw; obtain ⟨s0, s1, s2, s3, s4, s5, s6, s7, s8⟩ := hSw; go_simp; done) | (intro w hSw; obtain ⟨s0, s1, s2, s3, s4, s5, s6, s7, s8⟩ := hSw; go_simp; with_reducible rfl)
            try simp only [Act.put, List.setIfInBounds_toArray, List.set_cons_zero, List.set_cons_succ]
            refine wpAnyH_take (i := 28) (oi := { dst := some 76, op := _, type := _, pos := _, after := _, guard := _ }) (v := ?va28) rfl (by kernel_rfl) (by kernel_rfl) (by kernel_rfl) (fun _ _ _ h => h) (Or.inl ⟨by kernel_rfl, ?ha28⟩) hSa ?ra28
            case ha28 => first | (intro w hSw; obtain ⟨s0, s1, s2, s3, s4, s5, s6, s7, s8⟩ := hSw; go_simp; done) | (intro w hSw; obtain ⟨s0, s1, s2, s3, s4, s5, s6, s7, s8⟩ := hSw; go_simp; with_reducible rfl)
            try simp only [Act.put, List.setIfInBounds_toArray, List.set_cons_zero, List.set_cons_succ]
            refine wpAnyH_take (i := 29) (oi := { dst := some 77, op := _, type := _, pos := _, after := _, guard := _ }) (v := ?va29) rfl (by kernel_rfl) (by kernel_rfl) (by kernel_rfl) (fun _ _ _ h => h) (Or.inl ⟨by kernel_rfl, ?ha29⟩) hSa ?ra29
            case ha29 => first | (intro w hSw; obtain ⟨s0, s1, s2, s3, s4, s5, s6, s7, s8⟩ := hSw; go_simp; done) | (intro w hSw; obtain ⟨s0, s1, s2, s3, s4, s5, s6, s7, s8⟩ := hSw; go_simp; with_reducible rfl)
            try simp only [Act.put, List.setIfInBounds_toArray, List.set_cons_zero, List.set_cons_succ]
            refine wpAnyH_take (i := 30) (oi := { dst := some 78, op := _, type := _, pos := _, after := _, guard := _ }) (v := ?va30) rfl (by kernel_rfl) (by kernel_rfl) (by kernel_rfl) (fun _ _ _ h => h) (Or.inl ⟨by kernel_rfl, ?ha30⟩) hSa ?ra30
            case ha30 => first | (intro w hSw; obtain ⟨s0, s1, s2, s3, s4, s5, s6, s7, s8⟩ := hSw; go_simp; done) | (intro w hSw; obtain ⟨s0, s1, s2, s3, s4, s5, s6, s7, s8⟩ := hSw; go_simp; with_reducible rfl)
            try simp only [Act.put, List.setIfInBounds_toArray, List.set_cons_zero, List.set_cons_succ]
            refine wpAnyH_take (i := 31) (oi := { dst := some 79, op := _, type := _, pos := _, after := _, guard := _ }) (v := ?va31) rfl (by kernel_rfl) (by kernel_rfl) (by kernel_rfl) (fun _ _ _ h => h) (Or.inl ⟨by kernel_rfl, ?ha31⟩) hSa ?ra31
            case ha31 => first | (intro w hSw; obtain ⟨s0, s1, s2, s3, s4, s5, s6, s7, s8⟩ := hSw; go_simp; done) | (intro w hSw; obtain ⟨s0, s1, s2, s3, s4, s5, s6, s7, s8⟩ := hSw; go_simp; with_reducible rfl)
            try simp only [Act.put, List.setIfInBounds_toArray, List.set_cons_zero, List.set_cons_succ]
            refine wpAnyH_take (i := 32) (oi := { dst := some 80, op := _, type := _, pos := _, after := _, guard := _ }) (v := ?va32) rfl (by kernel_rfl) (by kernel_rfl) (by kernel_rfl) (fun _ _ _ h => h) (Or.inl ⟨by kernel_rfl, ?ha32⟩) hSa ?ra32
            case ha32 => first | (intro w hSw; obtain ⟨s0, s1, s2, s3, s4, s5, s6, s7, s8⟩ := hSw; go_simp; done) | (intro w hSw; obtain ⟨s0, s1, s2, s3, s4, s5, s6, s7, s8⟩ := hSw; go_simp; with_reducible rfl)
            try simp only [Act.put, List.setIfInBounds_toArray, List.set_cons_zero, List.set_cons_succ]
            refine wpAnyH_take (i := 33) (oi := { dst := some 81, op := _, type := _, pos := _, after := _, guard := _ }) (v := ?va33) rfl (by kernel_rfl) (by kernel_rfl) (by kernel_rfl) (fun _ _ _ h => h) (Or.inl ⟨by kernel_rfl, ?ha33⟩) hSa ?ra33
            case ha33 => first | (intro w hSw; obtain ⟨s0, s1, s2, s3, s4, s5, s6, s7, s8⟩ := hSw; go_simp; done) | (intro w hSw; obtain ⟨s0, s1, s2, s3, s4, s5, s6, s7, s8⟩ := hSw; go_simp; with_reducible rfl)
            try simp only [Act.put, List.setIfInBounds_toArray, List.set_cons_zero, List.set_cons_succ]
            refine wpAnyH_take (i := 34) (oi := { dst := some 82, op := _, type := _, pos := _, after := _, guard := _ }) (v := ?va34) rfl (by kernel_rfl) (by kernel_rfl) (by kernel_rfl) (fun _ _ _ h => h) (Or.inl ⟨by kernel_rfl, ?ha34⟩) hSa ?ra34
            case ha34 => first | (intro w hSw; obtain ⟨s0, s1, s2, s3, s4, s5, s6, s7, s8⟩ := hSw; go_simp; done) | (intro w hSw; obtain ⟨s0, s1, s2, s3, s4, s5, s6, s7, s8⟩ := hSw; go_simp; with_reducible rfl)
            try simp only [Act.put, List.setIfInBounds_toArray, List.set_cons_zero, List.set_cons_succ]
            refine wpAnyH_take (i := 35) (oi := { dst := some 83, op := _, type := _, pos := _, after := _, guard := _ }) (v := ?va35) rfl (by kernel_rfl) (by kernel_rfl) (by kernel_rfl) (fun _ _ _ h => h) (Or.inl ⟨by kernel_rfl, ?ha35⟩) hSa ?ra35
            case ha35 => first | (intro w hSw; obtain ⟨s0, s1, s2, s3, s4, s5, s6, s7, s8⟩ := hSw; go_simp; done) | (intro w hSw; obtain ⟨s0, s1, s2, s3, s4, s5, s6, s7, s8⟩ := hSw; go_simp; with_reducible rfl)
            try simp only [Act.put, List.setIfInBounds_toArray, List.set_cons_zero, List.set_cons_succ]
            refine wpAnyH_take (i := 36) (oi := { dst := some 84, op := _, type := _, pos := _, after := _, guard := _ }) (v := ?va36) rfl (by kernel_rfl) (by kernel_rfl) (by kernel_rfl) (fun _ _ _ h => h) (Or.inl ⟨by kernel_rfl, ?ha36⟩) hSa ?ra36
            case ha36 => first | (intro w hSw; obtain ⟨s0, s1, s2, s3, s4, s5, s6, s7, s8⟩ := hSw; go_simp; done) | (intro w hSw; obtain ⟨s0, s1, s2, s3, s4, s5, s6, s7, s8⟩ := hSw; go_simp; with_reducible rfl)
            try simp only [Act.put, List.setIfInBounds_toArray, List.set_cons_zero, List.set_cons_succ]
            refine wpAnyH_take (i := 37) (oi := { dst := some 85, op := _, type := _, pos := _, after := _, guard := _ }) (v := ?va37) rfl (by kernel_rfl) (by kernel_rfl) (by kernel_rfl) (fun _ _ _ h => h) (Or.inl ⟨by kernel_rfl, ?ha37⟩) hSa ?ra37
            case ha37 => first | (intro w hSw; obtain ⟨s0, s1, s2, s3, s4, s5, s6, s7, s8⟩ := hSw; go_simp; done) | (intro w hSw; obtain ⟨s0, s1, s2, s3, s4, s5, s6, s7, s8⟩ := hSw; go_simp; with_reducible rfl)
            try simp only [Act.put, List.setIfInBounds_toArray, List.set_cons_zero, List.set_cons_succ]
            refine wpAnyH_take (i := 38) (oi := { dst := some 86, op := _, type := _, pos := _, after := _, guard := _ }) (v := ?va38) rfl (by kernel_rfl) (by kernel_rfl) (by kernel_rfl) (fun _ _ _ h => h) (Or.inl ⟨by kernel_rfl, ?ha38⟩) hSa ?ra38
            case ha38 => first | (intro w hSw; obtain ⟨s0, s1, s2, s3, s4, s5, s6, s7, s8⟩ := hSw; go_simp; done) | (intro w hSw; obtain ⟨s0, s1, s2, s3, s4, s5, s6, s7, s8⟩ := hSw; go_simp; with_reducible rfl)
            try simp only [Act.put, List.setIfInBounds_toArray, List.set_cons_zero, List.set_cons_succ]
            refine wpAnyH_take (i := 39) (oi := { dst := some 87, op := _, type := _, pos := _, after := _, guard := _ }) (v := ?va39) rfl (by kernel_rfl) (by kernel_rfl) (by kernel_rfl) (fun _ _ _ h => h) (Or.inl ⟨by kernel_rfl, ?ha39⟩) hSa ?ra39
            case ha39 => first | (intro w hSw; obtain ⟨s0, s1, s2, s3, s4, s5, s6, s7, s8⟩ := hSw; go_simp; done) | (intro w hSw; obtain ⟨s0, s1, s2, s3, s4, s5, s6, s7, s8⟩ := hSw; go_simp; with_reducible rfl)
            try simp only [Act.put, List.setIfInBounds_toArray, List.set_cons_zero, List.set_cons_succ]
            refine wpAnyH_take (i := 40) (oi := { dst := some 88, op := _, type := _, pos := _, after := _, guard := _ }) (v := ?va40) rfl (by kernel_rfl) (by kernel_rfl) (by kernel_rfl) (fun _ _ _ h => h) (Or.inl ⟨by kernel_rfl, ?ha40⟩) hSa ?ra40
            case ha40 => first | (intro w hSw; obtain ⟨s0, s1, s2, s3, s4, s5, s6, s7, s8⟩ := hSw; go_simp; done) | (intro w hSw; obtain ⟨s0, s1, s2, s3, s4, s5, s6, s7, s8⟩ := hSw; go_simp; with_reducible rfl)
            try simp only [Act.put, List.setIfInBounds_toArray, List.set_cons_zero, List.set_cons_succ]
            refine wpAnyH_take (i := 41) (oi := { dst := some 89, op := _, type := _, pos := _, after := _, guard := _ }) (v := ?va41) rfl (by kernel_rfl) (by kernel_rfl) (by kernel_rfl) (fun _ _ _ h => h) (Or.inl ⟨by kernel_rfl, ?ha41⟩) hSa ?ra41
            case ha41 => first | (intro w hSw; obtain ⟨s0, s1, s2, s3, s4, s5, s6, s7, s8⟩ := hSw; go_simp; done) | (intro w hSw; obtain ⟨s0, s1, s2, s3, s4, s5, s6, s7, s8⟩ := hSw; go_simp; with_reducible rfl)
            try simp only [Act.put, List.setIfInBounds_toArray, List.set_cons_zero, List.set_cons_succ]
            refine wpAnyH_take (i := 42) (oi := { dst := some 90, op := _, type := _, pos := _, after := _, guard := _ }) (v := ?va42) rfl (by kernel_rfl) (by kernel_rfl) (by kernel_rfl) (fun _ _ _ h => h) (Or.inl ⟨by kernel_rfl, ?ha42⟩) hSa ?ra42
            case ha42 => first | (intro w hSw; obtain ⟨s0, s1, s2, s3, s4, s5, s6, s7, s8⟩ := hSw; go_simp; done) | (intro w hSw; obtain ⟨s0, s1, s2, s3, s4, s5, s6, s7, s8⟩ := hSw; go_simp; with_reducible rfl)
            try simp only [Act.put, List.setIfInBounds_toArray, List.set_cons_zero, List.set_cons_succ]
            refine wpAnyH_take (i := 43) (oi := { dst := some 91, op := _, type := _, pos := _, after := _, guard := _ }) (v := ?va43) rfl (by kernel_rfl) (by kernel_rfl) (by kernel_rfl) (fun _ _ _ h => h) (Or.inl ⟨by kernel_rfl, ?ha43⟩) hSa ?ra43
            case ha43 => first | (intro w hSw; obtain ⟨s0, s1, s2, s3, s4, s5, s6, s7, s8⟩ := hSw; go_simp; done) | (intro w hSw; obtain ⟨s0, s1, s2, s3, s4, s5, s6, s7, s8⟩ := hSw; go_simp; with_reducible rfl)
            try simp only [Act.put, List.setIfInBounds_toArray, List.set_cons_zero, List.set_cons_succ]
            refine wpAnyH_ready (rs := [44]) (by kernel_rfl) (by simp) ?_
            refine AllReadyH.cons rfl (fun KK hK => ?_) AllReadyH.nil
            go_simp
            refine (unhide T2 _ (tr2 (unhide HWX) hSa.1)).mono ?_
            rintro e9 y2 ⟨rfl, hb9⟩
            have hSa' := SxT.below hSa hb9
            clear hb9
            refine hK _ _ hSa' (fun _ => ?_)
            clear hK KK hSa
            have hSa := hSa'
            clear hSa'
            refine wpAnyH_take (i := 45) (oi := { dst := some 93, op := _, type := _, pos := _, after := _, guard := _ }) (v := ?va45) rfl (by kernel_rfl) (by kernel_rfl) (by kernel_rfl) (fun _ _ _ h => h) (Or.inl ⟨by kernel_rfl, ?ha45⟩) hSa ?ra45
            case ha45 => first | (intro w hSw; obtain ⟨s0, s1, s2, s3, s4, s5, s6, s7, s8⟩ := hSw; go_simp; done) | (intro w hSw; obtain ⟨s0, s1, s2, s3, s4, s5, s6, s7, s8⟩ := hSw; go_simp; with_reducible rfl)
            try simp only [Act.put, List.setIfInBounds_toArray, List.set_cons_zero, List.set_cons_succ]
            refine wpAnyH_take (i := 46) (oi := { dst := some 12, op := _, type := _, pos := _, after := _, guard := _ }) (v := ?va46) rfl (by kernel_rfl) (by kernel_rfl) (by kernel_rfl) (fun _ _ _ h => h) (Or.inl ⟨by kernel_rfl, ?ha46⟩) hSa ?ra46
            case ha46 => first | (intro w hSw; obtain ⟨s0, s1, s2, s3, s4, s5, s6, s7, s8⟩ := hSw; go_simp; done) | (intro w hSw; obtain ⟨s0, s1, s2, s3, s4, s5, s6, s7, s8⟩ := hSw; go_simp; with_reducible rfl)
            try simp only [Act.put, List.setIfInBounds_toArray, List.set_cons_zero, List.set_cons_succ]
            refine wpAnyH_done (by kernel_rfl) ?_ _
            try simp only [Act.put, List.setIfInBounds_toArray, List.set_cons_zero, List.set_cons_succ]
            have HZ := hide hSa.1
            have KA2 := hide ((unhide KA).later hSa.1)
            have KC2 := hide ((unhide KC).later hSa.1)
            clear hSa
            have f0 := (unhide KA2).cell 0
            have h0 := (unhide KC2).cell 0
            have f1 := (unhide KA2).cell 1
            have h1 := (unhide KC2).cell 1
            have f2 := (unhide KA2).cell 2
            have h2 := (unhide KC2).cell 2
            have f3 := (unhide KA2).cell 3
            have h3 := (unhide KC2).cell 3
            have f4 := (unhide KA2).cell 4
            have h4 := (unhide KC2).cell 4
            have f5 := (unhide KA2).cell 5
            have h5 := (unhide KC2).cell 5
            have f6 := (unhide KA2).cell 6
            have h6 := (unhide KC2).cell 6
            go_wp2
            go_quiet ((go_at_call 16; refine (unhide CTD _).mono ?_; rintro e9 w9 ⟨rfl, rfl⟩; exact ⟨rfl, _, rfl⟩))
            go_wp2
            go_roundw
            case rel => exact ⟨m + 1, by omega, by go_num, _root_.Go.below_drewN (tr2 (unhide HBX) (unhide HZ)) _⟩
            case measure => simp [intOf]; omega
    · have hpi : ¬ (m : Int) < (P.length : Int) := by omega
      have HB9 := hide (tr2 (unhide HB5) hbl)
      clear hbl
      go_wp2_with fail
      refine (unhide CF _).mono ?_
      rintro e w9 ⟨rfl, hb9⟩
      have HBX := hide (tr2 (unhide HB9) hb9)
      clear hb9
      go_wp2
      go_ret
      exact ⟨rfl, unhide HBX⟩
theorem blendTurned_law (q0 q1 q2 : Option Addr) (n0 n1 n2 c0 c1 c2 : Nat) (z0 z1 z2 : List ByteArray) (w : World) (w0 : View w (.slice q0 n0 c0) z0) (w1 : View w (.slice q1 n1 c1) z1) (w2 : View w (.slice q2 n2 c2) z2) (b0 : ∀ s ∈ z0, s.size ≤ 9223372036854775807) (b1 : ∀ s ∈ z1, s.size ≤ 9223372036854775807) (b2 : ∀ s ∈ z2, s.size ≤ 9223372036854775807) (d0 : n0 ≤ c0 ∧ (q0 = none → c0 = 0)) (d1 : n1 ≤ c1 ∧ (q1 = none → c1 = 0)) (d2 : n2 ≤ c2 ∧ (q2 = none → c2 = 0)) :
    Calls Try.prog 6 #[.slice q0 n0 c0, .slice q1 n1 c1, .slice q2 n2 c2] w fun e w' => e = .returned (.bool true) ∧ Below w.heap.size w w' := by
  obtain ⟨rfl, h0⟩ := arg_of w0 d0
  obtain ⟨rfl, h1⟩ := arg_of w1 d1
  obtain ⟨rfl, h2⟩ := arg_of w2 d2
  by_cases h : 40 < z0.length ∨ 40 < z1.length ∨ 40 < z2.length
  · exact blendTurned_great q0 c0 z0 q1 c1 z1 q2 c2 z2 w w0.1 w1.1 w2.1 h
  · exact blendTurned_small q0 q1 q2 c0 c1 c2 z0 z1 z2 w h0 h1 h2 (szT_small b0) (szT_small b1) (szT_small b2) (by omega) (by omega) (by omega)
end Go.Proofs.Ytbaoomkdlbjhlaa
