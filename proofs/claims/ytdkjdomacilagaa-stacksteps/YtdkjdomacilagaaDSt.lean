/-
  The walk of StackSteps.
-/
import Derived.Test.YtdkjdomacilagaaDDb
import Derived.Test.YtdkjdomacilagaaDDc
import Derived.Test.YtdkjdomacilagaaDDd
import Derived.Test.YtdkjdomacilagaaDDe
import Derived.Test.YtdkjdomacilagaaKCe
namespace Go.Proofs.Ytdkjdomacilagaa
open Go.RowKit
set_option linter.unusedVariables false
set_option linter.unusedSimpArgs false

theorem does_any (base p r : Nat) (v u : Value) (wh at' id sp : Int) (nm na nb : ByteArray) (L : List Ent) (w : World) (h : TwoR base p v L r u L w) (hbase : base ≤ w.heap.size) (hN : L.length ≤ 200) :
    Calls Try.prog 11 #[ptr p, ptr r, .agg (stepA wh at' id sp nm na nb)] w (DoesSaid base p r v u w) := by
  by_cases h0 : wh = 0
  · subst h0; exact does_push0 base p r v u at' id sp nm na nb L w h hbase hN
  by_cases h1 : wh = 1
  · subst h1; exact does_push1 base p r v u at' id sp nm na nb L w h hbase hN
  by_cases h2 : wh = 2
  · subst h2; exact does_push2 base p r v u at' id sp nm na nb L w h hbase hN
  by_cases h3 : wh = 3
  · subst h3; exact does_push3 base p r v u at' id sp nm na nb L w h hbase hN
  by_cases h4 : wh = 4
  · subst h4
    by_cases hz : L.length = 0
    · obtain rfl := List.eq_nil_of_length_eq_zero hz
      exact does_pop0 base p r v u at' id sp nm na nb w h hbase
    · obtain ⟨a, ⟨xi, xs, xn⟩, rfl⟩ := snoc_of L (by omega)
      exact does_pop1 base p r v u at' id sp nm na nb a xi xs xn w h hbase (by simp at hN; omega)
  by_cases h5 : wh = 5
  · subst h5; exact does_to base p r v u at' id sp nm na nb L w h hbase hN
  by_cases h6 : wh = 6
  · subst h6; exact does_back base p r v u at' id sp nm na nb L w h hbase hN
  by_cases h7 : wh = 7
  · subst h7; exact does_implied base p r v u at' id sp nm na nb L w h hbase hN
  by_cases h8 : wh = 8
  · subst h8; exact does_remove base p r v u at' id sp nm na nb L w h hbase hN
  by_cases h9 : wh = 9
  · subst h9; exact does_insert base p r v u at' id sp nm na nb L w h hbase hN
  exact does_other base p r v u wh at' id sp nm na nb L w h hbase hN ⟨beq_eq_false_iff_ne.2 h0, beq_eq_false_iff_ne.2 h1, beq_eq_false_iff_ne.2 h2, beq_eq_false_iff_ne.2 h3, beq_eq_false_iff_ne.2 h4, beq_eq_false_iff_ne.2 h5, beq_eq_false_iff_ne.2 h6, beq_eq_false_iff_ne.2 h7, beq_eq_false_iff_ne.2 h8, beq_eq_false_iff_ne.2 h9⟩

structure Stp where
  wh : Int
  at' : Int
  id : Int
  sp : Int
  nm : ByteArray
  na : ByteArray
  nb : ByteArray
def s0 : Stp := ⟨0, 0, 0, 0, ⟨#[]⟩, ⟨#[]⟩, ⟨#[]⟩⟩
def BoxAt (g o : Nat) (s : Stp) (W : World) : Prop :=
  W.cell? ⟨g, o, none⟩ = some (.int .i64 s.wh) ∧ W.cell? ⟨g, o + 1, none⟩ = some (.int .i64 s.at') ∧ W.cell? ⟨g, o + 2, none⟩ = some (.int .i64 s.id) ∧ W.cell? ⟨g, o + 3, none⟩ = some (.int .i64 s.sp) ∧ W.cell? ⟨g, o + 4, none⟩ = some (.string s.nm) ∧ W.cell? ⟨g, o + 5, none⟩ = some (.string s.na) ∧ W.cell? ⟨g, o + 6, none⟩ = some (.string s.nb)
theorem BoxAt.below {g o : Nat} {s : Stp} {w w' : World} (h : BoxAt g o s w) (hb : Below w.heap.size w w') : BoxAt g o s w' :=
  ⟨cell_later hb h.1, cell_later hb h.2.1, cell_later hb h.2.2.1, cell_later hb h.2.2.2.1, cell_later hb h.2.2.2.2.1, cell_later hb h.2.2.2.2.2.1, cell_later hb h.2.2.2.2.2.2⟩
def Cells7 (g o : Nat) (l : List Stp) (w : World) : Prop := ∀ k, k < l.length → BoxAt g (o + k * 7) (l.getD k s0) w
theorem Way.below {base p r : Nat} {v u : Value} {w W : World} {L M L' M' : List Ent} (h : Way base p r v u w L M W) (ht : TwoR base p v L' r u M' w) (hB : base ≤ w.heap.size) (hp : base ≤ p) (hr : base ≤ r) : Below base w W :=
  h.tc.below hB hp hr (fun k hk => (ht.1.2.1.lt k hk).1) (fun k hk => (ht.2.1.2.1.lt k hk).1)
def KeepN (b : Nat) (n0 n1 : ByteArray) (W : World) : Prop := W.cell? ⟨b, 0, none⟩ = some (.string n0) ∧ W.cell? ⟨b, 1, none⟩ = some (.string n1)
theorem KeepN.of {b : Nat} {n0 n1 : ByteArray} {W : World} {t : TypeId} (h : Blk W b #[.string n0, .string n1] t) : KeepN b n0 n1 W := ⟨h.cell 0, h.cell 1⟩
/-- The reference's cell, its last entry, and the entry that is compared. -/
def KeepT (r : Nat) (u : Value) (g o e : Nat) (id sp : Int) (nm : ByteArray) (W : World) : Prop :=
  W.cell? ⟨r, 0, none⟩ = some u ∧ W.cell? ⟨g, o, none⟩ = some (.int .i64 id) ∧ W.cell? ⟨g, o + 1, none⟩ = some (.int .i64 sp) ∧ W.cell? ⟨g, o + 2, none⟩ = some (.string nm) ∧ W.cell? ⟨e, 0, none⟩ = some (.int .i64 id) ∧ W.cell? ⟨e, 1, none⟩ = some (.int .i64 sp) ∧ W.cell? ⟨e, 2, none⟩ = some (.string nm)
theorem KeepT.below {r g o e : Nat} {u : Value} {id sp : Int} {nm : ByteArray} {w w' : World} (h : KeepT r u g o e id sp nm w) (hb : Below w.heap.size w w') : KeepT r u g o e id sp nm w' :=
  ⟨cell_later hb h.1, cell_later hb h.2.1, cell_later hb h.2.2.1, cell_later hb h.2.2.2.1, cell_later hb h.2.2.2.2.1, cell_later hb h.2.2.2.2.2.1, cell_later hb h.2.2.2.2.2.2⟩
def KeepO (r : Nat) (u : Value) (e : Nat) (W : World) : Prop :=
  W.cell? ⟨r, 0, none⟩ = some u ∧ W.cell? ⟨e, 0, none⟩ = some (.int .i64 0) ∧ W.cell? ⟨e, 1, none⟩ = some (.int .i64 0) ∧ W.cell? ⟨e, 2, none⟩ = some (.string ⟨#[]⟩)
/-- What the loop keeps. -/
def StepsAt (P r : Nat) (w1 : World) (n : Nat) (i : Value) (wr : World) : Prop :=
  ∃ (k : Nat) (L : List Ent) (v u : Value), k ≤ n ∧ i = .int .i64 k ∧ L.length ≤ 200 ∧ TwoR P P v L r u L wr ∧ Below P w1 wr ∧ P ≤ wr.heap.size

set_option maxHeartbeats 1000000 in
theorem steps_small (q : Option Addr) (n cap : Nat) (scope : Int) (n0 n1 : ByteArray) (w : World) (h : 230 < n) :
    Calls Try.prog 3 #[.slice q n cap, .int .i64 scope, .agg #[.string n0, .string n1]] w fun e w' => e = .returned (.bool true) ∧ Below w.heap.size w w' := by
  have CN := hide (fun w => new_any w.heap.size w (Nat.le_refl _))
  have CC := hide (fun w => cell_any w)
  have h1 : (230 : Int) < (n : Int) := by omega
  unfold ptr at *
  go_enter Try.func3, Try.ntmps3
  go_wp2_with fail
  refine (unhide CN _).mono ?_
  rintro e w1 ⟨rfl, _, hb1⟩
  have HB := hide (bel_of hb1)
  clear hb1
  go_wp2_with fail
  refine (unhide CC _).mono ?_
  rintro e w3 ⟨rfl, hb3⟩
  go_wp2
  go_ret
  exact ⟨rfl, tr2 (unhide HB) hb3⟩

set_option maxHeartbeats 40000000 in
set_option maxRecDepth 100000 in
theorem steps_main (q : Option Addr) (n cap : Nat) (l : List Stp) (scope : Int) (n0 n1 : ByteArray) (w : World) (hn : Hid (l.length = n)) (h230 : n ≤ 230) (hl : l = [] ∨ ∃ g o, q = some ⟨g, o, none⟩ ∧ Cells7 g o l w) :
    Calls Try.prog 3 #[.slice q n cap, .int .i64 scope, .agg #[.string n0, .string n1]] w fun e w' => e = .returned (.bool true) ∧ Below w.heap.size w w' := by
  have CN := hide (fun w => new_any w.heap.size w (Nat.le_refl _))
  have CC := hide (fun w => cell_any w)
  have CD0 := hide (fun base p r v u wh at' id sp nm na nb L W h hb hL => does_any base p r v u wh at' id sp nm na nb L W h hb hL)
  have HC := hide hl
  have h1 : ¬ (230 : Int) < (n : Int) := by omega
  have b1 : Below w.heap.size w (w.alloc (Obj.cells #[.string n0, .string n1] 23)) := (Below.refl _ _).alloc (Nat.le_refl _) _
  have k1 := hide (Blk.new w #[.string n0, .string n1] 23)
  have B1 := hide b1
  clear hl b1
  unfold ptr stepA at *
  go_enter Try.func3, Try.ntmps3
  go_wp2_with fail
  refine (unhide CN _).mono ?_
  rintro e w2 ⟨rfl, hs2, hb2⟩
  have hz0 : (w.alloc (Obj.cells #[.string n0, .string n1] 23)).heap.size = w.heap.size + 1 := by simp
  have hz2 := hs2.lt
  have al : Below w2.heap.size w2 (w2.alloc (Obj.cells #[.slice none 0 0] 30)) := (Below.refl _ _).alloc (Nat.le_refl _) _
  rw [hz0] at hs2 hb2
  have HAT : Hid (StepsAt (w.heap.size + 1) w2.heap.size (w.alloc (Obj.cells #[.string n0, .string n1] 23)) n (.int .i64 0) (w2.alloc (Obj.cells #[.slice none 0 0] 30))) :=
    hide ⟨0, [], .slice none 0 0, .slice none 0 0, Nat.zero_le _, rfl, by simp, ⟨hs2.later al, ⟨Blk.new w2 _ _, World.ownsRow_nil _ _ _ _, by simp [Value.ownBlock]⟩, by omega, by simp [Value.ownBlock], by simp [Value.ownBlock], by simp [Value.ownBlock]⟩, hb2.trans (al.mono (by omega)), by have := al.size; omega⟩
  have HR1 : Hid (w.heap.size + 1 ≤ w2.heap.size) := hide (by omega)
  have HP0 : Hid (w.heap.size < w.heap.size + 1) := hide (by omega)
  rw [hz0] at hz2
  rw [hz0]
  clear hs2 hb2 al hz2 hz0
  generalize w.heap.size + 1 = P at *
  go_wp2
  generalize w2.heap.size = r at *
  go_loopw [30] (fun i wr => StepsAt P r (w.alloc (Obj.cells #[.string n0, .string n1] 23)) n i wr) (fun i _ => n - (intOf i).toNat)
  case atStart => exact unhide HAT
  case round =>
    clear HAT
    obtain ⟨k, L, v, u, hk, rfl, hL, hT, hb, hsz⟩ := hrel
    have hbw : Below w.heap.size w wr := (unhide B1).trans (hb.mono (Nat.le_of_lt (unhide HP0)))
    have HBW := hide hbw
    have HB := hide hb
    by_cases hlk : k < n
    · have hlti : (k : Int) < (n : Int) := by omega
      rcases unhide HC with hnil | ⟨g, o, hq, hcs⟩
      · have := unhide hn; rw [hnil] at this; simp at this; omega
      subst hq
      have hkl : k < l.length := by rw [unhide hn]; exact hlk
      obtain ⟨c0, c1, c2, c3, c4, c5, c6⟩ := (hcs k hkl).below hbw
      generalize l.getD k s0 = y at *
      obtain ⟨wh, at', id, sp, nm, na, nb⟩ := y
      dsimp only at *
      have al : Below wr.heap.size wr (wr.alloc (Obj.cells #[.int .i64 wh, .int .i64 at', .int .i64 id, .int .i64 sp, .string nm, .string na, .string nb] 34)) := (Below.refl _ _).alloc (Nat.le_refl _) _
      have ald : Below wr.heap.size wr (wr.alloc (Obj.cells #[.int .i64 wh, .int .i64 at', .int .i64 id, .int .i64 sp, .string nm, .string na, .string nb] 34)).drew := tr2 al (below_draws _ 1)
      have kX := (Blk.new wr (stepA wh at' id sp nm na nb) 34).later (below_draws _ 1)
      have hTd := hT.later ald
      have mX : Mine P r v u (wr.alloc (Obj.cells #[.int .i64 wh, .int .i64 at', .int .i64 id, .int .i64 sp, .string nm, .string na, .string nb] 34)).drew wr.heap.size := hT.mine (Nat.le_refl _) kX.lt
      have HX := hide (And.intro mX (And.intro kX (And.intro hTd (hb.trans (ald.mono hsz)))))
      have HS : Hid (BoxS wr.heap.size wh at' id sp nm na nb (wr.alloc (Obj.cells #[.int .i64 wh, .int .i64 at', .int .i64 id, .int .i64 sp, .string nm, .string na, .string nb] 34)).drew) := hide (BoxS.of kX)
      have hszd := Nat.le_trans hsz ald.size
      have HZd := hide hszd
      have CD := hide (unhide CD0 _ _ _ v u wh at' id sp nm na nb L _ hTd hszd hL)
      clear hT hb hcs hkl al ald kX hTd mX CD0 hbw
      go_wp2_with fail
      have hSa := unhide HS
      refine wp_region_held (S := BoxS wr.heap.size wh at' id sp nm na nb) (by kernel_rfl) ?_
      change wpAnyH _ _ _ _ _ _ _ _ (World.drew _)
      refine wpAnyH_take (i := 0) (oi := { dst := some 34, op := _, type := _, pos := _, after := _, guard := _ }) (v := ?va0_1) rfl (by kernel_rfl) (by kernel_rfl) (by kernel_rfl) (fun _ _ _ h => h) (Or.inl ⟨by kernel_rfl, ?ha0_1⟩) hSa ?ra0_1
      case ha0_1 => first | (intro w hSw; obtain ⟨s0, s1, s2, s3, s4, s5, s6⟩ := hSw; go_simp; done) | (intro w hSw; obtain ⟨s0, s1, s2, s3, s4, s5, s6⟩ := hSw; go_simp; with_reducible rfl)
      try simp only [Act.put, List.setIfInBounds_toArray, List.set_cons_zero, List.set_cons_succ]
      refine wpAnyH_take (i := 1) (oi := { dst := some 35, op := _, type := _, pos := _, after := _, guard := _ }) (v := ?va1_2) rfl (by kernel_rfl) (by kernel_rfl) (by kernel_rfl) (fun _ _ _ h => h) (Or.inl ⟨by kernel_rfl, ?ha1_2⟩) hSa ?ra1_2
      case ha1_2 => first | (intro w hSw; obtain ⟨s0, s1, s2, s3, s4, s5, s6⟩ := hSw; go_simp; done) | (intro w hSw; obtain ⟨s0, s1, s2, s3, s4, s5, s6⟩ := hSw; go_simp; with_reducible rfl)
      try simp only [Act.put, List.setIfInBounds_toArray, List.set_cons_zero, List.set_cons_succ]
      refine wpAnyH_take (i := 2) (oi := { dst := some 36, op := _, type := _, pos := _, after := _, guard := _ }) (v := ?va2_3) rfl (by kernel_rfl) (by kernel_rfl) (by kernel_rfl) (fun _ _ _ h => h) (Or.inl ⟨by kernel_rfl, ?ha2_3⟩) hSa ?ra2_3
      case ha2_3 => first | (intro w hSw; obtain ⟨s0, s1, s2, s3, s4, s5, s6⟩ := hSw; go_simp; done) | (intro w hSw; obtain ⟨s0, s1, s2, s3, s4, s5, s6⟩ := hSw; go_simp; with_reducible rfl)
      try simp only [Act.put, List.setIfInBounds_toArray, List.set_cons_zero, List.set_cons_succ]
      refine wpAnyH_ready (rs := [3]) (by kernel_rfl) (by simp) ?_
      refine AllReadyH.cons rfl (fun K hK => ?_) AllReadyH.nil
      go_simp
      refine (unhide CD).mono ?_
      rintro e w4 ⟨rfl, L2, hL2, hw⟩
      have HKb := hide (hw.blk (unhide HX).1 (unhide HX).2.1)
      have hSa' := BoxS.of (unhide HKb)
      have HBn := hide ((unhide HX).2.2.2.trans (hw.below (unhide HX).2.2.1 (unhide HZd) (Nat.le_refl _) (unhide HR1)))
      have HZn := hide (Nat.le_trans (unhide HZd) hw.size)
      obtain ⟨v2, u2, t2, -, -⟩ := hw.at'
      obtain ⟨q2, cap2, hq2, hc2, hm2, hg2⟩ := t2.2.1.slice
      subst hq2
      have HTn := hide t2
      have CA := hide (fun W h => all_any P P v2 L2 W h (by omega))
      have F1 := hide (fun W h => find_any P P v2 id L2 W h)
      have F2 := hide (fun u W h => rfind_any P r u id L2 W h)
      generalize findE id L2 = fN at F1 F2
      have enn : (fN == fN) = true := by simp
      have HG2 := hide (And.intro hc2 (And.intro hm2 hg2))
      unfold ptr at CA F1 F2
      clear hw t2 hc2 hm2 hg2 CD HX
      refine hK _ _ hSa' (fun _ => ?_)
      clear hK K hSa
      have hSa := hSa'
      clear hSa'
      refine wpAnyH_take (i := 4) (oi := { dst := some 38, op := _, type := _, pos := _, after := _, guard := _ }) (v := ?va4_4) rfl (by kernel_rfl) (by kernel_rfl) (by kernel_rfl) (fun _ _ _ h => h) (Or.inl ⟨by kernel_rfl, ?ha4_4⟩) hSa ?ra4_4
      case ha4_4 => first | (intro w hSw; obtain ⟨s0, s1, s2, s3, s4, s5, s6⟩ := hSw; go_simp; done) | (intro w hSw; obtain ⟨s0, s1, s2, s3, s4, s5, s6⟩ := hSw; go_simp; with_reducible rfl)
      try simp only [Act.put, List.setIfInBounds_toArray, List.set_cons_zero, List.set_cons_succ]
      refine wpAnyH_take (i := 5) (oi := { dst := some 39, op := _, type := _, pos := _, after := _, guard := _ }) (v := ?va5_5) rfl (by kernel_rfl) (by kernel_rfl) (by kernel_rfl) (fun _ _ _ h => h) (Or.inl ⟨by kernel_rfl, ?ha5_5⟩) hSa ?ra5_5
      case ha5_5 => first | (intro w hSw; obtain ⟨s0, s1, s2, s3, s4, s5, s6⟩ := hSw; go_simp; done) | (intro w hSw; obtain ⟨s0, s1, s2, s3, s4, s5, s6⟩ := hSw; go_simp; with_reducible rfl)
      try simp only [Act.put, List.setIfInBounds_toArray, List.set_cons_zero, List.set_cons_succ]
      refine wpAnyH_take (i := 6) (oi := { dst := some 40, op := _, type := _, pos := _, after := _, guard := _ }) (v := ?va6_6) rfl (by kernel_rfl) (by kernel_rfl) (by kernel_rfl) (fun _ _ _ h => h) (Or.inl ⟨by kernel_rfl, ?ha6_6⟩) hSa ?ra6_6
      case ha6_6 => first | (intro w hSw; obtain ⟨s0, s1, s2, s3, s4, s5, s6⟩ := hSw; go_simp; done) | (intro w hSw; obtain ⟨s0, s1, s2, s3, s4, s5, s6⟩ := hSw; go_simp; with_reducible rfl)
      try simp only [Act.put, List.setIfInBounds_toArray, List.set_cons_zero, List.set_cons_succ]
      refine wpAnyH_take (i := 8) (oi := { dst := some 42, op := _, type := _, pos := _, after := _, guard := _ }) (v := ?va8_7) rfl (by kernel_rfl) (by kernel_rfl) (by kernel_rfl) (fun _ _ _ h => h) (Or.inl ⟨by kernel_rfl, ?ha8_7⟩) hSa ?ra8_7
      case ha8_7 => first | (intro w hSw; obtain ⟨s0, s1, s2, s3, s4, s5, s6⟩ := hSw; go_simp; done) | (intro w hSw; obtain ⟨s0, s1, s2, s3, s4, s5, s6⟩ := hSw; go_simp; with_reducible rfl)
      try simp only [Act.put, List.setIfInBounds_toArray, List.set_cons_zero, List.set_cons_succ]
      refine wpAnyH_take (i := 9) (oi := { dst := some 43, op := _, type := _, pos := _, after := _, guard := _ }) (v := ?va9_8) rfl (by kernel_rfl) (by kernel_rfl) (by kernel_rfl) (fun _ _ _ h => h) (Or.inl ⟨by kernel_rfl, ?ha9_8⟩) hSa ?ra9_8
      case ha9_8 => first | (intro w hSw; obtain ⟨s0, s1, s2, s3, s4, s5, s6⟩ := hSw; go_simp; done) | (intro w hSw; obtain ⟨s0, s1, s2, s3, s4, s5, s6⟩ := hSw; go_simp; with_reducible rfl)
      try simp only [Act.put, List.setIfInBounds_toArray, List.set_cons_zero, List.set_cons_succ]
      refine wpAnyH_take (i := 10) (oi := { dst := some 44, op := _, type := _, pos := _, after := _, guard := _ }) (v := ?va10_9) rfl (by kernel_rfl) (by kernel_rfl) (by kernel_rfl) (fun _ _ _ h => h) (Or.inl ⟨by kernel_rfl, ?ha10_9⟩) hSa ?ra10_9
      case ha10_9 => first | (intro w hSw; obtain ⟨s0, s1, s2, s3, s4, s5, s6⟩ := hSw; go_simp; done) | (intro w hSw; obtain ⟨s0, s1, s2, s3, s4, s5, s6⟩ := hSw; go_simp; with_reducible rfl)
      try simp only [Act.put, List.setIfInBounds_toArray, List.set_cons_zero, List.set_cons_succ]
      refine wpAnyH_ready (rs := [7, 11]) (by kernel_rfl) (by simp) ?_
      refine AllReadyH.cons rfl (fun K hK => ?_) (AllReadyH.cons rfl (fun K hK => ?_) AllReadyH.nil)
      · go_simp
        refine (unhide CA _ (unhide HTn).1).mono ?_
        rintro e w5 ⟨uu, rfl, hrow, hb⟩
        obtain ⟨qa, na2, ca, rfl⟩ := slice_of hrow
        have HRow := hide hrow
        clear hrow
        replace HTn := hide ((unhide HTn).later hb)
        replace HBn := hide ((unhide HBn).trans (hb.mono (unhide HZn)))
        replace HZn := hide (Nat.le_trans (unhide HZn) hb.size)
        replace HKb := hide ((unhide HKb).later hb)
        have hSa' := BoxS.of (unhide HKb)
        clear hb
        refine hK _ _ hSa' (fun _ => ?_)
        clear hK K hSa
        have hSa := hSa'
        clear hSa'
        refine wpAnyH_ready (rs := [11]) (by kernel_rfl) (by simp) ?_
        refine AllReadyH.cons rfl (fun K hK => ?_) AllReadyH.nil
        have c4 : World.cell? _ ⟨r, 0, none⟩ = some (.slice q2 L2.length cap2) := (unhide HTn).2.1.1.cell 0
        go_simp
        clear c4
        have hSa' := hSa
        refine hK _ _ hSa' (fun _ => ?_)
        clear hK K hSa
        have hSa := hSa'
        clear hSa'
        refine wpAnyH_ready (rs := [12]) (by kernel_rfl) (by simp) ?_
        refine AllReadyH.cons rfl (fun K hK => ?_) AllReadyH.nil
        go_simp
        refine (same_any _ _ _ _ _ _ L2 _ (by omega) (unhide HRow) (unhide HTn).2.1.2.1).mono ?_
        rintro e w6 ⟨rfl, hb⟩
        replace HTn := hide ((unhide HTn).later hb)
        replace HBn := hide ((unhide HBn).trans (hb.mono (unhide HZn)))
        replace HZn := hide (Nat.le_trans (unhide HZn) hb.size)
        replace HKb := hide ((unhide HKb).later hb)
        have hSa' := BoxS.of (unhide HKb)
        clear hb
        refine hK _ _ hSa' (fun _ => ?_)
        clear hK K hSa
        have hSa := hSa'
        clear hSa'
        refine wpAnyH_take (i := 13) (oi := { dst := some 47, op := _, type := _, pos := _, after := _, guard := _ }) (v := ?va13_10) rfl (by kernel_rfl) (by kernel_rfl) (by kernel_rfl) (fun _ _ _ h => h) (Or.inl ⟨by kernel_rfl, ?ha13_10⟩) hSa ?ra13_10
        case ha13_10 => first | (intro w hSw; obtain ⟨s0, s1, s2, s3, s4, s5, s6⟩ := hSw; go_simp; done) | (intro w hSw; obtain ⟨s0, s1, s2, s3, s4, s5, s6⟩ := hSw; go_simp; with_reducible rfl)
        try simp only [Act.put, List.setIfInBounds_toArray, List.set_cons_zero, List.set_cons_succ]
        refine wpAnyH_take (i := 14) (oi := { dst := some 48, op := _, type := _, pos := _, after := _, guard := _ }) (v := ?va14_11) rfl (by kernel_rfl) (by kernel_rfl) (by kernel_rfl) (fun _ _ _ h => h) (Or.inl ⟨by kernel_rfl, ?ha14_11⟩) hSa ?ra14_11
        case ha14_11 => first | (intro w hSw; obtain ⟨s0, s1, s2, s3, s4, s5, s6⟩ := hSw; go_simp; done) | (intro w hSw; obtain ⟨s0, s1, s2, s3, s4, s5, s6⟩ := hSw; go_simp; with_reducible rfl)
        try simp only [Act.put, List.setIfInBounds_toArray, List.set_cons_zero, List.set_cons_succ]
        refine wpAnyH_take (i := 15) (oi := { dst := some 49, op := _, type := _, pos := _, after := _, guard := _ }) (v := ?va15_12) rfl (by kernel_rfl) (by kernel_rfl) (by kernel_rfl) (fun _ _ _ h => h) (Or.inl ⟨by kernel_rfl, ?ha15_12⟩) hSa ?ra15_12
        case ha15_12 => first | (intro w hSw; obtain ⟨s0, s1, s2, s3, s4, s5, s6⟩ := hSw; go_simp; done) | (intro w hSw; obtain ⟨s0, s1, s2, s3, s4, s5, s6⟩ := hSw; go_simp; with_reducible rfl)
        try simp only [Act.put, List.setIfInBounds_toArray, List.set_cons_zero, List.set_cons_succ]
        refine wpAnyH_take (i := 16) (oi := { dst := some 50, op := _, type := _, pos := _, after := _, guard := _ }) (v := ?va16_13) rfl (by kernel_rfl) (by kernel_rfl) (by kernel_rfl) (fun _ _ _ h => h) (Or.inl ⟨by kernel_rfl, ?ha16_13⟩) hSa ?ra16_13
        case ha16_13 => first | (intro w hSw; obtain ⟨s0, s1, s2, s3, s4, s5, s6⟩ := hSw; go_simp; done) | (intro w hSw; obtain ⟨s0, s1, s2, s3, s4, s5, s6⟩ := hSw; go_simp; with_reducible rfl)
        try simp only [Act.put, List.setIfInBounds_toArray, List.set_cons_zero, List.set_cons_succ]
        refine wpAnyH_take (i := 17) (oi := { dst := some 51, op := _, type := _, pos := _, after := _, guard := _ }) (v := ?va17_14) rfl (by kernel_rfl) (by kernel_rfl) (by kernel_rfl) (fun _ _ _ h => h) (Or.inl ⟨by kernel_rfl, ?ha17_14⟩) hSa ?ra17_14
        case ha17_14 => first | (intro w hSw; obtain ⟨s0, s1, s2, s3, s4, s5, s6⟩ := hSw; go_simp; done) | (intro w hSw; obtain ⟨s0, s1, s2, s3, s4, s5, s6⟩ := hSw; go_simp; with_reducible rfl)
        try simp only [Act.put, List.setIfInBounds_toArray, List.set_cons_zero, List.set_cons_succ]
        refine wpAnyH_take (i := 18) (oi := { dst := some 52, op := _, type := _, pos := _, after := _, guard := _ }) (v := ?va18_15) rfl (by kernel_rfl) (by kernel_rfl) (by kernel_rfl) (fun _ _ _ h => h) (Or.inl ⟨by kernel_rfl, ?ha18_15⟩) hSa ?ra18_15
        case ha18_15 => first | (intro w hSw; obtain ⟨s0, s1, s2, s3, s4, s5, s6⟩ := hSw; go_simp; done) | (intro w hSw; obtain ⟨s0, s1, s2, s3, s4, s5, s6⟩ := hSw; go_simp; with_reducible rfl)
        try simp only [Act.put, List.setIfInBounds_toArray, List.set_cons_zero, List.set_cons_succ]
        refine wpAnyH_take (i := 19) (oi := { dst := some 53, op := _, type := _, pos := _, after := _, guard := _ }) (v := ?va19_16) rfl (by kernel_rfl) (by kernel_rfl) (by kernel_rfl) (fun _ _ _ h => h) (Or.inl ⟨by kernel_rfl, ?ha19_16⟩) hSa ?ra19_16
        case ha19_16 => first | (intro w hSw; obtain ⟨s0, s1, s2, s3, s4, s5, s6⟩ := hSw; go_simp; done) | (intro w hSw; obtain ⟨s0, s1, s2, s3, s4, s5, s6⟩ := hSw; go_simp; with_reducible rfl)
        try simp only [Act.put, List.setIfInBounds_toArray, List.set_cons_zero, List.set_cons_succ]
        refine wpAnyH_take (i := 21) (oi := { dst := some 55, op := _, type := _, pos := _, after := _, guard := _ }) (v := ?va21_17) rfl (by kernel_rfl) (by kernel_rfl) (by kernel_rfl) (fun _ _ _ h => h) (Or.inl ⟨by kernel_rfl, ?ha21_17⟩) hSa ?ra21_17
        case ha21_17 => first | (intro w hSw; obtain ⟨s0, s1, s2, s3, s4, s5, s6⟩ := hSw; go_simp; done) | (intro w hSw; obtain ⟨s0, s1, s2, s3, s4, s5, s6⟩ := hSw; go_simp; with_reducible rfl)
        try simp only [Act.put, List.setIfInBounds_toArray, List.set_cons_zero, List.set_cons_succ]
        refine wpAnyH_take (i := 22) (oi := { dst := some 56, op := _, type := _, pos := _, after := _, guard := _ }) (v := ?va22_18) rfl (by kernel_rfl) (by kernel_rfl) (by kernel_rfl) (fun _ _ _ h => h) (Or.inl ⟨by kernel_rfl, ?ha22_18⟩) hSa ?ra22_18
        case ha22_18 => first | (intro w hSw; obtain ⟨s0, s1, s2, s3, s4, s5, s6⟩ := hSw; go_simp; done) | (intro w hSw; obtain ⟨s0, s1, s2, s3, s4, s5, s6⟩ := hSw; go_simp; with_reducible rfl)
        try simp only [Act.put, List.setIfInBounds_toArray, List.set_cons_zero, List.set_cons_succ]
        refine wpAnyH_take (i := 23) (oi := { dst := some 57, op := _, type := _, pos := _, after := _, guard := _ }) (v := ?va23_19) rfl (by kernel_rfl) (by kernel_rfl) (by kernel_rfl) (fun _ _ _ h => h) (Or.inl ⟨by kernel_rfl, ?ha23_19⟩) hSa ?ra23_19
        case ha23_19 => first | (intro w hSw; obtain ⟨s0, s1, s2, s3, s4, s5, s6⟩ := hSw; go_simp; done) | (intro w hSw; obtain ⟨s0, s1, s2, s3, s4, s5, s6⟩ := hSw; go_simp; with_reducible rfl)
        try simp only [Act.put, List.setIfInBounds_toArray, List.set_cons_zero, List.set_cons_succ]
        refine wpAnyH_take (i := 24) (oi := { dst := some 58, op := _, type := _, pos := _, after := _, guard := _ }) (v := ?va24_20) rfl (by kernel_rfl) (by kernel_rfl) (by kernel_rfl) (fun _ _ _ h => h) (Or.inl ⟨by kernel_rfl, ?ha24_20⟩) hSa ?ra24_20
        case ha24_20 => first | (intro w hSw; obtain ⟨s0, s1, s2, s3, s4, s5, s6⟩ := hSw; go_simp; done) | (intro w hSw; obtain ⟨s0, s1, s2, s3, s4, s5, s6⟩ := hSw; go_simp; with_reducible rfl)
        try simp only [Act.put, List.setIfInBounds_toArray, List.set_cons_zero, List.set_cons_succ]
        refine wpAnyH_ready (rs := [20]) (by kernel_rfl) (by simp) ?_
        refine AllReadyH.cons rfl (fun K hK => ?_) AllReadyH.nil
        go_simp
        refine (unhide F1 _ (unhide HTn).1).mono ?_
        rintro e w7 ⟨rfl, hw7⟩
        subst hw7
        have hSa' := hSa
        refine hK _ _ hSa' (fun _ => ?_)
        clear hK K hSa
        have hSa := hSa'
        clear hSa'
        refine wpAnyH_ready (rs := [25]) (by kernel_rfl) (by simp) ?_
        refine AllReadyH.cons rfl (fun K hK => ?_) AllReadyH.nil
        go_simp
        refine (unhide F2 _ _ (unhide HTn).2.1).mono ?_
        rintro e w8 ⟨rfl, hb⟩
        replace HTn := hide ((unhide HTn).later hb)
        replace HBn := hide ((unhide HBn).trans (hb.mono (unhide HZn)))
        replace HZn := hide (Nat.le_trans (unhide HZn) hb.size)
        replace HKb := hide ((unhide HKb).later hb)
        have hSa' := BoxS.of (unhide HKb)
        clear hb
        refine hK _ _ hSa' (fun _ => ?_)
        clear hK K hSa
        have hSa := hSa'
        clear hSa'
        refine wpAnyH_take (i := 26) (oi := { dst := some 60, op := _, type := _, pos := _, after := _, guard := _ }) (v := ?va26_21) rfl (by kernel_rfl) (by kernel_rfl) (by kernel_rfl) (fun _ _ _ h => h) (Or.inl ⟨by kernel_rfl, ?ha26_21⟩) hSa ?ra26_21
        case ha26_21 => first | (intro w hSw; obtain ⟨s0, s1, s2, s3, s4, s5, s6⟩ := hSw; go_simp; done) | (intro w hSw; obtain ⟨s0, s1, s2, s3, s4, s5, s6⟩ := hSw; go_simp; with_reducible rfl)
        try simp only [Act.put, List.setIfInBounds_toArray, List.set_cons_zero, List.set_cons_succ]
        refine wpAnyH_take (i := 27) (oi := { dst := some 61, op := _, type := _, pos := _, after := _, guard := _ }) (v := ?va27_22) rfl (by kernel_rfl) (by kernel_rfl) (by kernel_rfl) (fun _ _ _ h => h) (Or.inl ⟨by kernel_rfl, ?ha27_22⟩) hSa ?ra27_22
        case ha27_22 => first | (intro w hSw; obtain ⟨s0, s1, s2, s3, s4, s5, s6⟩ := hSw; go_simp; done) | (intro w hSw; obtain ⟨s0, s1, s2, s3, s4, s5, s6⟩ := hSw; go_simp; with_reducible rfl)
        try simp only [Act.put, List.setIfInBounds_toArray, List.set_cons_zero, List.set_cons_succ]
        refine wpAnyH_done (by kernel_rfl) ?_ _
        clear hSa HS HKb F1 F2 enn CA HRow
        have HL2 := hide hL2
        by_cases hz : L2.length = 0
        · obtain rfl := List.eq_nil_of_length_eq_zero hz
          have I1 := hide (fun nv W h hv => in_s P P v2 nv scope [n0.data.toList, n1.data.toList] [] W h hv)
          have I2 := hide (fun u nv W h hv => rin_any P r u scope nv [n0.data.toList, n1.data.toList] [] W h (by simp) hv)
          generalize inS scope [n0.data.toList, n1.data.toList] [] = bI at I1 I2
          unfold ptr at I1 I2
          have TP := hide (fun W (hW : Stk P P v2 [] W) => by
              obtain ⟨q, cap, e, _⟩ := hW.slice
              exact top_none (ptr P) q cap W (hide fun w2 hb2 => by
                have hl := hW.later hb2
                rw [e] at hl
                exact entries_at P _ w2 hl.1 ⟨_, _, _, rfl⟩))
          unfold entV e0 ptr at TP
          dsimp only at TP
          clear hz hL2 HG2
          go_wp2_with fail
          refine (unhide TP _ (unhide HTn).1).mono ?_
          rintro e w9 ⟨rfl, hb⟩
          replace HTn := hide ((unhide HTn).later hb)
          replace HBn := hide ((unhide HBn).trans (hb.mono (unhide HZn)))
          replace HZn := hide (Nat.le_trans (unhide HZn) hb.size)
          clear hb TP
          have al : Below w9.heap.size w9 (w9.alloc (Obj.cells #[.int .i64 0, .int .i64 0, .string ⟨#[]⟩] 32)) := (Below.refl _ _).alloc (Nat.le_refl _) _
          have ald : Below w9.heap.size w9 (w9.alloc (Obj.cells #[.int .i64 0, .int .i64 0, .string ⟨#[]⟩] 32)).drew := tr2 al (below_draws _ 1)
          have kE := (Blk.new w9 #[.int .i64 0, .int .i64 0, .string ⟨#[]⟩] 32).later (below_draws _ 1)
          have c9 : w9.cell? ⟨r, 0, none⟩ = some (.slice q2 0 cap2) := (unhide HTn).2.1.1.cell 0
          have HSO : Hid (KeepO r (.slice q2 0 cap2) w9.heap.size _) := hide ⟨cell_later ald c9, kE.cell 0, kE.cell 1, kE.cell 2⟩
          have eE : ((ByteArray.mk #[]).toList == (ByteArray.mk #[]).toList) = true := by simp
          replace HTn := hide ((unhide HTn).later ald)
          replace HBn := hide ((unhide HBn).trans (ald.mono (unhide HZn)))
          replace HZn := hide (Nat.le_trans (unhide HZn) ald.size)
          clear al ald kE c9
          go_wp2_with fail
          have hSb := unhide HSO
          refine wp_region_held (S := KeepO r (.slice q2 0 cap2) w9.heap.size) (by kernel_rfl) ?_
          change wpAnyH _ _ _ _ _ _ _ _ (World.drew _)
          refine wpAnyH_take (i := 0) (oi := { dst := some 67, op := _, type := _, pos := _, after := _, guard := _ }) (v := ?vb0_23) rfl (by kernel_rfl) (by kernel_rfl) (by kernel_rfl) (fun _ _ _ h => h) (Or.inl ⟨by kernel_rfl, ?hb0_23⟩) hSb ?rb0_23
          case hb0_23 => first | (intro w hSw; obtain ⟨s0, s1, s2, s3⟩ := hSw; go_simp; done) | (intro w hSw; obtain ⟨s0, s1, s2, s3⟩ := hSw; go_simp; with_reducible rfl)
          try simp only [Act.put, List.setIfInBounds_toArray, List.set_cons_zero, List.set_cons_succ]
          refine wpAnyH_take (i := 1) (oi := { dst := some 68, op := _, type := _, pos := _, after := _, guard := _ }) (v := ?vb1_24) rfl (by kernel_rfl) (by kernel_rfl) (by kernel_rfl) (fun _ _ _ h => h) (Or.inl ⟨by kernel_rfl, ?hb1_24⟩) hSb ?rb1_24
          case hb1_24 => first | (intro w hSw; obtain ⟨s0, s1, s2, s3⟩ := hSw; go_simp; done) | (intro w hSw; obtain ⟨s0, s1, s2, s3⟩ := hSw; go_simp; with_reducible rfl)
          try simp only [Act.put, List.setIfInBounds_toArray, List.set_cons_zero, List.set_cons_succ]
          refine wpAnyH_take (i := 2) (oi := { dst := some 69, op := _, type := _, pos := _, after := _, guard := _ }) (v := ?vb2_25) rfl (by kernel_rfl) (by kernel_rfl) (by kernel_rfl) (fun _ _ _ h => h) (Or.inl ⟨by kernel_rfl, ?hb2_25⟩) hSb ?rb2_25
          case hb2_25 => first | (intro w hSw; obtain ⟨s0, s1, s2, s3⟩ := hSw; go_simp; done) | (intro w hSw; obtain ⟨s0, s1, s2, s3⟩ := hSw; go_simp; with_reducible rfl)
          try simp only [Act.put, List.setIfInBounds_toArray, List.set_cons_zero, List.set_cons_succ]
          refine wpAnyH_take (i := 3) (oi := { dst := some 70, op := _, type := _, pos := _, after := _, guard := _ }) (v := ?vb3_26) rfl (by kernel_rfl) (by kernel_rfl) (by kernel_rfl) (fun _ _ _ h => h) (Or.inl ⟨by kernel_rfl, ?hb3_26⟩) hSb ?rb3_26
          case hb3_26 => first | (intro w hSw; obtain ⟨s0, s1, s2, s3⟩ := hSw; go_simp; done) | (intro w hSw; obtain ⟨s0, s1, s2, s3⟩ := hSw; go_simp; with_reducible rfl)
          try simp only [Act.put, List.setIfInBounds_toArray, List.set_cons_zero, List.set_cons_succ]
          refine wpAnyH_take (i := 4) (oi := { dst := some 71, op := _, type := _, pos := _, after := _, guard := _ }) (v := ?vb4_27) rfl (by kernel_rfl) (by kernel_rfl) (by kernel_rfl) (fun _ _ _ h => h) (Or.inl ⟨by kernel_rfl, ?hb4_27⟩) hSb ?rb4_27
          case hb4_27 => first | (intro w hSw; obtain ⟨s0, s1, s2, s3⟩ := hSw; go_simp; done) | (intro w hSw; obtain ⟨s0, s1, s2, s3⟩ := hSw; go_simp; with_reducible rfl)
          try simp only [Act.put, List.setIfInBounds_toArray, List.set_cons_zero, List.set_cons_succ]
          refine wpAnyH_take (i := 5) (oi := { dst := some 72, op := _, type := _, pos := _, after := _, guard := _ }) (v := ?vb5_28) rfl (by kernel_rfl) (by kernel_rfl) (by kernel_rfl) (fun _ _ _ h => h) (Or.inl ⟨by kernel_rfl, ?hb5_28⟩) hSb ?rb5_28
          case hb5_28 => first | (intro w hSw; obtain ⟨s0, s1, s2, s3⟩ := hSw; go_simp; done) | (intro w hSw; obtain ⟨s0, s1, s2, s3⟩ := hSw; go_simp; with_reducible rfl)
          try simp only [Act.put, List.setIfInBounds_toArray, List.set_cons_zero, List.set_cons_succ]
          refine wpAnyH_take (i := 6) (oi := { dst := some 73, op := _, type := _, pos := _, after := _, guard := _ }) (v := ?vb6_29) rfl (by kernel_rfl) (by kernel_rfl) (by kernel_rfl) (fun _ _ _ h => h) (Or.inl ⟨by kernel_rfl, ?hb6_29⟩) hSb ?rb6_29
          case hb6_29 => first | (intro w hSw; obtain ⟨s0, s1, s2, s3⟩ := hSw; go_simp; done) | (intro w hSw; obtain ⟨s0, s1, s2, s3⟩ := hSw; go_simp; with_reducible rfl)
          try simp only [Act.put, List.setIfInBounds_toArray, List.set_cons_zero, List.set_cons_succ]
          refine wpAnyH_take (i := 7) (oi := { dst := some 74, op := _, type := _, pos := _, after := _, guard := _ }) (v := ?vb7_30) rfl (by kernel_rfl) (by kernel_rfl) (by kernel_rfl) (fun _ _ _ h => h) (Or.inl ⟨by kernel_rfl, ?hb7_30⟩) hSb ?rb7_30
          case hb7_30 => first | (intro w hSw; obtain ⟨s0, s1, s2, s3⟩ := hSw; go_simp; done) | (intro w hSw; obtain ⟨s0, s1, s2, s3⟩ := hSw; go_simp; with_reducible rfl)
          try simp only [Act.put, List.setIfInBounds_toArray, List.set_cons_zero, List.set_cons_succ]
          refine wpAnyH_take (i := 8) (oi := { dst := some 75, op := _, type := _, pos := _, after := _, guard := _ }) (v := ?vb8_31) rfl (by kernel_rfl) (by kernel_rfl) (by kernel_rfl) (fun _ _ _ h => h) (Or.inl ⟨by kernel_rfl, ?hb8_31⟩) hSb ?rb8_31
          case hb8_31 => first | (intro w hSw; obtain ⟨s0, s1, s2, s3⟩ := hSw; go_simp; done) | (intro w hSw; obtain ⟨s0, s1, s2, s3⟩ := hSw; go_simp; with_reducible rfl)
          try simp only [Act.put, List.setIfInBounds_toArray, List.set_cons_zero, List.set_cons_succ]
          refine wpAnyH_take (i := 9) (oi := { dst := some 76, op := _, type := _, pos := _, after := _, guard := _ }) (v := ?vb9_32) rfl (by kernel_rfl) (by kernel_rfl) (by kernel_rfl) (fun _ _ _ h => h) (Or.inl ⟨by kernel_rfl, ?hb9_32⟩) hSb ?rb9_32
          case hb9_32 => first | (intro w hSw; obtain ⟨s0, s1, s2, s3⟩ := hSw; go_simp; done) | (intro w hSw; obtain ⟨s0, s1, s2, s3⟩ := hSw; go_simp; with_reducible rfl)
          try simp only [Act.put, List.setIfInBounds_toArray, List.set_cons_zero, List.set_cons_succ]
          refine wpAnyH_take (i := 10) (oi := { dst := some 77, op := _, type := _, pos := _, after := _, guard := _ }) (v := ?vb10_33) rfl (by kernel_rfl) (by kernel_rfl) (by kernel_rfl) (fun _ _ _ h => h) (Or.inl ⟨by kernel_rfl, ?hb10_33⟩) hSb ?rb10_33
          case hb10_33 => first | (intro w hSw; obtain ⟨s0, s1, s2, s3⟩ := hSw; go_simp; done) | (intro w hSw; obtain ⟨s0, s1, s2, s3⟩ := hSw; go_simp; with_reducible rfl)
          try simp only [Act.put, List.setIfInBounds_toArray, List.set_cons_zero, List.set_cons_succ]
          refine wpAnyH_take (i := 11) (oi := { dst := some 78, op := _, type := _, pos := _, after := _, guard := _ }) (v := undef) rfl (by kernel_rfl) (by kernel_rfl) (by kernel_rfl) (fun _ _ _ h => h) (Or.inr ⟨by kernel_rfl, rfl⟩) hSb ?_
          try simp only [Act.put, List.setIfInBounds_toArray, List.set_cons_zero, List.set_cons_succ]
          refine wpAnyH_take (i := 12) (oi := { dst := some 79, op := _, type := _, pos := _, after := _, guard := _ }) (v := undef) rfl (by kernel_rfl) (by kernel_rfl) (by kernel_rfl) (fun _ _ _ h => h) (Or.inr ⟨by kernel_rfl, rfl⟩) hSb ?_
          try simp only [Act.put, List.setIfInBounds_toArray, List.set_cons_zero, List.set_cons_succ]
          refine wpAnyH_take (i := 13) (oi := { dst := some 80, op := _, type := _, pos := _, after := _, guard := _ }) (v := undef) rfl (by kernel_rfl) (by kernel_rfl) (by kernel_rfl) (fun _ _ _ h => h) (Or.inr ⟨by kernel_rfl, rfl⟩) hSb ?_
          try simp only [Act.put, List.setIfInBounds_toArray, List.set_cons_zero, List.set_cons_succ]
          refine wpAnyH_take (i := 14) (oi := { dst := some 81, op := _, type := _, pos := _, after := _, guard := _ }) (v := undef) rfl (by kernel_rfl) (by kernel_rfl) (by kernel_rfl) (fun _ _ _ h => h) (Or.inr ⟨by kernel_rfl, rfl⟩) hSb ?_
          try simp only [Act.put, List.setIfInBounds_toArray, List.set_cons_zero, List.set_cons_succ]
          refine wpAnyH_take (i := 15) (oi := { dst := some 82, op := _, type := _, pos := _, after := _, guard := _ }) (v := undef) rfl (by kernel_rfl) (by kernel_rfl) (by kernel_rfl) (fun _ _ _ h => h) (Or.inr ⟨by kernel_rfl, rfl⟩) hSb ?_
          try simp only [Act.put, List.setIfInBounds_toArray, List.set_cons_zero, List.set_cons_succ]
          refine wpAnyH_take (i := 16) (oi := { dst := some 83, op := _, type := _, pos := _, after := _, guard := _ }) (v := undef) rfl (by kernel_rfl) (by kernel_rfl) (by kernel_rfl) (fun _ _ _ h => h) (Or.inr ⟨by kernel_rfl, rfl⟩) hSb ?_
          try simp only [Act.put, List.setIfInBounds_toArray, List.set_cons_zero, List.set_cons_succ]
          refine wpAnyH_take (i := 17) (oi := { dst := some 84, op := _, type := _, pos := _, after := _, guard := _ }) (v := undef) rfl (by kernel_rfl) (by kernel_rfl) (by kernel_rfl) (fun _ _ _ h => h) (Or.inr ⟨by kernel_rfl, rfl⟩) hSb ?_
          try simp only [Act.put, List.setIfInBounds_toArray, List.set_cons_zero, List.set_cons_succ]
          refine wpAnyH_take (i := 18) (oi := { dst := some 85, op := _, type := _, pos := _, after := _, guard := _ }) (v := undef) rfl (by kernel_rfl) (by kernel_rfl) (by kernel_rfl) (fun _ _ _ h => h) (Or.inr ⟨by kernel_rfl, rfl⟩) hSb ?_
          try simp only [Act.put, List.setIfInBounds_toArray, List.set_cons_zero, List.set_cons_succ]
          refine wpAnyH_take (i := 19) (oi := { dst := some 86, op := _, type := _, pos := _, after := _, guard := _ }) (v := undef) rfl (by kernel_rfl) (by kernel_rfl) (by kernel_rfl) (fun _ _ _ h => h) (Or.inr ⟨by kernel_rfl, rfl⟩) hSb ?_
          try simp only [Act.put, List.setIfInBounds_toArray, List.set_cons_zero, List.set_cons_succ]
          refine wpAnyH_take (i := 20) (oi := { dst := some 87, op := _, type := _, pos := _, after := _, guard := _ }) (v := undef) rfl (by kernel_rfl) (by kernel_rfl) (by kernel_rfl) (fun _ _ _ h => h) (Or.inr ⟨by kernel_rfl, rfl⟩) hSb ?_
          try simp only [Act.put, List.setIfInBounds_toArray, List.set_cons_zero, List.set_cons_succ]
          refine wpAnyH_take (i := 21) (oi := { dst := some 88, op := _, type := _, pos := _, after := _, guard := _ }) (v := undef) rfl (by kernel_rfl) (by kernel_rfl) (by kernel_rfl) (fun _ _ _ h => h) (Or.inr ⟨by kernel_rfl, rfl⟩) hSb ?_
          try simp only [Act.put, List.setIfInBounds_toArray, List.set_cons_zero, List.set_cons_succ]
          refine wpAnyH_take (i := 22) (oi := { dst := some 89, op := _, type := _, pos := _, after := _, guard := _ }) (v := undef) rfl (by kernel_rfl) (by kernel_rfl) (by kernel_rfl) (fun _ _ _ h => h) (Or.inr ⟨by kernel_rfl, rfl⟩) hSb ?_
          try simp only [Act.put, List.setIfInBounds_toArray, List.set_cons_zero, List.set_cons_succ]
          refine wpAnyH_take (i := 23) (oi := { dst := some 90, op := _, type := _, pos := _, after := _, guard := _ }) (v := undef) rfl (by kernel_rfl) (by kernel_rfl) (by kernel_rfl) (fun _ _ _ h => h) (Or.inr ⟨by kernel_rfl, rfl⟩) hSb ?_
          try simp only [Act.put, List.setIfInBounds_toArray, List.set_cons_zero, List.set_cons_succ]
          refine wpAnyH_take (i := 24) (oi := { dst := some 91, op := _, type := _, pos := _, after := _, guard := _ }) (v := undef) rfl (by kernel_rfl) (by kernel_rfl) (by kernel_rfl) (fun _ _ _ h => h) (Or.inr ⟨by kernel_rfl, rfl⟩) hSb ?_
          try simp only [Act.put, List.setIfInBounds_toArray, List.set_cons_zero, List.set_cons_succ]
          refine wpAnyH_take (i := 25) (oi := { dst := some 92, op := _, type := _, pos := _, after := _, guard := _ }) (v := undef) rfl (by kernel_rfl) (by kernel_rfl) (by kernel_rfl) (fun _ _ _ h => h) (Or.inr ⟨by kernel_rfl, rfl⟩) hSb ?_
          try simp only [Act.put, List.setIfInBounds_toArray, List.set_cons_zero, List.set_cons_succ]
          refine wpAnyH_take (i := 26) (oi := { dst := some 93, op := _, type := _, pos := _, after := _, guard := _ }) (v := ?vb26_34) rfl (by kernel_rfl) (by kernel_rfl) (by kernel_rfl) (fun _ _ _ h => h) (Or.inl ⟨by kernel_rfl, ?hb26_34⟩) hSb ?rb26_34
          case hb26_34 => first | (intro w hSw; obtain ⟨s0, s1, s2, s3⟩ := hSw; go_simp; done) | (intro w hSw; obtain ⟨s0, s1, s2, s3⟩ := hSw; go_simp; with_reducible rfl)
          try simp only [Act.put, List.setIfInBounds_toArray, List.set_cons_zero, List.set_cons_succ]
          refine wpAnyH_take (i := 27) (oi := { dst := some 94, op := _, type := _, pos := _, after := _, guard := _ }) (v := ?vb27_35) rfl (by kernel_rfl) (by kernel_rfl) (by kernel_rfl) (fun _ _ _ h => h) (Or.inl ⟨by kernel_rfl, ?hb27_35⟩) hSb ?rb27_35
          case hb27_35 => first | (intro w hSw; obtain ⟨s0, s1, s2, s3⟩ := hSw; go_simp; done) | (intro w hSw; obtain ⟨s0, s1, s2, s3⟩ := hSw; go_simp; with_reducible rfl)
          try simp only [Act.put, List.setIfInBounds_toArray, List.set_cons_zero, List.set_cons_succ]
          refine wpAnyH_take (i := 28) (oi := { dst := some 95, op := _, type := _, pos := _, after := _, guard := _ }) (v := ?vb28_36) rfl (by kernel_rfl) (by kernel_rfl) (by kernel_rfl) (fun _ _ _ h => h) (Or.inl ⟨by kernel_rfl, ?hb28_36⟩) hSb ?rb28_36
          case hb28_36 => first | (intro w hSw; obtain ⟨s0, s1, s2, s3⟩ := hSw; go_simp; done) | (intro w hSw; obtain ⟨s0, s1, s2, s3⟩ := hSw; go_simp; with_reducible rfl)
          try simp only [Act.put, List.setIfInBounds_toArray, List.set_cons_zero, List.set_cons_succ]
          refine wpAnyH_take (i := 29) (oi := { dst := some 96, op := _, type := _, pos := _, after := _, guard := _ }) (v := ?vb29_37) rfl (by kernel_rfl) (by kernel_rfl) (by kernel_rfl) (fun _ _ _ h => h) (Or.inl ⟨by kernel_rfl, ?hb29_37⟩) hSb ?rb29_37
          case hb29_37 => first | (intro w hSw; obtain ⟨s0, s1, s2, s3⟩ := hSw; go_simp; done) | (intro w hSw; obtain ⟨s0, s1, s2, s3⟩ := hSw; go_simp; with_reducible rfl)
          try simp only [Act.put, List.setIfInBounds_toArray, List.set_cons_zero, List.set_cons_succ]
          refine wpAnyH_take (i := 30) (oi := { dst := some 97, op := _, type := _, pos := _, after := _, guard := _ }) (v := ?vb30_38) rfl (by kernel_rfl) (by kernel_rfl) (by kernel_rfl) (fun _ _ _ h => h) (Or.inl ⟨by kernel_rfl, ?hb30_38⟩) hSb ?rb30_38
          case hb30_38 => first | (intro w hSw; obtain ⟨s0, s1, s2, s3⟩ := hSw; go_simp; done) | (intro w hSw; obtain ⟨s0, s1, s2, s3⟩ := hSw; go_simp; with_reducible rfl)
          try simp only [Act.put, List.setIfInBounds_toArray, List.set_cons_zero, List.set_cons_succ]
          refine wpAnyH_take (i := 31) (oi := { dst := some 98, op := _, type := _, pos := _, after := _, guard := _ }) (v := ?vb31_39) rfl (by kernel_rfl) (by kernel_rfl) (by kernel_rfl) (fun _ _ _ h => h) (Or.inl ⟨by kernel_rfl, ?hb31_39⟩) hSb ?rb31_39
          case hb31_39 => first | (intro w hSw; obtain ⟨s0, s1, s2, s3⟩ := hSw; go_simp; done) | (intro w hSw; obtain ⟨s0, s1, s2, s3⟩ := hSw; go_simp; with_reducible rfl)
          try simp only [Act.put, List.setIfInBounds_toArray, List.set_cons_zero, List.set_cons_succ]
          refine wpAnyH_take (i := 32) (oi := { dst := some 99, op := _, type := _, pos := _, after := _, guard := _ }) (v := ?vb32_40) rfl (by kernel_rfl) (by kernel_rfl) (by kernel_rfl) (fun _ _ _ h => h) (Or.inl ⟨by kernel_rfl, ?hb32_40⟩) hSb ?rb32_40
          case hb32_40 => first | (intro w hSw; obtain ⟨s0, s1, s2, s3⟩ := hSw; go_simp; done) | (intro w hSw; obtain ⟨s0, s1, s2, s3⟩ := hSw; go_simp; with_reducible rfl)
          try simp only [Act.put, List.setIfInBounds_toArray, List.set_cons_zero, List.set_cons_succ]
          refine wpAnyH_take (i := 33) (oi := { dst := some 100, op := _, type := _, pos := _, after := _, guard := _ }) (v := ?vb33_41) rfl (by kernel_rfl) (by kernel_rfl) (by kernel_rfl) (fun _ _ _ h => h) (Or.inl ⟨by kernel_rfl, ?hb33_41⟩) hSb ?rb33_41
          case hb33_41 => first | (intro w hSw; obtain ⟨s0, s1, s2, s3⟩ := hSw; go_simp; done) | (intro w hSw; obtain ⟨s0, s1, s2, s3⟩ := hSw; go_simp; with_reducible rfl)
          try simp only [Act.put, List.setIfInBounds_toArray, List.set_cons_zero, List.set_cons_succ]
          refine wpAnyH_take (i := 34) (oi := { dst := some 101, op := _, type := _, pos := _, after := _, guard := _ }) (v := ?vb34_42) rfl (by kernel_rfl) (by kernel_rfl) (by kernel_rfl) (fun _ _ _ h => h) (Or.inl ⟨by kernel_rfl, ?hb34_42⟩) hSb ?rb34_42
          case hb34_42 => first | (intro w hSw; obtain ⟨s0, s1, s2, s3⟩ := hSw; go_simp; done) | (intro w hSw; obtain ⟨s0, s1, s2, s3⟩ := hSw; go_simp; with_reducible rfl)
          try simp only [Act.put, List.setIfInBounds_toArray, List.set_cons_zero, List.set_cons_succ]
          refine wpAnyH_take (i := 35) (oi := { dst := some 102, op := _, type := _, pos := _, after := _, guard := _ }) (v := ?vb35_43) rfl (by kernel_rfl) (by kernel_rfl) (by kernel_rfl) (fun _ _ _ h => h) (Or.inl ⟨by kernel_rfl, ?hb35_43⟩) hSb ?rb35_43
          case hb35_43 => first | (intro w hSw; obtain ⟨s0, s1, s2, s3⟩ := hSw; go_simp; done) | (intro w hSw; obtain ⟨s0, s1, s2, s3⟩ := hSw; go_simp; with_reducible rfl)
          try simp only [Act.put, List.setIfInBounds_toArray, List.set_cons_zero, List.set_cons_succ]
          refine wpAnyH_take (i := 36) (oi := { dst := some 103, op := _, type := _, pos := _, after := _, guard := _ }) (v := ?vb36_44) rfl (by kernel_rfl) (by kernel_rfl) (by kernel_rfl) (fun _ _ _ h => h) (Or.inl ⟨by kernel_rfl, ?hb36_44⟩) hSb ?rb36_44
          case hb36_44 => first | (intro w hSw; obtain ⟨s0, s1, s2, s3⟩ := hSw; go_simp; done) | (intro w hSw; obtain ⟨s0, s1, s2, s3⟩ := hSw; go_simp; with_reducible rfl)
          try simp only [Act.put, List.setIfInBounds_toArray, List.set_cons_zero, List.set_cons_succ]
          refine wpAnyH_done (by kernel_rfl) ?_ _
          clear hSb HSO eE
          go_wp2_with fail
          generalize (w9.alloc (Obj.cells #[.int .i64 0, .int .i64 0, .string ⟨#[]⟩] 32)).drew = w10 at *
          have hSc : KeepN w.heap.size n0 n1 w10.drew := KeepN.of (((unhide k1).below (unhide HBn) (unhide HP0)).later (below_draws _ 1))
          refine wp_region_held (S := KeepN w.heap.size n0 n1) (by kernel_rfl) ?_
          change wpAnyH _ _ _ _ _ _ _ _ (World.drew _)
          refine wpAnyH_take (i := 0) (oi := { dst := some 104, op := _, type := _, pos := _, after := _, guard := _ }) (v := ?vc0_45) rfl (by kernel_rfl) (by kernel_rfl) (by kernel_rfl) (fun _ _ _ h => h) (Or.inl ⟨by kernel_rfl, ?hc0_45⟩) hSc ?rc0_45
          case hc0_45 => first | (intro w hSw; obtain ⟨s0, s1⟩ := hSw; go_simp; done) | (intro w hSw; obtain ⟨s0, s1⟩ := hSw; go_simp; with_reducible rfl)
          try simp only [Act.put, List.setIfInBounds_toArray, List.set_cons_zero, List.set_cons_succ]
          refine wpAnyH_take (i := 1) (oi := { dst := some 105, op := _, type := _, pos := _, after := _, guard := _ }) (v := ?vc1_46) rfl (by kernel_rfl) (by kernel_rfl) (by kernel_rfl) (fun _ _ _ h => h) (Or.inl ⟨by kernel_rfl, ?hc1_46⟩) hSc ?rc1_46
          case hc1_46 => first | (intro w hSw; obtain ⟨s0, s1⟩ := hSw; go_simp; done) | (intro w hSw; obtain ⟨s0, s1⟩ := hSw; go_simp; with_reducible rfl)
          try simp only [Act.put, List.setIfInBounds_toArray, List.set_cons_zero, List.set_cons_succ]
          refine wpAnyH_take (i := 2) (oi := { dst := some 106, op := _, type := _, pos := _, after := _, guard := _ }) (v := ?vc2_47) rfl (by kernel_rfl) (by kernel_rfl) (by kernel_rfl) (fun _ _ _ h => h) (Or.inl ⟨by kernel_rfl, ?hc2_47⟩) hSc ?rc2_47
          case hc2_47 => first | (intro w hSw; obtain ⟨s0, s1⟩ := hSw; go_simp; done) | (intro w hSw; obtain ⟨s0, s1⟩ := hSw; go_simp; with_reducible rfl)
          try simp only [Act.put, List.setIfInBounds_toArray, List.set_cons_zero, List.set_cons_succ]
          refine wpAnyH_take (i := 3) (oi := { dst := some 107, op := _, type := _, pos := _, after := _, guard := _ }) (v := ?vc3_48) rfl (by kernel_rfl) (by kernel_rfl) (by kernel_rfl) (fun _ _ _ h => h) (Or.inl ⟨by kernel_rfl, ?hc3_48⟩) hSc ?rc3_48
          case hc3_48 => first | (intro w hSw; obtain ⟨s0, s1⟩ := hSw; go_simp; done) | (intro w hSw; obtain ⟨s0, s1⟩ := hSw; go_simp; with_reducible rfl)
          try simp only [Act.put, List.setIfInBounds_toArray, List.set_cons_zero, List.set_cons_succ]
          refine wpAnyH_take (i := 4) (oi := { dst := some 108, op := _, type := _, pos := _, after := _, guard := _ }) (v := ?vc4_49) rfl (by kernel_rfl) (by kernel_rfl) (by kernel_rfl) (fun _ _ _ h => h) (Or.inl ⟨by kernel_rfl, ?hc4_49⟩) hSc ?rc4_49
          case hc4_49 => first | (intro w hSw; obtain ⟨s0, s1⟩ := hSw; go_simp; done) | (intro w hSw; obtain ⟨s0, s1⟩ := hSw; go_simp; with_reducible rfl)
          try simp only [Act.put, List.setIfInBounds_toArray, List.set_cons_zero, List.set_cons_succ]
          refine wpAnyH_take (i := 5) (oi := { dst := some 109, op := _, type := _, pos := _, after := _, guard := _ }) (v := ?vc5_50) rfl (by kernel_rfl) (by kernel_rfl) (by kernel_rfl) (fun _ _ _ h => h) (Or.inl ⟨by kernel_rfl, ?hc5_50⟩) hSc ?rc5_50
          case hc5_50 => first | (intro w hSw; obtain ⟨s0, s1⟩ := hSw; go_simp; done) | (intro w hSw; obtain ⟨s0, s1⟩ := hSw; go_simp; with_reducible rfl)
          try simp only [Act.put, List.setIfInBounds_toArray, List.set_cons_zero, List.set_cons_succ]
          refine wpAnyH_take (i := 8) (oi := { dst := some 112, op := _, type := _, pos := _, after := _, guard := _ }) (v := ?vc8_51) rfl (by kernel_rfl) (by kernel_rfl) (by kernel_rfl) (fun _ _ _ h => h) (Or.inl ⟨by kernel_rfl, ?hc8_51⟩) hSc ?rc8_51
          case hc8_51 => first | (intro w hSw; obtain ⟨s0, s1⟩ := hSw; go_simp; done) | (intro w hSw; obtain ⟨s0, s1⟩ := hSw; go_simp; with_reducible rfl)
          try simp only [Act.put, List.setIfInBounds_toArray, List.set_cons_zero, List.set_cons_succ]
          refine wpAnyH_take (i := 9) (oi := { dst := some 113, op := _, type := _, pos := _, after := _, guard := _ }) (v := ?vc9_52) rfl (by kernel_rfl) (by kernel_rfl) (by kernel_rfl) (fun _ _ _ h => h) (Or.inl ⟨by kernel_rfl, ?hc9_52⟩) hSc ?rc9_52
          case hc9_52 => first | (intro w hSw; obtain ⟨s0, s1⟩ := hSw; go_simp; done) | (intro w hSw; obtain ⟨s0, s1⟩ := hSw; go_simp; with_reducible rfl)
          try simp only [Act.put, List.setIfInBounds_toArray, List.set_cons_zero, List.set_cons_succ]
          refine wpAnyH_take (i := 10) (oi := { dst := some 114, op := _, type := _, pos := _, after := _, guard := _ }) (v := ?vc10_53) rfl (by kernel_rfl) (by kernel_rfl) (by kernel_rfl) (fun _ _ _ h => h) (Or.inl ⟨by kernel_rfl, ?hc10_53⟩) hSc ?rc10_53
          case hc10_53 => first | (intro w hSw; obtain ⟨s0, s1⟩ := hSw; go_simp; done) | (intro w hSw; obtain ⟨s0, s1⟩ := hSw; go_simp; with_reducible rfl)
          try simp only [Act.put, List.setIfInBounds_toArray, List.set_cons_zero, List.set_cons_succ]
          refine wpAnyH_ready (rs := [6]) (by kernel_rfl) (by simp) ?_
          refine AllReadyH.cons rfl (fun K hK => ?_) AllReadyH.nil
          go_simp
          have hb : Below w10.heap.size w10 (w10.alloc (Obj.cells #[.string n0, .string n1] 9)).drew := tr2 ((Below.refl _ _).alloc (Nat.le_refl _) _) (below_draws _ 1)
          have HZ : Hid (Blk (w10.alloc (Obj.cells #[.string n0, .string n1] 9)).drew w10.heap.size #[.string n0, .string n1] 9) := hide ((Blk.new w10 #[.string n0, .string n1] 9).later (below_draws _ 1))
          replace HTn := hide ((unhide HTn).later hb)
          replace HBn := hide ((unhide HBn).trans (hb.mono (unhide HZn)))
          replace HZn := hide (Nat.le_trans (unhide HZn) hb.size)
          have hSc' := KeepN.of ((unhide k1).below (unhide HBn) (unhide HP0))
          clear hb
          refine hK _ _ hSc' (fun _ => ?_)
          clear hK K hSc
          have hSc := hSc'
          clear hSc'
          refine wpAnyH_ready (rs := [7]) (by kernel_rfl) (by simp) ?_
          refine AllReadyH.cons rfl (fun K hK => ?_) AllReadyH.nil
          go_simp
          refine (unhide I1 _ _ (unhide HTn).1 (view_blk (unhide HZ))).mono ?_
          rintro e w11 ⟨rfl, hb⟩
          replace HTn := hide ((unhide HTn).later hb)
          replace HBn := hide ((unhide HBn).trans (hb.mono (unhide HZn)))
          replace HZn := hide (Nat.le_trans (unhide HZn) hb.size)
          have hSc' := KeepN.of ((unhide k1).below (unhide HBn) (unhide HP0))
          clear hb
          refine hK _ _ hSc' (fun _ => ?_)
          clear hK K hSc
          have hSc := hSc'
          clear hSc'
          refine wpAnyH_ready (rs := [11]) (by kernel_rfl) (by simp) ?_
          refine AllReadyH.cons rfl (fun K hK => ?_) AllReadyH.nil
          go_simp
          refine (unhide I2 _ _ _ (unhide HTn).2.1 (view_blk ((unhide k1).below (unhide HBn) (unhide HP0)))).mono ?_
          rintro e w12 ⟨rfl, hb⟩
          replace HTn := hide ((unhide HTn).later hb)
          replace HBn := hide ((unhide HBn).trans (hb.mono (unhide HZn)))
          replace HZn := hide (Nat.le_trans (unhide HZn) hb.size)
          have hSc' := KeepN.of ((unhide k1).below (unhide HBn) (unhide HP0))
          clear hb
          refine hK _ _ hSc' (fun _ => ?_)
          clear hK K hSc
          have hSc := hSc'
          clear hSc'
          refine wpAnyH_take (i := 12) (oi := { dst := some 116, op := _, type := _, pos := _, after := _, guard := _ }) (v := ?vc12_54) rfl (by kernel_rfl) (by kernel_rfl) (by kernel_rfl) (fun _ _ _ h => h) (Or.inl ⟨by kernel_rfl, ?hc12_54⟩) hSc ?rc12_54
          case hc12_54 => first | (intro w hSw; obtain ⟨s0, s1⟩ := hSw; go_simp; done) | (intro w hSw; obtain ⟨s0, s1⟩ := hSw; go_simp; with_reducible rfl)
          try simp only [Act.put, List.setIfInBounds_toArray, List.set_cons_zero, List.set_cons_succ]
          refine wpAnyH_done (by kernel_rfl) ?_ _
          clear hSc
          go_wp2
          go_roundw
          case rel => exact ⟨k + 1, _, _, _, by omega, by go_num, unhide HL2, unhide HTn, unhide HBn, unhide HZn⟩
          case measure => simp [intOf]; omega
        · obtain ⟨a, x, rfl⟩ := snoc_of L2 (by omega)
          have I1 := hide (fun nv W h hv => in_s P P v2 nv scope [n0.data.toList, n1.data.toList] (a ++ [x]) W h hv)
          have I2 := hide (fun u nv W h hv => rin_any P r u scope nv [n0.data.toList, n1.data.toList] (a ++ [x]) W h (by omega) hv)
          generalize inS scope [n0.data.toList, n1.data.toList] (a ++ [x]) = bI at I1 I2
          unfold ptr at I1 I2
          have TP := hide (fun W h => top_some P P v2 a x W h)
          have CF := hide (fun W => ref_any x W)
          have hla : (a ++ [x]).length = a.length + 1 := by simp
          obtain ⟨hc2, hm2, hg2⟩ := unhide HG2
          rw [hla] at hc2 hg2 hL2
          obtain ⟨g2, hgq, hgl⟩ := hg2 (by omega)
          subst hgq
          obtain ⟨c1, c2, c3⟩ := (RStk.cells (unhide HTn).2.1) a.length (by rw [hla]; omega)
          rw [getD_snoc, Nat.zero_add] at c1 c2 c3
          have c0 : World.cell? _ ⟨r, 0, none⟩ = some (.slice (some ⟨g2, 0, none⟩) (a ++ [x]).length cap2) := (unhide HTn).2.1.1.cell 0
          rw [hla] at c0
          have HS0 := hide (And.intro c0 (And.intro c1 (And.intro c2 c3)))
          obtain ⟨xi, xs, xn⟩ := x
          unfold entV ptr at TP
          unfold entV at CF
          dsimp only at *
          clear hz HG2 c0 c1 c2 c3 hg2 hgl hla
          go_wp2_with fail
          refine (unhide TP _ (unhide HTn).1).mono ?_
          rintro e w9 ⟨rfl, hb⟩
          obtain ⟨c0, c1, c2, c3⟩ := unhide HS0
          replace HTn := hide ((unhide HTn).later hb)
          replace HBn := hide ((unhide HBn).trans (hb.mono (unhide HZn)))
          replace HZn := hide (Nat.le_trans (unhide HZn) hb.size)
          have al : Below w9.heap.size w9 (w9.alloc (Obj.cells #[.int .i64 xi, .int .i64 xs, .string xn] 32)) := (Below.refl _ _).alloc (Nat.le_refl _) _
          have ald := tr2 al (below_draws _ 1)
          have hbd := tr2 hb ald
          have kE := (Blk.new w9 #[.int .i64 xi, .int .i64 xs, .string xn] 32).later (below_draws _ 1)
          have HST : Hid (KeepT r (.slice (some ⟨g2, 0, none⟩) (a.length + 1) cap2) g2 (a.length * 3) w9.heap.size xi xs xn _) := hide ⟨cell_later hbd c0, cell_later hbd c1, cell_later hbd c2, cell_later hbd c3, kE.cell 0, kE.cell 1, kE.cell 2⟩
          have eE : (xn.toList == xn.toList) = true := by simp
          replace HTn := hide ((unhide HTn).later ald)
          replace HBn := hide ((unhide HBn).trans (ald.mono (unhide HZn)))
          replace HZn := hide (Nat.le_trans (unhide HZn) ald.size)
          clear hb al ald hbd kE c0 c1 c2 c3 HS0 TP
          generalize hm0 : a.length = m at hc2 HST
          rw [hm0] at hL2
          clear hm0
          have hi : (0 : Int) ≤ (m : Int) := by omega
          have hwm : IntKind.i64.wrap (m : Int) = m := by rw [IntKind.wrap_i64]; omega
          have hi2 : (0 : Int) < (m : Int) + 1 := by omega
          have hi3 : (m : Int) < (m : Int) + 1 := by omega
          go_wp2_with fail
          have hSb := unhide HST
          refine wp_region_held (S := KeepT r (.slice (some ⟨g2, 0, none⟩) (m + 1) cap2) g2 (m * 3) w9.heap.size xi xs xn) (by kernel_rfl) ?_
          change wpAnyH _ _ _ _ _ _ _ _ (World.drew _)
          refine wpAnyH_take (i := 0) (oi := { dst := some 67, op := _, type := _, pos := _, after := _, guard := _ }) (v := ?vb0_55) rfl (by kernel_rfl) (by kernel_rfl) (by kernel_rfl) (fun _ _ _ h => h) (Or.inl ⟨by kernel_rfl, ?hb0_55⟩) hSb ?rb0_55
          case hb0_55 => first | (intro w hSw; obtain ⟨s0, s1, s2, s3, s4, s5, s6⟩ := hSw; go_simp; done) | (intro w hSw; obtain ⟨s0, s1, s2, s3, s4, s5, s6⟩ := hSw; go_simp; with_reducible rfl)
          try simp only [Act.put, List.setIfInBounds_toArray, List.set_cons_zero, List.set_cons_succ]
          refine wpAnyH_take (i := 1) (oi := { dst := some 68, op := _, type := _, pos := _, after := _, guard := _ }) (v := ?vb1_56) rfl (by kernel_rfl) (by kernel_rfl) (by kernel_rfl) (fun _ _ _ h => h) (Or.inl ⟨by kernel_rfl, ?hb1_56⟩) hSb ?rb1_56
          case hb1_56 => first | (intro w hSw; obtain ⟨s0, s1, s2, s3, s4, s5, s6⟩ := hSw; go_simp; done) | (intro w hSw; obtain ⟨s0, s1, s2, s3, s4, s5, s6⟩ := hSw; go_simp; with_reducible rfl)
          try simp only [Act.put, List.setIfInBounds_toArray, List.set_cons_zero, List.set_cons_succ]
          refine wpAnyH_take (i := 2) (oi := { dst := some 69, op := _, type := _, pos := _, after := _, guard := _ }) (v := ?vb2_57) rfl (by kernel_rfl) (by kernel_rfl) (by kernel_rfl) (fun _ _ _ h => h) (Or.inl ⟨by kernel_rfl, ?hb2_57⟩) hSb ?rb2_57
          case hb2_57 => first | (intro w hSw; obtain ⟨s0, s1, s2, s3, s4, s5, s6⟩ := hSw; go_simp; done) | (intro w hSw; obtain ⟨s0, s1, s2, s3, s4, s5, s6⟩ := hSw; go_simp; with_reducible rfl)
          try simp only [Act.put, List.setIfInBounds_toArray, List.set_cons_zero, List.set_cons_succ]
          refine wpAnyH_take (i := 3) (oi := { dst := some 70, op := _, type := _, pos := _, after := _, guard := _ }) (v := ?vb3_58) rfl (by kernel_rfl) (by kernel_rfl) (by kernel_rfl) (fun _ _ _ h => h) (Or.inl ⟨by kernel_rfl, ?hb3_58⟩) hSb ?rb3_58
          case hb3_58 => first | (intro w hSw; obtain ⟨s0, s1, s2, s3, s4, s5, s6⟩ := hSw; go_simp; done) | (intro w hSw; obtain ⟨s0, s1, s2, s3, s4, s5, s6⟩ := hSw; go_simp; with_reducible rfl)
          try simp only [Act.put, List.setIfInBounds_toArray, List.set_cons_zero, List.set_cons_succ]
          refine wpAnyH_take (i := 4) (oi := { dst := some 71, op := _, type := _, pos := _, after := _, guard := _ }) (v := ?vb4_59) rfl (by kernel_rfl) (by kernel_rfl) (by kernel_rfl) (fun _ _ _ h => h) (Or.inl ⟨by kernel_rfl, ?hb4_59⟩) hSb ?rb4_59
          case hb4_59 => first | (intro w hSw; obtain ⟨s0, s1, s2, s3, s4, s5, s6⟩ := hSw; go_simp; done) | (intro w hSw; obtain ⟨s0, s1, s2, s3, s4, s5, s6⟩ := hSw; go_simp; with_reducible rfl)
          try simp only [Act.put, List.setIfInBounds_toArray, List.set_cons_zero, List.set_cons_succ]
          refine wpAnyH_take (i := 5) (oi := { dst := some 72, op := _, type := _, pos := _, after := _, guard := _ }) (v := ?vb5_60) rfl (by kernel_rfl) (by kernel_rfl) (by kernel_rfl) (fun _ _ _ h => h) (Or.inl ⟨by kernel_rfl, ?hb5_60⟩) hSb ?rb5_60
          case hb5_60 => first | (intro w hSw; obtain ⟨s0, s1, s2, s3, s4, s5, s6⟩ := hSw; go_simp; done) | (intro w hSw; obtain ⟨s0, s1, s2, s3, s4, s5, s6⟩ := hSw; go_simp; with_reducible rfl)
          try simp only [Act.put, List.setIfInBounds_toArray, List.set_cons_zero, List.set_cons_succ]
          refine wpAnyH_take (i := 6) (oi := { dst := some 73, op := _, type := _, pos := _, after := _, guard := _ }) (v := ?vb6_61) rfl (by kernel_rfl) (by kernel_rfl) (by kernel_rfl) (fun _ _ _ h => h) (Or.inl ⟨by kernel_rfl, ?hb6_61⟩) hSb ?rb6_61
          case hb6_61 => first | (intro w hSw; obtain ⟨s0, s1, s2, s3, s4, s5, s6⟩ := hSw; go_simp; done) | (intro w hSw; obtain ⟨s0, s1, s2, s3, s4, s5, s6⟩ := hSw; go_simp; with_reducible rfl)
          try simp only [Act.put, List.setIfInBounds_toArray, List.set_cons_zero, List.set_cons_succ]
          refine wpAnyH_take (i := 7) (oi := { dst := some 74, op := _, type := _, pos := _, after := _, guard := _ }) (v := ?vb7_62) rfl (by kernel_rfl) (by kernel_rfl) (by kernel_rfl) (fun _ _ _ h => h) (Or.inl ⟨by kernel_rfl, ?hb7_62⟩) hSb ?rb7_62
          case hb7_62 => first | (intro w hSw; obtain ⟨s0, s1, s2, s3, s4, s5, s6⟩ := hSw; go_simp; done) | (intro w hSw; obtain ⟨s0, s1, s2, s3, s4, s5, s6⟩ := hSw; go_simp; with_reducible rfl)
          try simp only [Act.put, List.setIfInBounds_toArray, List.set_cons_zero, List.set_cons_succ]
          refine wpAnyH_take (i := 8) (oi := { dst := some 75, op := _, type := _, pos := _, after := _, guard := _ }) (v := ?vb8_63) rfl (by kernel_rfl) (by kernel_rfl) (by kernel_rfl) (fun _ _ _ h => h) (Or.inl ⟨by kernel_rfl, ?hb8_63⟩) hSb ?rb8_63
          case hb8_63 => first | (intro w hSw; obtain ⟨s0, s1, s2, s3, s4, s5, s6⟩ := hSw; go_simp; done) | (intro w hSw; obtain ⟨s0, s1, s2, s3, s4, s5, s6⟩ := hSw; go_simp; with_reducible rfl)
          try simp only [Act.put, List.setIfInBounds_toArray, List.set_cons_zero, List.set_cons_succ]
          refine wpAnyH_take (i := 9) (oi := { dst := some 76, op := _, type := _, pos := _, after := _, guard := _ }) (v := ?vb9_64) rfl (by kernel_rfl) (by kernel_rfl) (by kernel_rfl) (fun _ _ _ h => h) (Or.inl ⟨by kernel_rfl, ?hb9_64⟩) hSb ?rb9_64
          case hb9_64 => first | (intro w hSw; obtain ⟨s0, s1, s2, s3, s4, s5, s6⟩ := hSw; go_simp; done) | (intro w hSw; obtain ⟨s0, s1, s2, s3, s4, s5, s6⟩ := hSw; go_simp; with_reducible rfl)
          try simp only [Act.put, List.setIfInBounds_toArray, List.set_cons_zero, List.set_cons_succ]
          refine wpAnyH_take (i := 10) (oi := { dst := some 77, op := _, type := _, pos := _, after := _, guard := _ }) (v := ?vb10_65) rfl (by kernel_rfl) (by kernel_rfl) (by kernel_rfl) (fun _ _ _ h => h) (Or.inl ⟨by kernel_rfl, ?hb10_65⟩) hSb ?rb10_65
          case hb10_65 => first | (intro w hSw; obtain ⟨s0, s1, s2, s3, s4, s5, s6⟩ := hSw; go_simp; done) | (intro w hSw; obtain ⟨s0, s1, s2, s3, s4, s5, s6⟩ := hSw; go_simp; with_reducible rfl)
          try simp only [Act.put, List.setIfInBounds_toArray, List.set_cons_zero, List.set_cons_succ]
          refine wpAnyH_take (i := 11) (oi := { dst := some 78, op := _, type := _, pos := _, after := _, guard := _ }) (v := ?vb11_66) rfl (by kernel_rfl) (by kernel_rfl) (by kernel_rfl) (fun _ _ _ h => h) (Or.inl ⟨by kernel_rfl, ?hb11_66⟩) hSb ?rb11_66
          case hb11_66 => first | (intro w hSw; obtain ⟨s0, s1, s2, s3, s4, s5, s6⟩ := hSw; go_simp; done) | (intro w hSw; obtain ⟨s0, s1, s2, s3, s4, s5, s6⟩ := hSw; go_simp; with_reducible rfl)
          try simp only [Act.put, List.setIfInBounds_toArray, List.set_cons_zero, List.set_cons_succ]
          refine wpAnyH_take (i := 13) (oi := { dst := some 80, op := _, type := _, pos := _, after := _, guard := _ }) (v := ?vb13_67) rfl (by kernel_rfl) (by kernel_rfl) (by kernel_rfl) (fun _ _ _ h => h) (Or.inl ⟨by kernel_rfl, ?hb13_67⟩) hSb ?rb13_67
          case hb13_67 => first | (intro w hSw; obtain ⟨s0, s1, s2, s3, s4, s5, s6⟩ := hSw; go_simp; done) | (intro w hSw; obtain ⟨s0, s1, s2, s3, s4, s5, s6⟩ := hSw; go_simp; with_reducible rfl)
          try simp only [Act.put, List.setIfInBounds_toArray, List.set_cons_zero, List.set_cons_succ]
          refine wpAnyH_take (i := 14) (oi := { dst := some 81, op := _, type := _, pos := _, after := _, guard := _ }) (v := ?vb14_68) rfl (by kernel_rfl) (by kernel_rfl) (by kernel_rfl) (fun _ _ _ h => h) (Or.inl ⟨by kernel_rfl, ?hb14_68⟩) hSb ?rb14_68
          case hb14_68 => first | (intro w hSw; obtain ⟨s0, s1, s2, s3, s4, s5, s6⟩ := hSw; go_simp; done) | (intro w hSw; obtain ⟨s0, s1, s2, s3, s4, s5, s6⟩ := hSw; go_simp; with_reducible rfl)
          try simp only [Act.put, List.setIfInBounds_toArray, List.set_cons_zero, List.set_cons_succ]
          refine wpAnyH_take (i := 15) (oi := { dst := some 82, op := _, type := _, pos := _, after := _, guard := _ }) (v := ?vb15_69) rfl (by kernel_rfl) (by kernel_rfl) (by kernel_rfl) (fun _ _ _ h => h) (Or.inl ⟨by kernel_rfl, ?hb15_69⟩) hSb ?rb15_69
          case hb15_69 => first | (intro w hSw; obtain ⟨s0, s1, s2, s3, s4, s5, s6⟩ := hSw; go_simp; done) | (intro w hSw; obtain ⟨s0, s1, s2, s3, s4, s5, s6⟩ := hSw; go_simp; with_reducible rfl)
          try simp only [Act.put, List.setIfInBounds_toArray, List.set_cons_zero, List.set_cons_succ]
          refine wpAnyH_take (i := 16) (oi := { dst := some 83, op := _, type := _, pos := _, after := _, guard := _ }) (v := ?vb16_70) rfl (by kernel_rfl) (by kernel_rfl) (by kernel_rfl) (fun _ _ _ h => h) (Or.inl ⟨by kernel_rfl, ?hb16_70⟩) hSb ?rb16_70
          case hb16_70 => first | (intro w hSw; obtain ⟨s0, s1, s2, s3, s4, s5, s6⟩ := hSw; go_simp; done) | (intro w hSw; obtain ⟨s0, s1, s2, s3, s4, s5, s6⟩ := hSw; go_simp; with_reducible rfl)
          try simp only [Act.put, List.setIfInBounds_toArray, List.set_cons_zero, List.set_cons_succ]
          refine wpAnyH_take (i := 17) (oi := { dst := some 84, op := _, type := _, pos := _, after := _, guard := _ }) (v := ?vb17_71) rfl (by kernel_rfl) (by kernel_rfl) (by kernel_rfl) (fun _ _ _ h => h) (Or.inl ⟨by kernel_rfl, ?hb17_71⟩) hSb ?rb17_71
          case hb17_71 => first | (intro w hSw; obtain ⟨s0, s1, s2, s3, s4, s5, s6⟩ := hSw; go_simp; done) | (intro w hSw; obtain ⟨s0, s1, s2, s3, s4, s5, s6⟩ := hSw; go_simp; with_reducible rfl)
          try simp only [Act.put, List.setIfInBounds_toArray, List.set_cons_zero, List.set_cons_succ]
          refine wpAnyH_take (i := 18) (oi := { dst := some 85, op := _, type := _, pos := _, after := _, guard := _ }) (v := ?vb18_72) rfl (by kernel_rfl) (by kernel_rfl) (by kernel_rfl) (fun _ _ _ h => h) (Or.inl ⟨by kernel_rfl, ?hb18_72⟩) hSb ?rb18_72
          case hb18_72 => first | (intro w hSw; obtain ⟨s0, s1, s2, s3, s4, s5, s6⟩ := hSw; go_simp; done) | (intro w hSw; obtain ⟨s0, s1, s2, s3, s4, s5, s6⟩ := hSw; go_simp; with_reducible rfl)
          try simp only [Act.put, List.setIfInBounds_toArray, List.set_cons_zero, List.set_cons_succ]
          refine wpAnyH_take (i := 19) (oi := { dst := some 86, op := _, type := _, pos := _, after := _, guard := _ }) (v := ?vb19_73) rfl (by kernel_rfl) (by kernel_rfl) (by kernel_rfl) (fun _ _ _ h => h) (Or.inl ⟨by kernel_rfl, ?hb19_73⟩) hSb ?rb19_73
          case hb19_73 => first | (intro w hSw; obtain ⟨s0, s1, s2, s3, s4, s5, s6⟩ := hSw; go_simp; done) | (intro w hSw; obtain ⟨s0, s1, s2, s3, s4, s5, s6⟩ := hSw; go_simp; with_reducible rfl)
          try simp only [Act.put, List.setIfInBounds_toArray, List.set_cons_zero, List.set_cons_succ]
          refine wpAnyH_take (i := 20) (oi := { dst := some 87, op := _, type := _, pos := _, after := _, guard := _ }) (v := ?vb20_74) rfl (by kernel_rfl) (by kernel_rfl) (by kernel_rfl) (fun _ _ _ h => h) (Or.inl ⟨by kernel_rfl, ?hb20_74⟩) hSb ?rb20_74
          case hb20_74 => first | (intro w hSw; obtain ⟨s0, s1, s2, s3, s4, s5, s6⟩ := hSw; go_simp; done) | (intro w hSw; obtain ⟨s0, s1, s2, s3, s4, s5, s6⟩ := hSw; go_simp; with_reducible rfl)
          try simp only [Act.put, List.setIfInBounds_toArray, List.set_cons_zero, List.set_cons_succ]
          refine wpAnyH_take (i := 21) (oi := { dst := some 88, op := _, type := _, pos := _, after := _, guard := _ }) (v := ?vb21_75) rfl (by kernel_rfl) (by kernel_rfl) (by kernel_rfl) (fun _ _ _ h => h) (Or.inl ⟨by kernel_rfl, ?hb21_75⟩) hSb ?rb21_75
          case hb21_75 => first | (intro w hSw; obtain ⟨s0, s1, s2, s3, s4, s5, s6⟩ := hSw; go_simp; done) | (intro w hSw; obtain ⟨s0, s1, s2, s3, s4, s5, s6⟩ := hSw; go_simp; with_reducible rfl)
          try simp only [Act.put, List.setIfInBounds_toArray, List.set_cons_zero, List.set_cons_succ]
          refine wpAnyH_take (i := 22) (oi := { dst := some 89, op := _, type := _, pos := _, after := _, guard := _ }) (v := ?vb22_76) rfl (by kernel_rfl) (by kernel_rfl) (by kernel_rfl) (fun _ _ _ h => h) (Or.inl ⟨by kernel_rfl, ?hb22_76⟩) hSb ?rb22_76
          case hb22_76 => first | (intro w hSw; obtain ⟨s0, s1, s2, s3, s4, s5, s6⟩ := hSw; go_simp; done) | (intro w hSw; obtain ⟨s0, s1, s2, s3, s4, s5, s6⟩ := hSw; go_simp; with_reducible rfl)
          try simp only [Act.put, List.setIfInBounds_toArray, List.set_cons_zero, List.set_cons_succ]
          refine wpAnyH_take (i := 23) (oi := { dst := some 90, op := _, type := _, pos := _, after := _, guard := _ }) (v := ?vb23_77) rfl (by kernel_rfl) (by kernel_rfl) (by kernel_rfl) (fun _ _ _ h => h) (Or.inl ⟨by kernel_rfl, ?hb23_77⟩) hSb ?rb23_77
          case hb23_77 => first | (intro w hSw; obtain ⟨s0, s1, s2, s3, s4, s5, s6⟩ := hSw; go_simp; done) | (intro w hSw; obtain ⟨s0, s1, s2, s3, s4, s5, s6⟩ := hSw; go_simp; with_reducible rfl)
          try simp only [Act.put, List.setIfInBounds_toArray, List.set_cons_zero, List.set_cons_succ]
          refine wpAnyH_take (i := 24) (oi := { dst := some 91, op := _, type := _, pos := _, after := _, guard := _ }) (v := ?vb24_78) rfl (by kernel_rfl) (by kernel_rfl) (by kernel_rfl) (fun _ _ _ h => h) (Or.inl ⟨by kernel_rfl, ?hb24_78⟩) hSb ?rb24_78
          case hb24_78 => first | (intro w hSw; obtain ⟨s0, s1, s2, s3, s4, s5, s6⟩ := hSw; go_simp; done) | (intro w hSw; obtain ⟨s0, s1, s2, s3, s4, s5, s6⟩ := hSw; go_simp; with_reducible rfl)
          try simp only [Act.put, List.setIfInBounds_toArray, List.set_cons_zero, List.set_cons_succ]
          refine wpAnyH_ready (rs := [12]) (by kernel_rfl) (by simp) ?_
          refine AllReadyH.cons rfl (fun K hK => ?_) AllReadyH.nil
          go_simp
          refine (unhide CF _).mono ?_
          rintro e w10 ⟨rfl, hb⟩
          have hSb' := hSb.below hb
          replace HTn := hide ((unhide HTn).later hb)
          replace HBn := hide ((unhide HBn).trans (hb.mono (unhide HZn)))
          replace HZn := hide (Nat.le_trans (unhide HZn) hb.size)
          clear hb
          refine hK _ _ hSb' (fun _ => ?_)
          clear hK K hSb
          have hSb := hSb'
          clear hSb'
          refine wpAnyH_take (i := 25) (oi := { dst := some 92, op := _, type := _, pos := _, after := _, guard := _ }) (v := ?vb25_79) rfl (by kernel_rfl) (by kernel_rfl) (by kernel_rfl) (fun _ _ _ h => h) (Or.inl ⟨by kernel_rfl, ?hb25_79⟩) hSb ?rb25_79
          case hb25_79 => first | (intro w hSw; obtain ⟨s0, s1, s2, s3, s4, s5, s6⟩ := hSw; go_simp; done) | (intro w hSw; obtain ⟨s0, s1, s2, s3, s4, s5, s6⟩ := hSw; go_simp; with_reducible rfl)
          try simp only [Act.put, List.setIfInBounds_toArray, List.set_cons_zero, List.set_cons_succ]
          refine wpAnyH_take (i := 26) (oi := { dst := some 93, op := _, type := _, pos := _, after := _, guard := _ }) (v := ?vb26_80) rfl (by kernel_rfl) (by kernel_rfl) (by kernel_rfl) (fun _ _ _ h => h) (Or.inl ⟨by kernel_rfl, ?hb26_80⟩) hSb ?rb26_80
          case hb26_80 => first | (intro w hSw; obtain ⟨s0, s1, s2, s3, s4, s5, s6⟩ := hSw; go_simp; done) | (intro w hSw; obtain ⟨s0, s1, s2, s3, s4, s5, s6⟩ := hSw; go_simp; with_reducible rfl)
          try simp only [Act.put, List.setIfInBounds_toArray, List.set_cons_zero, List.set_cons_succ]
          refine wpAnyH_take (i := 27) (oi := { dst := some 94, op := _, type := _, pos := _, after := _, guard := _ }) (v := ?vb27_81) rfl (by kernel_rfl) (by kernel_rfl) (by kernel_rfl) (fun _ _ _ h => h) (Or.inl ⟨by kernel_rfl, ?hb27_81⟩) hSb ?rb27_81
          case hb27_81 => first | (intro w hSw; obtain ⟨s0, s1, s2, s3, s4, s5, s6⟩ := hSw; go_simp; done) | (intro w hSw; obtain ⟨s0, s1, s2, s3, s4, s5, s6⟩ := hSw; go_simp; with_reducible rfl)
          try simp only [Act.put, List.setIfInBounds_toArray, List.set_cons_zero, List.set_cons_succ]
          refine wpAnyH_take (i := 28) (oi := { dst := some 95, op := _, type := _, pos := _, after := _, guard := _ }) (v := ?vb28_82) rfl (by kernel_rfl) (by kernel_rfl) (by kernel_rfl) (fun _ _ _ h => h) (Or.inl ⟨by kernel_rfl, ?hb28_82⟩) hSb ?rb28_82
          case hb28_82 => first | (intro w hSw; obtain ⟨s0, s1, s2, s3, s4, s5, s6⟩ := hSw; go_simp; done) | (intro w hSw; obtain ⟨s0, s1, s2, s3, s4, s5, s6⟩ := hSw; go_simp; with_reducible rfl)
          try simp only [Act.put, List.setIfInBounds_toArray, List.set_cons_zero, List.set_cons_succ]
          refine wpAnyH_take (i := 29) (oi := { dst := some 96, op := _, type := _, pos := _, after := _, guard := _ }) (v := ?vb29_83) rfl (by kernel_rfl) (by kernel_rfl) (by kernel_rfl) (fun _ _ _ h => h) (Or.inl ⟨by kernel_rfl, ?hb29_83⟩) hSb ?rb29_83
          case hb29_83 => first | (intro w hSw; obtain ⟨s0, s1, s2, s3, s4, s5, s6⟩ := hSw; go_simp; done) | (intro w hSw; obtain ⟨s0, s1, s2, s3, s4, s5, s6⟩ := hSw; go_simp; with_reducible rfl)
          try simp only [Act.put, List.setIfInBounds_toArray, List.set_cons_zero, List.set_cons_succ]
          refine wpAnyH_take (i := 30) (oi := { dst := some 97, op := _, type := _, pos := _, after := _, guard := _ }) (v := ?vb30_84) rfl (by kernel_rfl) (by kernel_rfl) (by kernel_rfl) (fun _ _ _ h => h) (Or.inl ⟨by kernel_rfl, ?hb30_84⟩) hSb ?rb30_84
          case hb30_84 => first | (intro w hSw; obtain ⟨s0, s1, s2, s3, s4, s5, s6⟩ := hSw; go_simp; done) | (intro w hSw; obtain ⟨s0, s1, s2, s3, s4, s5, s6⟩ := hSw; go_simp; with_reducible rfl)
          try simp only [Act.put, List.setIfInBounds_toArray, List.set_cons_zero, List.set_cons_succ]
          refine wpAnyH_take (i := 31) (oi := { dst := some 98, op := _, type := _, pos := _, after := _, guard := _ }) (v := ?vb31_85) rfl (by kernel_rfl) (by kernel_rfl) (by kernel_rfl) (fun _ _ _ h => h) (Or.inl ⟨by kernel_rfl, ?hb31_85⟩) hSb ?rb31_85
          case hb31_85 => first | (intro w hSw; obtain ⟨s0, s1, s2, s3, s4, s5, s6⟩ := hSw; go_simp; done) | (intro w hSw; obtain ⟨s0, s1, s2, s3, s4, s5, s6⟩ := hSw; go_simp; with_reducible rfl)
          try simp only [Act.put, List.setIfInBounds_toArray, List.set_cons_zero, List.set_cons_succ]
          refine wpAnyH_take (i := 32) (oi := { dst := some 99, op := _, type := _, pos := _, after := _, guard := _ }) (v := undef) rfl (by kernel_rfl) (by kernel_rfl) (by kernel_rfl) (fun _ _ _ h => h) (Or.inr ⟨by kernel_rfl, rfl⟩) hSb ?_
          try simp only [Act.put, List.setIfInBounds_toArray, List.set_cons_zero, List.set_cons_succ]
          refine wpAnyH_take (i := 33) (oi := { dst := some 100, op := _, type := _, pos := _, after := _, guard := _ }) (v := undef) rfl (by kernel_rfl) (by kernel_rfl) (by kernel_rfl) (fun _ _ _ h => h) (Or.inr ⟨by kernel_rfl, rfl⟩) hSb ?_
          try simp only [Act.put, List.setIfInBounds_toArray, List.set_cons_zero, List.set_cons_succ]
          refine wpAnyH_take (i := 34) (oi := { dst := some 101, op := _, type := _, pos := _, after := _, guard := _ }) (v := undef) rfl (by kernel_rfl) (by kernel_rfl) (by kernel_rfl) (fun _ _ _ h => h) (Or.inr ⟨by kernel_rfl, rfl⟩) hSb ?_
          try simp only [Act.put, List.setIfInBounds_toArray, List.set_cons_zero, List.set_cons_succ]
          refine wpAnyH_take (i := 35) (oi := { dst := some 102, op := _, type := _, pos := _, after := _, guard := _ }) (v := ?vb35_86) rfl (by kernel_rfl) (by kernel_rfl) (by kernel_rfl) (fun _ _ _ h => h) (Or.inl ⟨by kernel_rfl, ?hb35_86⟩) hSb ?rb35_86
          case hb35_86 => first | (intro w hSw; obtain ⟨s0, s1, s2, s3, s4, s5, s6⟩ := hSw; go_simp; done) | (intro w hSw; obtain ⟨s0, s1, s2, s3, s4, s5, s6⟩ := hSw; go_simp; with_reducible rfl)
          try simp only [Act.put, List.setIfInBounds_toArray, List.set_cons_zero, List.set_cons_succ]
          refine wpAnyH_take (i := 36) (oi := { dst := some 103, op := _, type := _, pos := _, after := _, guard := _ }) (v := ?vb36_87) rfl (by kernel_rfl) (by kernel_rfl) (by kernel_rfl) (fun _ _ _ h => h) (Or.inl ⟨by kernel_rfl, ?hb36_87⟩) hSb ?rb36_87
          case hb36_87 => first | (intro w hSw; obtain ⟨s0, s1, s2, s3, s4, s5, s6⟩ := hSw; go_simp; done) | (intro w hSw; obtain ⟨s0, s1, s2, s3, s4, s5, s6⟩ := hSw; go_simp; with_reducible rfl)
          try simp only [Act.put, List.setIfInBounds_toArray, List.set_cons_zero, List.set_cons_succ]
          refine wpAnyH_done (by kernel_rfl) ?_ _
          clear hSb HST eE hi hwm hi2 hi3
          go_wp2_with fail
          have hSc : KeepN w.heap.size n0 n1 w10.drew := KeepN.of (((unhide k1).below (unhide HBn) (unhide HP0)).later (below_draws _ 1))
          refine wp_region_held (S := KeepN w.heap.size n0 n1) (by kernel_rfl) ?_
          change wpAnyH _ _ _ _ _ _ _ _ (World.drew _)
          refine wpAnyH_take (i := 0) (oi := { dst := some 104, op := _, type := _, pos := _, after := _, guard := _ }) (v := ?vc0_88) rfl (by kernel_rfl) (by kernel_rfl) (by kernel_rfl) (fun _ _ _ h => h) (Or.inl ⟨by kernel_rfl, ?hc0_88⟩) hSc ?rc0_88
          case hc0_88 => first | (intro w hSw; obtain ⟨s0, s1⟩ := hSw; go_simp; done) | (intro w hSw; obtain ⟨s0, s1⟩ := hSw; go_simp; with_reducible rfl)
          try simp only [Act.put, List.setIfInBounds_toArray, List.set_cons_zero, List.set_cons_succ]
          refine wpAnyH_take (i := 1) (oi := { dst := some 105, op := _, type := _, pos := _, after := _, guard := _ }) (v := ?vc1_89) rfl (by kernel_rfl) (by kernel_rfl) (by kernel_rfl) (fun _ _ _ h => h) (Or.inl ⟨by kernel_rfl, ?hc1_89⟩) hSc ?rc1_89
          case hc1_89 => first | (intro w hSw; obtain ⟨s0, s1⟩ := hSw; go_simp; done) | (intro w hSw; obtain ⟨s0, s1⟩ := hSw; go_simp; with_reducible rfl)
          try simp only [Act.put, List.setIfInBounds_toArray, List.set_cons_zero, List.set_cons_succ]
          refine wpAnyH_take (i := 2) (oi := { dst := some 106, op := _, type := _, pos := _, after := _, guard := _ }) (v := ?vc2_90) rfl (by kernel_rfl) (by kernel_rfl) (by kernel_rfl) (fun _ _ _ h => h) (Or.inl ⟨by kernel_rfl, ?hc2_90⟩) hSc ?rc2_90
          case hc2_90 => first | (intro w hSw; obtain ⟨s0, s1⟩ := hSw; go_simp; done) | (intro w hSw; obtain ⟨s0, s1⟩ := hSw; go_simp; with_reducible rfl)
          try simp only [Act.put, List.setIfInBounds_toArray, List.set_cons_zero, List.set_cons_succ]
          refine wpAnyH_take (i := 3) (oi := { dst := some 107, op := _, type := _, pos := _, after := _, guard := _ }) (v := ?vc3_91) rfl (by kernel_rfl) (by kernel_rfl) (by kernel_rfl) (fun _ _ _ h => h) (Or.inl ⟨by kernel_rfl, ?hc3_91⟩) hSc ?rc3_91
          case hc3_91 => first | (intro w hSw; obtain ⟨s0, s1⟩ := hSw; go_simp; done) | (intro w hSw; obtain ⟨s0, s1⟩ := hSw; go_simp; with_reducible rfl)
          try simp only [Act.put, List.setIfInBounds_toArray, List.set_cons_zero, List.set_cons_succ]
          refine wpAnyH_take (i := 4) (oi := { dst := some 108, op := _, type := _, pos := _, after := _, guard := _ }) (v := ?vc4_92) rfl (by kernel_rfl) (by kernel_rfl) (by kernel_rfl) (fun _ _ _ h => h) (Or.inl ⟨by kernel_rfl, ?hc4_92⟩) hSc ?rc4_92
          case hc4_92 => first | (intro w hSw; obtain ⟨s0, s1⟩ := hSw; go_simp; done) | (intro w hSw; obtain ⟨s0, s1⟩ := hSw; go_simp; with_reducible rfl)
          try simp only [Act.put, List.setIfInBounds_toArray, List.set_cons_zero, List.set_cons_succ]
          refine wpAnyH_take (i := 5) (oi := { dst := some 109, op := _, type := _, pos := _, after := _, guard := _ }) (v := ?vc5_93) rfl (by kernel_rfl) (by kernel_rfl) (by kernel_rfl) (fun _ _ _ h => h) (Or.inl ⟨by kernel_rfl, ?hc5_93⟩) hSc ?rc5_93
          case hc5_93 => first | (intro w hSw; obtain ⟨s0, s1⟩ := hSw; go_simp; done) | (intro w hSw; obtain ⟨s0, s1⟩ := hSw; go_simp; with_reducible rfl)
          try simp only [Act.put, List.setIfInBounds_toArray, List.set_cons_zero, List.set_cons_succ]
          refine wpAnyH_take (i := 8) (oi := { dst := some 112, op := _, type := _, pos := _, after := _, guard := _ }) (v := ?vc8_94) rfl (by kernel_rfl) (by kernel_rfl) (by kernel_rfl) (fun _ _ _ h => h) (Or.inl ⟨by kernel_rfl, ?hc8_94⟩) hSc ?rc8_94
          case hc8_94 => first | (intro w hSw; obtain ⟨s0, s1⟩ := hSw; go_simp; done) | (intro w hSw; obtain ⟨s0, s1⟩ := hSw; go_simp; with_reducible rfl)
          try simp only [Act.put, List.setIfInBounds_toArray, List.set_cons_zero, List.set_cons_succ]
          refine wpAnyH_take (i := 9) (oi := { dst := some 113, op := _, type := _, pos := _, after := _, guard := _ }) (v := ?vc9_95) rfl (by kernel_rfl) (by kernel_rfl) (by kernel_rfl) (fun _ _ _ h => h) (Or.inl ⟨by kernel_rfl, ?hc9_95⟩) hSc ?rc9_95
          case hc9_95 => first | (intro w hSw; obtain ⟨s0, s1⟩ := hSw; go_simp; done) | (intro w hSw; obtain ⟨s0, s1⟩ := hSw; go_simp; with_reducible rfl)
          try simp only [Act.put, List.setIfInBounds_toArray, List.set_cons_zero, List.set_cons_succ]
          refine wpAnyH_take (i := 10) (oi := { dst := some 114, op := _, type := _, pos := _, after := _, guard := _ }) (v := ?vc10_96) rfl (by kernel_rfl) (by kernel_rfl) (by kernel_rfl) (fun _ _ _ h => h) (Or.inl ⟨by kernel_rfl, ?hc10_96⟩) hSc ?rc10_96
          case hc10_96 => first | (intro w hSw; obtain ⟨s0, s1⟩ := hSw; go_simp; done) | (intro w hSw; obtain ⟨s0, s1⟩ := hSw; go_simp; with_reducible rfl)
          try simp only [Act.put, List.setIfInBounds_toArray, List.set_cons_zero, List.set_cons_succ]
          refine wpAnyH_ready (rs := [6]) (by kernel_rfl) (by simp) ?_
          refine AllReadyH.cons rfl (fun K hK => ?_) AllReadyH.nil
          go_simp
          have hb : Below w10.heap.size w10 (w10.alloc (Obj.cells #[.string n0, .string n1] 9)).drew := tr2 ((Below.refl _ _).alloc (Nat.le_refl _) _) (below_draws _ 1)
          have HZ : Hid (Blk (w10.alloc (Obj.cells #[.string n0, .string n1] 9)).drew w10.heap.size #[.string n0, .string n1] 9) := hide ((Blk.new w10 #[.string n0, .string n1] 9).later (below_draws _ 1))
          replace HTn := hide ((unhide HTn).later hb)
          replace HBn := hide ((unhide HBn).trans (hb.mono (unhide HZn)))
          replace HZn := hide (Nat.le_trans (unhide HZn) hb.size)
          have hSc' := KeepN.of ((unhide k1).below (unhide HBn) (unhide HP0))
          clear hb
          refine hK _ _ hSc' (fun _ => ?_)
          clear hK K hSc
          have hSc := hSc'
          clear hSc'
          refine wpAnyH_ready (rs := [7]) (by kernel_rfl) (by simp) ?_
          refine AllReadyH.cons rfl (fun K hK => ?_) AllReadyH.nil
          go_simp
          refine (unhide I1 _ _ (unhide HTn).1 (view_blk (unhide HZ))).mono ?_
          rintro e w11 ⟨rfl, hb⟩
          replace HTn := hide ((unhide HTn).later hb)
          replace HBn := hide ((unhide HBn).trans (hb.mono (unhide HZn)))
          replace HZn := hide (Nat.le_trans (unhide HZn) hb.size)
          have hSc' := KeepN.of ((unhide k1).below (unhide HBn) (unhide HP0))
          clear hb
          refine hK _ _ hSc' (fun _ => ?_)
          clear hK K hSc
          have hSc := hSc'
          clear hSc'
          refine wpAnyH_ready (rs := [11]) (by kernel_rfl) (by simp) ?_
          refine AllReadyH.cons rfl (fun K hK => ?_) AllReadyH.nil
          go_simp
          refine (unhide I2 _ _ _ (unhide HTn).2.1 (view_blk ((unhide k1).below (unhide HBn) (unhide HP0)))).mono ?_
          rintro e w12 ⟨rfl, hb⟩
          replace HTn := hide ((unhide HTn).later hb)
          replace HBn := hide ((unhide HBn).trans (hb.mono (unhide HZn)))
          replace HZn := hide (Nat.le_trans (unhide HZn) hb.size)
          have hSc' := KeepN.of ((unhide k1).below (unhide HBn) (unhide HP0))
          clear hb
          refine hK _ _ hSc' (fun _ => ?_)
          clear hK K hSc
          have hSc := hSc'
          clear hSc'
          refine wpAnyH_take (i := 12) (oi := { dst := some 116, op := _, type := _, pos := _, after := _, guard := _ }) (v := ?vc12_97) rfl (by kernel_rfl) (by kernel_rfl) (by kernel_rfl) (fun _ _ _ h => h) (Or.inl ⟨by kernel_rfl, ?hc12_97⟩) hSc ?rc12_97
          case hc12_97 => first | (intro w hSw; obtain ⟨s0, s1⟩ := hSw; go_simp; done) | (intro w hSw; obtain ⟨s0, s1⟩ := hSw; go_simp; with_reducible rfl)
          try simp only [Act.put, List.setIfInBounds_toArray, List.set_cons_zero, List.set_cons_succ]
          refine wpAnyH_done (by kernel_rfl) ?_ _
          clear hSc
          go_wp2
          go_roundw
          case rel => exact ⟨k + 1, _, _, _, by omega, by go_num, unhide HL2, unhide HTn, unhide HBn, unhide HZn⟩
          case measure => simp [intOf]; omega
      · have c4 : World.cell? _ ⟨r, 0, none⟩ = some (.slice q2 L2.length cap2) := (unhide HTn).2.1.1.cell 0
        go_simp
        clear c4
        have hSa' := hSa
        refine hK _ _ hSa' (fun _ => ?_)
        clear hK K hSa
        have hSa := hSa'
        clear hSa'
        refine wpAnyH_ready (rs := [7]) (by kernel_rfl) (by simp) ?_
        refine AllReadyH.cons rfl (fun K hK => ?_) AllReadyH.nil
        go_simp
        refine (unhide CA _ (unhide HTn).1).mono ?_
        rintro e w5 ⟨uu, rfl, hrow, hb⟩
        obtain ⟨qa, na2, ca, rfl⟩ := slice_of hrow
        have HRow := hide hrow
        clear hrow
        replace HTn := hide ((unhide HTn).later hb)
        replace HBn := hide ((unhide HBn).trans (hb.mono (unhide HZn)))
        replace HZn := hide (Nat.le_trans (unhide HZn) hb.size)
        replace HKb := hide ((unhide HKb).later hb)
        have hSa' := BoxS.of (unhide HKb)
        clear hb
        refine hK _ _ hSa' (fun _ => ?_)
        clear hK K hSa
        have hSa := hSa'
        clear hSa'
        refine wpAnyH_ready (rs := [12]) (by kernel_rfl) (by simp) ?_
        refine AllReadyH.cons rfl (fun K hK => ?_) AllReadyH.nil
        go_simp
        refine (same_any _ _ _ _ _ _ L2 _ (by omega) (unhide HRow) (unhide HTn).2.1.2.1).mono ?_
        rintro e w6 ⟨rfl, hb⟩
        replace HTn := hide ((unhide HTn).later hb)
        replace HBn := hide ((unhide HBn).trans (hb.mono (unhide HZn)))
        replace HZn := hide (Nat.le_trans (unhide HZn) hb.size)
        replace HKb := hide ((unhide HKb).later hb)
        have hSa' := BoxS.of (unhide HKb)
        clear hb
        refine hK _ _ hSa' (fun _ => ?_)
        clear hK K hSa
        have hSa := hSa'
        clear hSa'
        refine wpAnyH_take (i := 13) (oi := { dst := some 47, op := _, type := _, pos := _, after := _, guard := _ }) (v := ?va13_98) rfl (by kernel_rfl) (by kernel_rfl) (by kernel_rfl) (fun _ _ _ h => h) (Or.inl ⟨by kernel_rfl, ?ha13_98⟩) hSa ?ra13_98
        case ha13_98 => first | (intro w hSw; obtain ⟨s0, s1, s2, s3, s4, s5, s6⟩ := hSw; go_simp; done) | (intro w hSw; obtain ⟨s0, s1, s2, s3, s4, s5, s6⟩ := hSw; go_simp; with_reducible rfl)
        try simp only [Act.put, List.setIfInBounds_toArray, List.set_cons_zero, List.set_cons_succ]
        refine wpAnyH_take (i := 14) (oi := { dst := some 48, op := _, type := _, pos := _, after := _, guard := _ }) (v := ?va14_99) rfl (by kernel_rfl) (by kernel_rfl) (by kernel_rfl) (fun _ _ _ h => h) (Or.inl ⟨by kernel_rfl, ?ha14_99⟩) hSa ?ra14_99
        case ha14_99 => first | (intro w hSw; obtain ⟨s0, s1, s2, s3, s4, s5, s6⟩ := hSw; go_simp; done) | (intro w hSw; obtain ⟨s0, s1, s2, s3, s4, s5, s6⟩ := hSw; go_simp; with_reducible rfl)
        try simp only [Act.put, List.setIfInBounds_toArray, List.set_cons_zero, List.set_cons_succ]
        refine wpAnyH_take (i := 15) (oi := { dst := some 49, op := _, type := _, pos := _, after := _, guard := _ }) (v := ?va15_100) rfl (by kernel_rfl) (by kernel_rfl) (by kernel_rfl) (fun _ _ _ h => h) (Or.inl ⟨by kernel_rfl, ?ha15_100⟩) hSa ?ra15_100
        case ha15_100 => first | (intro w hSw; obtain ⟨s0, s1, s2, s3, s4, s5, s6⟩ := hSw; go_simp; done) | (intro w hSw; obtain ⟨s0, s1, s2, s3, s4, s5, s6⟩ := hSw; go_simp; with_reducible rfl)
        try simp only [Act.put, List.setIfInBounds_toArray, List.set_cons_zero, List.set_cons_succ]
        refine wpAnyH_take (i := 16) (oi := { dst := some 50, op := _, type := _, pos := _, after := _, guard := _ }) (v := ?va16_101) rfl (by kernel_rfl) (by kernel_rfl) (by kernel_rfl) (fun _ _ _ h => h) (Or.inl ⟨by kernel_rfl, ?ha16_101⟩) hSa ?ra16_101
        case ha16_101 => first | (intro w hSw; obtain ⟨s0, s1, s2, s3, s4, s5, s6⟩ := hSw; go_simp; done) | (intro w hSw; obtain ⟨s0, s1, s2, s3, s4, s5, s6⟩ := hSw; go_simp; with_reducible rfl)
        try simp only [Act.put, List.setIfInBounds_toArray, List.set_cons_zero, List.set_cons_succ]
        refine wpAnyH_take (i := 17) (oi := { dst := some 51, op := _, type := _, pos := _, after := _, guard := _ }) (v := ?va17_102) rfl (by kernel_rfl) (by kernel_rfl) (by kernel_rfl) (fun _ _ _ h => h) (Or.inl ⟨by kernel_rfl, ?ha17_102⟩) hSa ?ra17_102
        case ha17_102 => first | (intro w hSw; obtain ⟨s0, s1, s2, s3, s4, s5, s6⟩ := hSw; go_simp; done) | (intro w hSw; obtain ⟨s0, s1, s2, s3, s4, s5, s6⟩ := hSw; go_simp; with_reducible rfl)
        try simp only [Act.put, List.setIfInBounds_toArray, List.set_cons_zero, List.set_cons_succ]
        refine wpAnyH_take (i := 18) (oi := { dst := some 52, op := _, type := _, pos := _, after := _, guard := _ }) (v := ?va18_103) rfl (by kernel_rfl) (by kernel_rfl) (by kernel_rfl) (fun _ _ _ h => h) (Or.inl ⟨by kernel_rfl, ?ha18_103⟩) hSa ?ra18_103
        case ha18_103 => first | (intro w hSw; obtain ⟨s0, s1, s2, s3, s4, s5, s6⟩ := hSw; go_simp; done) | (intro w hSw; obtain ⟨s0, s1, s2, s3, s4, s5, s6⟩ := hSw; go_simp; with_reducible rfl)
        try simp only [Act.put, List.setIfInBounds_toArray, List.set_cons_zero, List.set_cons_succ]
        refine wpAnyH_take (i := 19) (oi := { dst := some 53, op := _, type := _, pos := _, after := _, guard := _ }) (v := ?va19_104) rfl (by kernel_rfl) (by kernel_rfl) (by kernel_rfl) (fun _ _ _ h => h) (Or.inl ⟨by kernel_rfl, ?ha19_104⟩) hSa ?ra19_104
        case ha19_104 => first | (intro w hSw; obtain ⟨s0, s1, s2, s3, s4, s5, s6⟩ := hSw; go_simp; done) | (intro w hSw; obtain ⟨s0, s1, s2, s3, s4, s5, s6⟩ := hSw; go_simp; with_reducible rfl)
        try simp only [Act.put, List.setIfInBounds_toArray, List.set_cons_zero, List.set_cons_succ]
        refine wpAnyH_take (i := 21) (oi := { dst := some 55, op := _, type := _, pos := _, after := _, guard := _ }) (v := ?va21_105) rfl (by kernel_rfl) (by kernel_rfl) (by kernel_rfl) (fun _ _ _ h => h) (Or.inl ⟨by kernel_rfl, ?ha21_105⟩) hSa ?ra21_105
        case ha21_105 => first | (intro w hSw; obtain ⟨s0, s1, s2, s3, s4, s5, s6⟩ := hSw; go_simp; done) | (intro w hSw; obtain ⟨s0, s1, s2, s3, s4, s5, s6⟩ := hSw; go_simp; with_reducible rfl)
        try simp only [Act.put, List.setIfInBounds_toArray, List.set_cons_zero, List.set_cons_succ]
        refine wpAnyH_take (i := 22) (oi := { dst := some 56, op := _, type := _, pos := _, after := _, guard := _ }) (v := ?va22_106) rfl (by kernel_rfl) (by kernel_rfl) (by kernel_rfl) (fun _ _ _ h => h) (Or.inl ⟨by kernel_rfl, ?ha22_106⟩) hSa ?ra22_106
        case ha22_106 => first | (intro w hSw; obtain ⟨s0, s1, s2, s3, s4, s5, s6⟩ := hSw; go_simp; done) | (intro w hSw; obtain ⟨s0, s1, s2, s3, s4, s5, s6⟩ := hSw; go_simp; with_reducible rfl)
        try simp only [Act.put, List.setIfInBounds_toArray, List.set_cons_zero, List.set_cons_succ]
        refine wpAnyH_take (i := 23) (oi := { dst := some 57, op := _, type := _, pos := _, after := _, guard := _ }) (v := ?va23_107) rfl (by kernel_rfl) (by kernel_rfl) (by kernel_rfl) (fun _ _ _ h => h) (Or.inl ⟨by kernel_rfl, ?ha23_107⟩) hSa ?ra23_107
        case ha23_107 => first | (intro w hSw; obtain ⟨s0, s1, s2, s3, s4, s5, s6⟩ := hSw; go_simp; done) | (intro w hSw; obtain ⟨s0, s1, s2, s3, s4, s5, s6⟩ := hSw; go_simp; with_reducible rfl)
        try simp only [Act.put, List.setIfInBounds_toArray, List.set_cons_zero, List.set_cons_succ]
        refine wpAnyH_take (i := 24) (oi := { dst := some 58, op := _, type := _, pos := _, after := _, guard := _ }) (v := ?va24_108) rfl (by kernel_rfl) (by kernel_rfl) (by kernel_rfl) (fun _ _ _ h => h) (Or.inl ⟨by kernel_rfl, ?ha24_108⟩) hSa ?ra24_108
        case ha24_108 => first | (intro w hSw; obtain ⟨s0, s1, s2, s3, s4, s5, s6⟩ := hSw; go_simp; done) | (intro w hSw; obtain ⟨s0, s1, s2, s3, s4, s5, s6⟩ := hSw; go_simp; with_reducible rfl)
        try simp only [Act.put, List.setIfInBounds_toArray, List.set_cons_zero, List.set_cons_succ]
        refine wpAnyH_ready (rs := [20]) (by kernel_rfl) (by simp) ?_
        refine AllReadyH.cons rfl (fun K hK => ?_) AllReadyH.nil
        go_simp
        refine (unhide F1 _ (unhide HTn).1).mono ?_
        rintro e w7 ⟨rfl, hw7⟩
        subst hw7
        have hSa' := hSa
        refine hK _ _ hSa' (fun _ => ?_)
        clear hK K hSa
        have hSa := hSa'
        clear hSa'
        refine wpAnyH_ready (rs := [25]) (by kernel_rfl) (by simp) ?_
        refine AllReadyH.cons rfl (fun K hK => ?_) AllReadyH.nil
        go_simp
        refine (unhide F2 _ _ (unhide HTn).2.1).mono ?_
        rintro e w8 ⟨rfl, hb⟩
        replace HTn := hide ((unhide HTn).later hb)
        replace HBn := hide ((unhide HBn).trans (hb.mono (unhide HZn)))
        replace HZn := hide (Nat.le_trans (unhide HZn) hb.size)
        replace HKb := hide ((unhide HKb).later hb)
        have hSa' := BoxS.of (unhide HKb)
        clear hb
        refine hK _ _ hSa' (fun _ => ?_)
        clear hK K hSa
        have hSa := hSa'
        clear hSa'
        refine wpAnyH_take (i := 26) (oi := { dst := some 60, op := _, type := _, pos := _, after := _, guard := _ }) (v := ?va26_109) rfl (by kernel_rfl) (by kernel_rfl) (by kernel_rfl) (fun _ _ _ h => h) (Or.inl ⟨by kernel_rfl, ?ha26_109⟩) hSa ?ra26_109
        case ha26_109 => first | (intro w hSw; obtain ⟨s0, s1, s2, s3, s4, s5, s6⟩ := hSw; go_simp; done) | (intro w hSw; obtain ⟨s0, s1, s2, s3, s4, s5, s6⟩ := hSw; go_simp; with_reducible rfl)
        try simp only [Act.put, List.setIfInBounds_toArray, List.set_cons_zero, List.set_cons_succ]
        refine wpAnyH_take (i := 27) (oi := { dst := some 61, op := _, type := _, pos := _, after := _, guard := _ }) (v := ?va27_110) rfl (by kernel_rfl) (by kernel_rfl) (by kernel_rfl) (fun _ _ _ h => h) (Or.inl ⟨by kernel_rfl, ?ha27_110⟩) hSa ?ra27_110
        case ha27_110 => first | (intro w hSw; obtain ⟨s0, s1, s2, s3, s4, s5, s6⟩ := hSw; go_simp; done) | (intro w hSw; obtain ⟨s0, s1, s2, s3, s4, s5, s6⟩ := hSw; go_simp; with_reducible rfl)
        try simp only [Act.put, List.setIfInBounds_toArray, List.set_cons_zero, List.set_cons_succ]
        refine wpAnyH_done (by kernel_rfl) ?_ _
        clear hSa HS HKb F1 F2 enn CA HRow
        have HL2 := hide hL2
        by_cases hz : L2.length = 0
        · obtain rfl := List.eq_nil_of_length_eq_zero hz
          have I1 := hide (fun nv W h hv => in_s P P v2 nv scope [n0.data.toList, n1.data.toList] [] W h hv)
          have I2 := hide (fun u nv W h hv => rin_any P r u scope nv [n0.data.toList, n1.data.toList] [] W h (by simp) hv)
          generalize inS scope [n0.data.toList, n1.data.toList] [] = bI at I1 I2
          unfold ptr at I1 I2
          have TP := hide (fun W (hW : Stk P P v2 [] W) => by
              obtain ⟨q, cap, e, _⟩ := hW.slice
              exact top_none (ptr P) q cap W (hide fun w2 hb2 => by
                have hl := hW.later hb2
                rw [e] at hl
                exact entries_at P _ w2 hl.1 ⟨_, _, _, rfl⟩))
          unfold entV e0 ptr at TP
          dsimp only at TP
          clear hz hL2 HG2
          go_wp2_with fail
          refine (unhide TP _ (unhide HTn).1).mono ?_
          rintro e w9 ⟨rfl, hb⟩
          replace HTn := hide ((unhide HTn).later hb)
          replace HBn := hide ((unhide HBn).trans (hb.mono (unhide HZn)))
          replace HZn := hide (Nat.le_trans (unhide HZn) hb.size)
          clear hb TP
          have al : Below w9.heap.size w9 (w9.alloc (Obj.cells #[.int .i64 0, .int .i64 0, .string ⟨#[]⟩] 32)) := (Below.refl _ _).alloc (Nat.le_refl _) _
          have ald : Below w9.heap.size w9 (w9.alloc (Obj.cells #[.int .i64 0, .int .i64 0, .string ⟨#[]⟩] 32)).drew := tr2 al (below_draws _ 1)
          have kE := (Blk.new w9 #[.int .i64 0, .int .i64 0, .string ⟨#[]⟩] 32).later (below_draws _ 1)
          have c9 : w9.cell? ⟨r, 0, none⟩ = some (.slice q2 0 cap2) := (unhide HTn).2.1.1.cell 0
          have HSO : Hid (KeepO r (.slice q2 0 cap2) w9.heap.size _) := hide ⟨cell_later ald c9, kE.cell 0, kE.cell 1, kE.cell 2⟩
          have eE : ((ByteArray.mk #[]).toList == (ByteArray.mk #[]).toList) = true := by simp
          replace HTn := hide ((unhide HTn).later ald)
          replace HBn := hide ((unhide HBn).trans (ald.mono (unhide HZn)))
          replace HZn := hide (Nat.le_trans (unhide HZn) ald.size)
          clear al ald kE c9
          go_wp2_with fail
          have hSb := unhide HSO
          refine wp_region_held (S := KeepO r (.slice q2 0 cap2) w9.heap.size) (by kernel_rfl) ?_
          change wpAnyH _ _ _ _ _ _ _ _ (World.drew _)
          refine wpAnyH_take (i := 0) (oi := { dst := some 67, op := _, type := _, pos := _, after := _, guard := _ }) (v := ?vb0_111) rfl (by kernel_rfl) (by kernel_rfl) (by kernel_rfl) (fun _ _ _ h => h) (Or.inl ⟨by kernel_rfl, ?hb0_111⟩) hSb ?rb0_111
          case hb0_111 => first | (intro w hSw; obtain ⟨s0, s1, s2, s3⟩ := hSw; go_simp; done) | (intro w hSw; obtain ⟨s0, s1, s2, s3⟩ := hSw; go_simp; with_reducible rfl)
          try simp only [Act.put, List.setIfInBounds_toArray, List.set_cons_zero, List.set_cons_succ]
          refine wpAnyH_take (i := 1) (oi := { dst := some 68, op := _, type := _, pos := _, after := _, guard := _ }) (v := ?vb1_112) rfl (by kernel_rfl) (by kernel_rfl) (by kernel_rfl) (fun _ _ _ h => h) (Or.inl ⟨by kernel_rfl, ?hb1_112⟩) hSb ?rb1_112
          case hb1_112 => first | (intro w hSw; obtain ⟨s0, s1, s2, s3⟩ := hSw; go_simp; done) | (intro w hSw; obtain ⟨s0, s1, s2, s3⟩ := hSw; go_simp; with_reducible rfl)
          try simp only [Act.put, List.setIfInBounds_toArray, List.set_cons_zero, List.set_cons_succ]
          refine wpAnyH_take (i := 2) (oi := { dst := some 69, op := _, type := _, pos := _, after := _, guard := _ }) (v := ?vb2_113) rfl (by kernel_rfl) (by kernel_rfl) (by kernel_rfl) (fun _ _ _ h => h) (Or.inl ⟨by kernel_rfl, ?hb2_113⟩) hSb ?rb2_113
          case hb2_113 => first | (intro w hSw; obtain ⟨s0, s1, s2, s3⟩ := hSw; go_simp; done) | (intro w hSw; obtain ⟨s0, s1, s2, s3⟩ := hSw; go_simp; with_reducible rfl)
          try simp only [Act.put, List.setIfInBounds_toArray, List.set_cons_zero, List.set_cons_succ]
          refine wpAnyH_take (i := 3) (oi := { dst := some 70, op := _, type := _, pos := _, after := _, guard := _ }) (v := ?vb3_114) rfl (by kernel_rfl) (by kernel_rfl) (by kernel_rfl) (fun _ _ _ h => h) (Or.inl ⟨by kernel_rfl, ?hb3_114⟩) hSb ?rb3_114
          case hb3_114 => first | (intro w hSw; obtain ⟨s0, s1, s2, s3⟩ := hSw; go_simp; done) | (intro w hSw; obtain ⟨s0, s1, s2, s3⟩ := hSw; go_simp; with_reducible rfl)
          try simp only [Act.put, List.setIfInBounds_toArray, List.set_cons_zero, List.set_cons_succ]
          refine wpAnyH_take (i := 4) (oi := { dst := some 71, op := _, type := _, pos := _, after := _, guard := _ }) (v := ?vb4_115) rfl (by kernel_rfl) (by kernel_rfl) (by kernel_rfl) (fun _ _ _ h => h) (Or.inl ⟨by kernel_rfl, ?hb4_115⟩) hSb ?rb4_115
          case hb4_115 => first | (intro w hSw; obtain ⟨s0, s1, s2, s3⟩ := hSw; go_simp; done) | (intro w hSw; obtain ⟨s0, s1, s2, s3⟩ := hSw; go_simp; with_reducible rfl)
          try simp only [Act.put, List.setIfInBounds_toArray, List.set_cons_zero, List.set_cons_succ]
          refine wpAnyH_take (i := 5) (oi := { dst := some 72, op := _, type := _, pos := _, after := _, guard := _ }) (v := ?vb5_116) rfl (by kernel_rfl) (by kernel_rfl) (by kernel_rfl) (fun _ _ _ h => h) (Or.inl ⟨by kernel_rfl, ?hb5_116⟩) hSb ?rb5_116
          case hb5_116 => first | (intro w hSw; obtain ⟨s0, s1, s2, s3⟩ := hSw; go_simp; done) | (intro w hSw; obtain ⟨s0, s1, s2, s3⟩ := hSw; go_simp; with_reducible rfl)
          try simp only [Act.put, List.setIfInBounds_toArray, List.set_cons_zero, List.set_cons_succ]
          refine wpAnyH_take (i := 6) (oi := { dst := some 73, op := _, type := _, pos := _, after := _, guard := _ }) (v := ?vb6_117) rfl (by kernel_rfl) (by kernel_rfl) (by kernel_rfl) (fun _ _ _ h => h) (Or.inl ⟨by kernel_rfl, ?hb6_117⟩) hSb ?rb6_117
          case hb6_117 => first | (intro w hSw; obtain ⟨s0, s1, s2, s3⟩ := hSw; go_simp; done) | (intro w hSw; obtain ⟨s0, s1, s2, s3⟩ := hSw; go_simp; with_reducible rfl)
          try simp only [Act.put, List.setIfInBounds_toArray, List.set_cons_zero, List.set_cons_succ]
          refine wpAnyH_take (i := 7) (oi := { dst := some 74, op := _, type := _, pos := _, after := _, guard := _ }) (v := ?vb7_118) rfl (by kernel_rfl) (by kernel_rfl) (by kernel_rfl) (fun _ _ _ h => h) (Or.inl ⟨by kernel_rfl, ?hb7_118⟩) hSb ?rb7_118
          case hb7_118 => first | (intro w hSw; obtain ⟨s0, s1, s2, s3⟩ := hSw; go_simp; done) | (intro w hSw; obtain ⟨s0, s1, s2, s3⟩ := hSw; go_simp; with_reducible rfl)
          try simp only [Act.put, List.setIfInBounds_toArray, List.set_cons_zero, List.set_cons_succ]
          refine wpAnyH_take (i := 8) (oi := { dst := some 75, op := _, type := _, pos := _, after := _, guard := _ }) (v := ?vb8_119) rfl (by kernel_rfl) (by kernel_rfl) (by kernel_rfl) (fun _ _ _ h => h) (Or.inl ⟨by kernel_rfl, ?hb8_119⟩) hSb ?rb8_119
          case hb8_119 => first | (intro w hSw; obtain ⟨s0, s1, s2, s3⟩ := hSw; go_simp; done) | (intro w hSw; obtain ⟨s0, s1, s2, s3⟩ := hSw; go_simp; with_reducible rfl)
          try simp only [Act.put, List.setIfInBounds_toArray, List.set_cons_zero, List.set_cons_succ]
          refine wpAnyH_take (i := 9) (oi := { dst := some 76, op := _, type := _, pos := _, after := _, guard := _ }) (v := ?vb9_120) rfl (by kernel_rfl) (by kernel_rfl) (by kernel_rfl) (fun _ _ _ h => h) (Or.inl ⟨by kernel_rfl, ?hb9_120⟩) hSb ?rb9_120
          case hb9_120 => first | (intro w hSw; obtain ⟨s0, s1, s2, s3⟩ := hSw; go_simp; done) | (intro w hSw; obtain ⟨s0, s1, s2, s3⟩ := hSw; go_simp; with_reducible rfl)
          try simp only [Act.put, List.setIfInBounds_toArray, List.set_cons_zero, List.set_cons_succ]
          refine wpAnyH_take (i := 10) (oi := { dst := some 77, op := _, type := _, pos := _, after := _, guard := _ }) (v := ?vb10_121) rfl (by kernel_rfl) (by kernel_rfl) (by kernel_rfl) (fun _ _ _ h => h) (Or.inl ⟨by kernel_rfl, ?hb10_121⟩) hSb ?rb10_121
          case hb10_121 => first | (intro w hSw; obtain ⟨s0, s1, s2, s3⟩ := hSw; go_simp; done) | (intro w hSw; obtain ⟨s0, s1, s2, s3⟩ := hSw; go_simp; with_reducible rfl)
          try simp only [Act.put, List.setIfInBounds_toArray, List.set_cons_zero, List.set_cons_succ]
          refine wpAnyH_take (i := 11) (oi := { dst := some 78, op := _, type := _, pos := _, after := _, guard := _ }) (v := undef) rfl (by kernel_rfl) (by kernel_rfl) (by kernel_rfl) (fun _ _ _ h => h) (Or.inr ⟨by kernel_rfl, rfl⟩) hSb ?_
          try simp only [Act.put, List.setIfInBounds_toArray, List.set_cons_zero, List.set_cons_succ]
          refine wpAnyH_take (i := 12) (oi := { dst := some 79, op := _, type := _, pos := _, after := _, guard := _ }) (v := undef) rfl (by kernel_rfl) (by kernel_rfl) (by kernel_rfl) (fun _ _ _ h => h) (Or.inr ⟨by kernel_rfl, rfl⟩) hSb ?_
          try simp only [Act.put, List.setIfInBounds_toArray, List.set_cons_zero, List.set_cons_succ]
          refine wpAnyH_take (i := 13) (oi := { dst := some 80, op := _, type := _, pos := _, after := _, guard := _ }) (v := undef) rfl (by kernel_rfl) (by kernel_rfl) (by kernel_rfl) (fun _ _ _ h => h) (Or.inr ⟨by kernel_rfl, rfl⟩) hSb ?_
          try simp only [Act.put, List.setIfInBounds_toArray, List.set_cons_zero, List.set_cons_succ]
          refine wpAnyH_take (i := 14) (oi := { dst := some 81, op := _, type := _, pos := _, after := _, guard := _ }) (v := undef) rfl (by kernel_rfl) (by kernel_rfl) (by kernel_rfl) (fun _ _ _ h => h) (Or.inr ⟨by kernel_rfl, rfl⟩) hSb ?_
          try simp only [Act.put, List.setIfInBounds_toArray, List.set_cons_zero, List.set_cons_succ]
          refine wpAnyH_take (i := 15) (oi := { dst := some 82, op := _, type := _, pos := _, after := _, guard := _ }) (v := undef) rfl (by kernel_rfl) (by kernel_rfl) (by kernel_rfl) (fun _ _ _ h => h) (Or.inr ⟨by kernel_rfl, rfl⟩) hSb ?_
          try simp only [Act.put, List.setIfInBounds_toArray, List.set_cons_zero, List.set_cons_succ]
          refine wpAnyH_take (i := 16) (oi := { dst := some 83, op := _, type := _, pos := _, after := _, guard := _ }) (v := undef) rfl (by kernel_rfl) (by kernel_rfl) (by kernel_rfl) (fun _ _ _ h => h) (Or.inr ⟨by kernel_rfl, rfl⟩) hSb ?_
          try simp only [Act.put, List.setIfInBounds_toArray, List.set_cons_zero, List.set_cons_succ]
          refine wpAnyH_take (i := 17) (oi := { dst := some 84, op := _, type := _, pos := _, after := _, guard := _ }) (v := undef) rfl (by kernel_rfl) (by kernel_rfl) (by kernel_rfl) (fun _ _ _ h => h) (Or.inr ⟨by kernel_rfl, rfl⟩) hSb ?_
          try simp only [Act.put, List.setIfInBounds_toArray, List.set_cons_zero, List.set_cons_succ]
          refine wpAnyH_take (i := 18) (oi := { dst := some 85, op := _, type := _, pos := _, after := _, guard := _ }) (v := undef) rfl (by kernel_rfl) (by kernel_rfl) (by kernel_rfl) (fun _ _ _ h => h) (Or.inr ⟨by kernel_rfl, rfl⟩) hSb ?_
          try simp only [Act.put, List.setIfInBounds_toArray, List.set_cons_zero, List.set_cons_succ]
          refine wpAnyH_take (i := 19) (oi := { dst := some 86, op := _, type := _, pos := _, after := _, guard := _ }) (v := undef) rfl (by kernel_rfl) (by kernel_rfl) (by kernel_rfl) (fun _ _ _ h => h) (Or.inr ⟨by kernel_rfl, rfl⟩) hSb ?_
          try simp only [Act.put, List.setIfInBounds_toArray, List.set_cons_zero, List.set_cons_succ]
          refine wpAnyH_take (i := 20) (oi := { dst := some 87, op := _, type := _, pos := _, after := _, guard := _ }) (v := undef) rfl (by kernel_rfl) (by kernel_rfl) (by kernel_rfl) (fun _ _ _ h => h) (Or.inr ⟨by kernel_rfl, rfl⟩) hSb ?_
          try simp only [Act.put, List.setIfInBounds_toArray, List.set_cons_zero, List.set_cons_succ]
          refine wpAnyH_take (i := 21) (oi := { dst := some 88, op := _, type := _, pos := _, after := _, guard := _ }) (v := undef) rfl (by kernel_rfl) (by kernel_rfl) (by kernel_rfl) (fun _ _ _ h => h) (Or.inr ⟨by kernel_rfl, rfl⟩) hSb ?_
          try simp only [Act.put, List.setIfInBounds_toArray, List.set_cons_zero, List.set_cons_succ]
          refine wpAnyH_take (i := 22) (oi := { dst := some 89, op := _, type := _, pos := _, after := _, guard := _ }) (v := undef) rfl (by kernel_rfl) (by kernel_rfl) (by kernel_rfl) (fun _ _ _ h => h) (Or.inr ⟨by kernel_rfl, rfl⟩) hSb ?_
          try simp only [Act.put, List.setIfInBounds_toArray, List.set_cons_zero, List.set_cons_succ]
          refine wpAnyH_take (i := 23) (oi := { dst := some 90, op := _, type := _, pos := _, after := _, guard := _ }) (v := undef) rfl (by kernel_rfl) (by kernel_rfl) (by kernel_rfl) (fun _ _ _ h => h) (Or.inr ⟨by kernel_rfl, rfl⟩) hSb ?_
          try simp only [Act.put, List.setIfInBounds_toArray, List.set_cons_zero, List.set_cons_succ]
          refine wpAnyH_take (i := 24) (oi := { dst := some 91, op := _, type := _, pos := _, after := _, guard := _ }) (v := undef) rfl (by kernel_rfl) (by kernel_rfl) (by kernel_rfl) (fun _ _ _ h => h) (Or.inr ⟨by kernel_rfl, rfl⟩) hSb ?_
          try simp only [Act.put, List.setIfInBounds_toArray, List.set_cons_zero, List.set_cons_succ]
          refine wpAnyH_take (i := 25) (oi := { dst := some 92, op := _, type := _, pos := _, after := _, guard := _ }) (v := undef) rfl (by kernel_rfl) (by kernel_rfl) (by kernel_rfl) (fun _ _ _ h => h) (Or.inr ⟨by kernel_rfl, rfl⟩) hSb ?_
          try simp only [Act.put, List.setIfInBounds_toArray, List.set_cons_zero, List.set_cons_succ]
          refine wpAnyH_take (i := 26) (oi := { dst := some 93, op := _, type := _, pos := _, after := _, guard := _ }) (v := ?vb26_122) rfl (by kernel_rfl) (by kernel_rfl) (by kernel_rfl) (fun _ _ _ h => h) (Or.inl ⟨by kernel_rfl, ?hb26_122⟩) hSb ?rb26_122
          case hb26_122 => first | (intro w hSw; obtain ⟨s0, s1, s2, s3⟩ := hSw; go_simp; done) | (intro w hSw; obtain ⟨s0, s1, s2, s3⟩ := hSw; go_simp; with_reducible rfl)
          try simp only [Act.put, List.setIfInBounds_toArray, List.set_cons_zero, List.set_cons_succ]
          refine wpAnyH_take (i := 27) (oi := { dst := some 94, op := _, type := _, pos := _, after := _, guard := _ }) (v := ?vb27_123) rfl (by kernel_rfl) (by kernel_rfl) (by kernel_rfl) (fun _ _ _ h => h) (Or.inl ⟨by kernel_rfl, ?hb27_123⟩) hSb ?rb27_123
          case hb27_123 => first | (intro w hSw; obtain ⟨s0, s1, s2, s3⟩ := hSw; go_simp; done) | (intro w hSw; obtain ⟨s0, s1, s2, s3⟩ := hSw; go_simp; with_reducible rfl)
          try simp only [Act.put, List.setIfInBounds_toArray, List.set_cons_zero, List.set_cons_succ]
          refine wpAnyH_take (i := 28) (oi := { dst := some 95, op := _, type := _, pos := _, after := _, guard := _ }) (v := ?vb28_124) rfl (by kernel_rfl) (by kernel_rfl) (by kernel_rfl) (fun _ _ _ h => h) (Or.inl ⟨by kernel_rfl, ?hb28_124⟩) hSb ?rb28_124
          case hb28_124 => first | (intro w hSw; obtain ⟨s0, s1, s2, s3⟩ := hSw; go_simp; done) | (intro w hSw; obtain ⟨s0, s1, s2, s3⟩ := hSw; go_simp; with_reducible rfl)
          try simp only [Act.put, List.setIfInBounds_toArray, List.set_cons_zero, List.set_cons_succ]
          refine wpAnyH_take (i := 29) (oi := { dst := some 96, op := _, type := _, pos := _, after := _, guard := _ }) (v := ?vb29_125) rfl (by kernel_rfl) (by kernel_rfl) (by kernel_rfl) (fun _ _ _ h => h) (Or.inl ⟨by kernel_rfl, ?hb29_125⟩) hSb ?rb29_125
          case hb29_125 => first | (intro w hSw; obtain ⟨s0, s1, s2, s3⟩ := hSw; go_simp; done) | (intro w hSw; obtain ⟨s0, s1, s2, s3⟩ := hSw; go_simp; with_reducible rfl)
          try simp only [Act.put, List.setIfInBounds_toArray, List.set_cons_zero, List.set_cons_succ]
          refine wpAnyH_take (i := 30) (oi := { dst := some 97, op := _, type := _, pos := _, after := _, guard := _ }) (v := ?vb30_126) rfl (by kernel_rfl) (by kernel_rfl) (by kernel_rfl) (fun _ _ _ h => h) (Or.inl ⟨by kernel_rfl, ?hb30_126⟩) hSb ?rb30_126
          case hb30_126 => first | (intro w hSw; obtain ⟨s0, s1, s2, s3⟩ := hSw; go_simp; done) | (intro w hSw; obtain ⟨s0, s1, s2, s3⟩ := hSw; go_simp; with_reducible rfl)
          try simp only [Act.put, List.setIfInBounds_toArray, List.set_cons_zero, List.set_cons_succ]
          refine wpAnyH_take (i := 31) (oi := { dst := some 98, op := _, type := _, pos := _, after := _, guard := _ }) (v := ?vb31_127) rfl (by kernel_rfl) (by kernel_rfl) (by kernel_rfl) (fun _ _ _ h => h) (Or.inl ⟨by kernel_rfl, ?hb31_127⟩) hSb ?rb31_127
          case hb31_127 => first | (intro w hSw; obtain ⟨s0, s1, s2, s3⟩ := hSw; go_simp; done) | (intro w hSw; obtain ⟨s0, s1, s2, s3⟩ := hSw; go_simp; with_reducible rfl)
          try simp only [Act.put, List.setIfInBounds_toArray, List.set_cons_zero, List.set_cons_succ]
          refine wpAnyH_take (i := 32) (oi := { dst := some 99, op := _, type := _, pos := _, after := _, guard := _ }) (v := ?vb32_128) rfl (by kernel_rfl) (by kernel_rfl) (by kernel_rfl) (fun _ _ _ h => h) (Or.inl ⟨by kernel_rfl, ?hb32_128⟩) hSb ?rb32_128
          case hb32_128 => first | (intro w hSw; obtain ⟨s0, s1, s2, s3⟩ := hSw; go_simp; done) | (intro w hSw; obtain ⟨s0, s1, s2, s3⟩ := hSw; go_simp; with_reducible rfl)
          try simp only [Act.put, List.setIfInBounds_toArray, List.set_cons_zero, List.set_cons_succ]
          refine wpAnyH_take (i := 33) (oi := { dst := some 100, op := _, type := _, pos := _, after := _, guard := _ }) (v := ?vb33_129) rfl (by kernel_rfl) (by kernel_rfl) (by kernel_rfl) (fun _ _ _ h => h) (Or.inl ⟨by kernel_rfl, ?hb33_129⟩) hSb ?rb33_129
          case hb33_129 => first | (intro w hSw; obtain ⟨s0, s1, s2, s3⟩ := hSw; go_simp; done) | (intro w hSw; obtain ⟨s0, s1, s2, s3⟩ := hSw; go_simp; with_reducible rfl)
          try simp only [Act.put, List.setIfInBounds_toArray, List.set_cons_zero, List.set_cons_succ]
          refine wpAnyH_take (i := 34) (oi := { dst := some 101, op := _, type := _, pos := _, after := _, guard := _ }) (v := ?vb34_130) rfl (by kernel_rfl) (by kernel_rfl) (by kernel_rfl) (fun _ _ _ h => h) (Or.inl ⟨by kernel_rfl, ?hb34_130⟩) hSb ?rb34_130
          case hb34_130 => first | (intro w hSw; obtain ⟨s0, s1, s2, s3⟩ := hSw; go_simp; done) | (intro w hSw; obtain ⟨s0, s1, s2, s3⟩ := hSw; go_simp; with_reducible rfl)
          try simp only [Act.put, List.setIfInBounds_toArray, List.set_cons_zero, List.set_cons_succ]
          refine wpAnyH_take (i := 35) (oi := { dst := some 102, op := _, type := _, pos := _, after := _, guard := _ }) (v := ?vb35_131) rfl (by kernel_rfl) (by kernel_rfl) (by kernel_rfl) (fun _ _ _ h => h) (Or.inl ⟨by kernel_rfl, ?hb35_131⟩) hSb ?rb35_131
          case hb35_131 => first | (intro w hSw; obtain ⟨s0, s1, s2, s3⟩ := hSw; go_simp; done) | (intro w hSw; obtain ⟨s0, s1, s2, s3⟩ := hSw; go_simp; with_reducible rfl)
          try simp only [Act.put, List.setIfInBounds_toArray, List.set_cons_zero, List.set_cons_succ]
          refine wpAnyH_take (i := 36) (oi := { dst := some 103, op := _, type := _, pos := _, after := _, guard := _ }) (v := ?vb36_132) rfl (by kernel_rfl) (by kernel_rfl) (by kernel_rfl) (fun _ _ _ h => h) (Or.inl ⟨by kernel_rfl, ?hb36_132⟩) hSb ?rb36_132
          case hb36_132 => first | (intro w hSw; obtain ⟨s0, s1, s2, s3⟩ := hSw; go_simp; done) | (intro w hSw; obtain ⟨s0, s1, s2, s3⟩ := hSw; go_simp; with_reducible rfl)
          try simp only [Act.put, List.setIfInBounds_toArray, List.set_cons_zero, List.set_cons_succ]
          refine wpAnyH_done (by kernel_rfl) ?_ _
          clear hSb HSO eE
          go_wp2_with fail
          generalize (w9.alloc (Obj.cells #[.int .i64 0, .int .i64 0, .string ⟨#[]⟩] 32)).drew = w10 at *
          have hSc : KeepN w.heap.size n0 n1 w10.drew := KeepN.of (((unhide k1).below (unhide HBn) (unhide HP0)).later (below_draws _ 1))
          refine wp_region_held (S := KeepN w.heap.size n0 n1) (by kernel_rfl) ?_
          change wpAnyH _ _ _ _ _ _ _ _ (World.drew _)
          refine wpAnyH_take (i := 0) (oi := { dst := some 104, op := _, type := _, pos := _, after := _, guard := _ }) (v := ?vc0_133) rfl (by kernel_rfl) (by kernel_rfl) (by kernel_rfl) (fun _ _ _ h => h) (Or.inl ⟨by kernel_rfl, ?hc0_133⟩) hSc ?rc0_133
          case hc0_133 => first | (intro w hSw; obtain ⟨s0, s1⟩ := hSw; go_simp; done) | (intro w hSw; obtain ⟨s0, s1⟩ := hSw; go_simp; with_reducible rfl)
          try simp only [Act.put, List.setIfInBounds_toArray, List.set_cons_zero, List.set_cons_succ]
          refine wpAnyH_take (i := 1) (oi := { dst := some 105, op := _, type := _, pos := _, after := _, guard := _ }) (v := ?vc1_134) rfl (by kernel_rfl) (by kernel_rfl) (by kernel_rfl) (fun _ _ _ h => h) (Or.inl ⟨by kernel_rfl, ?hc1_134⟩) hSc ?rc1_134
          case hc1_134 => first | (intro w hSw; obtain ⟨s0, s1⟩ := hSw; go_simp; done) | (intro w hSw; obtain ⟨s0, s1⟩ := hSw; go_simp; with_reducible rfl)
          try simp only [Act.put, List.setIfInBounds_toArray, List.set_cons_zero, List.set_cons_succ]
          refine wpAnyH_take (i := 2) (oi := { dst := some 106, op := _, type := _, pos := _, after := _, guard := _ }) (v := ?vc2_135) rfl (by kernel_rfl) (by kernel_rfl) (by kernel_rfl) (fun _ _ _ h => h) (Or.inl ⟨by kernel_rfl, ?hc2_135⟩) hSc ?rc2_135
          case hc2_135 => first | (intro w hSw; obtain ⟨s0, s1⟩ := hSw; go_simp; done) | (intro w hSw; obtain ⟨s0, s1⟩ := hSw; go_simp; with_reducible rfl)
          try simp only [Act.put, List.setIfInBounds_toArray, List.set_cons_zero, List.set_cons_succ]
          refine wpAnyH_take (i := 3) (oi := { dst := some 107, op := _, type := _, pos := _, after := _, guard := _ }) (v := ?vc3_136) rfl (by kernel_rfl) (by kernel_rfl) (by kernel_rfl) (fun _ _ _ h => h) (Or.inl ⟨by kernel_rfl, ?hc3_136⟩) hSc ?rc3_136
          case hc3_136 => first | (intro w hSw; obtain ⟨s0, s1⟩ := hSw; go_simp; done) | (intro w hSw; obtain ⟨s0, s1⟩ := hSw; go_simp; with_reducible rfl)
          try simp only [Act.put, List.setIfInBounds_toArray, List.set_cons_zero, List.set_cons_succ]
          refine wpAnyH_take (i := 4) (oi := { dst := some 108, op := _, type := _, pos := _, after := _, guard := _ }) (v := ?vc4_137) rfl (by kernel_rfl) (by kernel_rfl) (by kernel_rfl) (fun _ _ _ h => h) (Or.inl ⟨by kernel_rfl, ?hc4_137⟩) hSc ?rc4_137
          case hc4_137 => first | (intro w hSw; obtain ⟨s0, s1⟩ := hSw; go_simp; done) | (intro w hSw; obtain ⟨s0, s1⟩ := hSw; go_simp; with_reducible rfl)
          try simp only [Act.put, List.setIfInBounds_toArray, List.set_cons_zero, List.set_cons_succ]
          refine wpAnyH_take (i := 5) (oi := { dst := some 109, op := _, type := _, pos := _, after := _, guard := _ }) (v := ?vc5_138) rfl (by kernel_rfl) (by kernel_rfl) (by kernel_rfl) (fun _ _ _ h => h) (Or.inl ⟨by kernel_rfl, ?hc5_138⟩) hSc ?rc5_138
          case hc5_138 => first | (intro w hSw; obtain ⟨s0, s1⟩ := hSw; go_simp; done) | (intro w hSw; obtain ⟨s0, s1⟩ := hSw; go_simp; with_reducible rfl)
          try simp only [Act.put, List.setIfInBounds_toArray, List.set_cons_zero, List.set_cons_succ]
          refine wpAnyH_take (i := 8) (oi := { dst := some 112, op := _, type := _, pos := _, after := _, guard := _ }) (v := ?vc8_139) rfl (by kernel_rfl) (by kernel_rfl) (by kernel_rfl) (fun _ _ _ h => h) (Or.inl ⟨by kernel_rfl, ?hc8_139⟩) hSc ?rc8_139
          case hc8_139 => first | (intro w hSw; obtain ⟨s0, s1⟩ := hSw; go_simp; done) | (intro w hSw; obtain ⟨s0, s1⟩ := hSw; go_simp; with_reducible rfl)
          try simp only [Act.put, List.setIfInBounds_toArray, List.set_cons_zero, List.set_cons_succ]
          refine wpAnyH_take (i := 9) (oi := { dst := some 113, op := _, type := _, pos := _, after := _, guard := _ }) (v := ?vc9_140) rfl (by kernel_rfl) (by kernel_rfl) (by kernel_rfl) (fun _ _ _ h => h) (Or.inl ⟨by kernel_rfl, ?hc9_140⟩) hSc ?rc9_140
          case hc9_140 => first | (intro w hSw; obtain ⟨s0, s1⟩ := hSw; go_simp; done) | (intro w hSw; obtain ⟨s0, s1⟩ := hSw; go_simp; with_reducible rfl)
          try simp only [Act.put, List.setIfInBounds_toArray, List.set_cons_zero, List.set_cons_succ]
          refine wpAnyH_take (i := 10) (oi := { dst := some 114, op := _, type := _, pos := _, after := _, guard := _ }) (v := ?vc10_141) rfl (by kernel_rfl) (by kernel_rfl) (by kernel_rfl) (fun _ _ _ h => h) (Or.inl ⟨by kernel_rfl, ?hc10_141⟩) hSc ?rc10_141
          case hc10_141 => first | (intro w hSw; obtain ⟨s0, s1⟩ := hSw; go_simp; done) | (intro w hSw; obtain ⟨s0, s1⟩ := hSw; go_simp; with_reducible rfl)
          try simp only [Act.put, List.setIfInBounds_toArray, List.set_cons_zero, List.set_cons_succ]
          refine wpAnyH_ready (rs := [6]) (by kernel_rfl) (by simp) ?_
          refine AllReadyH.cons rfl (fun K hK => ?_) AllReadyH.nil
          go_simp
          have hb : Below w10.heap.size w10 (w10.alloc (Obj.cells #[.string n0, .string n1] 9)).drew := tr2 ((Below.refl _ _).alloc (Nat.le_refl _) _) (below_draws _ 1)
          have HZ : Hid (Blk (w10.alloc (Obj.cells #[.string n0, .string n1] 9)).drew w10.heap.size #[.string n0, .string n1] 9) := hide ((Blk.new w10 #[.string n0, .string n1] 9).later (below_draws _ 1))
          replace HTn := hide ((unhide HTn).later hb)
          replace HBn := hide ((unhide HBn).trans (hb.mono (unhide HZn)))
          replace HZn := hide (Nat.le_trans (unhide HZn) hb.size)
          have hSc' := KeepN.of ((unhide k1).below (unhide HBn) (unhide HP0))
          clear hb
          refine hK _ _ hSc' (fun _ => ?_)
          clear hK K hSc
          have hSc := hSc'
          clear hSc'
          refine wpAnyH_ready (rs := [7]) (by kernel_rfl) (by simp) ?_
          refine AllReadyH.cons rfl (fun K hK => ?_) AllReadyH.nil
          go_simp
          refine (unhide I1 _ _ (unhide HTn).1 (view_blk (unhide HZ))).mono ?_
          rintro e w11 ⟨rfl, hb⟩
          replace HTn := hide ((unhide HTn).later hb)
          replace HBn := hide ((unhide HBn).trans (hb.mono (unhide HZn)))
          replace HZn := hide (Nat.le_trans (unhide HZn) hb.size)
          have hSc' := KeepN.of ((unhide k1).below (unhide HBn) (unhide HP0))
          clear hb
          refine hK _ _ hSc' (fun _ => ?_)
          clear hK K hSc
          have hSc := hSc'
          clear hSc'
          refine wpAnyH_ready (rs := [11]) (by kernel_rfl) (by simp) ?_
          refine AllReadyH.cons rfl (fun K hK => ?_) AllReadyH.nil
          go_simp
          refine (unhide I2 _ _ _ (unhide HTn).2.1 (view_blk ((unhide k1).below (unhide HBn) (unhide HP0)))).mono ?_
          rintro e w12 ⟨rfl, hb⟩
          replace HTn := hide ((unhide HTn).later hb)
          replace HBn := hide ((unhide HBn).trans (hb.mono (unhide HZn)))
          replace HZn := hide (Nat.le_trans (unhide HZn) hb.size)
          have hSc' := KeepN.of ((unhide k1).below (unhide HBn) (unhide HP0))
          clear hb
          refine hK _ _ hSc' (fun _ => ?_)
          clear hK K hSc
          have hSc := hSc'
          clear hSc'
          refine wpAnyH_take (i := 12) (oi := { dst := some 116, op := _, type := _, pos := _, after := _, guard := _ }) (v := ?vc12_142) rfl (by kernel_rfl) (by kernel_rfl) (by kernel_rfl) (fun _ _ _ h => h) (Or.inl ⟨by kernel_rfl, ?hc12_142⟩) hSc ?rc12_142
          case hc12_142 => first | (intro w hSw; obtain ⟨s0, s1⟩ := hSw; go_simp; done) | (intro w hSw; obtain ⟨s0, s1⟩ := hSw; go_simp; with_reducible rfl)
          try simp only [Act.put, List.setIfInBounds_toArray, List.set_cons_zero, List.set_cons_succ]
          refine wpAnyH_done (by kernel_rfl) ?_ _
          clear hSc
          go_wp2
          go_roundw
          case rel => exact ⟨k + 1, _, _, _, by omega, by go_num, unhide HL2, unhide HTn, unhide HBn, unhide HZn⟩
          case measure => simp [intOf]; omega
        · obtain ⟨a, x, rfl⟩ := snoc_of L2 (by omega)
          have I1 := hide (fun nv W h hv => in_s P P v2 nv scope [n0.data.toList, n1.data.toList] (a ++ [x]) W h hv)
          have I2 := hide (fun u nv W h hv => rin_any P r u scope nv [n0.data.toList, n1.data.toList] (a ++ [x]) W h (by omega) hv)
          generalize inS scope [n0.data.toList, n1.data.toList] (a ++ [x]) = bI at I1 I2
          unfold ptr at I1 I2
          have TP := hide (fun W h => top_some P P v2 a x W h)
          have CF := hide (fun W => ref_any x W)
          have hla : (a ++ [x]).length = a.length + 1 := by simp
          obtain ⟨hc2, hm2, hg2⟩ := unhide HG2
          rw [hla] at hc2 hg2 hL2
          obtain ⟨g2, hgq, hgl⟩ := hg2 (by omega)
          subst hgq
          obtain ⟨c1, c2, c3⟩ := (RStk.cells (unhide HTn).2.1) a.length (by rw [hla]; omega)
          rw [getD_snoc, Nat.zero_add] at c1 c2 c3
          have c0 : World.cell? _ ⟨r, 0, none⟩ = some (.slice (some ⟨g2, 0, none⟩) (a ++ [x]).length cap2) := (unhide HTn).2.1.1.cell 0
          rw [hla] at c0
          have HS0 := hide (And.intro c0 (And.intro c1 (And.intro c2 c3)))
          obtain ⟨xi, xs, xn⟩ := x
          unfold entV ptr at TP
          unfold entV at CF
          dsimp only at *
          clear hz HG2 c0 c1 c2 c3 hg2 hgl hla
          go_wp2_with fail
          refine (unhide TP _ (unhide HTn).1).mono ?_
          rintro e w9 ⟨rfl, hb⟩
          obtain ⟨c0, c1, c2, c3⟩ := unhide HS0
          replace HTn := hide ((unhide HTn).later hb)
          replace HBn := hide ((unhide HBn).trans (hb.mono (unhide HZn)))
          replace HZn := hide (Nat.le_trans (unhide HZn) hb.size)
          have al : Below w9.heap.size w9 (w9.alloc (Obj.cells #[.int .i64 xi, .int .i64 xs, .string xn] 32)) := (Below.refl _ _).alloc (Nat.le_refl _) _
          have ald := tr2 al (below_draws _ 1)
          have hbd := tr2 hb ald
          have kE := (Blk.new w9 #[.int .i64 xi, .int .i64 xs, .string xn] 32).later (below_draws _ 1)
          have HST : Hid (KeepT r (.slice (some ⟨g2, 0, none⟩) (a.length + 1) cap2) g2 (a.length * 3) w9.heap.size xi xs xn _) := hide ⟨cell_later hbd c0, cell_later hbd c1, cell_later hbd c2, cell_later hbd c3, kE.cell 0, kE.cell 1, kE.cell 2⟩
          have eE : (xn.toList == xn.toList) = true := by simp
          replace HTn := hide ((unhide HTn).later ald)
          replace HBn := hide ((unhide HBn).trans (ald.mono (unhide HZn)))
          replace HZn := hide (Nat.le_trans (unhide HZn) ald.size)
          clear hb al ald hbd kE c0 c1 c2 c3 HS0 TP
          generalize hm0 : a.length = m at hc2 HST
          rw [hm0] at hL2
          clear hm0
          have hi : (0 : Int) ≤ (m : Int) := by omega
          have hwm : IntKind.i64.wrap (m : Int) = m := by rw [IntKind.wrap_i64]; omega
          have hi2 : (0 : Int) < (m : Int) + 1 := by omega
          have hi3 : (m : Int) < (m : Int) + 1 := by omega
          go_wp2_with fail
          have hSb := unhide HST
          refine wp_region_held (S := KeepT r (.slice (some ⟨g2, 0, none⟩) (m + 1) cap2) g2 (m * 3) w9.heap.size xi xs xn) (by kernel_rfl) ?_
          change wpAnyH _ _ _ _ _ _ _ _ (World.drew _)
          refine wpAnyH_take (i := 0) (oi := { dst := some 67, op := _, type := _, pos := _, after := _, guard := _ }) (v := ?vb0_143) rfl (by kernel_rfl) (by kernel_rfl) (by kernel_rfl) (fun _ _ _ h => h) (Or.inl ⟨by kernel_rfl, ?hb0_143⟩) hSb ?rb0_143
          case hb0_143 => first | (intro w hSw; obtain ⟨s0, s1, s2, s3, s4, s5, s6⟩ := hSw; go_simp; done) | (intro w hSw; obtain ⟨s0, s1, s2, s3, s4, s5, s6⟩ := hSw; go_simp; with_reducible rfl)
          try simp only [Act.put, List.setIfInBounds_toArray, List.set_cons_zero, List.set_cons_succ]
          refine wpAnyH_take (i := 1) (oi := { dst := some 68, op := _, type := _, pos := _, after := _, guard := _ }) (v := ?vb1_144) rfl (by kernel_rfl) (by kernel_rfl) (by kernel_rfl) (fun _ _ _ h => h) (Or.inl ⟨by kernel_rfl, ?hb1_144⟩) hSb ?rb1_144
          case hb1_144 => first | (intro w hSw; obtain ⟨s0, s1, s2, s3, s4, s5, s6⟩ := hSw; go_simp; done) | (intro w hSw; obtain ⟨s0, s1, s2, s3, s4, s5, s6⟩ := hSw; go_simp; with_reducible rfl)
          try simp only [Act.put, List.setIfInBounds_toArray, List.set_cons_zero, List.set_cons_succ]
          refine wpAnyH_take (i := 2) (oi := { dst := some 69, op := _, type := _, pos := _, after := _, guard := _ }) (v := ?vb2_145) rfl (by kernel_rfl) (by kernel_rfl) (by kernel_rfl) (fun _ _ _ h => h) (Or.inl ⟨by kernel_rfl, ?hb2_145⟩) hSb ?rb2_145
          case hb2_145 => first | (intro w hSw; obtain ⟨s0, s1, s2, s3, s4, s5, s6⟩ := hSw; go_simp; done) | (intro w hSw; obtain ⟨s0, s1, s2, s3, s4, s5, s6⟩ := hSw; go_simp; with_reducible rfl)
          try simp only [Act.put, List.setIfInBounds_toArray, List.set_cons_zero, List.set_cons_succ]
          refine wpAnyH_take (i := 3) (oi := { dst := some 70, op := _, type := _, pos := _, after := _, guard := _ }) (v := ?vb3_146) rfl (by kernel_rfl) (by kernel_rfl) (by kernel_rfl) (fun _ _ _ h => h) (Or.inl ⟨by kernel_rfl, ?hb3_146⟩) hSb ?rb3_146
          case hb3_146 => first | (intro w hSw; obtain ⟨s0, s1, s2, s3, s4, s5, s6⟩ := hSw; go_simp; done) | (intro w hSw; obtain ⟨s0, s1, s2, s3, s4, s5, s6⟩ := hSw; go_simp; with_reducible rfl)
          try simp only [Act.put, List.setIfInBounds_toArray, List.set_cons_zero, List.set_cons_succ]
          refine wpAnyH_take (i := 4) (oi := { dst := some 71, op := _, type := _, pos := _, after := _, guard := _ }) (v := ?vb4_147) rfl (by kernel_rfl) (by kernel_rfl) (by kernel_rfl) (fun _ _ _ h => h) (Or.inl ⟨by kernel_rfl, ?hb4_147⟩) hSb ?rb4_147
          case hb4_147 => first | (intro w hSw; obtain ⟨s0, s1, s2, s3, s4, s5, s6⟩ := hSw; go_simp; done) | (intro w hSw; obtain ⟨s0, s1, s2, s3, s4, s5, s6⟩ := hSw; go_simp; with_reducible rfl)
          try simp only [Act.put, List.setIfInBounds_toArray, List.set_cons_zero, List.set_cons_succ]
          refine wpAnyH_take (i := 5) (oi := { dst := some 72, op := _, type := _, pos := _, after := _, guard := _ }) (v := ?vb5_148) rfl (by kernel_rfl) (by kernel_rfl) (by kernel_rfl) (fun _ _ _ h => h) (Or.inl ⟨by kernel_rfl, ?hb5_148⟩) hSb ?rb5_148
          case hb5_148 => first | (intro w hSw; obtain ⟨s0, s1, s2, s3, s4, s5, s6⟩ := hSw; go_simp; done) | (intro w hSw; obtain ⟨s0, s1, s2, s3, s4, s5, s6⟩ := hSw; go_simp; with_reducible rfl)
          try simp only [Act.put, List.setIfInBounds_toArray, List.set_cons_zero, List.set_cons_succ]
          refine wpAnyH_take (i := 6) (oi := { dst := some 73, op := _, type := _, pos := _, after := _, guard := _ }) (v := ?vb6_149) rfl (by kernel_rfl) (by kernel_rfl) (by kernel_rfl) (fun _ _ _ h => h) (Or.inl ⟨by kernel_rfl, ?hb6_149⟩) hSb ?rb6_149
          case hb6_149 => first | (intro w hSw; obtain ⟨s0, s1, s2, s3, s4, s5, s6⟩ := hSw; go_simp; done) | (intro w hSw; obtain ⟨s0, s1, s2, s3, s4, s5, s6⟩ := hSw; go_simp; with_reducible rfl)
          try simp only [Act.put, List.setIfInBounds_toArray, List.set_cons_zero, List.set_cons_succ]
          refine wpAnyH_take (i := 7) (oi := { dst := some 74, op := _, type := _, pos := _, after := _, guard := _ }) (v := ?vb7_150) rfl (by kernel_rfl) (by kernel_rfl) (by kernel_rfl) (fun _ _ _ h => h) (Or.inl ⟨by kernel_rfl, ?hb7_150⟩) hSb ?rb7_150
          case hb7_150 => first | (intro w hSw; obtain ⟨s0, s1, s2, s3, s4, s5, s6⟩ := hSw; go_simp; done) | (intro w hSw; obtain ⟨s0, s1, s2, s3, s4, s5, s6⟩ := hSw; go_simp; with_reducible rfl)
          try simp only [Act.put, List.setIfInBounds_toArray, List.set_cons_zero, List.set_cons_succ]
          refine wpAnyH_take (i := 8) (oi := { dst := some 75, op := _, type := _, pos := _, after := _, guard := _ }) (v := ?vb8_151) rfl (by kernel_rfl) (by kernel_rfl) (by kernel_rfl) (fun _ _ _ h => h) (Or.inl ⟨by kernel_rfl, ?hb8_151⟩) hSb ?rb8_151
          case hb8_151 => first | (intro w hSw; obtain ⟨s0, s1, s2, s3, s4, s5, s6⟩ := hSw; go_simp; done) | (intro w hSw; obtain ⟨s0, s1, s2, s3, s4, s5, s6⟩ := hSw; go_simp; with_reducible rfl)
          try simp only [Act.put, List.setIfInBounds_toArray, List.set_cons_zero, List.set_cons_succ]
          refine wpAnyH_take (i := 9) (oi := { dst := some 76, op := _, type := _, pos := _, after := _, guard := _ }) (v := ?vb9_152) rfl (by kernel_rfl) (by kernel_rfl) (by kernel_rfl) (fun _ _ _ h => h) (Or.inl ⟨by kernel_rfl, ?hb9_152⟩) hSb ?rb9_152
          case hb9_152 => first | (intro w hSw; obtain ⟨s0, s1, s2, s3, s4, s5, s6⟩ := hSw; go_simp; done) | (intro w hSw; obtain ⟨s0, s1, s2, s3, s4, s5, s6⟩ := hSw; go_simp; with_reducible rfl)
          try simp only [Act.put, List.setIfInBounds_toArray, List.set_cons_zero, List.set_cons_succ]
          refine wpAnyH_take (i := 10) (oi := { dst := some 77, op := _, type := _, pos := _, after := _, guard := _ }) (v := ?vb10_153) rfl (by kernel_rfl) (by kernel_rfl) (by kernel_rfl) (fun _ _ _ h => h) (Or.inl ⟨by kernel_rfl, ?hb10_153⟩) hSb ?rb10_153
          case hb10_153 => first | (intro w hSw; obtain ⟨s0, s1, s2, s3, s4, s5, s6⟩ := hSw; go_simp; done) | (intro w hSw; obtain ⟨s0, s1, s2, s3, s4, s5, s6⟩ := hSw; go_simp; with_reducible rfl)
          try simp only [Act.put, List.setIfInBounds_toArray, List.set_cons_zero, List.set_cons_succ]
          refine wpAnyH_take (i := 11) (oi := { dst := some 78, op := _, type := _, pos := _, after := _, guard := _ }) (v := ?vb11_154) rfl (by kernel_rfl) (by kernel_rfl) (by kernel_rfl) (fun _ _ _ h => h) (Or.inl ⟨by kernel_rfl, ?hb11_154⟩) hSb ?rb11_154
          case hb11_154 => first | (intro w hSw; obtain ⟨s0, s1, s2, s3, s4, s5, s6⟩ := hSw; go_simp; done) | (intro w hSw; obtain ⟨s0, s1, s2, s3, s4, s5, s6⟩ := hSw; go_simp; with_reducible rfl)
          try simp only [Act.put, List.setIfInBounds_toArray, List.set_cons_zero, List.set_cons_succ]
          refine wpAnyH_take (i := 13) (oi := { dst := some 80, op := _, type := _, pos := _, after := _, guard := _ }) (v := ?vb13_155) rfl (by kernel_rfl) (by kernel_rfl) (by kernel_rfl) (fun _ _ _ h => h) (Or.inl ⟨by kernel_rfl, ?hb13_155⟩) hSb ?rb13_155
          case hb13_155 => first | (intro w hSw; obtain ⟨s0, s1, s2, s3, s4, s5, s6⟩ := hSw; go_simp; done) | (intro w hSw; obtain ⟨s0, s1, s2, s3, s4, s5, s6⟩ := hSw; go_simp; with_reducible rfl)
          try simp only [Act.put, List.setIfInBounds_toArray, List.set_cons_zero, List.set_cons_succ]
          refine wpAnyH_take (i := 14) (oi := { dst := some 81, op := _, type := _, pos := _, after := _, guard := _ }) (v := ?vb14_156) rfl (by kernel_rfl) (by kernel_rfl) (by kernel_rfl) (fun _ _ _ h => h) (Or.inl ⟨by kernel_rfl, ?hb14_156⟩) hSb ?rb14_156
          case hb14_156 => first | (intro w hSw; obtain ⟨s0, s1, s2, s3, s4, s5, s6⟩ := hSw; go_simp; done) | (intro w hSw; obtain ⟨s0, s1, s2, s3, s4, s5, s6⟩ := hSw; go_simp; with_reducible rfl)
          try simp only [Act.put, List.setIfInBounds_toArray, List.set_cons_zero, List.set_cons_succ]
          refine wpAnyH_take (i := 15) (oi := { dst := some 82, op := _, type := _, pos := _, after := _, guard := _ }) (v := ?vb15_157) rfl (by kernel_rfl) (by kernel_rfl) (by kernel_rfl) (fun _ _ _ h => h) (Or.inl ⟨by kernel_rfl, ?hb15_157⟩) hSb ?rb15_157
          case hb15_157 => first | (intro w hSw; obtain ⟨s0, s1, s2, s3, s4, s5, s6⟩ := hSw; go_simp; done) | (intro w hSw; obtain ⟨s0, s1, s2, s3, s4, s5, s6⟩ := hSw; go_simp; with_reducible rfl)
          try simp only [Act.put, List.setIfInBounds_toArray, List.set_cons_zero, List.set_cons_succ]
          refine wpAnyH_take (i := 16) (oi := { dst := some 83, op := _, type := _, pos := _, after := _, guard := _ }) (v := ?vb16_158) rfl (by kernel_rfl) (by kernel_rfl) (by kernel_rfl) (fun _ _ _ h => h) (Or.inl ⟨by kernel_rfl, ?hb16_158⟩) hSb ?rb16_158
          case hb16_158 => first | (intro w hSw; obtain ⟨s0, s1, s2, s3, s4, s5, s6⟩ := hSw; go_simp; done) | (intro w hSw; obtain ⟨s0, s1, s2, s3, s4, s5, s6⟩ := hSw; go_simp; with_reducible rfl)
          try simp only [Act.put, List.setIfInBounds_toArray, List.set_cons_zero, List.set_cons_succ]
          refine wpAnyH_take (i := 17) (oi := { dst := some 84, op := _, type := _, pos := _, after := _, guard := _ }) (v := ?vb17_159) rfl (by kernel_rfl) (by kernel_rfl) (by kernel_rfl) (fun _ _ _ h => h) (Or.inl ⟨by kernel_rfl, ?hb17_159⟩) hSb ?rb17_159
          case hb17_159 => first | (intro w hSw; obtain ⟨s0, s1, s2, s3, s4, s5, s6⟩ := hSw; go_simp; done) | (intro w hSw; obtain ⟨s0, s1, s2, s3, s4, s5, s6⟩ := hSw; go_simp; with_reducible rfl)
          try simp only [Act.put, List.setIfInBounds_toArray, List.set_cons_zero, List.set_cons_succ]
          refine wpAnyH_take (i := 18) (oi := { dst := some 85, op := _, type := _, pos := _, after := _, guard := _ }) (v := ?vb18_160) rfl (by kernel_rfl) (by kernel_rfl) (by kernel_rfl) (fun _ _ _ h => h) (Or.inl ⟨by kernel_rfl, ?hb18_160⟩) hSb ?rb18_160
          case hb18_160 => first | (intro w hSw; obtain ⟨s0, s1, s2, s3, s4, s5, s6⟩ := hSw; go_simp; done) | (intro w hSw; obtain ⟨s0, s1, s2, s3, s4, s5, s6⟩ := hSw; go_simp; with_reducible rfl)
          try simp only [Act.put, List.setIfInBounds_toArray, List.set_cons_zero, List.set_cons_succ]
          refine wpAnyH_take (i := 19) (oi := { dst := some 86, op := _, type := _, pos := _, after := _, guard := _ }) (v := ?vb19_161) rfl (by kernel_rfl) (by kernel_rfl) (by kernel_rfl) (fun _ _ _ h => h) (Or.inl ⟨by kernel_rfl, ?hb19_161⟩) hSb ?rb19_161
          case hb19_161 => first | (intro w hSw; obtain ⟨s0, s1, s2, s3, s4, s5, s6⟩ := hSw; go_simp; done) | (intro w hSw; obtain ⟨s0, s1, s2, s3, s4, s5, s6⟩ := hSw; go_simp; with_reducible rfl)
          try simp only [Act.put, List.setIfInBounds_toArray, List.set_cons_zero, List.set_cons_succ]
          refine wpAnyH_take (i := 20) (oi := { dst := some 87, op := _, type := _, pos := _, after := _, guard := _ }) (v := ?vb20_162) rfl (by kernel_rfl) (by kernel_rfl) (by kernel_rfl) (fun _ _ _ h => h) (Or.inl ⟨by kernel_rfl, ?hb20_162⟩) hSb ?rb20_162
          case hb20_162 => first | (intro w hSw; obtain ⟨s0, s1, s2, s3, s4, s5, s6⟩ := hSw; go_simp; done) | (intro w hSw; obtain ⟨s0, s1, s2, s3, s4, s5, s6⟩ := hSw; go_simp; with_reducible rfl)
          try simp only [Act.put, List.setIfInBounds_toArray, List.set_cons_zero, List.set_cons_succ]
          refine wpAnyH_take (i := 21) (oi := { dst := some 88, op := _, type := _, pos := _, after := _, guard := _ }) (v := ?vb21_163) rfl (by kernel_rfl) (by kernel_rfl) (by kernel_rfl) (fun _ _ _ h => h) (Or.inl ⟨by kernel_rfl, ?hb21_163⟩) hSb ?rb21_163
          case hb21_163 => first | (intro w hSw; obtain ⟨s0, s1, s2, s3, s4, s5, s6⟩ := hSw; go_simp; done) | (intro w hSw; obtain ⟨s0, s1, s2, s3, s4, s5, s6⟩ := hSw; go_simp; with_reducible rfl)
          try simp only [Act.put, List.setIfInBounds_toArray, List.set_cons_zero, List.set_cons_succ]
          refine wpAnyH_take (i := 22) (oi := { dst := some 89, op := _, type := _, pos := _, after := _, guard := _ }) (v := ?vb22_164) rfl (by kernel_rfl) (by kernel_rfl) (by kernel_rfl) (fun _ _ _ h => h) (Or.inl ⟨by kernel_rfl, ?hb22_164⟩) hSb ?rb22_164
          case hb22_164 => first | (intro w hSw; obtain ⟨s0, s1, s2, s3, s4, s5, s6⟩ := hSw; go_simp; done) | (intro w hSw; obtain ⟨s0, s1, s2, s3, s4, s5, s6⟩ := hSw; go_simp; with_reducible rfl)
          try simp only [Act.put, List.setIfInBounds_toArray, List.set_cons_zero, List.set_cons_succ]
          refine wpAnyH_take (i := 23) (oi := { dst := some 90, op := _, type := _, pos := _, after := _, guard := _ }) (v := ?vb23_165) rfl (by kernel_rfl) (by kernel_rfl) (by kernel_rfl) (fun _ _ _ h => h) (Or.inl ⟨by kernel_rfl, ?hb23_165⟩) hSb ?rb23_165
          case hb23_165 => first | (intro w hSw; obtain ⟨s0, s1, s2, s3, s4, s5, s6⟩ := hSw; go_simp; done) | (intro w hSw; obtain ⟨s0, s1, s2, s3, s4, s5, s6⟩ := hSw; go_simp; with_reducible rfl)
          try simp only [Act.put, List.setIfInBounds_toArray, List.set_cons_zero, List.set_cons_succ]
          refine wpAnyH_take (i := 24) (oi := { dst := some 91, op := _, type := _, pos := _, after := _, guard := _ }) (v := ?vb24_166) rfl (by kernel_rfl) (by kernel_rfl) (by kernel_rfl) (fun _ _ _ h => h) (Or.inl ⟨by kernel_rfl, ?hb24_166⟩) hSb ?rb24_166
          case hb24_166 => first | (intro w hSw; obtain ⟨s0, s1, s2, s3, s4, s5, s6⟩ := hSw; go_simp; done) | (intro w hSw; obtain ⟨s0, s1, s2, s3, s4, s5, s6⟩ := hSw; go_simp; with_reducible rfl)
          try simp only [Act.put, List.setIfInBounds_toArray, List.set_cons_zero, List.set_cons_succ]
          refine wpAnyH_ready (rs := [12]) (by kernel_rfl) (by simp) ?_
          refine AllReadyH.cons rfl (fun K hK => ?_) AllReadyH.nil
          go_simp
          refine (unhide CF _).mono ?_
          rintro e w10 ⟨rfl, hb⟩
          have hSb' := hSb.below hb
          replace HTn := hide ((unhide HTn).later hb)
          replace HBn := hide ((unhide HBn).trans (hb.mono (unhide HZn)))
          replace HZn := hide (Nat.le_trans (unhide HZn) hb.size)
          clear hb
          refine hK _ _ hSb' (fun _ => ?_)
          clear hK K hSb
          have hSb := hSb'
          clear hSb'
          refine wpAnyH_take (i := 25) (oi := { dst := some 92, op := _, type := _, pos := _, after := _, guard := _ }) (v := ?vb25_167) rfl (by kernel_rfl) (by kernel_rfl) (by kernel_rfl) (fun _ _ _ h => h) (Or.inl ⟨by kernel_rfl, ?hb25_167⟩) hSb ?rb25_167
          case hb25_167 => first | (intro w hSw; obtain ⟨s0, s1, s2, s3, s4, s5, s6⟩ := hSw; go_simp; done) | (intro w hSw; obtain ⟨s0, s1, s2, s3, s4, s5, s6⟩ := hSw; go_simp; with_reducible rfl)
          try simp only [Act.put, List.setIfInBounds_toArray, List.set_cons_zero, List.set_cons_succ]
          refine wpAnyH_take (i := 26) (oi := { dst := some 93, op := _, type := _, pos := _, after := _, guard := _ }) (v := ?vb26_168) rfl (by kernel_rfl) (by kernel_rfl) (by kernel_rfl) (fun _ _ _ h => h) (Or.inl ⟨by kernel_rfl, ?hb26_168⟩) hSb ?rb26_168
          case hb26_168 => first | (intro w hSw; obtain ⟨s0, s1, s2, s3, s4, s5, s6⟩ := hSw; go_simp; done) | (intro w hSw; obtain ⟨s0, s1, s2, s3, s4, s5, s6⟩ := hSw; go_simp; with_reducible rfl)
          try simp only [Act.put, List.setIfInBounds_toArray, List.set_cons_zero, List.set_cons_succ]
          refine wpAnyH_take (i := 27) (oi := { dst := some 94, op := _, type := _, pos := _, after := _, guard := _ }) (v := ?vb27_169) rfl (by kernel_rfl) (by kernel_rfl) (by kernel_rfl) (fun _ _ _ h => h) (Or.inl ⟨by kernel_rfl, ?hb27_169⟩) hSb ?rb27_169
          case hb27_169 => first | (intro w hSw; obtain ⟨s0, s1, s2, s3, s4, s5, s6⟩ := hSw; go_simp; done) | (intro w hSw; obtain ⟨s0, s1, s2, s3, s4, s5, s6⟩ := hSw; go_simp; with_reducible rfl)
          try simp only [Act.put, List.setIfInBounds_toArray, List.set_cons_zero, List.set_cons_succ]
          refine wpAnyH_take (i := 28) (oi := { dst := some 95, op := _, type := _, pos := _, after := _, guard := _ }) (v := ?vb28_170) rfl (by kernel_rfl) (by kernel_rfl) (by kernel_rfl) (fun _ _ _ h => h) (Or.inl ⟨by kernel_rfl, ?hb28_170⟩) hSb ?rb28_170
          case hb28_170 => first | (intro w hSw; obtain ⟨s0, s1, s2, s3, s4, s5, s6⟩ := hSw; go_simp; done) | (intro w hSw; obtain ⟨s0, s1, s2, s3, s4, s5, s6⟩ := hSw; go_simp; with_reducible rfl)
          try simp only [Act.put, List.setIfInBounds_toArray, List.set_cons_zero, List.set_cons_succ]
          refine wpAnyH_take (i := 29) (oi := { dst := some 96, op := _, type := _, pos := _, after := _, guard := _ }) (v := ?vb29_171) rfl (by kernel_rfl) (by kernel_rfl) (by kernel_rfl) (fun _ _ _ h => h) (Or.inl ⟨by kernel_rfl, ?hb29_171⟩) hSb ?rb29_171
          case hb29_171 => first | (intro w hSw; obtain ⟨s0, s1, s2, s3, s4, s5, s6⟩ := hSw; go_simp; done) | (intro w hSw; obtain ⟨s0, s1, s2, s3, s4, s5, s6⟩ := hSw; go_simp; with_reducible rfl)
          try simp only [Act.put, List.setIfInBounds_toArray, List.set_cons_zero, List.set_cons_succ]
          refine wpAnyH_take (i := 30) (oi := { dst := some 97, op := _, type := _, pos := _, after := _, guard := _ }) (v := ?vb30_172) rfl (by kernel_rfl) (by kernel_rfl) (by kernel_rfl) (fun _ _ _ h => h) (Or.inl ⟨by kernel_rfl, ?hb30_172⟩) hSb ?rb30_172
          case hb30_172 => first | (intro w hSw; obtain ⟨s0, s1, s2, s3, s4, s5, s6⟩ := hSw; go_simp; done) | (intro w hSw; obtain ⟨s0, s1, s2, s3, s4, s5, s6⟩ := hSw; go_simp; with_reducible rfl)
          try simp only [Act.put, List.setIfInBounds_toArray, List.set_cons_zero, List.set_cons_succ]
          refine wpAnyH_take (i := 31) (oi := { dst := some 98, op := _, type := _, pos := _, after := _, guard := _ }) (v := ?vb31_173) rfl (by kernel_rfl) (by kernel_rfl) (by kernel_rfl) (fun _ _ _ h => h) (Or.inl ⟨by kernel_rfl, ?hb31_173⟩) hSb ?rb31_173
          case hb31_173 => first | (intro w hSw; obtain ⟨s0, s1, s2, s3, s4, s5, s6⟩ := hSw; go_simp; done) | (intro w hSw; obtain ⟨s0, s1, s2, s3, s4, s5, s6⟩ := hSw; go_simp; with_reducible rfl)
          try simp only [Act.put, List.setIfInBounds_toArray, List.set_cons_zero, List.set_cons_succ]
          refine wpAnyH_take (i := 32) (oi := { dst := some 99, op := _, type := _, pos := _, after := _, guard := _ }) (v := undef) rfl (by kernel_rfl) (by kernel_rfl) (by kernel_rfl) (fun _ _ _ h => h) (Or.inr ⟨by kernel_rfl, rfl⟩) hSb ?_
          try simp only [Act.put, List.setIfInBounds_toArray, List.set_cons_zero, List.set_cons_succ]
          refine wpAnyH_take (i := 33) (oi := { dst := some 100, op := _, type := _, pos := _, after := _, guard := _ }) (v := undef) rfl (by kernel_rfl) (by kernel_rfl) (by kernel_rfl) (fun _ _ _ h => h) (Or.inr ⟨by kernel_rfl, rfl⟩) hSb ?_
          try simp only [Act.put, List.setIfInBounds_toArray, List.set_cons_zero, List.set_cons_succ]
          refine wpAnyH_take (i := 34) (oi := { dst := some 101, op := _, type := _, pos := _, after := _, guard := _ }) (v := undef) rfl (by kernel_rfl) (by kernel_rfl) (by kernel_rfl) (fun _ _ _ h => h) (Or.inr ⟨by kernel_rfl, rfl⟩) hSb ?_
          try simp only [Act.put, List.setIfInBounds_toArray, List.set_cons_zero, List.set_cons_succ]
          refine wpAnyH_take (i := 35) (oi := { dst := some 102, op := _, type := _, pos := _, after := _, guard := _ }) (v := ?vb35_174) rfl (by kernel_rfl) (by kernel_rfl) (by kernel_rfl) (fun _ _ _ h => h) (Or.inl ⟨by kernel_rfl, ?hb35_174⟩) hSb ?rb35_174
          case hb35_174 => first | (intro w hSw; obtain ⟨s0, s1, s2, s3, s4, s5, s6⟩ := hSw; go_simp; done) | (intro w hSw; obtain ⟨s0, s1, s2, s3, s4, s5, s6⟩ := hSw; go_simp; with_reducible rfl)
          try simp only [Act.put, List.setIfInBounds_toArray, List.set_cons_zero, List.set_cons_succ]
          refine wpAnyH_take (i := 36) (oi := { dst := some 103, op := _, type := _, pos := _, after := _, guard := _ }) (v := ?vb36_175) rfl (by kernel_rfl) (by kernel_rfl) (by kernel_rfl) (fun _ _ _ h => h) (Or.inl ⟨by kernel_rfl, ?hb36_175⟩) hSb ?rb36_175
          case hb36_175 => first | (intro w hSw; obtain ⟨s0, s1, s2, s3, s4, s5, s6⟩ := hSw; go_simp; done) | (intro w hSw; obtain ⟨s0, s1, s2, s3, s4, s5, s6⟩ := hSw; go_simp; with_reducible rfl)
          try simp only [Act.put, List.setIfInBounds_toArray, List.set_cons_zero, List.set_cons_succ]
          refine wpAnyH_done (by kernel_rfl) ?_ _
          clear hSb HST eE hi hwm hi2 hi3
          go_wp2_with fail
          have hSc : KeepN w.heap.size n0 n1 w10.drew := KeepN.of (((unhide k1).below (unhide HBn) (unhide HP0)).later (below_draws _ 1))
          refine wp_region_held (S := KeepN w.heap.size n0 n1) (by kernel_rfl) ?_
          change wpAnyH _ _ _ _ _ _ _ _ (World.drew _)
          refine wpAnyH_take (i := 0) (oi := { dst := some 104, op := _, type := _, pos := _, after := _, guard := _ }) (v := ?vc0_176) rfl (by kernel_rfl) (by kernel_rfl) (by kernel_rfl) (fun _ _ _ h => h) (Or.inl ⟨by kernel_rfl, ?hc0_176⟩) hSc ?rc0_176
          case hc0_176 => first | (intro w hSw; obtain ⟨s0, s1⟩ := hSw; go_simp; done) | (intro w hSw; obtain ⟨s0, s1⟩ := hSw; go_simp; with_reducible rfl)
          try simp only [Act.put, List.setIfInBounds_toArray, List.set_cons_zero, List.set_cons_succ]
          refine wpAnyH_take (i := 1) (oi := { dst := some 105, op := _, type := _, pos := _, after := _, guard := _ }) (v := ?vc1_177) rfl (by kernel_rfl) (by kernel_rfl) (by kernel_rfl) (fun _ _ _ h => h) (Or.inl ⟨by kernel_rfl, ?hc1_177⟩) hSc ?rc1_177
          case hc1_177 => first | (intro w hSw; obtain ⟨s0, s1⟩ := hSw; go_simp; done) | (intro w hSw; obtain ⟨s0, s1⟩ := hSw; go_simp; with_reducible rfl)
          try simp only [Act.put, List.setIfInBounds_toArray, List.set_cons_zero, List.set_cons_succ]
          refine wpAnyH_take (i := 2) (oi := { dst := some 106, op := _, type := _, pos := _, after := _, guard := _ }) (v := ?vc2_178) rfl (by kernel_rfl) (by kernel_rfl) (by kernel_rfl) (fun _ _ _ h => h) (Or.inl ⟨by kernel_rfl, ?hc2_178⟩) hSc ?rc2_178
          case hc2_178 => first | (intro w hSw; obtain ⟨s0, s1⟩ := hSw; go_simp; done) | (intro w hSw; obtain ⟨s0, s1⟩ := hSw; go_simp; with_reducible rfl)
          try simp only [Act.put, List.setIfInBounds_toArray, List.set_cons_zero, List.set_cons_succ]
          refine wpAnyH_take (i := 3) (oi := { dst := some 107, op := _, type := _, pos := _, after := _, guard := _ }) (v := ?vc3_179) rfl (by kernel_rfl) (by kernel_rfl) (by kernel_rfl) (fun _ _ _ h => h) (Or.inl ⟨by kernel_rfl, ?hc3_179⟩) hSc ?rc3_179
          case hc3_179 => first | (intro w hSw; obtain ⟨s0, s1⟩ := hSw; go_simp; done) | (intro w hSw; obtain ⟨s0, s1⟩ := hSw; go_simp; with_reducible rfl)
          try simp only [Act.put, List.setIfInBounds_toArray, List.set_cons_zero, List.set_cons_succ]
          refine wpAnyH_take (i := 4) (oi := { dst := some 108, op := _, type := _, pos := _, after := _, guard := _ }) (v := ?vc4_180) rfl (by kernel_rfl) (by kernel_rfl) (by kernel_rfl) (fun _ _ _ h => h) (Or.inl ⟨by kernel_rfl, ?hc4_180⟩) hSc ?rc4_180
          case hc4_180 => first | (intro w hSw; obtain ⟨s0, s1⟩ := hSw; go_simp; done) | (intro w hSw; obtain ⟨s0, s1⟩ := hSw; go_simp; with_reducible rfl)
          try simp only [Act.put, List.setIfInBounds_toArray, List.set_cons_zero, List.set_cons_succ]
          refine wpAnyH_take (i := 5) (oi := { dst := some 109, op := _, type := _, pos := _, after := _, guard := _ }) (v := ?vc5_181) rfl (by kernel_rfl) (by kernel_rfl) (by kernel_rfl) (fun _ _ _ h => h) (Or.inl ⟨by kernel_rfl, ?hc5_181⟩) hSc ?rc5_181
          case hc5_181 => first | (intro w hSw; obtain ⟨s0, s1⟩ := hSw; go_simp; done) | (intro w hSw; obtain ⟨s0, s1⟩ := hSw; go_simp; with_reducible rfl)
          try simp only [Act.put, List.setIfInBounds_toArray, List.set_cons_zero, List.set_cons_succ]
          refine wpAnyH_take (i := 8) (oi := { dst := some 112, op := _, type := _, pos := _, after := _, guard := _ }) (v := ?vc8_182) rfl (by kernel_rfl) (by kernel_rfl) (by kernel_rfl) (fun _ _ _ h => h) (Or.inl ⟨by kernel_rfl, ?hc8_182⟩) hSc ?rc8_182
          case hc8_182 => first | (intro w hSw; obtain ⟨s0, s1⟩ := hSw; go_simp; done) | (intro w hSw; obtain ⟨s0, s1⟩ := hSw; go_simp; with_reducible rfl)
          try simp only [Act.put, List.setIfInBounds_toArray, List.set_cons_zero, List.set_cons_succ]
          refine wpAnyH_take (i := 9) (oi := { dst := some 113, op := _, type := _, pos := _, after := _, guard := _ }) (v := ?vc9_183) rfl (by kernel_rfl) (by kernel_rfl) (by kernel_rfl) (fun _ _ _ h => h) (Or.inl ⟨by kernel_rfl, ?hc9_183⟩) hSc ?rc9_183
          case hc9_183 => first | (intro w hSw; obtain ⟨s0, s1⟩ := hSw; go_simp; done) | (intro w hSw; obtain ⟨s0, s1⟩ := hSw; go_simp; with_reducible rfl)
          try simp only [Act.put, List.setIfInBounds_toArray, List.set_cons_zero, List.set_cons_succ]
          refine wpAnyH_take (i := 10) (oi := { dst := some 114, op := _, type := _, pos := _, after := _, guard := _ }) (v := ?vc10_184) rfl (by kernel_rfl) (by kernel_rfl) (by kernel_rfl) (fun _ _ _ h => h) (Or.inl ⟨by kernel_rfl, ?hc10_184⟩) hSc ?rc10_184
          case hc10_184 => first | (intro w hSw; obtain ⟨s0, s1⟩ := hSw; go_simp; done) | (intro w hSw; obtain ⟨s0, s1⟩ := hSw; go_simp; with_reducible rfl)
          try simp only [Act.put, List.setIfInBounds_toArray, List.set_cons_zero, List.set_cons_succ]
          refine wpAnyH_ready (rs := [6]) (by kernel_rfl) (by simp) ?_
          refine AllReadyH.cons rfl (fun K hK => ?_) AllReadyH.nil
          go_simp
          have hb : Below w10.heap.size w10 (w10.alloc (Obj.cells #[.string n0, .string n1] 9)).drew := tr2 ((Below.refl _ _).alloc (Nat.le_refl _) _) (below_draws _ 1)
          have HZ : Hid (Blk (w10.alloc (Obj.cells #[.string n0, .string n1] 9)).drew w10.heap.size #[.string n0, .string n1] 9) := hide ((Blk.new w10 #[.string n0, .string n1] 9).later (below_draws _ 1))
          replace HTn := hide ((unhide HTn).later hb)
          replace HBn := hide ((unhide HBn).trans (hb.mono (unhide HZn)))
          replace HZn := hide (Nat.le_trans (unhide HZn) hb.size)
          have hSc' := KeepN.of ((unhide k1).below (unhide HBn) (unhide HP0))
          clear hb
          refine hK _ _ hSc' (fun _ => ?_)
          clear hK K hSc
          have hSc := hSc'
          clear hSc'
          refine wpAnyH_ready (rs := [7]) (by kernel_rfl) (by simp) ?_
          refine AllReadyH.cons rfl (fun K hK => ?_) AllReadyH.nil
          go_simp
          refine (unhide I1 _ _ (unhide HTn).1 (view_blk (unhide HZ))).mono ?_
          rintro e w11 ⟨rfl, hb⟩
          replace HTn := hide ((unhide HTn).later hb)
          replace HBn := hide ((unhide HBn).trans (hb.mono (unhide HZn)))
          replace HZn := hide (Nat.le_trans (unhide HZn) hb.size)
          have hSc' := KeepN.of ((unhide k1).below (unhide HBn) (unhide HP0))
          clear hb
          refine hK _ _ hSc' (fun _ => ?_)
          clear hK K hSc
          have hSc := hSc'
          clear hSc'
          refine wpAnyH_ready (rs := [11]) (by kernel_rfl) (by simp) ?_
          refine AllReadyH.cons rfl (fun K hK => ?_) AllReadyH.nil
          go_simp
          refine (unhide I2 _ _ _ (unhide HTn).2.1 (view_blk ((unhide k1).below (unhide HBn) (unhide HP0)))).mono ?_
          rintro e w12 ⟨rfl, hb⟩
          replace HTn := hide ((unhide HTn).later hb)
          replace HBn := hide ((unhide HBn).trans (hb.mono (unhide HZn)))
          replace HZn := hide (Nat.le_trans (unhide HZn) hb.size)
          have hSc' := KeepN.of ((unhide k1).below (unhide HBn) (unhide HP0))
          clear hb
          refine hK _ _ hSc' (fun _ => ?_)
          clear hK K hSc
          have hSc := hSc'
          clear hSc'
          refine wpAnyH_take (i := 12) (oi := { dst := some 116, op := _, type := _, pos := _, after := _, guard := _ }) (v := ?vc12_185) rfl (by kernel_rfl) (by kernel_rfl) (by kernel_rfl) (fun _ _ _ h => h) (Or.inl ⟨by kernel_rfl, ?hc12_185⟩) hSc ?rc12_185
          case hc12_185 => first | (intro w hSw; obtain ⟨s0, s1⟩ := hSw; go_simp; done) | (intro w hSw; obtain ⟨s0, s1⟩ := hSw; go_simp; with_reducible rfl)
          try simp only [Act.put, List.setIfInBounds_toArray, List.set_cons_zero, List.set_cons_succ]
          refine wpAnyH_done (by kernel_rfl) ?_ _
          clear hSc
          go_wp2
          go_roundw
          case rel => exact ⟨k + 1, _, _, _, by omega, by go_num, unhide HL2, unhide HTn, unhide HBn, unhide HZn⟩
          case measure => simp [intOf]; omega
    · have hkn : n = k := by omega
      subst hkn
      have hnl : ¬ (n : Int) < (n : Int) := by omega
      clear hT hb hlk hbw
      go_wp2_with fail
      refine (unhide CC _).mono ?_
      rintro e w3 ⟨rfl, hb3⟩
      go_wp2
      go_ret
      exact ⟨rfl, tr2 (unhide HBW) hb3⟩

theorem stackSteps_walk (q : Option Addr) (n cap : Nat) (l : List Stp) (scope : Int) (n0 n1 : ByteArray) (w : World) (hn : l.length = n) (hl : l = [] ∨ ∃ g o, q = some ⟨g, o, none⟩ ∧ Cells7 g o l w) :
    Calls Try.prog 3 #[.slice q n cap, .int .i64 scope, .agg #[.string n0, .string n1]] w fun e w' => e = .returned (.bool true) ∧ Below w.heap.size w w' := by
  by_cases h : 230 < n
  · exact steps_small q n cap scope n0 n1 w h
  · exact steps_main q n cap l scope n0 n1 w (hide hn) (by omega) hl
end Go.Proofs.Ytdkjdomacilagaa
