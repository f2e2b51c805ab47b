/-
  The walk of ActiveSteps.
-/
import Derived.Test.YtabajhbghjfhoaaBDo
import Derived.Test.YtabajhbghjfhoaaBDp
import Derived.Test.YtabajhbghjfhoaaBSm
import Derived.Test.YtabajhbghjfhoaaAFo
import Derived.Test.YtabajhbghjfhoaaBIn
import Derived.Test.YtabajhbghjfhoaaLAc
namespace Go.Proofs.Ytabajhbghjfhoaa
open Go.RowKit
set_option linter.unusedVariables false
set_option linter.unusedSimpArgs false

theorem doesA_any (A p r : Nat) (wh no : Int) (x : PEnt) (xq : Option Addr) (xl xc : Nat) (P : List PEnt) (w : World) (h : WayA A p r w P P w) (hN : P.length ≤ 100) (hqn : xq = none → xl = 0 ∧ xc = 0) (hats : AtsV xq xl x.ats w) (hq : ∀ a, xq = some a → 0 < xl → a.block < A) :
    Calls Try.prog 22 #[ptr p, ptr r, .agg (boxA wh no x xq xl xc)] w (DoesA A p r w) := by
  by_cases h0 : wh = 0
  · subst h0; exact does_add0 A p r no x xq xl xc P w h hN hqn hats hq
  by_cases h1 : wh = 1
  · subst h1; exact does_add1 A p r no x xq xl xc P w h hN hqn hats hq
  by_cases h2 : wh = 2
  · subst h2; exact does_add2 A p r no x xq xl xc P w h hN hqn hats hq
  by_cases h3 : wh = 3
  · subst h3; exact does_add3 A p r no x xq xl xc P w h hN hqn hats hq
  by_cases h4 : wh = 4
  · subst h4; exact does_add4 A p r no x xq xl xc P w h hN hqn hats hq
  by_cases h5 : wh = 5
  · subst h5; exact does_mark A p r no x xq xl xc P w h hN hqn hats hq
  by_cases h6 : wh = 6
  · subst h6; exact does_clear A p r no x xq xl xc P w h hN hqn hats hq
  by_cases h7 : wh = 7
  · subst h7; exact does_removeA A p r no x xq xl xc P w h hN hqn hats hq
  by_cases h8 : wh = 8
  · subst h8; exact does_swapA A p r no x xq xl xc P w h hN hqn hats hq
  by_cases h9 : wh = 9
  · subst h9; exact does_insertA A p r no x xq xl xc P w h hN hqn hats hq
  exact does_otherA A p r wh no x xq xl xc P w h hN hqn hats hq ⟨beq_eq_false_iff_ne.2 h0, beq_eq_false_iff_ne.2 h1, beq_eq_false_iff_ne.2 h2, beq_eq_false_iff_ne.2 h3, beq_eq_false_iff_ne.2 h4, beq_eq_false_iff_ne.2 h5, beq_eq_false_iff_ne.2 h6, beq_eq_false_iff_ne.2 h7, beq_eq_false_iff_ne.2 h8, beq_eq_false_iff_ne.2 h9⟩
theorem WayA.comp {A p r : Nat} {w wr wd W : World} {P Q P2 Q2 : List PEnt} (h : WayA A p r w P Q wr) (hb : Below wr.heap.size wr wd) (h2 : WayA A p r wd P2 Q2 W) : WayA A p r w P2 Q2 W :=
  ⟨h2.lst, h2.rlst, h2.hp, (h.bel.trans (hb.mono h.sz)).trans h2.bel, fun b sv hk => h2.blk b sv ((h.blk b sv hk).later hb), h2.sz⟩
theorem WayA.self {A p r : Nat} {w W : World} {P Q : List PEnt} (h : WayA A p r w P Q W) : WayA A p r W P Q W := ⟨h.lst, h.rlst, h.hp, Below.refl _ _, fun _ _ h => h, h.sz⟩
/-- The reference's list with its rows named. -/
def RM (A r : Nat) (v : Value) (M : List AEnt) (P : List PEnt) (w : World) : Prop := RStk A r v M w ∧ Rel2 (REnt A w) M P ∧ A ≤ r
theorem RM.later {A r : Nat} {v : Value} {M : List AEnt} {P : List PEnt} {w w' : World} (h : RM A r v M P w) (hb : Below w.heap.size w w') : RM A r v M P w' := by
  obtain ⟨hs, hr, hp⟩ := h
  exact ⟨hs.later hb, hr.mono fun a b hab => hab.tch (Tch.of_below (p := r) (o := v.ownBlock) hb) hp (fun k hk => (hs.2.1.lt k hk).1), hp⟩
/-- An entry in the row of one list, and one in that of the other. -/
def KeepY (ga o r : Nat) (v : Value) (g2 o2 : Nat) (xm : Bool) (xi : Int) (xn : ByteArray) (qa : Option Addr) (na ca : Nat) (qb : Option Addr) (nb cb : Nat) (W : World) : Prop :=
  W.cell? ⟨ga, o, none⟩ = some (.bool xm) ∧ W.cell? ⟨ga, o + 1, none⟩ = some (.int .i64 xi) ∧ W.cell? ⟨ga, o + 2, none⟩ = some (.string xn) ∧ W.cell? ⟨ga, o + 3, none⟩ = some (.slice qa na ca) ∧
  W.cell? ⟨r, 0, none⟩ = some v ∧
  W.cell? ⟨g2, o2, none⟩ = some (.bool xm) ∧ W.cell? ⟨g2, o2 + 1, none⟩ = some (.int .i64 xi) ∧ W.cell? ⟨g2, o2 + 2, none⟩ = some (.string xn) ∧ W.cell? ⟨g2, o2 + 3, none⟩ = some (.slice qb nb cb)
theorem KeepY.below {ga o r g2 o2 : Nat} {v : Value} {xm : Bool} {xi : Int} {xn : ByteArray} {qa qb : Option Addr} {na ca nb cb : Nat} {w w' : World} (h : KeepY ga o r v g2 o2 xm xi xn qa na ca qb nb cb w) (hb : Below w.heap.size w w') : KeepY ga o r v g2 o2 xm xi xn qa na ca qb nb cb w' :=
  ⟨cell_later hb h.1, cell_later hb h.2.1, cell_later hb h.2.2.1, cell_later hb h.2.2.2.1, cell_later hb h.2.2.2.2.1, cell_later hb h.2.2.2.2.2.1, cell_later hb h.2.2.2.2.2.2.1, cell_later hb h.2.2.2.2.2.2.2.1, cell_later hb h.2.2.2.2.2.2.2.2⟩
def KeepE (e : Nat) (xm : Bool) (xi : Int) (xn : ByteArray) (q : Option Addr) (n c : Nat) (W : World) : Prop :=
  W.cell? ⟨e, 0, none⟩ = some (.bool xm) ∧ W.cell? ⟨e, 1, none⟩ = some (.int .i64 xi) ∧ W.cell? ⟨e, 2, none⟩ = some (.string xn) ∧ W.cell? ⟨e, 3, none⟩ = some (.slice q n c)
theorem KeepE.below {e : Nat} {xm : Bool} {xi : Int} {xn : ByteArray} {q : Option Addr} {n c : Nat} {w w' : World} (h : KeepE e xm xi xn q n c w) (hb : Below w.heap.size w w') : KeepE e xm xi xn q n c w' :=
  ⟨cell_later hb h.1, cell_later hb h.2.1, cell_later hb h.2.2.1, cell_later hb h.2.2.2⟩
/-- What the loop keeps. -/
def StepsA (A p r : Nat) (w : World) (n : Nat) (i : Value) (wr : World) : Prop :=
  ∃ (k : Nat) (P : List PEnt), k ≤ n ∧ i = .int .i64 k ∧ P.length ≤ 100 ∧ WayA A p r w P P wr

set_option maxHeartbeats 1000000 in
theorem asteps_long (q : Option Addr) (n cap : Nat) (nm : ByteArray) (qo : Option Addr) (m capo : Nat) (w : World) (h : 130 < n) :
    Calls Try.prog 4 #[.slice q n cap, .string nm, .slice qo m capo] w fun e w' => e = .returned (.bool true) ∧ Below w.heap.size w w' := by
  have CN := hide (fun w => new_p w.heap.size w (Nat.le_refl _))
  have CC := hide (fun w => four_any w)
  have h1 : (130 : Int) < (n : Int) := by omega
  unfold ptr at *
  go_enter Try.func4, Try.ntmps4
  go_wp2_with fail
  refine (unhide CN _).mono ?_
  rintro e w1 ⟨rfl, _, hb1⟩
  have HB := hide hb1
  clear hb1
  go_wp2_with fail
  refine (unhide CC _).mono ?_
  rintro e w3 ⟨rfl, hb3⟩
  go_wp2
  go_ret
  exact ⟨rfl, tr2 (unhide HB) hb3⟩
set_option maxHeartbeats 1000000 in
theorem asteps_open (q : Option Addr) (n cap : Nat) (nm : ByteArray) (qo : Option Addr) (m capo : Nat) (w : World) (h : ¬ 130 < n) (hm : 50 < m) :
    Calls Try.prog 4 #[.slice q n cap, .string nm, .slice qo m capo] w fun e w' => e = .returned (.bool true) ∧ Below w.heap.size w w' := by
  have CN := hide (fun w => new_p w.heap.size w (Nat.le_refl _))
  have CC := hide (fun w => four_any w)
  have h1 : ¬ (130 : Int) < (n : Int) := by omega
  have h2 : (50 : Int) < (m : Int) := by omega
  unfold ptr at *
  go_enter Try.func4, Try.ntmps4
  go_wp2_with fail
  refine (unhide CN _).mono ?_
  rintro e w1 ⟨rfl, _, hb1⟩
  have HB := hide hb1
  clear hb1
  go_wp2_with fail
  refine (unhide CC _).mono ?_
  rintro e w3 ⟨rfl, hb3⟩
  go_wp2
  go_ret
  exact ⟨rfl, tr2 (unhide HB) hb3⟩

set_option maxHeartbeats 40000000 in
set_option maxRecDepth 100000 in
theorem asteps_main (q : Option Addr) (n cap : Nat) (ls : List AStp) (nm : ByteArray) (qo : Option Addr) (m capo : Nat) (zs : List Int) (w : World) (hn : Hid (ls.length = n)) (h130 : n ≤ 130) (hls : ls = [] ∨ ∃ g o, q = some ⟨g, o, none⟩ ∧ CellsS g o ls w) (h50 : m ≤ 50) (hz : IntsV qo m zs w) :
    Calls Try.prog 4 #[.slice q n cap, .string nm, .slice qo m capo] w fun e w' => e = .returned (.bool true) ∧ Below w.heap.size w w' := by
  have CN := hide (fun w => new_p w.heap.size w (Nat.le_refl _))
  have CC := hide (fun w => four_any w)
  have CD0 := hide (fun A p r wh no x xq xl xc P W h hN hqn hats hq => doesA_any A p r wh no x xq xl xc P W h hN hqn hats hq)
  have HC := hide hls
  have HZ := hide hz
  have h1 : ¬ (130 : Int) < (n : Int) := by omega
  have h2 : ¬ (50 : Int) < (m : Int) := by omega
  clear hls hz
  unfold ptr boxA at *
  go_enter Try.func4, Try.ntmps4
  go_wp2_with fail
  refine (unhide CN _).mono ?_
  rintro e w2 ⟨rfl, hs2, hb2⟩
  have al : Below w2.heap.size w2 (w2.alloc (Obj.cells #[.slice none 0 0] 55)) := (Below.refl _ _).alloc (Nat.le_refl _) _
  have HAT : Hid (StepsA w.heap.size w.heap.size w2.heap.size w n (.int .i64 0) (w2.alloc (Obj.cells #[.slice none 0 0] 55))) :=
    hide ⟨0, [], Nat.zero_le _, rfl, by simp, ⟨_, hs2.later al⟩, ⟨.slice none 0 0, [], ⟨Blk.new w2 _ _, World.ownsRow_nil _ _ _ _, by simp [Value.ownBlock]⟩, trivial, Nat.le_refl _, hb2.size⟩, Nat.le_refl _, tr2 hb2 al, fun b sv hk => (hk.later hb2).later al, by have := hb2.size; have := al.size; omega⟩
  clear hs2 hb2 al
  go_wp2
  generalize w2.heap.size = r at *
  obtain ⟨A, hA⟩ : ∃ A, w.heap.size = A := ⟨_, rfl⟩
  have HA := hide hA
  rw [hA] at HAT
  rw [hA]
  clear hA
  go_loopw [38] (fun i wr => StepsA A A r w n i wr) (fun i _ => n - (intOf i).toNat)
  case atStart => exact unhide HAT
  case round =>
    clear HAT
    obtain ⟨k, P, hk, rfl, hP, hW⟩ := hrel
    have hbw : Below w.heap.size w wr := by rw [unhide HA]; exact hW.bel
    have HBW := hide hbw
    have HW := hide hW
    by_cases hlk : k < n
    · have hlti : (k : Int) < (n : Int) := by omega
      rcases unhide HC with hnil | ⟨g, o, hq, hcs⟩
      · have := unhide hn; rw [hnil] at this; simp at this; omega
      subst hq
      have hkl : k < ls.length := by rw [unhide hn]; exact hlk
      have hatw := (hcs k hkl).2.2.2.2.2.2.2
      obtain ⟨c0, c1, c2, c3, c4, c5, hqn, hat⟩ := (hcs k hkl).below hbw
      generalize ls.getD k st0 = y at *
      obtain ⟨wh, no, ⟨xm, xi, xn, ats⟩, xq, xl, xc⟩ := y
      dsimp only at *
      have hqA : ∀ a, xq = some a → 0 < xl → a.block < A := fun a ha h0 => by have := hatw.lt ha h0; rw [unhide HA] at this; exact this
      have al : Below wr.heap.size wr (wr.alloc (Obj.cells #[.int .i64 wh, .int .i64 no, .bool xm, .int .i64 xi, .string xn, .slice xq xl xc] 60)) := (Below.refl _ _).alloc (Nat.le_refl _) _
      by_cases h20 : 20 < xl
      · have h20i : (20 : Int) < (xl : Int) := by omega
        have HBa := hide (tr2 hbw al)
        clear hW hbw hcs hkl hatw hqn hat al CD0 hqA
        go_wp2_with fail
        refine (unhide CC _).mono ?_
        rintro e w9 ⟨rfl, hb9⟩
        go_wp2
        go_ret
        exact ⟨rfl, tr2 (unhide HBa) hb9⟩
      have h20i : ¬ (20 : Int) < (xl : Int) := by omega
      have ald : Below wr.heap.size wr (wr.alloc (Obj.cells #[.int .i64 wh, .int .i64 no, .bool xm, .int .i64 xi, .string xn, .slice xq xl xc] 60)).drew := tr2 al (below_draws _ 1)
      have kX : Blk (wr.alloc (Obj.cells #[.int .i64 wh, .int .i64 no, .bool xm, .int .i64 xi, .string xn, .slice xq xl xc] 60)).drew wr.heap.size (boxA wh no ⟨xm, xi, xn, ats⟩ xq xl xc) 60 := (Blk.new wr #[.int .i64 wh, .int .i64 no, .bool xm, .int .i64 xi, .string xn, .slice xq xl xc] 60).later (below_draws _ 1)
      have KX := hide kX
      have ALD := hide ald
      have HS : Hid (BoxA wr.heap.size wh no xm xi xn xq xl xc (wr.alloc (Obj.cells #[.int .i64 wh, .int .i64 no, .bool xm, .int .i64 xi, .string xn, .slice xq xl xc] 60)).drew) := hide (BoxA.of kX)
      have CD := hide (unhide CD0 A A r wh no ⟨xm, xi, xn, ats⟩ xq xl xc P _ (hW.later ald).self hP hqn (hat.below ald) hqA)
      clear hW hbw hcs hkl hatw hqn hat al ald kX CD0 hqA
      dsimp only at CD
      go_wp2_with fail
      have hSa := unhide HS
      refine wp_region_held (S := BoxA wr.heap.size wh no xm xi xn xq xl xc) (by kernel_rfl) ?_
      change wpAnyH _ _ _ _ _ _ _ _ (World.drew _)
      refine wpAnyH_take (i := 0) (oi := { dst := some 48, op := _, type := _, pos := _, after := _, guard := _ }) (v := ?va0_1) rfl (by kernel_rfl) (by kernel_rfl) (by kernel_rfl) (fun _ _ _ h => h) (Or.inl ⟨by kernel_rfl, ?ha0_1⟩) hSa ?ra0_1
      case ha0_1 => first | (intro w hSw; obtain ⟨s0, s1, s2, s3, s4, s5⟩ := hSw; go_simp; done) | (intro w hSw; obtain ⟨s0, s1, s2, s3, s4, s5⟩ := hSw; go_simp; with_reducible rfl)
      try simp only [Act.put, List.setIfInBounds_toArray, List.set_cons_zero, List.set_cons_succ]
      refine wpAnyH_take (i := 1) (oi := { dst := some 49, op := _, type := _, pos := _, after := _, guard := _ }) (v := ?va1_2) rfl (by kernel_rfl) (by kernel_rfl) (by kernel_rfl) (fun _ _ _ h => h) (Or.inl ⟨by kernel_rfl, ?ha1_2⟩) hSa ?ra1_2
      case ha1_2 => first | (intro w hSw; obtain ⟨s0, s1, s2, s3, s4, s5⟩ := hSw; go_simp; done) | (intro w hSw; obtain ⟨s0, s1, s2, s3, s4, s5⟩ := hSw; go_simp; with_reducible rfl)
      try simp only [Act.put, List.setIfInBounds_toArray, List.set_cons_zero, List.set_cons_succ]
      refine wpAnyH_take (i := 2) (oi := { dst := some 50, op := _, type := _, pos := _, after := _, guard := _ }) (v := ?va2_3) rfl (by kernel_rfl) (by kernel_rfl) (by kernel_rfl) (fun _ _ _ h => h) (Or.inl ⟨by kernel_rfl, ?ha2_3⟩) hSa ?ra2_3
      case ha2_3 => first | (intro w hSw; obtain ⟨s0, s1, s2, s3, s4, s5⟩ := hSw; go_simp; done) | (intro w hSw; obtain ⟨s0, s1, s2, s3, s4, s5⟩ := hSw; go_simp; with_reducible rfl)
      try simp only [Act.put, List.setIfInBounds_toArray, List.set_cons_zero, List.set_cons_succ]
      refine wpAnyH_ready (rs := [3]) (by kernel_rfl) (by simp) ?_
      refine AllReadyH.cons rfl (fun K hK => ?_) AllReadyH.nil
      go_simp
      refine (unhide CD).mono ?_
      rintro e w4 ⟨rfl, P2, hP2, hw⟩
      have HKb := hide (hw.blk _ _ (unhide KX))
      have hSa' := BoxA.of (unhide HKb)
      have HWn := hide ((unhide HW).comp (unhide ALD) hw)
      have F1 : Hid (∀ W, WayA A A r w P2 P2 W → Calls Try.prog 23 #[ptr A, .int .i64 no] W fun e w' => e = .returned (.int .i64 (findP no P2)) ∧ Below W.heap.size W w') := hide fun W hW => by obtain ⟨v, hv⟩ := hW.lst; exact find_p A A v no P2 W hv
      have F2 : Hid (∀ W, WayA A A r w P2 P2 W → Calls Try.prog 24 #[ptr r, .int .i64 no] W fun e w' => e = .returned (.int .i64 (findP no P2)) ∧ Below W.heap.size W w') := hide fun W hW => by obtain ⟨u, hu⟩ := hW.rlst; exact rfind_p A A r u no P2 W hu (by omega)
      generalize findP no P2 = fN at F1 F2
      have enn : (fN == fN) = true := by simp
      unfold ptr at F1 F2
      clear hw CD
      refine hK _ _ hSa' (fun _ => ?_)
      clear hK K hSa
      have hSa := hSa'
      clear hSa'
      refine wpAnyH_take (i := 4) (oi := { dst := some 52, op := _, type := _, pos := _, after := _, guard := _ }) (v := ?va4_4) rfl (by kernel_rfl) (by kernel_rfl) (by kernel_rfl) (fun _ _ _ h => h) (Or.inl ⟨by kernel_rfl, ?ha4_4⟩) hSa ?ra4_4
      case ha4_4 => first | (intro w hSw; obtain ⟨s0, s1, s2, s3, s4, s5⟩ := hSw; go_simp; done) | (intro w hSw; obtain ⟨s0, s1, s2, s3, s4, s5⟩ := hSw; go_simp; with_reducible rfl)
      try simp only [Act.put, List.setIfInBounds_toArray, List.set_cons_zero, List.set_cons_succ]
      refine wpAnyH_take (i := 5) (oi := { dst := some 53, op := _, type := _, pos := _, after := _, guard := _ }) (v := ?va5_5) rfl (by kernel_rfl) (by kernel_rfl) (by kernel_rfl) (fun _ _ _ h => h) (Or.inl ⟨by kernel_rfl, ?ha5_5⟩) hSa ?ra5_5
      case ha5_5 => first | (intro w hSw; obtain ⟨s0, s1, s2, s3, s4, s5⟩ := hSw; go_simp; done) | (intro w hSw; obtain ⟨s0, s1, s2, s3, s4, s5⟩ := hSw; go_simp; with_reducible rfl)
      try simp only [Act.put, List.setIfInBounds_toArray, List.set_cons_zero, List.set_cons_succ]
      refine wpAnyH_take (i := 6) (oi := { dst := some 54, op := _, type := _, pos := _, after := _, guard := _ }) (v := ?va6_6) rfl (by kernel_rfl) (by kernel_rfl) (by kernel_rfl) (fun _ _ _ h => h) (Or.inl ⟨by kernel_rfl, ?ha6_6⟩) hSa ?ra6_6
      case ha6_6 => first | (intro w hSw; obtain ⟨s0, s1, s2, s3, s4, s5⟩ := hSw; go_simp; done) | (intro w hSw; obtain ⟨s0, s1, s2, s3, s4, s5⟩ := hSw; go_simp; with_reducible rfl)
      try simp only [Act.put, List.setIfInBounds_toArray, List.set_cons_zero, List.set_cons_succ]
      refine wpAnyH_take (i := 7) (oi := { dst := some 55, op := _, type := _, pos := _, after := _, guard := _ }) (v := ?va7_7) rfl (by kernel_rfl) (by kernel_rfl) (by kernel_rfl) (fun _ _ _ h => h) (Or.inl ⟨by kernel_rfl, ?ha7_7⟩) hSa ?ra7_7
      case ha7_7 => first | (intro w hSw; obtain ⟨s0, s1, s2, s3, s4, s5⟩ := hSw; go_simp; done) | (intro w hSw; obtain ⟨s0, s1, s2, s3, s4, s5⟩ := hSw; go_simp; with_reducible rfl)
      try simp only [Act.put, List.setIfInBounds_toArray, List.set_cons_zero, List.set_cons_succ]
      refine wpAnyH_take (i := 8) (oi := { dst := some 56, op := _, type := _, pos := _, after := _, guard := _ }) (v := ?va8_8) rfl (by kernel_rfl) (by kernel_rfl) (by kernel_rfl) (fun _ _ _ h => h) (Or.inl ⟨by kernel_rfl, ?ha8_8⟩) hSa ?ra8_8
      case ha8_8 => first | (intro w hSw; obtain ⟨s0, s1, s2, s3, s4, s5⟩ := hSw; go_simp; done) | (intro w hSw; obtain ⟨s0, s1, s2, s3, s4, s5⟩ := hSw; go_simp; with_reducible rfl)
      try simp only [Act.put, List.setIfInBounds_toArray, List.set_cons_zero, List.set_cons_succ]
      refine wpAnyH_take (i := 10) (oi := { dst := some 58, op := _, type := _, pos := _, after := _, guard := _ }) (v := ?va10_9) rfl (by kernel_rfl) (by kernel_rfl) (by kernel_rfl) (fun _ _ _ h => h) (Or.inl ⟨by kernel_rfl, ?ha10_9⟩) hSa ?ra10_9
      case ha10_9 => first | (intro w hSw; obtain ⟨s0, s1, s2, s3, s4, s5⟩ := hSw; go_simp; done) | (intro w hSw; obtain ⟨s0, s1, s2, s3, s4, s5⟩ := hSw; go_simp; with_reducible rfl)
      try simp only [Act.put, List.setIfInBounds_toArray, List.set_cons_zero, List.set_cons_succ]
      refine wpAnyH_take (i := 11) (oi := { dst := some 59, op := _, type := _, pos := _, after := _, guard := _ }) (v := ?va11_10) rfl (by kernel_rfl) (by kernel_rfl) (by kernel_rfl) (fun _ _ _ h => h) (Or.inl ⟨by kernel_rfl, ?ha11_10⟩) hSa ?ra11_10
      case ha11_10 => first | (intro w hSw; obtain ⟨s0, s1, s2, s3, s4, s5⟩ := hSw; go_simp; done) | (intro w hSw; obtain ⟨s0, s1, s2, s3, s4, s5⟩ := hSw; go_simp; with_reducible rfl)
      try simp only [Act.put, List.setIfInBounds_toArray, List.set_cons_zero, List.set_cons_succ]
      refine wpAnyH_take (i := 12) (oi := { dst := some 60, op := _, type := _, pos := _, after := _, guard := _ }) (v := ?va12_11) rfl (by kernel_rfl) (by kernel_rfl) (by kernel_rfl) (fun _ _ _ h => h) (Or.inl ⟨by kernel_rfl, ?ha12_11⟩) hSa ?ra12_11
      case ha12_11 => first | (intro w hSw; obtain ⟨s0, s1, s2, s3, s4, s5⟩ := hSw; go_simp; done) | (intro w hSw; obtain ⟨s0, s1, s2, s3, s4, s5⟩ := hSw; go_simp; with_reducible rfl)
      try simp only [Act.put, List.setIfInBounds_toArray, List.set_cons_zero, List.set_cons_succ]
      refine wpAnyH_ready (rs := [9]) (by kernel_rfl) (by simp) ?_
      refine AllReadyH.cons rfl (fun K hK => ?_) AllReadyH.nil
      go_simp
      refine (unhide F1 _ (unhide HWn)).mono ?_
      rintro e w5 ⟨rfl, hb⟩
      replace HWn := hide ((unhide HWn).later hb)
      replace HKb := hide ((unhide HKb).later hb)
      have hSa' := BoxA.of (unhide HKb)
      clear hb
      refine hK _ _ hSa' (fun _ => ?_)
      clear hK K hSa
      have hSa := hSa'
      clear hSa'
      refine wpAnyH_ready (rs := [13]) (by kernel_rfl) (by simp) ?_
      refine AllReadyH.cons rfl (fun K hK => ?_) AllReadyH.nil
      go_simp
      refine (unhide F2 _ (unhide HWn)).mono ?_
      rintro e w6 ⟨rfl, hb⟩
      replace HWn := hide ((unhide HWn).later hb)
      replace HKb := hide ((unhide HKb).later hb)
      have hSa' := BoxA.of (unhide HKb)
      clear hb
      refine hK _ _ hSa' (fun _ => ?_)
      clear hK K hSa
      have hSa := hSa'
      clear hSa'
      refine wpAnyH_take (i := 14) (oi := { dst := some 62, op := _, type := _, pos := _, after := _, guard := _ }) (v := ?va14_12) rfl (by kernel_rfl) (by kernel_rfl) (by kernel_rfl) (fun _ _ _ h => h) (Or.inl ⟨by kernel_rfl, ?ha14_12⟩) hSa ?ra14_12
      case ha14_12 => first | (intro w hSw; obtain ⟨s0, s1, s2, s3, s4, s5⟩ := hSw; go_simp; done) | (intro w hSw; obtain ⟨s0, s1, s2, s3, s4, s5⟩ := hSw; go_simp; with_reducible rfl)
      try simp only [Act.put, List.setIfInBounds_toArray, List.set_cons_zero, List.set_cons_succ]
      refine wpAnyH_take (i := 15) (oi := { dst := some 63, op := _, type := _, pos := _, after := _, guard := _ }) (v := ?va15_13) rfl (by kernel_rfl) (by kernel_rfl) (by kernel_rfl) (fun _ _ _ h => h) (Or.inl ⟨by kernel_rfl, ?ha15_13⟩) hSa ?ra15_13
      case ha15_13 => first | (intro w hSw; obtain ⟨s0, s1, s2, s3, s4, s5⟩ := hSw; go_simp; done) | (intro w hSw; obtain ⟨s0, s1, s2, s3, s4, s5⟩ := hSw; go_simp; with_reducible rfl)
      try simp only [Act.put, List.setIfInBounds_toArray, List.set_cons_zero, List.set_cons_succ]
      refine wpAnyH_done (by kernel_rfl) ?_ _
      clear hSa HS HKb F1 F2 enn KX ALD HW
      have AL : Hid (∀ W, WayA A A r w P2 P2 W → Calls Try.prog 25 #[ptr A] W (AllSaid P2 W)) := hide fun W hW => by obtain ⟨v, hv⟩ := hW.lst; exact all_p A A v P2 W hv (by omega)
      unfold ptr at AL
      go_wp2_with fail
      refine (unhide AL _ (unhide HWn)).mono ?_
      rintro e w7 ⟨ua, L2, rfl, hrow, hrel2, hb⟩
      replace HWn := hide ((unhide HWn).later hb)
      clear hb AL
      obtain ⟨qa, na, ca, rfl⟩ := slice_of hrow
      have hna := row_len hrow
      subst hna
      obtain ⟨u, M, hms, hmr, hA', hmp⟩ := (unhide HWn).rlst
      obtain ⟨q2, cap2, rfl, hc2, hm2, hg2⟩ := hms.slice
      obtain ⟨t, ht⟩ : ∃ t, P2.length = t := ⟨_, rfl⟩
      have HT := hide ht
      have HL2 : Hid (L2.length = t) := hide (by rw [← ht]; exact hrel2.len)
      have HML : Hid (M.length = t) := hide (by rw [← ht]; exact hmr.len)
      have ht100 : t ≤ 100 := by rw [← ht]; exact hP2
      have HM : Hid (RM A r (.slice q2 M.length cap2) M P2 w7) := hide ⟨hms, hmr, hmp⟩
      have HG := hide hg2
      have HRow := hide (And.intro hrow hrel2)
      have c7 : w7.cell? ⟨r, 0, none⟩ = some (.slice q2 M.length cap2) := hms.1.cell 0
      rw [unhide HML] at c7
      rw [ht]
      clear hrow hrel2 hms hmr hA' hmp hg2 ht
      have ett : ((t : Int) == (t : Int)) = true := by simp
      go_wp2
      go_loopw [76] (fun i wr2 => ∃ j : Nat, j ≤ t ∧ i = .int .i64 j ∧ Below w7.heap.size w7 wr2) (fun i _ => t - (intOf i).toNat)
      case atStart => exact ⟨0, Nat.zero_le _, rfl, Below.refl _ _⟩
      case round =>
        obtain ⟨j, hj, rfl, hbj⟩ := hrel
        have HBj := hide hbj
        replace HWn := hide ((unhide HWn).later hbj)
        replace HM := hide ((unhide HM).later hbj)
        by_cases hjt : j < t
        · have hjti : (j : Int) < (t : Int) := by omega
          have hi0 : (0 : Int) ≤ (j : Int) := by omega
          have hwi : IntKind.i64.wrap (j : Int) = j := by rw [IntKind.wrap_i64]; omega
          have hbd := tr2 hbj (below_draws _ 1)
          obtain ⟨hrow, hrel2⟩ := unhide HRow
          obtain ⟨ga, hga⟩ := row_at hrow (by rw [unhide HT]; omega)
          subst hga
          rw [← hrel2.len] at hrow
          obtain ⟨a0, a1, a2, a3⟩ := (cells4_of_row hrow).below hbd j (by rw [unhide HL2]; exact hjt)
          rw [Nat.zero_add] at a0 a1 a2 a3
          obtain ⟨e1, e2, e3, e4, _, _⟩ := hrel2.get j (by rw [unhide HL2]; exact hjt)
          obtain ⟨hms, hmr2, hmp⟩ := (unhide HM).later (below_draws _ 1)
          have hMi := hmr2.get j (by rw [unhide HML]; exact hjt)
          obtain ⟨g2, hg2q, _⟩ := (unhide HG) (by rw [unhide HML]; omega)
          subst hg2q
          obtain ⟨d0, d1, d2, d3⟩ := (RStk.cells hms) j (by rw [unhide HML]; exact hjt)
          rw [Nat.zero_add] at d0 d1 d2 d3
          have d4 : World.cell? _ ⟨r, 0, none⟩ = some (.slice (some ⟨g2, 0, none⟩) M.length cap2) := hms.1.cell 0
          rw [unhide HML] at d4
          obtain ⟨f1, f2, f3, f4, f5⟩ := hMi
          rw [f1] at d0
          rw [f2] at d1
          rw [f3] at d2
          rw [e1] at a0
          rw [e2] at a1
          rw [e3] at a2
          have e4' := e4.1.below hbd
          generalize (P2.getD j p0).mr = ym at *
          generalize (P2.getD j p0).id = yi at *
          generalize (P2.getD j p0).nm = yn at *
          generalize (P2.getD j p0).ats = yats at *
          generalize (M.getD j e0).q = qb at *
          generalize (M.getD j e0).n = nb at *
          generalize (M.getD j e0).c = cb at *
          generalize (L2.getD j e0).q = qx at *
          generalize (L2.getD j e0).n = nx at *
          generalize (L2.getD j e0).c = cx at *
          have HSB : Hid (KeepY ga (j * 4) r (.slice (some ⟨g2, 0, none⟩) t cap2) g2 (j * 4) ym yi yn qx nx cx qb nb cb wr.drew) := hide ⟨a0, a1, a2, a3, d4, d0, d1, d2, d3⟩
          have HSE : Hid (AtsV qx nx yats wr.drew ∧ AtsV qb nb yats wr.drew) := hide ⟨e4', f4⟩
          have SE := hide (fun W (h : AtsV qx nx yats W ∧ AtsV qb nb yats W) => same_entry ym yi yn qx qb nx nb cx cb yats W h.1 h.2)
          clear hrow hrel2 a0 a1 a2 a3 e1 e2 e3 e4 e4' hms hmr2 hmp d0 d1 d2 d3 d4 f1 f2 f3 f4 f5 hbd hbj c7
          go_wp2_with fail
          have hSb := unhide HSB
          refine wp_region_held (S := KeepY ga (j * 4) r (.slice (some ⟨g2, 0, none⟩) t cap2) g2 (j * 4) ym yi yn qx nx cx qb nb cb) (by kernel_rfl) ?_
          change wpAnyH _ _ _ _ _ _ _ _ (World.drew _)
          refine wpAnyH_take (i := 0) (oi := { dst := some 79, op := _, type := _, pos := _, after := _, guard := _ }) (v := ?vb0_14) rfl (by kernel_rfl) (by kernel_rfl) (by kernel_rfl) (fun _ _ _ h => h) (Or.inl ⟨by kernel_rfl, ?hb0_14⟩) hSb ?rb0_14
          case hb0_14 => first | (intro w hSw; obtain ⟨s0, s1, s2, s3, s4, s5, s6, s7, s8⟩ := hSw; go_simp; done) | (intro w hSw; obtain ⟨s0, s1, s2, s3, s4, s5, s6, s7, s8⟩ := hSw; go_simp; with_reducible rfl)
          try simp only [Act.put, List.setIfInBounds_toArray, List.set_cons_zero, List.set_cons_succ]
          refine wpAnyH_take (i := 1) (oi := { dst := some 80, op := _, type := _, pos := _, after := _, guard := _ }) (v := ?vb1_15) rfl (by kernel_rfl) (by kernel_rfl) (by kernel_rfl) (fun _ _ _ h => h) (Or.inl ⟨by kernel_rfl, ?hb1_15⟩) hSb ?rb1_15
          case hb1_15 => first | (intro w hSw; obtain ⟨s0, s1, s2, s3, s4, s5, s6, s7, s8⟩ := hSw; go_simp; done) | (intro w hSw; obtain ⟨s0, s1, s2, s3, s4, s5, s6, s7, s8⟩ := hSw; go_simp; with_reducible rfl)
          try simp only [Act.put, List.setIfInBounds_toArray, List.set_cons_zero, List.set_cons_succ]
          refine wpAnyH_take (i := 2) (oi := { dst := some 81, op := _, type := _, pos := _, after := _, guard := _ }) (v := ?vb2_16) rfl (by kernel_rfl) (by kernel_rfl) (by kernel_rfl) (fun _ _ _ h => h) (Or.inl ⟨by kernel_rfl, ?hb2_16⟩) hSb ?rb2_16
          case hb2_16 => first | (intro w hSw; obtain ⟨s0, s1, s2, s3, s4, s5, s6, s7, s8⟩ := hSw; go_simp; done) | (intro w hSw; obtain ⟨s0, s1, s2, s3, s4, s5, s6, s7, s8⟩ := hSw; go_simp; with_reducible rfl)
          try simp only [Act.put, List.setIfInBounds_toArray, List.set_cons_zero, List.set_cons_succ]
          refine wpAnyH_take (i := 3) (oi := { dst := some 82, op := _, type := _, pos := _, after := _, guard := _ }) (v := ?vb3_17) rfl (by kernel_rfl) (by kernel_rfl) (by kernel_rfl) (fun _ _ _ h => h) (Or.inl ⟨by kernel_rfl, ?hb3_17⟩) hSb ?rb3_17
          case hb3_17 => first | (intro w hSw; obtain ⟨s0, s1, s2, s3, s4, s5, s6, s7, s8⟩ := hSw; go_simp; done) | (intro w hSw; obtain ⟨s0, s1, s2, s3, s4, s5, s6, s7, s8⟩ := hSw; go_simp; with_reducible rfl)
          try simp only [Act.put, List.setIfInBounds_toArray, List.set_cons_zero, List.set_cons_succ]
          refine wpAnyH_take (i := 4) (oi := { dst := some 83, op := _, type := _, pos := _, after := _, guard := _ }) (v := ?vb4_18) rfl (by kernel_rfl) (by kernel_rfl) (by kernel_rfl) (fun _ _ _ h => h) (Or.inl ⟨by kernel_rfl, ?hb4_18⟩) hSb ?rb4_18
          case hb4_18 => first | (intro w hSw; obtain ⟨s0, s1, s2, s3, s4, s5, s6, s7, s8⟩ := hSw; go_simp; done) | (intro w hSw; obtain ⟨s0, s1, s2, s3, s4, s5, s6, s7, s8⟩ := hSw; go_simp; with_reducible rfl)
          try simp only [Act.put, List.setIfInBounds_toArray, List.set_cons_zero, List.set_cons_succ]
          refine wpAnyH_take (i := 5) (oi := { dst := some 84, op := _, type := _, pos := _, after := _, guard := _ }) (v := ?vb5_19) rfl (by kernel_rfl) (by kernel_rfl) (by kernel_rfl) (fun _ _ _ h => h) (Or.inl ⟨by kernel_rfl, ?hb5_19⟩) hSb ?rb5_19
          case hb5_19 => first | (intro w hSw; obtain ⟨s0, s1, s2, s3, s4, s5, s6, s7, s8⟩ := hSw; go_simp; done) | (intro w hSw; obtain ⟨s0, s1, s2, s3, s4, s5, s6, s7, s8⟩ := hSw; go_simp; with_reducible rfl)
          try simp only [Act.put, List.setIfInBounds_toArray, List.set_cons_zero, List.set_cons_succ]
          refine wpAnyH_take (i := 6) (oi := { dst := some 85, op := _, type := _, pos := _, after := _, guard := _ }) (v := ?vb6_20) rfl (by kernel_rfl) (by kernel_rfl) (by kernel_rfl) (fun _ _ _ h => h) (Or.inl ⟨by kernel_rfl, ?hb6_20⟩) hSb ?rb6_20
          case hb6_20 => first | (intro w hSw; obtain ⟨s0, s1, s2, s3, s4, s5, s6, s7, s8⟩ := hSw; go_simp; done) | (intro w hSw; obtain ⟨s0, s1, s2, s3, s4, s5, s6, s7, s8⟩ := hSw; go_simp; with_reducible rfl)
          try simp only [Act.put, List.setIfInBounds_toArray, List.set_cons_zero, List.set_cons_succ]
          refine wpAnyH_take (i := 7) (oi := { dst := some 86, op := _, type := _, pos := _, after := _, guard := _ }) (v := ?vb7_21) rfl (by kernel_rfl) (by kernel_rfl) (by kernel_rfl) (fun _ _ _ h => h) (Or.inl ⟨by kernel_rfl, ?hb7_21⟩) hSb ?rb7_21
          case hb7_21 => first | (intro w hSw; obtain ⟨s0, s1, s2, s3, s4, s5, s6, s7, s8⟩ := hSw; go_simp; done) | (intro w hSw; obtain ⟨s0, s1, s2, s3, s4, s5, s6, s7, s8⟩ := hSw; go_simp; with_reducible rfl)
          try simp only [Act.put, List.setIfInBounds_toArray, List.set_cons_zero, List.set_cons_succ]
          refine wpAnyH_take (i := 8) (oi := { dst := some 87, op := _, type := _, pos := _, after := _, guard := _ }) (v := ?vb8_22) rfl (by kernel_rfl) (by kernel_rfl) (by kernel_rfl) (fun _ _ _ h => h) (Or.inl ⟨by kernel_rfl, ?hb8_22⟩) hSb ?rb8_22
          case hb8_22 => first | (intro w hSw; obtain ⟨s0, s1, s2, s3, s4, s5, s6, s7, s8⟩ := hSw; go_simp; done) | (intro w hSw; obtain ⟨s0, s1, s2, s3, s4, s5, s6, s7, s8⟩ := hSw; go_simp; with_reducible rfl)
          try simp only [Act.put, List.setIfInBounds_toArray, List.set_cons_zero, List.set_cons_succ]
          refine wpAnyH_take (i := 9) (oi := { dst := some 88, op := _, type := _, pos := _, after := _, guard := _ }) (v := ?vb9_23) rfl (by kernel_rfl) (by kernel_rfl) (by kernel_rfl) (fun _ _ _ h => h) (Or.inl ⟨by kernel_rfl, ?hb9_23⟩) hSb ?rb9_23
          case hb9_23 => first | (intro w hSw; obtain ⟨s0, s1, s2, s3, s4, s5, s6, s7, s8⟩ := hSw; go_simp; done) | (intro w hSw; obtain ⟨s0, s1, s2, s3, s4, s5, s6, s7, s8⟩ := hSw; go_simp; with_reducible rfl)
          try simp only [Act.put, List.setIfInBounds_toArray, List.set_cons_zero, List.set_cons_succ]
          refine wpAnyH_take (i := 10) (oi := { dst := some 89, op := _, type := _, pos := _, after := _, guard := _ }) (v := ?vb10_24) rfl (by kernel_rfl) (by kernel_rfl) (by kernel_rfl) (fun _ _ _ h => h) (Or.inl ⟨by kernel_rfl, ?hb10_24⟩) hSb ?rb10_24
          case hb10_24 => first | (intro w hSw; obtain ⟨s0, s1, s2, s3, s4, s5, s6, s7, s8⟩ := hSw; go_simp; done) | (intro w hSw; obtain ⟨s0, s1, s2, s3, s4, s5, s6, s7, s8⟩ := hSw; go_simp; with_reducible rfl)
          try simp only [Act.put, List.setIfInBounds_toArray, List.set_cons_zero, List.set_cons_succ]
          refine wpAnyH_ready (rs := [11]) (by kernel_rfl) (by simp) ?_
          refine AllReadyH.cons rfl (fun K hK => ?_) AllReadyH.nil
          go_simp
          refine (unhide SE _ (unhide HSE)).mono ?_
          rintro e w8 ⟨rfl, hb⟩
          have hSb' := hSb.below hb
          have HB8 := hide (tr2 (tr2 (unhide HBj) (below_draws _ 1)) hb)
          clear hb
          refine hK _ _ hSb' (fun _ => ?_)
          clear hK K hSb
          have hSb := hSb'
          clear hSb'
          refine wpAnyH_take (i := 12) (oi := { dst := some 91, op := _, type := _, pos := _, after := _, guard := _ }) (v := ?vb12_25) rfl (by kernel_rfl) (by kernel_rfl) (by kernel_rfl) (fun _ _ _ h => h) (Or.inl ⟨by kernel_rfl, ?hb12_25⟩) hSb ?rb12_25
          case hb12_25 => first | (intro w hSw; obtain ⟨s0, s1, s2, s3, s4, s5, s6, s7, s8⟩ := hSw; go_simp; done) | (intro w hSw; obtain ⟨s0, s1, s2, s3, s4, s5, s6, s7, s8⟩ := hSw; go_simp; with_reducible rfl)
          try simp only [Act.put, List.setIfInBounds_toArray, List.set_cons_zero, List.set_cons_succ]
          refine wpAnyH_done (by kernel_rfl) ?_ _
          clear hSb HSB SE HSE
          go_wp2
          go_roundw
          case rel => exact ⟨j + 1, by omega, by go_num, unhide HB8⟩
          case measure => simp [intOf]; omega
        · have hjt2 : j = t := by omega
          subst hjt2
          have hnl : ¬ (j : Int) < (j : Int) := by omega
          have ht2 := unhide HT
          clear hbj hjt c7 HRow HL2 HBj ett
          have LI : Hid (∀ W, WayA A A r w P2 P2 W → Calls Try.prog 28 #[ptr r, .string nm] W fun e w' => e = .returned (.int .i64 (lastI nm P2)) ∧ Below W.heap.size W w') := hide fun W hW => by obtain ⟨u, hu⟩ := hW.rlst; exact rlast_p A A r u nm P2 W hu (by omega)
          have hlst := lastP_lt (fun x => x.mr || (x.nm.toList == nm.toList)) P2
          have hlst2 : lastNm nm P2 < P2.length := hlst.1
          by_cases hls : 0 ≤ lastNm nm P2 ∧ (P2.getD (lastNm nm P2).toNat p0).mr = false
          · obtain ⟨hl0, hmr⟩ := hls
            obtain ⟨i, hi⟩ : ∃ i : Nat, lastNm nm P2 = (i : Int) := ⟨(lastNm nm P2).toNat, by omega⟩
            have hLI : lastI nm P2 = (i : Int) := by unfold lastI; rw [if_pos ⟨hl0, hmr⟩, hi]
            rw [hLI] at LI
            rw [hi, Int.toNat_natCast] at hmr
            rw [hi] at hlst2
            have hit : i < j := by omega
            have hiti : (i : Int) < (j : Int) := by omega
            have hi0 : (0 : Int) ≤ (i : Int) := by omega
            have hwi : IntKind.i64.wrap (i : Int) = i := by rw [IntKind.wrap_i64]; omega
            have LS : Hid (∀ W, WayA A A r w P2 P2 W → Calls Try.prog 27 #[ptr A, .string nm] W fun e w' => ∃ q2 l2 c2, e = .returned (.tuple #[.agg #[.bool false, .int .i64 (P2.getD i p0).id, .string (P2.getD i p0).nm, .slice q2 l2 c2], .bool true]) ∧ OwnA W.heap.size q2 l2 (P2.getD i p0).ats w' ∧ (q2 = none → l2 = 0 ∧ c2 = 0) ∧ Below W.heap.size W w') := hide fun W hW => by obtain ⟨v, hv⟩ := hW.lst; exact lastnm_some A A v nm P2 i W hv (by omega) hi hmr
            obtain ⟨hms, hmr2, hmp⟩ := unhide HM
            have hMi := hmr2.get i (by rw [unhide HML]; exact hit)
            obtain ⟨g2, hg2q, _⟩ := (unhide HG) (by rw [unhide HML]; omega)
            subst hg2q
            obtain ⟨d0, d1, d2, d3⟩ := (RStk.cells hms) i (by rw [unhide HML]; exact hit)
            rw [Nat.zero_add] at d0 d1 d2 d3
            have d4 : World.cell? _ ⟨r, 0, none⟩ = some (.slice (some ⟨g2, 0, none⟩) M.length cap2) := hms.1.cell 0
            rw [unhide HML] at d4
            obtain ⟨f1, f2, f3, f4, f5⟩ := hMi
            rw [f1, hmr] at d0
            rw [f2] at d1
            rw [f3] at d2
            generalize hyi : (P2.getD i p0).id = yi at *
            generalize hyn : (P2.getD i p0).nm = yn at *
            generalize hya : (P2.getD i p0).ats = yats at *
            generalize hqb : (M.getD i e0).q = qb at *
            generalize hnb : (M.getD i e0).n = nb at *
            generalize hcb : (M.getD i e0).c = cb at *
            have HD := hide (And.intro d0 (And.intro d1 (And.intro d2 (And.intro d3 (And.intro d4 f4)))))
            unfold ptr at LI LS
            clear hyi hyn hya hqb hnb hcb d0 d1 d2 d3 d4 f1 f2 f3 f4 f5 hms hmr2 hmp hmr hLI hlst hlst2 hl0 hi
            go_wp2_with fail
            refine (unhide LS _ (unhide HWn)).mono ?_
            rintro e w9 ⟨qa, na, ca, rfl, hO, _, hb⟩
            obtain ⟨d0, d1, d2, d3, d4, f4⟩ := unhide HD
            replace HWn := hide ((unhide HWn).later hb)
            have al9 : Below w9.heap.size w9 (w9.alloc (Obj.cells #[.bool false, .int .i64 yi, .string yn, .slice qa na ca] 58)) := (Below.refl _ _).alloc (Nat.le_refl _) _
            have kE := Blk.new w9 #[.bool false, .int .i64 yi, .string yn, .slice qa na ca] 58
            replace HWn := hide ((unhide HWn).later al9)
            have hba := tr2 hb al9
            have HE : Hid (Blk _ w9.heap.size #[.bool false, .int .i64 yi, .string yn, .slice qa na ca] 58) := hide kE
            have HSE0 := hide (And.intro (hO.1.below al9) (f4.below hba))
            have HD9 := hide (And.intro (cell_later hba d0) (And.intro (cell_later hba d1) (And.intro (cell_later hba d2) (And.intro (cell_later hba d3) (cell_later hba d4)))))
            clear hb hO al9 kE hba d0 d1 d2 d3 d4 f4 HD HM LS
            go_wp2_with fail
            refine (unhide LI _ (unhide HWn)).mono ?_
            rintro e w10 ⟨rfl, hb⟩
            replace HWn := hide ((unhide HWn).later hb)
            have hbd := tr2 hb (below_draws _ 1)
            have kE := (unhide HE).later hbd
            obtain ⟨d0, d1, d2, d3, d4⟩ := unhide HD9
            have HSC : Hid (KeepY w9.heap.size 0 r (.slice (some ⟨g2, 0, none⟩) j cap2) g2 (i * 4) false yi yn qa na ca qb nb cb w10.drew) := hide ⟨kE.cell 0, kE.cell 1, kE.cell 2, kE.cell 3, cell_later hbd d4, cell_later hbd d0, cell_later hbd d1, cell_later hbd d2, cell_later hbd d3⟩
            have HSE : Hid (AtsV qa na yats w10.drew ∧ AtsV qb nb yats w10.drew) := hide ⟨(unhide HSE0).1.below hbd, (unhide HSE0).2.below hbd⟩
            replace HWn := hide ((unhide HWn).later (below_draws _ 1))
            have SE := hide (fun W (h : AtsV qa na yats W ∧ AtsV qb nb yats W) => same_entry false yi yn qa qb na nb ca cb yats W h.1 h.2)
            clear hb hbd kE d0 d1 d2 d3 d4 HE HD9 HSE0 LI
            have U1 : Hid (∀ W, WayA A A r w P2 P2 W → Calls Try.prog 30 #[ptr A, .slice qo m capo] W (CutSaid (fromP zs P2) (P2.length - fromP zs P2) W)) := hide fun W hW => by obtain ⟨v, hv⟩ := hW.lst; exact cut_p A A v qo m capo zs P2 W hv ((unhide HZ).below (by rw [unhide HA]; exact hW.bel)) (by omega)
            have U2 : Hid (∀ W, WayA A A r w P2 P2 W → Calls Try.prog 31 #[ptr r, .slice qo m capo] W (CutSaid (fromP zs P2) (P2.length - fromP zs P2) W)) := hide fun W hW => by obtain ⟨u, hu⟩ := hW.rlst; exact rcut_p A A r u qo m capo zs P2 W hu ((unhide HZ).below (by rw [unhide HA]; exact hW.bel)) (by omega)
            generalize hcf : fromP zs P2 = cf at U1 U2
            have hcn : P2.length - cf ≤ 1000000 := by omega
            generalize P2.length - cf = cn at U1 U2 hcn
            unfold ptr CutSaid at U1 U2
            clear hcf
            go_wp2_with fail
            have hSc := unhide HSC
            refine wp_region_held (S := KeepY w9.heap.size 0 r (.slice (some ⟨g2, 0, none⟩) j cap2) g2 (i * 4) false yi yn qa na ca qb nb cb) (by kernel_rfl) ?_
            change wpAnyH _ _ _ _ _ _ _ _ (World.drew _)
            refine wpAnyH_take (i := 0) (oi := { dst := some 102, op := _, type := _, pos := _, after := _, guard := _ }) (v := ?vc0_26) rfl (by kernel_rfl) (by kernel_rfl) (by kernel_rfl) (fun _ _ _ h => h) (Or.inl ⟨by kernel_rfl, ?hc0_26⟩) hSc ?rc0_26
            case hc0_26 => first | (intro w hSw; obtain ⟨s0, s1, s2, s3, s4, s5, s6, s7, s8⟩ := hSw; go_simp; done) | (intro w hSw; obtain ⟨s0, s1, s2, s3, s4, s5, s6, s7, s8⟩ := hSw; go_simp; with_reducible rfl)
            try simp only [Act.put, List.setIfInBounds_toArray, List.set_cons_zero, List.set_cons_succ]
            refine wpAnyH_take (i := 1) (oi := { dst := some 103, op := _, type := _, pos := _, after := _, guard := _ }) (v := ?vc1_27) rfl (by kernel_rfl) (by kernel_rfl) (by kernel_rfl) (fun _ _ _ h => h) (Or.inl ⟨by kernel_rfl, ?hc1_27⟩) hSc ?rc1_27
            case hc1_27 => first | (intro w hSw; obtain ⟨s0, s1, s2, s3, s4, s5, s6, s7, s8⟩ := hSw; go_simp; done) | (intro w hSw; obtain ⟨s0, s1, s2, s3, s4, s5, s6, s7, s8⟩ := hSw; go_simp; with_reducible rfl)
            try simp only [Act.put, List.setIfInBounds_toArray, List.set_cons_zero, List.set_cons_succ]
            refine wpAnyH_take (i := 2) (oi := { dst := some 104, op := _, type := _, pos := _, after := _, guard := _ }) (v := ?vc2_28) rfl (by kernel_rfl) (by kernel_rfl) (by kernel_rfl) (fun _ _ _ h => h) (Or.inl ⟨by kernel_rfl, ?hc2_28⟩) hSc ?rc2_28
            case hc2_28 => first | (intro w hSw; obtain ⟨s0, s1, s2, s3, s4, s5, s6, s7, s8⟩ := hSw; go_simp; done) | (intro w hSw; obtain ⟨s0, s1, s2, s3, s4, s5, s6, s7, s8⟩ := hSw; go_simp; with_reducible rfl)
            try simp only [Act.put, List.setIfInBounds_toArray, List.set_cons_zero, List.set_cons_succ]
            refine wpAnyH_take (i := 3) (oi := { dst := some 105, op := _, type := _, pos := _, after := _, guard := _ }) (v := ?vc3_29) rfl (by kernel_rfl) (by kernel_rfl) (by kernel_rfl) (fun _ _ _ h => h) (Or.inl ⟨by kernel_rfl, ?hc3_29⟩) hSc ?rc3_29
            case hc3_29 => first | (intro w hSw; obtain ⟨s0, s1, s2, s3, s4, s5, s6, s7, s8⟩ := hSw; go_simp; done) | (intro w hSw; obtain ⟨s0, s1, s2, s3, s4, s5, s6, s7, s8⟩ := hSw; go_simp; with_reducible rfl)
            try simp only [Act.put, List.setIfInBounds_toArray, List.set_cons_zero, List.set_cons_succ]
            refine wpAnyH_take (i := 4) (oi := { dst := some 106, op := _, type := _, pos := _, after := _, guard := _ }) (v := ?vc4_30) rfl (by kernel_rfl) (by kernel_rfl) (by kernel_rfl) (fun _ _ _ h => h) (Or.inl ⟨by kernel_rfl, ?hc4_30⟩) hSc ?rc4_30
            case hc4_30 => first | (intro w hSw; obtain ⟨s0, s1, s2, s3, s4, s5, s6, s7, s8⟩ := hSw; go_simp; done) | (intro w hSw; obtain ⟨s0, s1, s2, s3, s4, s5, s6, s7, s8⟩ := hSw; go_simp; with_reducible rfl)
            try simp only [Act.put, List.setIfInBounds_toArray, List.set_cons_zero, List.set_cons_succ]
            refine wpAnyH_take (i := 5) (oi := { dst := some 107, op := _, type := _, pos := _, after := _, guard := _ }) (v := ?vc5_31) rfl (by kernel_rfl) (by kernel_rfl) (by kernel_rfl) (fun _ _ _ h => h) (Or.inl ⟨by kernel_rfl, ?hc5_31⟩) hSc ?rc5_31
            case hc5_31 => first | (intro w hSw; obtain ⟨s0, s1, s2, s3, s4, s5, s6, s7, s8⟩ := hSw; go_simp; done) | (intro w hSw; obtain ⟨s0, s1, s2, s3, s4, s5, s6, s7, s8⟩ := hSw; go_simp; with_reducible rfl)
            try simp only [Act.put, List.setIfInBounds_toArray, List.set_cons_zero, List.set_cons_succ]
            refine wpAnyH_take (i := 6) (oi := { dst := some 108, op := _, type := _, pos := _, after := _, guard := _ }) (v := ?vc6_32) rfl (by kernel_rfl) (by kernel_rfl) (by kernel_rfl) (fun _ _ _ h => h) (Or.inl ⟨by kernel_rfl, ?hc6_32⟩) hSc ?rc6_32
            case hc6_32 => first | (intro w hSw; obtain ⟨s0, s1, s2, s3, s4, s5, s6, s7, s8⟩ := hSw; go_simp; done) | (intro w hSw; obtain ⟨s0, s1, s2, s3, s4, s5, s6, s7, s8⟩ := hSw; go_simp; with_reducible rfl)
            try simp only [Act.put, List.setIfInBounds_toArray, List.set_cons_zero, List.set_cons_succ]
            refine wpAnyH_take (i := 7) (oi := { dst := some 109, op := _, type := _, pos := _, after := _, guard := _ }) (v := ?vc7_33) rfl (by kernel_rfl) (by kernel_rfl) (by kernel_rfl) (fun _ _ _ h => h) (Or.inl ⟨by kernel_rfl, ?hc7_33⟩) hSc ?rc7_33
            case hc7_33 => first | (intro w hSw; obtain ⟨s0, s1, s2, s3, s4, s5, s6, s7, s8⟩ := hSw; go_simp; done) | (intro w hSw; obtain ⟨s0, s1, s2, s3, s4, s5, s6, s7, s8⟩ := hSw; go_simp; with_reducible rfl)
            try simp only [Act.put, List.setIfInBounds_toArray, List.set_cons_zero, List.set_cons_succ]
            refine wpAnyH_take (i := 8) (oi := { dst := some 110, op := _, type := _, pos := _, after := _, guard := _ }) (v := ?vc8_34) rfl (by kernel_rfl) (by kernel_rfl) (by kernel_rfl) (fun _ _ _ h => h) (Or.inl ⟨by kernel_rfl, ?hc8_34⟩) hSc ?rc8_34
            case hc8_34 => first | (intro w hSw; obtain ⟨s0, s1, s2, s3, s4, s5, s6, s7, s8⟩ := hSw; go_simp; done) | (intro w hSw; obtain ⟨s0, s1, s2, s3, s4, s5, s6, s7, s8⟩ := hSw; go_simp; with_reducible rfl)
            try simp only [Act.put, List.setIfInBounds_toArray, List.set_cons_zero, List.set_cons_succ]
            refine wpAnyH_take (i := 9) (oi := { dst := some 111, op := _, type := _, pos := _, after := _, guard := _ }) (v := ?vc9_35) rfl (by kernel_rfl) (by kernel_rfl) (by kernel_rfl) (fun _ _ _ h => h) (Or.inl ⟨by kernel_rfl, ?hc9_35⟩) hSc ?rc9_35
            case hc9_35 => first | (intro w hSw; obtain ⟨s0, s1, s2, s3, s4, s5, s6, s7, s8⟩ := hSw; go_simp; done) | (intro w hSw; obtain ⟨s0, s1, s2, s3, s4, s5, s6, s7, s8⟩ := hSw; go_simp; with_reducible rfl)
            try simp only [Act.put, List.setIfInBounds_toArray, List.set_cons_zero, List.set_cons_succ]
            refine wpAnyH_take (i := 10) (oi := { dst := some 112, op := _, type := _, pos := _, after := _, guard := _ }) (v := ?vc10_36) rfl (by kernel_rfl) (by kernel_rfl) (by kernel_rfl) (fun _ _ _ h => h) (Or.inl ⟨by kernel_rfl, ?hc10_36⟩) hSc ?rc10_36
            case hc10_36 => first | (intro w hSw; obtain ⟨s0, s1, s2, s3, s4, s5, s6, s7, s8⟩ := hSw; go_simp; done) | (intro w hSw; obtain ⟨s0, s1, s2, s3, s4, s5, s6, s7, s8⟩ := hSw; go_simp; with_reducible rfl)
            try simp only [Act.put, List.setIfInBounds_toArray, List.set_cons_zero, List.set_cons_succ]
            refine wpAnyH_take (i := 11) (oi := { dst := some 113, op := _, type := _, pos := _, after := _, guard := _ }) (v := ?vc11_37) rfl (by kernel_rfl) (by kernel_rfl) (by kernel_rfl) (fun _ _ _ h => h) (Or.inl ⟨by kernel_rfl, ?hc11_37⟩) hSc ?rc11_37
            case hc11_37 => first | (intro w hSw; obtain ⟨s0, s1, s2, s3, s4, s5, s6, s7, s8⟩ := hSw; go_simp; done) | (intro w hSw; obtain ⟨s0, s1, s2, s3, s4, s5, s6, s7, s8⟩ := hSw; go_simp; with_reducible rfl)
            try simp only [Act.put, List.setIfInBounds_toArray, List.set_cons_zero, List.set_cons_succ]
            refine wpAnyH_take (i := 12) (oi := { dst := some 114, op := _, type := _, pos := _, after := _, guard := _ }) (v := ?vc12_38) rfl (by kernel_rfl) (by kernel_rfl) (by kernel_rfl) (fun _ _ _ h => h) (Or.inl ⟨by kernel_rfl, ?hc12_38⟩) hSc ?rc12_38
            case hc12_38 => first | (intro w hSw; obtain ⟨s0, s1, s2, s3, s4, s5, s6, s7, s8⟩ := hSw; go_simp; done) | (intro w hSw; obtain ⟨s0, s1, s2, s3, s4, s5, s6, s7, s8⟩ := hSw; go_simp; with_reducible rfl)
            try simp only [Act.put, List.setIfInBounds_toArray, List.set_cons_zero, List.set_cons_succ]
            refine wpAnyH_take (i := 13) (oi := { dst := some 115, op := _, type := _, pos := _, after := _, guard := _ }) (v := ?vc13_39) rfl (by kernel_rfl) (by kernel_rfl) (by kernel_rfl) (fun _ _ _ h => h) (Or.inl ⟨by kernel_rfl, ?hc13_39⟩) hSc ?rc13_39
            case hc13_39 => first | (intro w hSw; obtain ⟨s0, s1, s2, s3, s4, s5, s6, s7, s8⟩ := hSw; go_simp; done) | (intro w hSw; obtain ⟨s0, s1, s2, s3, s4, s5, s6, s7, s8⟩ := hSw; go_simp; with_reducible rfl)
            try simp only [Act.put, List.setIfInBounds_toArray, List.set_cons_zero, List.set_cons_succ]
            refine wpAnyH_take (i := 14) (oi := { dst := some 116, op := _, type := _, pos := _, after := _, guard := _ }) (v := ?vc14_40) rfl (by kernel_rfl) (by kernel_rfl) (by kernel_rfl) (fun _ _ _ h => h) (Or.inl ⟨by kernel_rfl, ?hc14_40⟩) hSc ?rc14_40
            case hc14_40 => first | (intro w hSw; obtain ⟨s0, s1, s2, s3, s4, s5, s6, s7, s8⟩ := hSw; go_simp; done) | (intro w hSw; obtain ⟨s0, s1, s2, s3, s4, s5, s6, s7, s8⟩ := hSw; go_simp; with_reducible rfl)
            try simp only [Act.put, List.setIfInBounds_toArray, List.set_cons_zero, List.set_cons_succ]
            refine wpAnyH_ready (rs := [15]) (by kernel_rfl) (by simp) ?_
            refine AllReadyH.cons rfl (fun K hK => ?_) AllReadyH.nil
            go_simp
            refine (unhide SE _ (unhide HSE)).mono ?_
            rintro e w12 ⟨rfl, hb⟩
            have hSc' := hSc.below hb
            replace HWn := hide ((unhide HWn).later hb)
            clear hb
            refine hK _ _ hSc' (fun _ => ?_)
            clear hK K hSc
            have hSc := hSc'
            clear hSc'
            refine wpAnyH_take (i := 16) (oi := { dst := some 118, op := _, type := _, pos := _, after := _, guard := _ }) (v := ?vc16_41) rfl (by kernel_rfl) (by kernel_rfl) (by kernel_rfl) (fun _ _ _ h => h) (Or.inl ⟨by kernel_rfl, ?hc16_41⟩) hSc ?rc16_41
            case hc16_41 => first | (intro w hSw; obtain ⟨s0, s1, s2, s3, s4, s5, s6, s7, s8⟩ := hSw; go_simp; done) | (intro w hSw; obtain ⟨s0, s1, s2, s3, s4, s5, s6, s7, s8⟩ := hSw; go_simp; with_reducible rfl)
            try simp only [Act.put, List.setIfInBounds_toArray, List.set_cons_zero, List.set_cons_succ]
            refine wpAnyH_take (i := 17) (oi := { dst := some 119, op := _, type := _, pos := _, after := _, guard := _ }) (v := ?vc17_42) rfl (by kernel_rfl) (by kernel_rfl) (by kernel_rfl) (fun _ _ _ h => h) (Or.inl ⟨by kernel_rfl, ?hc17_42⟩) hSc ?rc17_42
            case hc17_42 => first | (intro w hSw; obtain ⟨s0, s1, s2, s3, s4, s5, s6, s7, s8⟩ := hSw; go_simp; done) | (intro w hSw; obtain ⟨s0, s1, s2, s3, s4, s5, s6, s7, s8⟩ := hSw; go_simp; with_reducible rfl)
            try simp only [Act.put, List.setIfInBounds_toArray, List.set_cons_zero, List.set_cons_succ]
            refine wpAnyH_take (i := 18) (oi := { dst := some 120, op := _, type := _, pos := _, after := _, guard := _ }) (v := ?vc18_43) rfl (by kernel_rfl) (by kernel_rfl) (by kernel_rfl) (fun _ _ _ h => h) (Or.inl ⟨by kernel_rfl, ?hc18_43⟩) hSc ?rc18_43
            case hc18_43 => first | (intro w hSw; obtain ⟨s0, s1, s2, s3, s4, s5, s6, s7, s8⟩ := hSw; go_simp; done) | (intro w hSw; obtain ⟨s0, s1, s2, s3, s4, s5, s6, s7, s8⟩ := hSw; go_simp; with_reducible rfl)
            try simp only [Act.put, List.setIfInBounds_toArray, List.set_cons_zero, List.set_cons_succ]
            refine wpAnyH_take (i := 19) (oi := { dst := some 121, op := _, type := _, pos := _, after := _, guard := _ }) (v := ?vc19_44) rfl (by kernel_rfl) (by kernel_rfl) (by kernel_rfl) (fun _ _ _ h => h) (Or.inl ⟨by kernel_rfl, ?hc19_44⟩) hSc ?rc19_44
            case hc19_44 => first | (intro w hSw; obtain ⟨s0, s1, s2, s3, s4, s5, s6, s7, s8⟩ := hSw; go_simp; done) | (intro w hSw; obtain ⟨s0, s1, s2, s3, s4, s5, s6, s7, s8⟩ := hSw; go_simp; with_reducible rfl)
            try simp only [Act.put, List.setIfInBounds_toArray, List.set_cons_zero, List.set_cons_succ]
            refine wpAnyH_take (i := 20) (oi := { dst := some 122, op := _, type := _, pos := _, after := _, guard := _ }) (v := ?vc20_45) rfl (by kernel_rfl) (by kernel_rfl) (by kernel_rfl) (fun _ _ _ h => h) (Or.inl ⟨by kernel_rfl, ?hc20_45⟩) hSc ?rc20_45
            case hc20_45 => first | (intro w hSw; obtain ⟨s0, s1, s2, s3, s4, s5, s6, s7, s8⟩ := hSw; go_simp; done) | (intro w hSw; obtain ⟨s0, s1, s2, s3, s4, s5, s6, s7, s8⟩ := hSw; go_simp; with_reducible rfl)
            try simp only [Act.put, List.setIfInBounds_toArray, List.set_cons_zero, List.set_cons_succ]
            refine wpAnyH_take (i := 21) (oi := { dst := some 123, op := _, type := _, pos := _, after := _, guard := _ }) (v := ?vc21_46) rfl (by kernel_rfl) (by kernel_rfl) (by kernel_rfl) (fun _ _ _ h => h) (Or.inl ⟨by kernel_rfl, ?hc21_46⟩) hSc ?rc21_46
            case hc21_46 => first | (intro w hSw; obtain ⟨s0, s1, s2, s3, s4, s5, s6, s7, s8⟩ := hSw; go_simp; done) | (intro w hSw; obtain ⟨s0, s1, s2, s3, s4, s5, s6, s7, s8⟩ := hSw; go_simp; with_reducible rfl)
            try simp only [Act.put, List.setIfInBounds_toArray, List.set_cons_zero, List.set_cons_succ]
            refine wpAnyH_take (i := 22) (oi := { dst := some 124, op := _, type := _, pos := _, after := _, guard := _ }) (v := ?vc22_47) rfl (by kernel_rfl) (by kernel_rfl) (by kernel_rfl) (fun _ _ _ h => h) (Or.inl ⟨by kernel_rfl, ?hc22_47⟩) hSc ?rc22_47
            case hc22_47 => first | (intro w hSw; obtain ⟨s0, s1, s2, s3, s4, s5, s6, s7, s8⟩ := hSw; go_simp; done) | (intro w hSw; obtain ⟨s0, s1, s2, s3, s4, s5, s6, s7, s8⟩ := hSw; go_simp; with_reducible rfl)
            try simp only [Act.put, List.setIfInBounds_toArray, List.set_cons_zero, List.set_cons_succ]
            refine wpAnyH_take (i := 23) (oi := { dst := some 125, op := _, type := _, pos := _, after := _, guard := _ }) (v := undef) rfl (by kernel_rfl) (by kernel_rfl) (by kernel_rfl) (fun _ _ _ h => h) (Or.inr ⟨by kernel_rfl, rfl⟩) hSc ?_
            try simp only [Act.put, List.setIfInBounds_toArray, List.set_cons_zero, List.set_cons_succ]
            refine wpAnyH_take (i := 24) (oi := { dst := some 126, op := _, type := _, pos := _, after := _, guard := _ }) (v := undef) rfl (by kernel_rfl) (by kernel_rfl) (by kernel_rfl) (fun _ _ _ h => h) (Or.inr ⟨by kernel_rfl, rfl⟩) hSc ?_
            try simp only [Act.put, List.setIfInBounds_toArray, List.set_cons_zero, List.set_cons_succ]
            refine wpAnyH_take (i := 25) (oi := { dst := some 127, op := _, type := _, pos := _, after := _, guard := _ }) (v := undef) rfl (by kernel_rfl) (by kernel_rfl) (by kernel_rfl) (fun _ _ _ h => h) (Or.inr ⟨by kernel_rfl, rfl⟩) hSc ?_
            try simp only [Act.put, List.setIfInBounds_toArray, List.set_cons_zero, List.set_cons_succ]
            refine wpAnyH_take (i := 26) (oi := { dst := some 128, op := _, type := _, pos := _, after := _, guard := _ }) (v := undef) rfl (by kernel_rfl) (by kernel_rfl) (by kernel_rfl) (fun _ _ _ h => h) (Or.inr ⟨by kernel_rfl, rfl⟩) hSc ?_
            try simp only [Act.put, List.setIfInBounds_toArray, List.set_cons_zero, List.set_cons_succ]
            refine wpAnyH_take (i := 27) (oi := { dst := some 129, op := _, type := _, pos := _, after := _, guard := _ }) (v := ?vc27_48) rfl (by kernel_rfl) (by kernel_rfl) (by kernel_rfl) (fun _ _ _ h => h) (Or.inl ⟨by kernel_rfl, ?hc27_48⟩) hSc ?rc27_48
            case hc27_48 => first | (intro w hSw; obtain ⟨s0, s1, s2, s3, s4, s5, s6, s7, s8⟩ := hSw; go_simp; done) | (intro w hSw; obtain ⟨s0, s1, s2, s3, s4, s5, s6, s7, s8⟩ := hSw; go_simp; with_reducible rfl)
            try simp only [Act.put, List.setIfInBounds_toArray, List.set_cons_zero, List.set_cons_succ]
            refine wpAnyH_take (i := 28) (oi := { dst := some 130, op := _, type := _, pos := _, after := _, guard := _ }) (v := ?vc28_49) rfl (by kernel_rfl) (by kernel_rfl) (by kernel_rfl) (fun _ _ _ h => h) (Or.inl ⟨by kernel_rfl, ?hc28_49⟩) hSc ?rc28_49
            case hc28_49 => first | (intro w hSw; obtain ⟨s0, s1, s2, s3, s4, s5, s6, s7, s8⟩ := hSw; go_simp; done) | (intro w hSw; obtain ⟨s0, s1, s2, s3, s4, s5, s6, s7, s8⟩ := hSw; go_simp; with_reducible rfl)
            try simp only [Act.put, List.setIfInBounds_toArray, List.set_cons_zero, List.set_cons_succ]
            refine wpAnyH_take (i := 29) (oi := { dst := some 131, op := _, type := _, pos := _, after := _, guard := _ }) (v := ?vc29_50) rfl (by kernel_rfl) (by kernel_rfl) (by kernel_rfl) (fun _ _ _ h => h) (Or.inl ⟨by kernel_rfl, ?hc29_50⟩) hSc ?rc29_50
            case hc29_50 => first | (intro w hSw; obtain ⟨s0, s1, s2, s3, s4, s5, s6, s7, s8⟩ := hSw; go_simp; done) | (intro w hSw; obtain ⟨s0, s1, s2, s3, s4, s5, s6, s7, s8⟩ := hSw; go_simp; with_reducible rfl)
            try simp only [Act.put, List.setIfInBounds_toArray, List.set_cons_zero, List.set_cons_succ]
            refine wpAnyH_take (i := 30) (oi := { dst := some 132, op := _, type := _, pos := _, after := _, guard := _ }) (v := ?vc30_51) rfl (by kernel_rfl) (by kernel_rfl) (by kernel_rfl) (fun _ _ _ h => h) (Or.inl ⟨by kernel_rfl, ?hc30_51⟩) hSc ?rc30_51
            case hc30_51 => first | (intro w hSw; obtain ⟨s0, s1, s2, s3, s4, s5, s6, s7, s8⟩ := hSw; go_simp; done) | (intro w hSw; obtain ⟨s0, s1, s2, s3, s4, s5, s6, s7, s8⟩ := hSw; go_simp; with_reducible rfl)
            try simp only [Act.put, List.setIfInBounds_toArray, List.set_cons_zero, List.set_cons_succ]
            refine wpAnyH_take (i := 31) (oi := { dst := some 133, op := _, type := _, pos := _, after := _, guard := _ }) (v := ?vc31_52) rfl (by kernel_rfl) (by kernel_rfl) (by kernel_rfl) (fun _ _ _ h => h) (Or.inl ⟨by kernel_rfl, ?hc31_52⟩) hSc ?rc31_52
            case hc31_52 => first | (intro w hSw; obtain ⟨s0, s1, s2, s3, s4, s5, s6, s7, s8⟩ := hSw; go_simp; done) | (intro w hSw; obtain ⟨s0, s1, s2, s3, s4, s5, s6, s7, s8⟩ := hSw; go_simp; with_reducible rfl)
            try simp only [Act.put, List.setIfInBounds_toArray, List.set_cons_zero, List.set_cons_succ]
            refine wpAnyH_take (i := 33) (oi := { dst := some 135, op := _, type := _, pos := _, after := _, guard := _ }) (v := ?vc33_53) rfl (by kernel_rfl) (by kernel_rfl) (by kernel_rfl) (fun _ _ _ h => h) (Or.inl ⟨by kernel_rfl, ?hc33_53⟩) hSc ?rc33_53
            case hc33_53 => first | (intro w hSw; obtain ⟨s0, s1, s2, s3, s4, s5, s6, s7, s8⟩ := hSw; go_simp; done) | (intro w hSw; obtain ⟨s0, s1, s2, s3, s4, s5, s6, s7, s8⟩ := hSw; go_simp; with_reducible rfl)
            try simp only [Act.put, List.setIfInBounds_toArray, List.set_cons_zero, List.set_cons_succ]
            refine wpAnyH_take (i := 34) (oi := { dst := some 136, op := _, type := _, pos := _, after := _, guard := _ }) (v := ?vc34_54) rfl (by kernel_rfl) (by kernel_rfl) (by kernel_rfl) (fun _ _ _ h => h) (Or.inl ⟨by kernel_rfl, ?hc34_54⟩) hSc ?rc34_54
            case hc34_54 => first | (intro w hSw; obtain ⟨s0, s1, s2, s3, s4, s5, s6, s7, s8⟩ := hSw; go_simp; done) | (intro w hSw; obtain ⟨s0, s1, s2, s3, s4, s5, s6, s7, s8⟩ := hSw; go_simp; with_reducible rfl)
            try simp only [Act.put, List.setIfInBounds_toArray, List.set_cons_zero, List.set_cons_succ]
            refine wpAnyH_ready (rs := [32]) (by kernel_rfl) (by simp) ?_
            refine AllReadyH.cons rfl (fun K hK => ?_) AllReadyH.nil
            go_simp
            refine (unhide U1 _ (unhide HWn)).mono ?_
            rintro e w13 ⟨u1, rfl, hr1, hb⟩
            have hSc' := hSc.below hb
            replace HWn := hide ((unhide HWn).later hb)
            obtain ⟨q1, n1, cp1, rfl⟩ := slice_of hr1
            have HR1 := hide hr1
            clear hb hr1
            refine hK _ _ hSc' (fun _ => ?_)
            clear hK K hSc
            have hSc := hSc'
            clear hSc'
            refine wpAnyH_ready (rs := [35]) (by kernel_rfl) (by simp) ?_
            refine AllReadyH.cons rfl (fun K hK => ?_) AllReadyH.nil
            go_simp
            refine (unhide U2 _ (unhide HWn)).mono ?_
            rintro e w14 ⟨u2, rfl, hr2, hb⟩
            have hSc' := hSc.below hb
            replace HWn := hide ((unhide HWn).later hb)
            replace HR1 := hide (ownsRow_below (unhide HR1) hb)
            obtain ⟨q2', n2, cp2, rfl⟩ := slice_of hr2
            have HR2 := hide hr2
            clear hb hr2
            refine hK _ _ hSc' (fun _ => ?_)
            clear hK K hSc
            have hSc := hSc'
            clear hSc'
            refine wpAnyH_ready (rs := [36]) (by kernel_rfl) (by simp) ?_
            refine AllReadyH.cons rfl (fun K hK => ?_) AllReadyH.nil
            go_simp
            refine (ints_same _ _ _ _ _ _ cf cn _ hcn (unhide HR1) (unhide HR2)).mono ?_
            rintro e w15 ⟨rfl, hb⟩
            have hSc' := hSc.below hb
            replace HWn := hide ((unhide HWn).later hb)
            clear hb
            refine hK _ _ hSc' (fun _ => ?_)
            clear hK K hSc
            have hSc := hSc'
            clear hSc'
            refine wpAnyH_take (i := 37) (oi := { dst := some 139, op := _, type := _, pos := _, after := _, guard := _ }) (v := ?vc37_55) rfl (by kernel_rfl) (by kernel_rfl) (by kernel_rfl) (fun _ _ _ h => h) (Or.inl ⟨by kernel_rfl, ?hc37_55⟩) hSc ?rc37_55
            case hc37_55 => first | (intro w hSw; obtain ⟨s0, s1, s2, s3, s4, s5, s6, s7, s8⟩ := hSw; go_simp; done) | (intro w hSw; obtain ⟨s0, s1, s2, s3, s4, s5, s6, s7, s8⟩ := hSw; go_simp; with_reducible rfl)
            try simp only [Act.put, List.setIfInBounds_toArray, List.set_cons_zero, List.set_cons_succ]
            refine wpAnyH_take (i := 38) (oi := { dst := some 140, op := _, type := _, pos := _, after := _, guard := _ }) (v := ?vc38_56) rfl (by kernel_rfl) (by kernel_rfl) (by kernel_rfl) (fun _ _ _ h => h) (Or.inl ⟨by kernel_rfl, ?hc38_56⟩) hSc ?rc38_56
            case hc38_56 => first | (intro w hSw; obtain ⟨s0, s1, s2, s3, s4, s5, s6, s7, s8⟩ := hSw; go_simp; done) | (intro w hSw; obtain ⟨s0, s1, s2, s3, s4, s5, s6, s7, s8⟩ := hSw; go_simp; with_reducible rfl)
            try simp only [Act.put, List.setIfInBounds_toArray, List.set_cons_zero, List.set_cons_succ]
            refine wpAnyH_done (by kernel_rfl) ?_ _
            clear hSc HSC HR1 HR2 U1 U2 SE
            go_wp2
            go_roundw
            case rel => exact ⟨k + 1, P2, by omega, by go_num, hP2, unhide HWn⟩
            case measure => simp [intOf]; omega
          · have hLI : lastI nm P2 = -1 := by unfold lastI; rw [if_neg hls]
            rw [hLI] at LI
            have LS : Hid (∀ W, WayA A A r w P2 P2 W → Calls Try.prog 27 #[ptr A, .string nm] W fun e w' => e = .returned (.tuple #[.agg #[.bool false, .int .i64 0, .string ⟨#[]⟩, .slice none 0 0], .bool false]) ∧ Below W.heap.size W w') := hide fun W hW => by
              obtain ⟨v, hv⟩ := hW.lst
              by_cases hl0 : 0 ≤ lastNm nm P2
              · exact lastnm_mark A A v nm P2 (lastNm nm P2).toNat W hv (by omega) (by omega) (by cases hb : (P2.getD (lastNm nm P2).toNat p0).mr with | true => rfl | false => exact absurd ⟨hl0, hb⟩ hls)
              · exact lastnm_none A A v nm P2 W hv (by omega)
            unfold ptr at LI LS
            clear hls hlst hlst2 hLI HM HG
            go_wp2_with fail
            refine (unhide LS _ (unhide HWn)).mono ?_
            rintro e w9 ⟨rfl, hb⟩
            replace HWn := hide ((unhide HWn).later hb)
            have al9 : Below w9.heap.size w9 (w9.alloc (Obj.cells #[.bool false, .int .i64 0, .string ⟨#[]⟩, .slice none 0 0] 58)) := (Below.refl _ _).alloc (Nat.le_refl _) _
            have kE := Blk.new w9 #[.bool false, .int .i64 0, .string ⟨#[]⟩, .slice none 0 0] 58
            replace HWn := hide ((unhide HWn).later al9)
            have HE : Hid (Blk _ w9.heap.size #[.bool false, .int .i64 0, .string ⟨#[]⟩, .slice none 0 0] 58) := hide kE
            clear hb al9 kE LS
            go_wp2_with fail
            refine (unhide LI _ (unhide HWn)).mono ?_
            rintro e w10 ⟨rfl, hb⟩
            replace HWn := hide ((unhide HWn).later hb)
            have hbd := tr2 hb (below_draws _ 1)
            have kE := (unhide HE).later hbd
            have HSC : Hid (KeepE w9.heap.size false 0 ⟨#[]⟩ none 0 0 w10.drew) := hide ⟨kE.cell 0, kE.cell 1, kE.cell 2, kE.cell 3⟩
            replace HWn := hide ((unhide HWn).later (below_draws _ 1))
            have A0 : ∀ W, AtsV none 0 [] W := fun W => ⟨rfl, by omega, by intro k hk; simp at hk, Or.inl rfl⟩
            have SE := hide (fun W => same_entry false 0 ⟨#[]⟩ none none 0 0 0 0 [] W (A0 W) (A0 W))
            clear hb hbd kE HE LI A0
            have U1 : Hid (∀ W, WayA A A r w P2 P2 W → Calls Try.prog 30 #[ptr A, .slice qo m capo] W (CutSaid (fromP zs P2) (P2.length - fromP zs P2) W)) := hide fun W hW => by obtain ⟨v, hv⟩ := hW.lst; exact cut_p A A v qo m capo zs P2 W hv ((unhide HZ).below (by rw [unhide HA]; exact hW.bel)) (by omega)
            have U2 : Hid (∀ W, WayA A A r w P2 P2 W → Calls Try.prog 31 #[ptr r, .slice qo m capo] W (CutSaid (fromP zs P2) (P2.length - fromP zs P2) W)) := hide fun W hW => by obtain ⟨u, hu⟩ := hW.rlst; exact rcut_p A A r u qo m capo zs P2 W hu ((unhide HZ).below (by rw [unhide HA]; exact hW.bel)) (by omega)
            generalize hcf : fromP zs P2 = cf at U1 U2
            have hcn : P2.length - cf ≤ 1000000 := by omega
            generalize P2.length - cf = cn at U1 U2 hcn
            unfold ptr CutSaid at U1 U2
            clear hcf
            go_wp2_with fail
            have hSc := unhide HSC
            refine wp_region_held (S := KeepE w9.heap.size false 0 ⟨#[]⟩ none 0 0) (by kernel_rfl) ?_
            change wpAnyH _ _ _ _ _ _ _ _ (World.drew _)
            refine wpAnyH_take (i := 0) (oi := { dst := some 102, op := _, type := _, pos := _, after := _, guard := _ }) (v := ?vc0_57) rfl (by kernel_rfl) (by kernel_rfl) (by kernel_rfl) (fun _ _ _ h => h) (Or.inl ⟨by kernel_rfl, ?hc0_57⟩) hSc ?rc0_57
            case hc0_57 => first | (intro w hSw; obtain ⟨s0, s1, s2, s3⟩ := hSw; go_simp; done) | (intro w hSw; obtain ⟨s0, s1, s2, s3⟩ := hSw; go_simp; with_reducible rfl)
            try simp only [Act.put, List.setIfInBounds_toArray, List.set_cons_zero, List.set_cons_succ]
            refine wpAnyH_take (i := 1) (oi := { dst := some 103, op := _, type := _, pos := _, after := _, guard := _ }) (v := ?vc1_58) rfl (by kernel_rfl) (by kernel_rfl) (by kernel_rfl) (fun _ _ _ h => h) (Or.inl ⟨by kernel_rfl, ?hc1_58⟩) hSc ?rc1_58
            case hc1_58 => first | (intro w hSw; obtain ⟨s0, s1, s2, s3⟩ := hSw; go_simp; done) | (intro w hSw; obtain ⟨s0, s1, s2, s3⟩ := hSw; go_simp; with_reducible rfl)
            try simp only [Act.put, List.setIfInBounds_toArray, List.set_cons_zero, List.set_cons_succ]
            refine wpAnyH_take (i := 2) (oi := { dst := some 104, op := _, type := _, pos := _, after := _, guard := _ }) (v := ?vc2_59) rfl (by kernel_rfl) (by kernel_rfl) (by kernel_rfl) (fun _ _ _ h => h) (Or.inl ⟨by kernel_rfl, ?hc2_59⟩) hSc ?rc2_59
            case hc2_59 => first | (intro w hSw; obtain ⟨s0, s1, s2, s3⟩ := hSw; go_simp; done) | (intro w hSw; obtain ⟨s0, s1, s2, s3⟩ := hSw; go_simp; with_reducible rfl)
            try simp only [Act.put, List.setIfInBounds_toArray, List.set_cons_zero, List.set_cons_succ]
            refine wpAnyH_take (i := 3) (oi := { dst := some 105, op := _, type := _, pos := _, after := _, guard := _ }) (v := ?vc3_60) rfl (by kernel_rfl) (by kernel_rfl) (by kernel_rfl) (fun _ _ _ h => h) (Or.inl ⟨by kernel_rfl, ?hc3_60⟩) hSc ?rc3_60
            case hc3_60 => first | (intro w hSw; obtain ⟨s0, s1, s2, s3⟩ := hSw; go_simp; done) | (intro w hSw; obtain ⟨s0, s1, s2, s3⟩ := hSw; go_simp; with_reducible rfl)
            try simp only [Act.put, List.setIfInBounds_toArray, List.set_cons_zero, List.set_cons_succ]
            refine wpAnyH_take (i := 4) (oi := { dst := some 106, op := _, type := _, pos := _, after := _, guard := _ }) (v := ?vc4_61) rfl (by kernel_rfl) (by kernel_rfl) (by kernel_rfl) (fun _ _ _ h => h) (Or.inl ⟨by kernel_rfl, ?hc4_61⟩) hSc ?rc4_61
            case hc4_61 => first | (intro w hSw; obtain ⟨s0, s1, s2, s3⟩ := hSw; go_simp; done) | (intro w hSw; obtain ⟨s0, s1, s2, s3⟩ := hSw; go_simp; with_reducible rfl)
            try simp only [Act.put, List.setIfInBounds_toArray, List.set_cons_zero, List.set_cons_succ]
            refine wpAnyH_take (i := 5) (oi := { dst := some 107, op := _, type := _, pos := _, after := _, guard := _ }) (v := ?vc5_62) rfl (by kernel_rfl) (by kernel_rfl) (by kernel_rfl) (fun _ _ _ h => h) (Or.inl ⟨by kernel_rfl, ?hc5_62⟩) hSc ?rc5_62
            case hc5_62 => first | (intro w hSw; obtain ⟨s0, s1, s2, s3⟩ := hSw; go_simp; done) | (intro w hSw; obtain ⟨s0, s1, s2, s3⟩ := hSw; go_simp; with_reducible rfl)
            try simp only [Act.put, List.setIfInBounds_toArray, List.set_cons_zero, List.set_cons_succ]
            refine wpAnyH_take (i := 6) (oi := { dst := some 108, op := _, type := _, pos := _, after := _, guard := _ }) (v := ?vc6_63) rfl (by kernel_rfl) (by kernel_rfl) (by kernel_rfl) (fun _ _ _ h => h) (Or.inl ⟨by kernel_rfl, ?hc6_63⟩) hSc ?rc6_63
            case hc6_63 => first | (intro w hSw; obtain ⟨s0, s1, s2, s3⟩ := hSw; go_simp; done) | (intro w hSw; obtain ⟨s0, s1, s2, s3⟩ := hSw; go_simp; with_reducible rfl)
            try simp only [Act.put, List.setIfInBounds_toArray, List.set_cons_zero, List.set_cons_succ]
            refine wpAnyH_take (i := 7) (oi := { dst := some 109, op := _, type := _, pos := _, after := _, guard := _ }) (v := undef) rfl (by kernel_rfl) (by kernel_rfl) (by kernel_rfl) (fun _ _ _ h => h) (Or.inr ⟨by kernel_rfl, rfl⟩) hSc ?_
            try simp only [Act.put, List.setIfInBounds_toArray, List.set_cons_zero, List.set_cons_succ]
            refine wpAnyH_take (i := 8) (oi := { dst := some 110, op := _, type := _, pos := _, after := _, guard := _ }) (v := undef) rfl (by kernel_rfl) (by kernel_rfl) (by kernel_rfl) (fun _ _ _ h => h) (Or.inr ⟨by kernel_rfl, rfl⟩) hSc ?_
            try simp only [Act.put, List.setIfInBounds_toArray, List.set_cons_zero, List.set_cons_succ]
            refine wpAnyH_take (i := 9) (oi := { dst := some 111, op := _, type := _, pos := _, after := _, guard := _ }) (v := undef) rfl (by kernel_rfl) (by kernel_rfl) (by kernel_rfl) (fun _ _ _ h => h) (Or.inr ⟨by kernel_rfl, rfl⟩) hSc ?_
            try simp only [Act.put, List.setIfInBounds_toArray, List.set_cons_zero, List.set_cons_succ]
            refine wpAnyH_take (i := 10) (oi := { dst := some 112, op := _, type := _, pos := _, after := _, guard := _ }) (v := undef) rfl (by kernel_rfl) (by kernel_rfl) (by kernel_rfl) (fun _ _ _ h => h) (Or.inr ⟨by kernel_rfl, rfl⟩) hSc ?_
            try simp only [Act.put, List.setIfInBounds_toArray, List.set_cons_zero, List.set_cons_succ]
            refine wpAnyH_take (i := 11) (oi := { dst := some 113, op := _, type := _, pos := _, after := _, guard := _ }) (v := undef) rfl (by kernel_rfl) (by kernel_rfl) (by kernel_rfl) (fun _ _ _ h => h) (Or.inr ⟨by kernel_rfl, rfl⟩) hSc ?_
            try simp only [Act.put, List.setIfInBounds_toArray, List.set_cons_zero, List.set_cons_succ]
            refine wpAnyH_take (i := 12) (oi := { dst := some 114, op := _, type := _, pos := _, after := _, guard := _ }) (v := undef) rfl (by kernel_rfl) (by kernel_rfl) (by kernel_rfl) (fun _ _ _ h => h) (Or.inr ⟨by kernel_rfl, rfl⟩) hSc ?_
            try simp only [Act.put, List.setIfInBounds_toArray, List.set_cons_zero, List.set_cons_succ]
            refine wpAnyH_take (i := 13) (oi := { dst := some 115, op := _, type := _, pos := _, after := _, guard := _ }) (v := undef) rfl (by kernel_rfl) (by kernel_rfl) (by kernel_rfl) (fun _ _ _ h => h) (Or.inr ⟨by kernel_rfl, rfl⟩) hSc ?_
            try simp only [Act.put, List.setIfInBounds_toArray, List.set_cons_zero, List.set_cons_succ]
            refine wpAnyH_take (i := 14) (oi := { dst := some 116, op := _, type := _, pos := _, after := _, guard := _ }) (v := undef) rfl (by kernel_rfl) (by kernel_rfl) (by kernel_rfl) (fun _ _ _ h => h) (Or.inr ⟨by kernel_rfl, rfl⟩) hSc ?_
            try simp only [Act.put, List.setIfInBounds_toArray, List.set_cons_zero, List.set_cons_succ]
            refine wpAnyH_take (i := 15) (oi := { dst := some 117, op := _, type := _, pos := _, after := _, guard := _ }) (v := undef) rfl (by kernel_rfl) (by kernel_rfl) (by kernel_rfl) (fun _ _ _ h => h) (Or.inr ⟨by kernel_rfl, rfl⟩) hSc ?_
            try simp only [Act.put, List.setIfInBounds_toArray, List.set_cons_zero, List.set_cons_succ]
            refine wpAnyH_take (i := 16) (oi := { dst := some 118, op := _, type := _, pos := _, after := _, guard := _ }) (v := undef) rfl (by kernel_rfl) (by kernel_rfl) (by kernel_rfl) (fun _ _ _ h => h) (Or.inr ⟨by kernel_rfl, rfl⟩) hSc ?_
            try simp only [Act.put, List.setIfInBounds_toArray, List.set_cons_zero, List.set_cons_succ]
            refine wpAnyH_take (i := 17) (oi := { dst := some 119, op := _, type := _, pos := _, after := _, guard := _ }) (v := ?vc17_64) rfl (by kernel_rfl) (by kernel_rfl) (by kernel_rfl) (fun _ _ _ h => h) (Or.inl ⟨by kernel_rfl, ?hc17_64⟩) hSc ?rc17_64
            case hc17_64 => first | (intro w hSw; obtain ⟨s0, s1, s2, s3⟩ := hSw; go_simp; done) | (intro w hSw; obtain ⟨s0, s1, s2, s3⟩ := hSw; go_simp; with_reducible rfl)
            try simp only [Act.put, List.setIfInBounds_toArray, List.set_cons_zero, List.set_cons_succ]
            refine wpAnyH_take (i := 18) (oi := { dst := some 120, op := _, type := _, pos := _, after := _, guard := _ }) (v := ?vc18_65) rfl (by kernel_rfl) (by kernel_rfl) (by kernel_rfl) (fun _ _ _ h => h) (Or.inl ⟨by kernel_rfl, ?hc18_65⟩) hSc ?rc18_65
            case hc18_65 => first | (intro w hSw; obtain ⟨s0, s1, s2, s3⟩ := hSw; go_simp; done) | (intro w hSw; obtain ⟨s0, s1, s2, s3⟩ := hSw; go_simp; with_reducible rfl)
            try simp only [Act.put, List.setIfInBounds_toArray, List.set_cons_zero, List.set_cons_succ]
            refine wpAnyH_take (i := 19) (oi := { dst := some 121, op := _, type := _, pos := _, after := _, guard := _ }) (v := ?vc19_66) rfl (by kernel_rfl) (by kernel_rfl) (by kernel_rfl) (fun _ _ _ h => h) (Or.inl ⟨by kernel_rfl, ?hc19_66⟩) hSc ?rc19_66
            case hc19_66 => first | (intro w hSw; obtain ⟨s0, s1, s2, s3⟩ := hSw; go_simp; done) | (intro w hSw; obtain ⟨s0, s1, s2, s3⟩ := hSw; go_simp; with_reducible rfl)
            try simp only [Act.put, List.setIfInBounds_toArray, List.set_cons_zero, List.set_cons_succ]
            refine wpAnyH_take (i := 20) (oi := { dst := some 122, op := _, type := _, pos := _, after := _, guard := _ }) (v := ?vc20_67) rfl (by kernel_rfl) (by kernel_rfl) (by kernel_rfl) (fun _ _ _ h => h) (Or.inl ⟨by kernel_rfl, ?hc20_67⟩) hSc ?rc20_67
            case hc20_67 => first | (intro w hSw; obtain ⟨s0, s1, s2, s3⟩ := hSw; go_simp; done) | (intro w hSw; obtain ⟨s0, s1, s2, s3⟩ := hSw; go_simp; with_reducible rfl)
            try simp only [Act.put, List.setIfInBounds_toArray, List.set_cons_zero, List.set_cons_succ]
            refine wpAnyH_take (i := 21) (oi := { dst := some 123, op := _, type := _, pos := _, after := _, guard := _ }) (v := ?vc21_68) rfl (by kernel_rfl) (by kernel_rfl) (by kernel_rfl) (fun _ _ _ h => h) (Or.inl ⟨by kernel_rfl, ?hc21_68⟩) hSc ?rc21_68
            case hc21_68 => first | (intro w hSw; obtain ⟨s0, s1, s2, s3⟩ := hSw; go_simp; done) | (intro w hSw; obtain ⟨s0, s1, s2, s3⟩ := hSw; go_simp; with_reducible rfl)
            try simp only [Act.put, List.setIfInBounds_toArray, List.set_cons_zero, List.set_cons_succ]
            refine wpAnyH_take (i := 22) (oi := { dst := some 124, op := _, type := _, pos := _, after := _, guard := _ }) (v := ?vc22_69) rfl (by kernel_rfl) (by kernel_rfl) (by kernel_rfl) (fun _ _ _ h => h) (Or.inl ⟨by kernel_rfl, ?hc22_69⟩) hSc ?rc22_69
            case hc22_69 => first | (intro w hSw; obtain ⟨s0, s1, s2, s3⟩ := hSw; go_simp; done) | (intro w hSw; obtain ⟨s0, s1, s2, s3⟩ := hSw; go_simp; with_reducible rfl)
            try simp only [Act.put, List.setIfInBounds_toArray, List.set_cons_zero, List.set_cons_succ]
            refine wpAnyH_take (i := 23) (oi := { dst := some 125, op := _, type := _, pos := _, after := _, guard := _ }) (v := ?vc23_70) rfl (by kernel_rfl) (by kernel_rfl) (by kernel_rfl) (fun _ _ _ h => h) (Or.inl ⟨by kernel_rfl, ?hc23_70⟩) hSc ?rc23_70
            case hc23_70 => first | (intro w hSw; obtain ⟨s0, s1, s2, s3⟩ := hSw; go_simp; done) | (intro w hSw; obtain ⟨s0, s1, s2, s3⟩ := hSw; go_simp; with_reducible rfl)
            try simp only [Act.put, List.setIfInBounds_toArray, List.set_cons_zero, List.set_cons_succ]
            refine wpAnyH_take (i := 24) (oi := { dst := some 126, op := _, type := _, pos := _, after := _, guard := _ }) (v := ?vc24_71) rfl (by kernel_rfl) (by kernel_rfl) (by kernel_rfl) (fun _ _ _ h => h) (Or.inl ⟨by kernel_rfl, ?hc24_71⟩) hSc ?rc24_71
            case hc24_71 => first | (intro w hSw; obtain ⟨s0, s1, s2, s3⟩ := hSw; go_simp; done) | (intro w hSw; obtain ⟨s0, s1, s2, s3⟩ := hSw; go_simp; with_reducible rfl)
            try simp only [Act.put, List.setIfInBounds_toArray, List.set_cons_zero, List.set_cons_succ]
            refine wpAnyH_ready (rs := [25]) (by kernel_rfl) (by simp) ?_
            refine AllReadyH.cons rfl (fun K hK => ?_) AllReadyH.nil
            go_simp
            refine (unhide SE _).mono ?_
            rintro e w12 ⟨rfl, hb⟩
            have hSc' := hSc.below hb
            replace HWn := hide ((unhide HWn).later hb)
            clear hb
            refine hK _ _ hSc' (fun _ => ?_)
            clear hK K hSc
            have hSc := hSc'
            clear hSc'
            refine wpAnyH_take (i := 26) (oi := { dst := some 128, op := _, type := _, pos := _, after := _, guard := _ }) (v := ?vc26_72) rfl (by kernel_rfl) (by kernel_rfl) (by kernel_rfl) (fun _ _ _ h => h) (Or.inl ⟨by kernel_rfl, ?hc26_72⟩) hSc ?rc26_72
            case hc26_72 => first | (intro w hSw; obtain ⟨s0, s1, s2, s3⟩ := hSw; go_simp; done) | (intro w hSw; obtain ⟨s0, s1, s2, s3⟩ := hSw; go_simp; with_reducible rfl)
            try simp only [Act.put, List.setIfInBounds_toArray, List.set_cons_zero, List.set_cons_succ]
            refine wpAnyH_take (i := 27) (oi := { dst := some 129, op := _, type := _, pos := _, after := _, guard := _ }) (v := ?vc27_73) rfl (by kernel_rfl) (by kernel_rfl) (by kernel_rfl) (fun _ _ _ h => h) (Or.inl ⟨by kernel_rfl, ?hc27_73⟩) hSc ?rc27_73
            case hc27_73 => first | (intro w hSw; obtain ⟨s0, s1, s2, s3⟩ := hSw; go_simp; done) | (intro w hSw; obtain ⟨s0, s1, s2, s3⟩ := hSw; go_simp; with_reducible rfl)
            try simp only [Act.put, List.setIfInBounds_toArray, List.set_cons_zero, List.set_cons_succ]
            refine wpAnyH_take (i := 28) (oi := { dst := some 130, op := _, type := _, pos := _, after := _, guard := _ }) (v := ?vc28_74) rfl (by kernel_rfl) (by kernel_rfl) (by kernel_rfl) (fun _ _ _ h => h) (Or.inl ⟨by kernel_rfl, ?hc28_74⟩) hSc ?rc28_74
            case hc28_74 => first | (intro w hSw; obtain ⟨s0, s1, s2, s3⟩ := hSw; go_simp; done) | (intro w hSw; obtain ⟨s0, s1, s2, s3⟩ := hSw; go_simp; with_reducible rfl)
            try simp only [Act.put, List.setIfInBounds_toArray, List.set_cons_zero, List.set_cons_succ]
            refine wpAnyH_take (i := 29) (oi := { dst := some 131, op := _, type := _, pos := _, after := _, guard := _ }) (v := ?vc29_75) rfl (by kernel_rfl) (by kernel_rfl) (by kernel_rfl) (fun _ _ _ h => h) (Or.inl ⟨by kernel_rfl, ?hc29_75⟩) hSc ?rc29_75
            case hc29_75 => first | (intro w hSw; obtain ⟨s0, s1, s2, s3⟩ := hSw; go_simp; done) | (intro w hSw; obtain ⟨s0, s1, s2, s3⟩ := hSw; go_simp; with_reducible rfl)
            try simp only [Act.put, List.setIfInBounds_toArray, List.set_cons_zero, List.set_cons_succ]
            refine wpAnyH_take (i := 30) (oi := { dst := some 132, op := _, type := _, pos := _, after := _, guard := _ }) (v := ?vc30_76) rfl (by kernel_rfl) (by kernel_rfl) (by kernel_rfl) (fun _ _ _ h => h) (Or.inl ⟨by kernel_rfl, ?hc30_76⟩) hSc ?rc30_76
            case hc30_76 => first | (intro w hSw; obtain ⟨s0, s1, s2, s3⟩ := hSw; go_simp; done) | (intro w hSw; obtain ⟨s0, s1, s2, s3⟩ := hSw; go_simp; with_reducible rfl)
            try simp only [Act.put, List.setIfInBounds_toArray, List.set_cons_zero, List.set_cons_succ]
            refine wpAnyH_take (i := 31) (oi := { dst := some 133, op := _, type := _, pos := _, after := _, guard := _ }) (v := ?vc31_77) rfl (by kernel_rfl) (by kernel_rfl) (by kernel_rfl) (fun _ _ _ h => h) (Or.inl ⟨by kernel_rfl, ?hc31_77⟩) hSc ?rc31_77
            case hc31_77 => first | (intro w hSw; obtain ⟨s0, s1, s2, s3⟩ := hSw; go_simp; done) | (intro w hSw; obtain ⟨s0, s1, s2, s3⟩ := hSw; go_simp; with_reducible rfl)
            try simp only [Act.put, List.setIfInBounds_toArray, List.set_cons_zero, List.set_cons_succ]
            refine wpAnyH_take (i := 33) (oi := { dst := some 135, op := _, type := _, pos := _, after := _, guard := _ }) (v := ?vc33_78) rfl (by kernel_rfl) (by kernel_rfl) (by kernel_rfl) (fun _ _ _ h => h) (Or.inl ⟨by kernel_rfl, ?hc33_78⟩) hSc ?rc33_78
            case hc33_78 => first | (intro w hSw; obtain ⟨s0, s1, s2, s3⟩ := hSw; go_simp; done) | (intro w hSw; obtain ⟨s0, s1, s2, s3⟩ := hSw; go_simp; with_reducible rfl)
            try simp only [Act.put, List.setIfInBounds_toArray, List.set_cons_zero, List.set_cons_succ]
            refine wpAnyH_take (i := 34) (oi := { dst := some 136, op := _, type := _, pos := _, after := _, guard := _ }) (v := ?vc34_79) rfl (by kernel_rfl) (by kernel_rfl) (by kernel_rfl) (fun _ _ _ h => h) (Or.inl ⟨by kernel_rfl, ?hc34_79⟩) hSc ?rc34_79
            case hc34_79 => first | (intro w hSw; obtain ⟨s0, s1, s2, s3⟩ := hSw; go_simp; done) | (intro w hSw; obtain ⟨s0, s1, s2, s3⟩ := hSw; go_simp; with_reducible rfl)
            try simp only [Act.put, List.setIfInBounds_toArray, List.set_cons_zero, List.set_cons_succ]
            refine wpAnyH_ready (rs := [32]) (by kernel_rfl) (by simp) ?_
            refine AllReadyH.cons rfl (fun K hK => ?_) AllReadyH.nil
            go_simp
            refine (unhide U1 _ (unhide HWn)).mono ?_
            rintro e w13 ⟨u1, rfl, hr1, hb⟩
            have hSc' := hSc.below hb
            replace HWn := hide ((unhide HWn).later hb)
            obtain ⟨q1, n1, cp1, rfl⟩ := slice_of hr1
            have HR1 := hide hr1
            clear hb hr1
            refine hK _ _ hSc' (fun _ => ?_)
            clear hK K hSc
            have hSc := hSc'
            clear hSc'
            refine wpAnyH_ready (rs := [35]) (by kernel_rfl) (by simp) ?_
            refine AllReadyH.cons rfl (fun K hK => ?_) AllReadyH.nil
            go_simp
            refine (unhide U2 _ (unhide HWn)).mono ?_
            rintro e w14 ⟨u2, rfl, hr2, hb⟩
            have hSc' := hSc.below hb
            replace HWn := hide ((unhide HWn).later hb)
            replace HR1 := hide (ownsRow_below (unhide HR1) hb)
            obtain ⟨q2', n2, cp2, rfl⟩ := slice_of hr2
            have HR2 := hide hr2
            clear hb hr2
            refine hK _ _ hSc' (fun _ => ?_)
            clear hK K hSc
            have hSc := hSc'
            clear hSc'
            refine wpAnyH_ready (rs := [36]) (by kernel_rfl) (by simp) ?_
            refine AllReadyH.cons rfl (fun K hK => ?_) AllReadyH.nil
            go_simp
            refine (ints_same _ _ _ _ _ _ cf cn _ hcn (unhide HR1) (unhide HR2)).mono ?_
            rintro e w15 ⟨rfl, hb⟩
            have hSc' := hSc.below hb
            replace HWn := hide ((unhide HWn).later hb)
            clear hb
            refine hK _ _ hSc' (fun _ => ?_)
            clear hK K hSc
            have hSc := hSc'
            clear hSc'
            refine wpAnyH_take (i := 37) (oi := { dst := some 139, op := _, type := _, pos := _, after := _, guard := _ }) (v := ?vc37_80) rfl (by kernel_rfl) (by kernel_rfl) (by kernel_rfl) (fun _ _ _ h => h) (Or.inl ⟨by kernel_rfl, ?hc37_80⟩) hSc ?rc37_80
            case hc37_80 => first | (intro w hSw; obtain ⟨s0, s1, s2, s3⟩ := hSw; go_simp; done) | (intro w hSw; obtain ⟨s0, s1, s2, s3⟩ := hSw; go_simp; with_reducible rfl)
            try simp only [Act.put, List.setIfInBounds_toArray, List.set_cons_zero, List.set_cons_succ]
            refine wpAnyH_take (i := 38) (oi := { dst := some 140, op := _, type := _, pos := _, after := _, guard := _ }) (v := ?vc38_81) rfl (by kernel_rfl) (by kernel_rfl) (by kernel_rfl) (fun _ _ _ h => h) (Or.inl ⟨by kernel_rfl, ?hc38_81⟩) hSc ?rc38_81
            case hc38_81 => first | (intro w hSw; obtain ⟨s0, s1, s2, s3⟩ := hSw; go_simp; done) | (intro w hSw; obtain ⟨s0, s1, s2, s3⟩ := hSw; go_simp; with_reducible rfl)
            try simp only [Act.put, List.setIfInBounds_toArray, List.set_cons_zero, List.set_cons_succ]
            refine wpAnyH_done (by kernel_rfl) ?_ _
            clear hSc HSC HR1 HR2 U1 U2 SE
            go_wp2
            go_roundw
            case rel => exact ⟨k + 1, P2, by omega, by go_num, hP2, unhide HWn⟩
            case measure => simp [intOf]; omega
    · have hkn : n = k := by omega
      subst hkn
      have hnl : ¬ (n : Int) < (n : Int) := by omega
      clear hW hlk hbw CD0
      go_wp2_with fail
      refine (unhide CC _).mono ?_
      rintro e w3 ⟨rfl, hb3⟩
      go_wp2
      go_ret
      exact ⟨rfl, tr2 (unhide HBW) hb3⟩

theorem activeSteps_walk (q : Option Addr) (n cap : Nat) (ls : List AStp) (nm : ByteArray) (qo : Option Addr) (m capo : Nat) (zs : List Int) (w : World) (hn : ls.length = n) (hls : ls = [] ∨ ∃ g o, q = some ⟨g, o, none⟩ ∧ CellsS g o ls w) (hz : m ≤ 50 → IntsV qo m zs w) :
    Calls Try.prog 4 #[.slice q n cap, .string nm, .slice qo m capo] w fun e w' => e = .returned (.bool true) ∧ Below w.heap.size w w' := by
  by_cases h : 130 < n
  · exact asteps_long q n cap nm qo m capo w h
  · by_cases h2 : 50 < m
    · exact asteps_open q n cap nm qo m capo w h h2
    · exact asteps_main q n cap ls nm qo m capo zs w (hide hn) (by omega) hls (by omega) (hz (by omega))
end Go.Proofs.Ytabajhbghjfhoaa
