/-
  Several texts in one: what the functions of the program and of the document's answer do.
-/
import Derived.Test.YtbabmkilbbbmoaaDoorYSm
import Derived.Deep.RegionHeld
import Derived.Test.YtbabmkilbbbmoaaDoorMgAK
import Derived.Test.YtbabmkilbbbmoaaDoorMgAF
import Derived.Test.YtbabmkilbbbmoaaDoorMgAJ
import Derived.Test.YtbabmkilbbbmoaaDoorMgAL

/-
  'rectoplain.Node' and 'rectoplain.Nodes': whether two lists of nodes are equal (made by mk_yno.py).
-/
namespace Go.Proofs.YtbabmkilbbbmoaaDoor
open Go.RowKit
set_option linter.unusedVariables false
set_option linter.unusedSimpArgs false

set_option maxHeartbeats 4000000 in
set_option maxRecDepth 100000 in
theorem pnode_any (k sp : Int) (n : ByteArray) (ats : List (ByteArray × ByteArray)) (tx : ByteArray) (k' sp' : Int) (n' : ByteArray) (ats' : List (ByteArray × ByteArray)) (tx' : ByteArray) (q1 q2 q3 q4 : Option Addr) (c1 c2 c3 c4 l3 l4 : Nat) (S : Bool) (w : World) (h1 : Sl q1 ats w) (h2 : Sl q2 ats' w) (l1 : ats.length ≤ 1000000000) (l2 : ats'.length ≤ 1000000000)
    (ih : ∀ W, Below w.heap.size w W → Calls Tryd.prog 49 #[.slice q3 l3 c3, .slice q4 l4 c4] W fun e w' => e = .returned (.bool S) ∧ Below W.heap.size W w') :
    Calls Tryd.prog 20 #[.agg #[.int .i64 k, .int .i64 sp, .string n, .slice q1 ats.length c1, .string tx, .slice q3 l3 c3], .agg #[.int .i64 k', .int .i64 sp', .string n', .slice q2 ats'.length c2, .string tx', .slice q4 l4 c4]] w fun e w' => e = .returned (.bool (alikeN k sp n ats tx k' sp' n' ats' tx' && S)) ∧ Below w.heap.size w w' := by
  have hbb : Below w.heap.size w ((w.alloc (Obj.cells #[.int .i64 k, .int .i64 sp, .string n, .slice q1 ats.length c1, .string tx, .slice q3 l3 c3] 44)).alloc (Obj.cells #[.int .i64 k', .int .i64 sp', .string n', .slice q2 ats'.length c2, .string tx', .slice q4 l4 c4] 44)) := ((Below.refl w.heap.size w).alloc (Nat.le_refl _) _).alloc (by simp) _
  have CA := hide (attrs_any q1 q2 c1 c2 ats ats' ((w.alloc (Obj.cells #[.int .i64 k, .int .i64 sp, .string n, .slice q1 ats.length c1, .string tx, .slice q3 l3 c3] 44)).alloc (Obj.cells #[.int .i64 k', .int .i64 sp', .string n', .slice q2 ats'.length c2, .string tx', .slice q4 l4 c4] 44)) (h1.below hbb) (h2.below hbb) (by omega) (by omega))
  have CK := hide ih
  have HN1 := hide ((Blk.new w #[.int .i64 k, .int .i64 sp, .string n, .slice q1 ats.length c1, .string tx, .slice q3 l3 c3] 44).alloc (Obj.cells #[.int .i64 k', .int .i64 sp', .string n', .slice q2 ats'.length c2, .string tx', .slice q4 l4 c4] 44))
  have HN2 : Hid (Blk ((w.alloc (Obj.cells #[.int .i64 k, .int .i64 sp, .string n, .slice q1 ats.length c1, .string tx, .slice q3 l3 c3] 44)).alloc (Obj.cells #[.int .i64 k', .int .i64 sp', .string n', .slice q2 ats'.length c2, .string tx', .slice q4 l4 c4] 44)) (w.heap.size + 1) #[.int .i64 k', .int .i64 sp', .string n', .slice q2 ats'.length c2, .string tx', .slice q4 l4 c4] 44) := hide (by
    have := Blk.new (w.alloc (Obj.cells #[.int .i64 k, .int .i64 sp, .string n, .slice q1 ats.length c1, .string tx, .slice q3 l3 c3] 44)) #[.int .i64 k', .int .i64 sp', .string n', .slice q2 ats'.length c2, .string tx', .slice q4 l4 c4] 44
    simpa using this)
  unfold alikeN
  generalize sameA ats ats' = SA at *
  generalize ats.length = al at *
  generalize ats'.length = al' at *
  clear h1 h2 ih l1 l2
  have HB := hide hbb
  by_cases e0 : k = k'
  · subst e0
    have f0 : (k == k) = true := by simp
    rw [decide_eq_true rfl, Bool.true_and]
    by_cases e1 : sp = sp'
    · subst e1
      have f1 : (sp == sp) = true := by simp
      rw [decide_eq_true rfl, Bool.true_and]
      by_cases e2 : n = n'
      · subst e2
        have f2 := beq_yes (rfl : n = n)
        rw [decide_eq_true rfl, Bool.true_and]
        by_cases e3 : tx = tx'
        · subst e3
          have f3 := beq_yes (rfl : tx = tx)
          rw [decide_eq_true rfl, Bool.true_and]
          cases SA with
          | true =>
            rw [Bool.true_and]
            go_enter Tryd.func20, Tryd.ntmps20
            go_wp2_with fail
            refine (unhide CA).mono ?_
            rintro e w1 ⟨rfl, hb1⟩
            have d5 : w1.cell? ⟨w.heap.size, 5, none⟩ = some (.slice q3 l3 c3) := (Blk.later (unhide HN1) hb1).cell 5
            have d5' : w1.cell? ⟨w.heap.size + 1, 5, none⟩ = some (.slice q4 l4 c4) := (Blk.later (unhide HN2) hb1).cell 5
            have CK1 := hide (unhide CK w1 (tr2 (unhide HB) hb1))
            have HB1 := hide (tr2 (unhide HB) hb1)
            clear hb1 CA CK hbb
            go_wp2_with fail
            refine (unhide CK1).mono ?_
            rintro e w2 ⟨rfl, hb2⟩
            go_wp2
            go_ret
            exact ⟨rfl, tr2 (unhide HB1) hb2⟩
          | false =>
            rw [Bool.false_and]
            go_enter Tryd.func20, Tryd.ntmps20
            go_wp2_with fail
            refine (unhide CA).mono ?_
            rintro e w1 ⟨rfl, hb1⟩
            go_wp2
            go_ret
            exact ⟨rfl, tr2 (unhide HB) hb1⟩
        · have f3 := beq_no e3
          rw [decide_eq_false e3, Bool.false_and, Bool.false_and]
          clear e3 CA hbb
          go_enter Tryd.func20, Tryd.ntmps20
          go_wp2
          go_ret
          exact ⟨rfl, unhide HB⟩
      · have f2 := beq_no e2
        rw [decide_eq_false e2, Bool.false_and, Bool.false_and]
        clear e2 CA hbb
        go_enter Tryd.func20, Tryd.ntmps20
        go_wp2
        go_ret
        exact ⟨rfl, unhide HB⟩
    · have f1 : (sp == sp') = false := beq_eq_false_iff_ne.2 e1
      rw [decide_eq_false e1, Bool.false_and, Bool.false_and]
      clear e1 CA hbb
      go_enter Tryd.func20, Tryd.ntmps20
      go_wp2
      go_ret
      exact ⟨rfl, unhide HB⟩
  · have f0 : (k == k') = false := beq_eq_false_iff_ne.2 e0
    rw [decide_eq_false e0, Bool.false_and, Bool.false_and]
    clear e0 CA hbb
    go_enter Tryd.func20, Tryd.ntmps20
    go_wp2
    go_ret
    exact ⟨rfl, unhide HB⟩

/-! ### Nodes -/
theorem nodes_none (qa qb : Option Addr) (ca lb cb : Nat) (w : World) (hb : lb ≤ 9223372036854775807) :
    Calls Tryd.prog 49 #[.slice qa 0 ca, .slice qb lb cb] w fun e w' => e = .returned (.bool (((0 : Int) == (lb : Int)))) ∧ Below w.heap.size w w' := by
  go_enter Tryd.func49, Tryd.ntmps49
  go_wp2
  refine wp_loop_rounds 1 ?_
  rw [rounds_succ]; go_wp2
  go_ret
  exact ⟨rfl, Below.refl _ _⟩
def NoS (w0 : World) (ga oa gb ob : Nat) (a0 a1 a2 a3 a4 a5 b0 b1 b2 b3 b4 b5 : Value) (w : World) : Prop :=
  w.cell? ⟨ga, oa, none⟩ = some a0 ∧ w.cell? ⟨ga, oa + 1, none⟩ = some a1 ∧ w.cell? ⟨ga, oa + 2, none⟩ = some a2 ∧ w.cell? ⟨ga, oa + 3, none⟩ = some a3 ∧ w.cell? ⟨ga, oa + 4, none⟩ = some a4 ∧ w.cell? ⟨ga, oa + 5, none⟩ = some a5 ∧
  w.cell? ⟨gb, ob, none⟩ = some b0 ∧ w.cell? ⟨gb, ob + 1, none⟩ = some b1 ∧ w.cell? ⟨gb, ob + 2, none⟩ = some b2 ∧ w.cell? ⟨gb, ob + 3, none⟩ = some b3 ∧ w.cell? ⟨gb, ob + 4, none⟩ = some b4 ∧ w.cell? ⟨gb, ob + 5, none⟩ = some b5 ∧ Below w0.heap.size w0 w
theorem NoS.below {w0 w w' : World} {ga oa gb ob : Nat} {a0 a1 a2 a3 a4 a5 b0 b1 b2 b3 b4 b5 : Value} (h : NoS w0 ga oa gb ob a0 a1 a2 a3 a4 a5 b0 b1 b2 b3 b4 b5 w) (hb : Below w.heap.size w w') : NoS w0 ga oa gb ob a0 a1 a2 a3 a4 a5 b0 b1 b2 b3 b4 b5 w' := by
  obtain ⟨s0, s1, s2, s3, s4, s5, t0, t1, t2, t3, t4, t5, hB⟩ := h
  exact ⟨cell_later hb s0, cell_later hb s1, cell_later hb s2, cell_later hb s3, cell_later hb s4, cell_later hb s5, cell_later hb t0, cell_later hb t1, cell_later hb t2, cell_later hb t3, cell_later hb t4, cell_later hb t5, tr2 hB hb⟩
theorem NoS.bel {w0 w : World} {ga oa gb ob : Nat} {a0 a1 a2 a3 a4 a5 b0 b1 b2 b3 b4 b5 : Value} (h : NoS w0 ga oa gb ob a0 a1 a2 a3 a4 a5 b0 b1 b2 b3 b4 b5 w) : Below w0.heap.size w0 w := h.2.2.2.2.2.2.2.2.2.2.2.2
theorem sameF_nil (f : Forest) : sameF .nil f = (((0 : Nat) : Int) == (f.len : Int)) := by
  cases f with
  | nil => rfl
  | cons _ _ _ _ _ _ r => symm; apply beq_eq_false_iff_ne.2; simp [Forest.len]; omega
set_option maxHeartbeats 8000000 in
set_option maxRecDepth 100000 in
theorem nodes_some (f h : Forest) (ga oa : Nat) (qb : Option Addr) (ca cb : Nat) (w : World) (hl1 : Lies f ga oa w) (hl2 : Fo qb h w) (hs : SmF f) (hs2 : SmF h) (hc : f.len ≤ 1000000) (hc2 : h.len ≤ 1000000)
    (ih : ∀ j k sp n ats tx kids, f.drop j = .cons k sp n ats tx kids (f.drop (j + 1)) → ∀ g qa qb ca cb w, Fo qa kids w → Fo qb g w → SmF g → g.len ≤ 1000000 → Calls Tryd.prog 49 #[.slice qa kids.len ca, .slice qb g.len cb] w fun e w' => e = .returned (.bool (sameF kids g)) ∧ Below w.heap.size w w') :
    Calls Tryd.prog 49 #[.slice (some ⟨ga, oa, none⟩) f.len ca, .slice qb h.len cb] w fun e w' => e = .returned (.bool (sameF f h)) ∧ Below w.heap.size w w' := by
  have H1 := hide hl1
  have H2 := hide hl2
  have HS := hide (And.intro hs hs2)
  have IH := hide ih
  clear hl1 hl2 hs hs2 ih
  obtain ⟨la, hla⟩ : ∃ x, f.len = x := ⟨_, rfl⟩
  obtain ⟨lb, hlb⟩ : ∃ x, h.len = x := ⟨_, rfl⟩
  have HLL := hide (And.intro hla hlb)
  rw [hla] at hc
  rw [hlb] at hc2
  rw [hla, hlb]
  clear hla hlb
  go_enter Tryd.func49, Tryd.ntmps49
  go_wp2
  go_loopw [8] (fun i wr => ∃ j : Nat, j ≤ la ∧ j ≤ lb ∧ i = .int .i64 j ∧ Below w.heap.size w wr ∧ sameF f h = sameF (f.drop j) (h.drop j)) (fun i _ => la - (intOf i).toNat)
  case atStart => exact ⟨0, Nat.zero_le _, Nat.zero_le _, rfl, Below.refl _ _, by rw [Forest.drop_zero, Forest.drop_zero]⟩
  case round =>
    obtain ⟨j, hj, hjb, rfl, hbw, heq⟩ := hrel
    obtain ⟨hla, hlb⟩ := unhide HLL
    by_cases hp : j < la
    · have hpi : (j : Int) < (la : Int) := by omega
      obtain ⟨k, sp, n, ats, tx, kids, hd⟩ := f.drop_cons j (by omega)
      by_cases hq : j < lb
      · have hqi : (j : Int) < (lb : Int) := by omega
        have hqg : decide (lb ≤ j) = false := by simp; omega
        have hqn : ¬ lb ≤ j := by omega
        obtain ⟨k', sp', n', ats', tx', kids', hd'⟩ := h.drop_cons j (by omega)
        rcases unhide H2 with hnil | ⟨gb, ob, hqb, hl2⟩
        · rw [hnil] at hlb; simp [Forest.len] at hlb; omega
        subst hqb
        have hlw := (unhide H1).drop j
        have hlw' := hl2.drop j
        have hsm := sm_drop j f (unhide HS).1
        have hsm' := sm_drop j h (unhide HS).2
        have hhl := Forest.drop_len j h
        have hct := h.count_drop j
        rw [hd] at hlw heq hsm
        rw [hd'] at hlw' heq hsm'
        have hat := hsm.head
        have hat' := hsm'.head
        have hkc := hsm'.1.2.2.2
        obtain ⟨⟨g0, g1, g2, ⟨qa, ka, g3, hsl⟩, g4, ⟨qk, ck, g5, hck, hfk⟩⟩, _⟩ := hlw
        obtain ⟨⟨g0', g1', g2', ⟨qa', ka', g3', hsl'⟩, g4', ⟨qk', ck', g5', hck', hfk'⟩⟩, _⟩ := hlw'
        have HE : Hid (sameF f h = ((alikeN k sp n ats tx k' sp' n' ats' tx' && sameF kids kids') && sameF (f.drop (j + 1)) (h.drop (j + 1)))) := hide (by rw [heq, Bool.and_assoc]; rfl)
        have hk2 := kids'.len_count
        have CN := hide (fun W (hW : Below w.heap.size w W) => pnode_any k sp n ats tx k' sp' n' ats' tx' qa qa' qk qk' ka ka' ck ck' kids.len kids'.len (sameF kids kids') W (hsl.below hW) (hsl'.below hW) hat hat' (fun V hV => unhide IH j k sp n ats tx kids hd kids' qk qk' ck ck' V (((show Fo qk kids w from hfk).below hW).below hV) (((show Fo qk' kids' w from hfk').below hW).below hV) hsm'.2.1 (by omega)))
        generalize (alikeN k sp n ats tx k' sp' n' ats' tx' && sameF kids kids') = bb at *
        generalize kids.len = kl at *
        generalize kids'.len = kl' at *
        generalize ats.length = al at *
        generalize ats'.length = al' at *
        have HSa : Hid (NoS w ga (oa + j * 6) gb (ob + j * 6) (.int .i64 k) (.int .i64 sp) (.string n) (.slice qa al ka) (.string tx) (.slice qk kl ck) (.int .i64 k') (.int .i64 sp') (.string n') (.slice qa' al' ka') (.string tx') (.slice qk' kl' ck') wr) := hide ⟨cell_later hbw g0, cell_later hbw g1, cell_later hbw g2, cell_later hbw g3, cell_later hbw g4, cell_later hbw g5, cell_later hbw g0', cell_later hbw g1', cell_later hbw g2', cell_later hbw g3', cell_later hbw g4', cell_later hbw g5', hbw⟩
        clear hsl hsl' hat hat' hsm hsm' hd hd' heq hbw g0 g1 g2 g3 g4 g5 g0' g1' g2' g3' g4' g5' hfk hfk' hck hck' hkc hl2 hhl hct hk2
        go_wp2_with fail
        have hSa := (unhide HSa).below (Below.drew (Below.refl _ _))
        clear HSa
        refine wp_region_held (S := NoS w ga (oa + j * 6) gb (ob + j * 6) (.int .i64 k) (.int .i64 sp) (.string n) (.slice qa al ka) (.string tx) (.slice qk kl ck) (.int .i64 k') (.int .i64 sp') (.string n') (.slice qa' al' ka') (.string tx') (.slice qk' kl' ck')) (by kernel_rfl) ?_
        change wpAnyH _ _ _ _ _ _ _ _ (World.drew _)
        refine wpAnyH_take (i := 0) (oi := { dst := some 11, op := _, type := _, pos := _, after := _, guard := _ }) (v := ?va0) rfl (by kernel_rfl) (by kernel_rfl) (by kernel_rfl) (fun _ _ _ h => h) (Or.inl ⟨by kernel_rfl, ?ha0⟩) hSa ?ra0
        case ha0 => first | (intro w hSw; obtain ⟨s0, s1, s2, s3, s4, s5, t0, t1, t2, t3, t4, t5, _⟩ := hSw; go_simp; done) | (intro w hSw; obtain ⟨s0, s1, s2, s3, s4, s5, t0, t1, t2, t3, t4, t5, _⟩ := hSw; go_simp; with_reducible rfl)
        try simp only [Act.put, List.setIfInBounds_toArray, List.set_cons_zero, List.set_cons_succ]
        refine wpAnyH_take (i := 1) (oi := { dst := some 12, op := _, type := _, pos := _, after := _, guard := _ }) (v := ?va1) rfl (by kernel_rfl) (by kernel_rfl) (by kernel_rfl) (fun _ _ _ h => h) (Or.inl ⟨by kernel_rfl, ?ha1⟩) hSa ?ra1
        case ha1 => first | (intro w hSw; obtain ⟨s0, s1, s2, s3, s4, s5, t0, t1, t2, t3, t4, t5, _⟩ := hSw; go_simp; done) | (intro w hSw; obtain ⟨s0, s1, s2, s3, s4, s5, t0, t1, t2, t3, t4, t5, _⟩ := hSw; go_simp; with_reducible rfl)
        try simp only [Act.put, List.setIfInBounds_toArray, List.set_cons_zero, List.set_cons_succ]
        refine wpAnyH_take (i := 2) (oi := { dst := some 13, op := _, type := _, pos := _, after := _, guard := _ }) (v := ?va2) rfl (by kernel_rfl) (by kernel_rfl) (by kernel_rfl) (fun _ _ _ h => h) (Or.inl ⟨by kernel_rfl, ?ha2⟩) hSa ?ra2
        case ha2 => first | (intro w hSw; obtain ⟨s0, s1, s2, s3, s4, s5, t0, t1, t2, t3, t4, t5, _⟩ := hSw; go_simp; done) | (intro w hSw; obtain ⟨s0, s1, s2, s3, s4, s5, t0, t1, t2, t3, t4, t5, _⟩ := hSw; go_simp; with_reducible rfl)
        try simp only [Act.put, List.setIfInBounds_toArray, List.set_cons_zero, List.set_cons_succ]
        refine wpAnyH_take (i := 3) (oi := { dst := some 14, op := _, type := _, pos := _, after := _, guard := _ }) (v := ?va3) rfl (by kernel_rfl) (by kernel_rfl) (by kernel_rfl) (fun _ _ _ h => h) (Or.inl ⟨by kernel_rfl, ?ha3⟩) hSa ?ra3
        case ha3 => first | (intro w hSw; obtain ⟨s0, s1, s2, s3, s4, s5, t0, t1, t2, t3, t4, t5, _⟩ := hSw; go_simp; done) | (intro w hSw; obtain ⟨s0, s1, s2, s3, s4, s5, t0, t1, t2, t3, t4, t5, _⟩ := hSw; go_simp; with_reducible rfl)
        try simp only [Act.put, List.setIfInBounds_toArray, List.set_cons_zero, List.set_cons_succ]
        refine wpAnyH_take (i := 4) (oi := { dst := some 15, op := _, type := _, pos := _, after := _, guard := _ }) (v := ?va4) rfl (by kernel_rfl) (by kernel_rfl) (by kernel_rfl) (fun _ _ _ h => h) (Or.inl ⟨by kernel_rfl, ?ha4⟩) hSa ?ra4
        case ha4 => first | (intro w hSw; obtain ⟨s0, s1, s2, s3, s4, s5, t0, t1, t2, t3, t4, t5, _⟩ := hSw; go_simp; done) | (intro w hSw; obtain ⟨s0, s1, s2, s3, s4, s5, t0, t1, t2, t3, t4, t5, _⟩ := hSw; go_simp; with_reducible rfl)
        try simp only [Act.put, List.setIfInBounds_toArray, List.set_cons_zero, List.set_cons_succ]
        refine wpAnyH_take (i := 5) (oi := { dst := some 16, op := _, type := _, pos := _, after := _, guard := _ }) (v := ?va5) rfl (by kernel_rfl) (by kernel_rfl) (by kernel_rfl) (fun _ _ _ h => h) (Or.inl ⟨by kernel_rfl, ?ha5⟩) hSa ?ra5
        case ha5 => first | (intro w hSw; obtain ⟨s0, s1, s2, s3, s4, s5, t0, t1, t2, t3, t4, t5, _⟩ := hSw; go_simp; done) | (intro w hSw; obtain ⟨s0, s1, s2, s3, s4, s5, t0, t1, t2, t3, t4, t5, _⟩ := hSw; go_simp; with_reducible rfl)
        try simp only [Act.put, List.setIfInBounds_toArray, List.set_cons_zero, List.set_cons_succ]
        refine wpAnyH_take (i := 6) (oi := { dst := some 17, op := _, type := _, pos := _, after := _, guard := _ }) (v := ?va6) rfl (by kernel_rfl) (by kernel_rfl) (by kernel_rfl) (fun _ _ _ h => h) (Or.inl ⟨by kernel_rfl, ?ha6⟩) hSa ?ra6
        case ha6 => first | (intro w hSw; obtain ⟨s0, s1, s2, s3, s4, s5, t0, t1, t2, t3, t4, t5, _⟩ := hSw; go_simp; done) | (intro w hSw; obtain ⟨s0, s1, s2, s3, s4, s5, t0, t1, t2, t3, t4, t5, _⟩ := hSw; go_simp; with_reducible rfl)
        try simp only [Act.put, List.setIfInBounds_toArray, List.set_cons_zero, List.set_cons_succ]
        refine wpAnyH_take (i := 7) (oi := { dst := some 18, op := _, type := _, pos := _, after := _, guard := _ }) (v := ?va7) rfl (by kernel_rfl) (by kernel_rfl) (by kernel_rfl) (fun _ _ _ h => h) (Or.inl ⟨by kernel_rfl, ?ha7⟩) hSa ?ra7
        case ha7 => first | (intro w hSw; obtain ⟨s0, s1, s2, s3, s4, s5, t0, t1, t2, t3, t4, t5, _⟩ := hSw; go_simp; done) | (intro w hSw; obtain ⟨s0, s1, s2, s3, s4, s5, t0, t1, t2, t3, t4, t5, _⟩ := hSw; go_simp; with_reducible rfl)
        try simp only [Act.put, List.setIfInBounds_toArray, List.set_cons_zero, List.set_cons_succ]
        refine wpAnyH_take (i := 8) (oi := { dst := some 19, op := _, type := _, pos := _, after := _, guard := _ }) (v := ?va8) rfl (by kernel_rfl) (by kernel_rfl) (by kernel_rfl) (fun _ _ _ h => h) (Or.inl ⟨by kernel_rfl, ?ha8⟩) hSa ?ra8
        case ha8 => first | (intro w hSw; obtain ⟨s0, s1, s2, s3, s4, s5, t0, t1, t2, t3, t4, t5, _⟩ := hSw; go_simp; done) | (intro w hSw; obtain ⟨s0, s1, s2, s3, s4, s5, t0, t1, t2, t3, t4, t5, _⟩ := hSw; go_simp; with_reducible rfl)
        try simp only [Act.put, List.setIfInBounds_toArray, List.set_cons_zero, List.set_cons_succ]
        refine wpAnyH_take (i := 9) (oi := { dst := some 20, op := _, type := _, pos := _, after := _, guard := _ }) (v := ?va9) rfl (by kernel_rfl) (by kernel_rfl) (by kernel_rfl) (fun _ _ _ h => h) (Or.inl ⟨by kernel_rfl, ?ha9⟩) hSa ?ra9
        case ha9 => first | (intro w hSw; obtain ⟨s0, s1, s2, s3, s4, s5, t0, t1, t2, t3, t4, t5, _⟩ := hSw; go_simp; done) | (intro w hSw; obtain ⟨s0, s1, s2, s3, s4, s5, t0, t1, t2, t3, t4, t5, _⟩ := hSw; go_simp; with_reducible rfl)
        try simp only [Act.put, List.setIfInBounds_toArray, List.set_cons_zero, List.set_cons_succ]
        refine wpAnyH_take (i := 10) (oi := { dst := some 21, op := _, type := _, pos := _, after := _, guard := _ }) (v := ?va10) rfl (by kernel_rfl) (by kernel_rfl) (by kernel_rfl) (fun _ _ _ h => h) (Or.inl ⟨by kernel_rfl, ?ha10⟩) hSa ?ra10
        case ha10 => first | (intro w hSw; obtain ⟨s0, s1, s2, s3, s4, s5, t0, t1, t2, t3, t4, t5, _⟩ := hSw; go_simp; done) | (intro w hSw; obtain ⟨s0, s1, s2, s3, s4, s5, t0, t1, t2, t3, t4, t5, _⟩ := hSw; go_simp; with_reducible rfl)
        try simp only [Act.put, List.setIfInBounds_toArray, List.set_cons_zero, List.set_cons_succ]
        refine wpAnyH_take (i := 11) (oi := { dst := some 22, op := _, type := _, pos := _, after := _, guard := _ }) (v := ?va11) rfl (by kernel_rfl) (by kernel_rfl) (by kernel_rfl) (fun _ _ _ h => h) (Or.inl ⟨by kernel_rfl, ?ha11⟩) hSa ?ra11
        case ha11 => first | (intro w hSw; obtain ⟨s0, s1, s2, s3, s4, s5, t0, t1, t2, t3, t4, t5, _⟩ := hSw; go_simp; done) | (intro w hSw; obtain ⟨s0, s1, s2, s3, s4, s5, t0, t1, t2, t3, t4, t5, _⟩ := hSw; go_simp; with_reducible rfl)
        try simp only [Act.put, List.setIfInBounds_toArray, List.set_cons_zero, List.set_cons_succ]
        refine wpAnyH_take (i := 12) (oi := { dst := some 23, op := _, type := _, pos := _, after := _, guard := _ }) (v := ?va12) rfl (by kernel_rfl) (by kernel_rfl) (by kernel_rfl) (fun _ _ _ h => h) (Or.inl ⟨by kernel_rfl, ?ha12⟩) hSa ?ra12
        case ha12 => first | (intro w hSw; obtain ⟨s0, s1, s2, s3, s4, s5, t0, t1, t2, t3, t4, t5, _⟩ := hSw; go_simp; done) | (intro w hSw; obtain ⟨s0, s1, s2, s3, s4, s5, t0, t1, t2, t3, t4, t5, _⟩ := hSw; go_simp; with_reducible rfl)
        try simp only [Act.put, List.setIfInBounds_toArray, List.set_cons_zero, List.set_cons_succ]
        refine wpAnyH_ready (rs := [13]) (by kernel_rfl) (by simp) ?_
        refine AllReadyH.cons rfl (fun K hK => ?_) AllReadyH.nil
        go_simp
        refine (unhide CN _ hSa.bel).mono ?_
        rintro e2 W2 ⟨rfl, hb2⟩
        have hSa' := hSa.below hb2
        clear hb2
        refine hK _ _ hSa' (fun _ => ?_)
        clear hK K hSa
        have hSa := hSa'
        clear hSa'
        refine wpAnyH_take (i := 14) (oi := { dst := some 25, op := _, type := _, pos := _, after := _, guard := _ }) (v := ?va14) rfl (by kernel_rfl) (by kernel_rfl) (by kernel_rfl) (fun _ _ _ h => h) (Or.inl ⟨by kernel_rfl, ?ha14⟩) hSa ?ra14
        case ha14 => first | (intro w hSw; obtain ⟨s0, s1, s2, s3, s4, s5, t0, t1, t2, t3, t4, t5, _⟩ := hSw; go_simp; done) | (intro w hSw; obtain ⟨s0, s1, s2, s3, s4, s5, t0, t1, t2, t3, t4, t5, _⟩ := hSw; go_simp; with_reducible rfl)
        try simp only [Act.put, List.setIfInBounds_toArray, List.set_cons_zero, List.set_cons_succ]
        refine wpAnyH_take (i := 15) (oi := { dst := some 26, op := _, type := _, pos := _, after := _, guard := _ }) (v := ?va15) rfl (by kernel_rfl) (by kernel_rfl) (by kernel_rfl) (fun _ _ _ h => h) (Or.inl ⟨by kernel_rfl, ?ha15⟩) hSa ?ra15
        case ha15 => first | (intro w hSw; obtain ⟨s0, s1, s2, s3, s4, s5, t0, t1, t2, t3, t4, t5, _⟩ := hSw; go_simp; done) | (intro w hSw; obtain ⟨s0, s1, s2, s3, s4, s5, t0, t1, t2, t3, t4, t5, _⟩ := hSw; go_simp; with_reducible rfl)
        try simp only [Act.put, List.setIfInBounds_toArray, List.set_cons_zero, List.set_cons_succ]
        refine wpAnyH_done (by kernel_rfl) ?_ _
        have HB1 := hide hSa.bel
        clear hSa CN
        cases bb with
        | true =>
          go_wp2
          go_roundw
          case rel => exact ⟨j + 1, by omega, by omega, by go_num, unhide HB1, by have := unhide HE; rw [Bool.true_and] at this; exact this⟩
          case measure => simp [intOf]; omega
        | false =>
          go_wp2
          go_ret
          exact ⟨by rw [unhide HE]; rfl, unhide HB1⟩
      · have hqi : (lb : Int) ≤ (j : Int) := by omega
        have hqg : decide ((lb : Int) ≤ (j : Int)) = true := by simp; omega
        have HE : Hid (sameF f h = false) := hide (by rw [heq, hd, h.drop_out j (by omega)]; rfl)
        clear heq hd
        go_wp2
        go_quiet (fail)
        go_wp2
        go_ret
        exact ⟨by rw [unhide HE]; rfl, _root_.Go.below_drewN hbw _⟩
    · have hpi : ¬ (j : Int) < (la : Int) := by omega
      have HE : Hid (sameF f h = ((la : Int) == (lb : Int))) := hide (by
        rw [heq, f.drop_out j (by omega), sameF_nil, h.drop_len j]
        by_cases e : la = lb
        · subst e
          have : h.len - j = 0 := by omega
          rw [this]; simp
        · rw [beq_eq_false_iff_ne.2 (by omega : ¬ (la : Int) = (lb : Int))]
          apply beq_eq_false_iff_ne.2
          omega)
      clear hp heq
      go_wp2
      go_ret
      exact ⟨by rw [unhide HE]; rfl, hbw⟩
theorem nodes_any : ∀ (m : Nat) (f : Forest), f.count ≤ m → m ≤ 1000000 → SmF f → ∀ (h : Forest) (qa qb : Option Addr) (ca cb : Nat) (w : World), Fo qa f w → Fo qb h w → SmF h → h.len ≤ 1000000 →
    Calls Tryd.prog 49 #[.slice qa f.len ca, .slice qb h.len cb] w fun e w' => e = .returned (.bool (sameF f h)) ∧ Below w.heap.size w w'
  | m, f, hm, hM, hs, h, qa, qb, ca, cb, w, h1, h2, hs2, hc2 => by
    rcases h1 with rfl | ⟨g, o, rfl, hl⟩
    · rw [sameF_nil]; exact nodes_none qa qb ca h.len cb w (by omega)
    · refine nodes_some f h g o qb ca cb w hl h2 hs hs2 (by have := f.len_count; omega) hc2 (fun j k sp n ats tx kids hd g qa qb ca cb w hfa hfb hsg hg => ?_)
      have h1 : (f.drop j).count ≤ f.count := f.count_drop j
      have h3 := sm_drop j f hs
      rw [hd] at h1 h3
      have h2 : 1 + kids.count + (f.drop (j + 1)).count ≤ f.count := h1
      match m, hm with
      | 0, hm => omega
      | m + 1, hm => exact nodes_any m kids (by omega) (by omega) h3.2.1 g qa qb ca cb w hfa hfb hsg hg
end Go.Proofs.YtbabmkilbbbmoaaDoor

/-
  What the reference's Right and Check do (made by mk_yrr.py).
-/
namespace Go.Proofs.YtbabmkilbbbmoaaDoor
open Go.RowKit
set_option linter.unusedVariables false
set_option linter.unusedSimpArgs false

/-- Are nodes right, but for texts side by side among the first ones? -/
def allB : Forest → Bool
  | .nil => true
  | .cons k sp n ats tx kids rest => raB k sp n ats tx kids.len && ((leafB k || (apartB kids && allB kids)) && allB rest)
def rightN (f : Forest) : Bool := apartB f && allB f
def apartP (pk : Int) (f : Forest) : Bool := !(pk == 2 && f.kind0 == 2) && apartB f
theorem apartP_cons (pk k sp : Int) (n : ByteArray) (ats : List (ByteArray × ByteArray)) (tx : ByteArray) (kids rest : Forest) : apartP pk (.cons k sp n ats tx kids rest) = (!(pk == 2 && k == 2) && apartP k rest) := rfl
theorem apartP_zero (f : Forest) : apartP 0 f = apartB f := by unfold apartP; simp
theorem emp_ne (s : ByteArray) (h : s.toList.isEmpty = false) : (s.toList == ByteArray.toList ⟨#[]⟩) = false := by
  apply beq_eq_false_iff_ne.2
  intro e
  rw [e] at h
  simp at h
theorem emp_eq (s : ByteArray) (h : s.toList.isEmpty = true) : (s.toList == ByteArray.toList ⟨#[]⟩) = true := by
  have : s.toList = [] := List.isEmpty_iff.1 h
  rw [this]; simp
theorem ra_two (sp : Int) (n : ByteArray) (ats : List (ByteArray × ByteArray)) (tx : ByteArray) (kl : Nat) : raB 2 sp n ats tx kl = (!tx.toList.isEmpty && (goodB tx.data.toList && (sp == 0 && (n.toList.isEmpty && (ats.length == 0 && kl == 0))))) := by simp [raB, taB]
theorem ra_three (sp : Int) (n : ByteArray) (ats : List (ByteArray × ByteArray)) (tx : ByteArray) (kl : Nat) : raB 3 sp n ats tx kl = (goodB tx.data.toList && (sp == 0 && (n.toList.isEmpty && (ats.length == 0 && kl == 0)))) := by simp [raB, taB]
theorem ra_one (sp : Int) (n : ByteArray) (ats : List (ByteArray × ByteArray)) (tx : ByteArray) (kl : Nat) : raB 1 sp n ats tx kl = (decide (wrongN n.data.toList ats = 0) && (decide (0 ≤ sp) && (decide (sp ≤ 2) && tx.toList.isEmpty))) := by simp [raB]
theorem ra_other (k sp : Int) (n : ByteArray) (ats : List (ByteArray × ByteArray)) (tx : ByteArray) (kl : Nat) (h1 : k ≠ 1) (h2 : k ≠ 2) (h3 : k ≠ 3) : raB k sp n ats tx kl = false := by simp [raB, h1, h2, h3]
/-- What the loop keeps. -/
def RrAt (f : Forest) (g o : Nat) (w : World) (RR : Bool) (b : Value) (wr : World) : Prop :=
  ∃ (j : Nat) (pk : Int), j ≤ f.len ∧ b = .int .i64 j ∧ RR = (apartP pk (f.drop j) && allB (f.drop j)) ∧ (j = 0 ∧ pk = 0 ∨ 0 < j ∧ w.cell? ⟨g, o + (j - 1) * 6, none⟩ = some (.int .i64 pk)) ∧ SmF (f.drop j) ∧ Below w.heap.size w wr
end Go.Proofs.YtbabmkilbbbmoaaDoor

/-
  The reference's Right and Check at any nodes; the two Checks are one.
-/
namespace Go.Proofs.YtbabmkilbbbmoaaDoor
open Go.RowKit
set_option linter.unusedVariables false
set_option linter.unusedSimpArgs false

theorem SmF.drop : ∀ (j : Nat) (f : Forest), SmF f → SmF (f.drop j)
  | 0, f, h => by rw [Forest.drop_zero]; exact h
  | j + 1, .nil, h => by rw [Forest.drop_nil]; trivial
  | j + 1, .cons _ _ _ _ _ _ r, h => SmF.drop j r h.2.2
def rcheckN (f : Forest) : Int := if 300 < f.count ∨ 40 < f.depth then 2 else if rightN f = true then 0 else 4
/-! ### they are one -/
def itB (it : Item) : Bool := raB it.k it.sp it.n it.ats it.tx it.kids.len && apartB it.kids
theorem tell_ck : ∀ (l : List Item) (b : Bool), tell ckStep b l = (b && l.all itB)
  | [], b => by simp [tell]
  | it :: l, b => by
    have hs : ckStep b it = (b && itB it, b && itB it) := rfl
    rw [tell, hs]
    cases h : (b && itB it) with
    | true =>
      rw [if_pos rfl, tell_ck l true]
      simp at h
      simp [h.1, h.2]
    | false =>
      rw [if_neg (by simp)]
      simp only [List.all_cons]
      rw [← Bool.and_assoc, h]; simp
theorem ra_leaf {k sp : Int} {n : ByteArray} {ats : List (ByteArray × ByteArray)} {tx : ByteArray} {kl : Nat} (hk : leafB k = true) (h : raB k sp n ats tx kl = true) : kl = 0 := by
  unfold leafB at hk
  simp at hk
  rcases hk with rfl | rfl
  · rw [ra_two] at h; simp at h; exact h.2.2.2.2.2
  · rw [ra_three] at h; simp at h; exact h.2.2.2.2
theorem items_all : ∀ (f : Forest) (d : Nat), (items f d).all itB = allB f
  | .nil, d => rfl
  | .cons k sp n ats tx kids rest, d => by
    have ih1 := items_all kids (d + 1)
    have ih2 := items_all rest d
    rw [items, List.all_cons, List.all_append, ih1, ih2, allB]
    show (raB k sp n ats tx kids.len && apartB kids && (allB kids && allB rest)) = _
    cases hr : raB k sp n ats tx kids.len with
    | false => simp
    | true =>
      cases hl : leafB k with
      | true =>
        have h0 := ra_leaf hl hr
        have hn : kids = .nil := by cases kids with | nil => rfl | cons _ _ _ _ _ _ r => simp [Forest.len] at h0
        subst hn
        simp [apartB, allB]
      | false =>
        simp only [Bool.true_and, Bool.false_or]
        cases apartB kids <;> simp
theorem check_is (f : Forest) : checkN f = rcheckN f := by
  unfold checkN rcheckN
  rw [greatB_is, tell_ck, items_all]
  by_cases h : 300 < f.count ∨ 40 < f.depth
  · rw [if_pos h, if_pos (by simpa using h)]
  · rw [if_neg h, if_neg (by simpa using h)]
    rfl
end Go.Proofs.YtbabmkilbbbmoaaDoor

/-
  What 'rectoref01.Size' does.
-/
namespace Go.Proofs.YtbabmkilbbbmoaaDoor
open Go.RowKit
set_option linter.unusedVariables false

end Go.Proofs.YtbabmkilbbbmoaaDoor

/-
  What 'rectoref01.Plain' does.
-/
namespace Go.Proofs.YtbabmkilbbbmoaaDoor
open Go.RowKit
set_option linter.unusedVariables false

theorem conv1 (w : World) (n : Nat) (c : Int) (h : n = w.heap.size) :
    Sem.run Tryd.prog (convert 120 9 (Value.slice (some { block := n, off := 0 }) 1 1)) (w.alloc (Obj.cells #[.int .u8 c] 5)) = .ok (.string (str [c])) (w.alloc (Obj.cells #[.int .u8 c] 5)) := by
  subst h
  refine run_convert_bytes_arg (P := Tryd.prog) _ 120 5 Tryd.underlying120 Tryd.underlying5 w.heap.size 0 1 1 [c] rfl ?_ 9 Tryd.underlying9
  intro i hi
  have : i = 0 := by omega
  subst this
  rw [World.cell?_alloc_mark]; rfl
theorem str_add (a b : List Int) : str a ++ str b = str (a ++ b) := by
  apply ByteArray.ext
  simp [str, strOfNums]
theorem str_none (a : ByteArray) : a ++ (⟨#[]⟩ : ByteArray) = a := by
  apply ByteArray.ext
  simp

end Go.Proofs.YtbabmkilbbbmoaaDoor

/-
  The reference's text, Long, node, Plain and Bytes of the tree (made by mk_yrp.py).
-/
namespace Go.Proofs.YtbabmkilbbbmoaaDoor
open Go.RowKit
set_option linter.unusedVariables false
set_option linter.unusedSimpArgs false

/-! ### Long -/
/-! ### node -/
def NdS (w0 : World) (R : Nat) (k sp : Int) (n : ByteArray) (qa : Option Addr) (al ca : Nat) (tx : ByteArray) (qk : Option Addr) (kl ck : Nat) (w : World) : Prop :=
  w.cell? ⟨R, 1, none⟩ = some (.int .i64 sp) ∧ w.cell? ⟨R, 2, none⟩ = some (.string n) ∧ w.cell? ⟨R, 3, none⟩ = some (.slice qa al ca) ∧ Blk w R #[.int .i64 k, .int .i64 sp, .string n, .slice qa al ca, .string tx, .slice qk kl ck] 44 ∧ Below w0.heap.size w0 w
theorem NdS.mk {w0 w : World} {R : Nat} {k sp : Int} {n : ByteArray} {qa : Option Addr} {al ca : Nat} {tx : ByteArray} {qk : Option Addr} {kl ck : Nat} (h : Blk w R #[.int .i64 k, .int .i64 sp, .string n, .slice qa al ca, .string tx, .slice qk kl ck] 44) (hb : Below w0.heap.size w0 w) : NdS w0 R k sp n qa al ca tx qk kl ck w := ⟨h.cell 1, h.cell 2, h.cell 3, h, hb⟩
theorem NdS.below {w0 w w' : World} {R : Nat} {k sp : Int} {n : ByteArray} {qa : Option Addr} {al ca : Nat} {tx : ByteArray} {qk : Option Addr} {kl ck : Nat} (h : NdS w0 R k sp n qa al ca tx qk kl ck w) (hb : Below w.heap.size w w') : NdS w0 R k sp n qa al ca tx qk kl ck w' := NdS.mk (Blk.later h.2.2.2.1 hb) (tr2 h.2.2.2.2 hb)
def AtS (w0 : World) (R : Nat) (k sp : Int) (n : ByteArray) (qa : Option Addr) (al ca : Nat) (tx : ByteArray) (qk : Option Addr) (kl ck : Nat) (H : Nat) (ya yb : ByteArray) (w : World) : Prop :=
  w.cell? ⟨H, 0, none⟩ = some (.string ya) ∧ w.cell? ⟨H, 1, none⟩ = some (.string yb) ∧ NdS w0 R k sp n qa al ca tx qk kl ck w
theorem AtS.below {w0 w w' : World} {R : Nat} {k sp : Int} {n : ByteArray} {qa : Option Addr} {al ca : Nat} {tx : ByteArray} {qk : Option Addr} {kl ck : Nat} {H : Nat} {ya yb : ByteArray} (h : AtS w0 R k sp n qa al ca tx qk kl ck H ya yb w) (hb : Below w.heap.size w w') : AtS w0 R k sp n qa al ca tx qk kl ck H ya yb w' := ⟨cell_later hb h.1, cell_later hb h.2.1, h.2.2.below hb⟩
theorem AtS.new {w0 w : World} {R : Nat} {k sp : Int} {n : ByteArray} {qa : Option Addr} {al ca : Nat} {tx : ByteArray} {qk : Option Addr} {kl ck : Nat} (ya yb : ByteArray) (h : NdS w0 R k sp n qa al ca tx qk kl ck w) : AtS w0 R k sp n qa al ca tx qk kl ck w.heap.size ya yb (w.alloc (Obj.cells #[.string ya, .string yb] 112)) :=
  ⟨(Blk.new w #[.string ya, .string yb] 112).cell 0, (Blk.new w #[.string ya, .string yb] 112).cell 1, h.below ((Below.refl _ _).alloc (Nat.le_refl _) _)⟩
theorem numW_nb {n : Int} (h0 : 0 ≤ n) (h1 : n ≤ 1099511627776) : numW n = nb n := if_pos ⟨h0, h1⟩
/-! ### Plain -/
theorem ra_elem {k sp : Int} {n : ByteArray} {ats : List (ByteArray × ByteArray)} {tx : ByteArray} {kl : Nat} (hk : leafB k = false) (h : raB k sp n ats tx kl = true) : k = 1 ∧ 0 ≤ sp ∧ sp ≤ 2 := by
  unfold leafB at hk
  simp at hk
  unfold raB at h
  by_cases h1 : k = 1
  · rw [if_pos h1] at h
    simp at h
    exact ⟨h1, h.2.1, h.2.2.1⟩
  · rw [if_neg h1, if_neg hk.1, if_neg hk.2] at h
    cases h
def plnV (f : Forest) : List UInt8 := bytesL f
/-! ### Bytes -/
end Go.Proofs.YtbabmkilbbbmoaaDoor
