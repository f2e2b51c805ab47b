/-
  The walk of a step: Pop.
-/
import Derived.Test.YtdkjdomacilagaaDDa
namespace Go.Proofs.Ytdkjdomacilagaa
open Go.RowKit
set_option linter.unusedVariables false
set_option linter.unusedSimpArgs false

theorem Way.trans {base p r : Nat} {v u v3 u3 : Value} {w w3 W : World} {L M L3 M3 : List Ent} (h : Way base p r v u w L3 M3 w3) (hv : ∀ k, v3.ownBlock = some k → v.ownBlock = some k ∨ w.heap.size ≤ k) (hu : ∀ k, u3.ownBlock = some k → u.ownBlock = some k ∨ w.heap.size ≤ k) (h2 : Way base p r v3 u3 w3 L M W) : Way base p r v u w L M W := by
  obtain ⟨⟨v', u', h1, h2', h3⟩, ht⟩ := h2
  have hs := h.size
  refine ⟨⟨v', u', h1, fun k hk => ?_, fun k hk => ?_⟩, ⟨ht.os.trans h.tc.os, ht.tape.trans h.tc.tape, ht.output.trans h.tc.output, Nat.le_trans hs ht.size, fun k hk a b c d => (ht.block k (by omega) a b (fun e => ?_) (fun e => ?_)).trans (h.tc.block k hk a b c d)⟩⟩
  · rcases h2' k hk with h | h
    · exact hv k h
    · exact Or.inr (by omega)
  · rcases h3 k hk with h | h
    · exact hu k h
    · exact Or.inr (by omega)
  · rcases hv k e.symm with h | h
    · exact c h.symm
    · omega
  · rcases hu k e.symm with h | h
    · exact d h.symm
    · omega
theorem pop0_any (base p : Nat) (v : Value) (w : World) (h : Stk base p v [] w) :
    Calls Try.prog 41 #[ptr p] w fun e w' => e = .returned (.tuple #[entV e0, .bool false]) ∧ Upd base p v [] w w' := by
  refine (pop_none (ptr p) w (hide fun w1 hb1 => ?_)).mono ?_
  · obtain ⟨q, cap, e, _⟩ := h.slice
    exact top_none (ptr p) q cap w1 (hide fun w2 hb2 => by
      have hl := (h.later hb1).later hb2
      rw [e] at hl
      exact entries_at p _ w2 hl.1 ⟨_, _, _, rfl⟩)
  · rintro e w1 ⟨rfl, hb⟩
    exact ⟨rfl, Upd.same h hb⟩
/-- The two entries that are compared. -/
def KeepQ (b : Nat) (id sp : Int) (nm : ByteArray) (W : World) : Prop :=
  W.cell? ⟨b, 0, none⟩ = some (.int .i64 id) ∧ W.cell? ⟨b, 1, none⟩ = some (.int .i64 sp) ∧ W.cell? ⟨b, 2, none⟩ = some (.string nm) ∧
  W.cell? ⟨b + 1, 0, none⟩ = some (.int .i64 id) ∧ W.cell? ⟨b + 1, 1, none⟩ = some (.int .i64 sp) ∧ W.cell? ⟨b + 1, 2, none⟩ = some (.string nm)
theorem KeepQ.of {b : Nat} {id sp : Int} {nm : ByteArray} {W : World} {t t2 : TypeId} (h : Blk W b #[.int .i64 id, .int .i64 sp, .string nm] t) (h2 : Blk W (b + 1) #[.int .i64 id, .int .i64 sp, .string nm] t2) : KeepQ b id sp nm W :=
  ⟨h.cell 0, h.cell 1, h.cell 2, h2.cell 0, h2.cell 1, h2.cell 2⟩
/-- The reference's last entry. -/
def KeepL (r : Nat) (u : Value) (g o : Nat) (id sp : Int) (nm : ByteArray) (b : Nat) (W : World) : Prop :=
  W.cell? ⟨r, 0, none⟩ = some u ∧ W.cell? ⟨g, o, none⟩ = some (.int .i64 id) ∧ W.cell? ⟨g, o + 1, none⟩ = some (.int .i64 sp) ∧ W.cell? ⟨g, o + 2, none⟩ = some (.string nm) ∧ r < b ∧ g < b
theorem KeepL.set {r g o b j : Nat} {u : Value} {id sp : Int} {nm : ByteArray} {W : World} (h : KeepL r u g o id sp nm b W) (x : Value) : KeepL r u g o id sp nm b (W.setCell ⟨b, j, none⟩ x) := by
  obtain ⟨h1, h2, h3, h4, h5, h6⟩ := h
  refine ⟨?_, ?_, ?_, ?_, h5, h6⟩ <;> rw [World.cell?_setCell_far _ _ _ _ (fun e => by dsimp only at e; omega)] <;> assumption

set_option maxHeartbeats 8000000 in
set_option maxRecDepth 100000 in
theorem does_pop0 (base p r : Nat) (v u : Value) (at' id sp : Int) (nm na nb : ByteArray) (w : World) (h : TwoR base p v [] r u [] w) (hbase : base ≤ w.heap.size) :
    Calls Try.prog 11 #[ptr p, ptr r, .agg (stepA 4 at' id sp nm na nb)] w (DoesSaid base p r v u w) := by
  have b2 : Below w.heap.size w ((w.alloc (Obj.cells #[.int .i64 4, .int .i64 at', .int .i64 id, .int .i64 sp, .string nm, .string na, .string nb] 34)).alloc (Obj.cells #[.string na, .string nb] 9)) := (((Below.refl _ _).alloc (Nat.le_refl _) _).alloc (by simp) _)
  have kX : Blk ((w.alloc (Obj.cells #[.int .i64 4, .int .i64 at', .int .i64 id, .int .i64 sp, .string nm, .string na, .string nb] 34)).alloc (Obj.cells #[.string na, .string nb] 9)) w.heap.size (stepA 4 at' id sp nm na nb) 34 := ((Blk.new w _ _).alloc _)
  have kY : Blk ((w.alloc (Obj.cells #[.int .i64 4, .int .i64 at', .int .i64 id, .int .i64 sp, .string nm, .string na, .string nb] 34)).alloc (Obj.cells #[.string na, .string nb] 9)) (w.heap.size + 1) #[.string na, .string nb] 9 := Eq.mp (by simp) (Blk.new (w.alloc (Obj.cells #[.int .i64 4, .int .i64 at', .int .i64 id, .int .i64 sp, .string nm, .string na, .string nb] 34)) #[.string na, .string nb] 9)
  have mX : Mine p r v u ((w.alloc (Obj.cells #[.int .i64 4, .int .i64 at', .int .i64 id, .int .i64 sp, .string nm, .string na, .string nb] 34)).alloc (Obj.cells #[.string na, .string nb] 9)) w.heap.size := h.mine (Nat.le_refl _) (by simp; try omega)
  have mY : Mine p r v u ((w.alloc (Obj.cells #[.int .i64 4, .int .i64 at', .int .i64 id, .int .i64 sp, .string nm, .string na, .string nb] 34)).alloc (Obj.cells #[.string na, .string nb] 9)) (w.heap.size + 1) := h.mine (by omega) (by simp)
  have HW : Hid (Way base p r v u ((w.alloc (Obj.cells #[.int .i64 4, .int .i64 at', .int .i64 id, .int .i64 sp, .string nm, .string na, .string nb] 34)).alloc (Obj.cells #[.string na, .string nb] 9)) [] [] ((w.alloc (Obj.cells #[.int .i64 4, .int .i64 at', .int .i64 id, .int .i64 sp, .string nm, .string na, .string nb] 34)).alloc (Obj.cells #[.string na, .string nb] 9))) := hide (Way.start (h.later b2))
  have hz : base ≤ ((w.alloc (Obj.cells #[.int .i64 4, .int .i64 at', .int .i64 id, .int .i64 sp, .string nm, .string na, .string nb] 34)).alloc (Obj.cells #[.string na, .string nb] 9)).heap.size := Nat.le_trans hbase b2.size
  have CP : Hid (∀ W, Way base p r v u ((w.alloc (Obj.cells #[.int .i64 4, .int .i64 at', .int .i64 id, .int .i64 sp, .string nm, .string na, .string nb] 34)).alloc (Obj.cells #[.string na, .string nb] 9)) [] [] W → Calls Try.prog 41 #[ptr p] W fun e w' => e = .returned (.tuple #[entV e0, .bool false]) ∧ Way base p r v u ((w.alloc (Obj.cells #[.int .i64 4, .int .i64 at', .int .i64 id, .int .i64 sp, .string nm, .string na, .string nb] 34)).alloc (Obj.cells #[.string na, .string nb] 9)) [] [] w') := hide fun W hW => hW.callP (fun v1 hs h1 => pop0_any base p v1 W hs)
  have CR0 : Hid (∀ v u w W, base ≤ w.heap.size → Way base p r v u w [] [] W → Calls Try.prog 42 #[ptr r] W fun e w' => e = .returned (.bool false) ∧ Way base p r v u w [] [] w') := hide fun v u w W hz hW => hW.callR (fun u1 hs h1 => by
    have := rpop_any base r u1 [] W hs (Nat.le_trans hz hW.size) (by simp)
    simpa using this)
  have CF := hide (fun W => ref_any e0 W)
  have HL : Hid (([] : List Ent).length ≤ 200) := hide (by simp)
  have HB2 := hide b2
  have HZ := hide hz
  unfold entV e0 at *
  dsimp only at *
  clear h b2 kX kY mX mY hz
  unfold ptr stepA at *
  go_enter Try.func11, Try.ntmps11
  go_wp2_with fail
  refine (unhide CP _ (unhide HW)).mono ?_
  rintro e w3 ⟨rfl, hw⟩
  obtain ⟨cq, cc, c0⟩ := hw.cellR
  rw [List.length_nil] at c0
  have HW3 := hide hw
  obtain ⟨v3, u3, t3, hv3, hu3⟩ := hw.at'
  have hz3 := hw.size
  have B6 : Below w3.heap.size w3 ((w3.alloc (Obj.cells #[.int .i64 0, .int .i64 0, .string ⟨#[]⟩] 32)).alloc (Obj.cells #[.int .i64 0, .int .i64 0, .string ⟨#[]⟩] 42)) := ((Below.refl _ _).alloc (Nat.le_refl _) _).alloc (by simp) _
  have c5 := cell_later B6 c0
  have HW6 := hide (hw.later B6)
  have HO := hide (And.intro hv3 hu3)
  have HWs := hide (Way.start (t3.later B6))
  have HK2 := hide (And.intro (t3.mine (w' := (w3.alloc (Obj.cells #[.int .i64 0, .int .i64 0, .string ⟨#[]⟩] 32)).alloc (Obj.cells #[.int .i64 0, .int .i64 0, .string ⟨#[]⟩] 42)) (Nat.le_refl _) (by simp; try omega)) (And.intro (t3.mine (w' := (w3.alloc (Obj.cells #[.int .i64 0, .int .i64 0, .string ⟨#[]⟩] 32)).alloc (Obj.cells #[.int .i64 0, .int .i64 0, .string ⟨#[]⟩] 42)) (Nat.le_succ _) (by simp)) (And.intro ((Blk.new w3 #[.int .i64 0, .int .i64 0, .string ⟨#[]⟩] 32).alloc (Obj.cells #[.int .i64 0, .int .i64 0, .string ⟨#[]⟩] 42)) (Eq.mp (by simp) (Blk.new (w3.alloc (Obj.cells #[.int .i64 0, .int .i64 0, .string ⟨#[]⟩] 32)) #[.int .i64 0, .int .i64 0, .string ⟨#[]⟩] 42) : Blk ((w3.alloc (Obj.cells #[.int .i64 0, .int .i64 0, .string ⟨#[]⟩] 32)).alloc (Obj.cells #[.int .i64 0, .int .i64 0, .string ⟨#[]⟩] 42)) (w3.heap.size + 1) #[.int .i64 0, .int .i64 0, .string ⟨#[]⟩] 42))))
  have CR := hide (fun W hW => unhide CR0 v3 u3 ((w3.alloc (Obj.cells #[.int .i64 0, .int .i64 0, .string ⟨#[]⟩] 32)).alloc (Obj.cells #[.int .i64 0, .int .i64 0, .string ⟨#[]⟩] 42)) W (Nat.le_trans (unhide HZ) (Nat.le_trans hz3 B6.size)) hW)
  clear hw t3 hv3 hu3 B6 HW CP CR0
  go_wp2_with fail
  have HWn := hide ((unhide HWs).later (below_draws _ 1))
  have hSb : KeepQ w3.heap.size 0 0 ⟨#[]⟩ _ := KeepQ.of ((unhide HWn).blk (unhide HK2).1 (unhide HK2).2.2.1) ((unhide HWn).blk (unhide HK2).2.1 (unhide HK2).2.2.2)
  refine wp_region_held (S := KeepQ w3.heap.size 0 0 ⟨#[]⟩) (by kernel_rfl) ?_
  change wpAnyH _ _ _ _ _ _ _ _ (World.drew _)
  refine wpAnyH_take (i := 0) (oi := { dst := some 64, op := _, type := _, pos := _, after := _, guard := _ }) (v := ?vb0) rfl (by kernel_rfl) (by kernel_rfl) (by kernel_rfl) (fun _ _ _ h => h) (Or.inl ⟨by kernel_rfl, ?hb0⟩) hSb ?rb0
  case hb0 => first | (intro w hSw; obtain ⟨s0, s1, s2, s3, s4, s5⟩ := hSw; go_simp; done) | (intro w hSw; obtain ⟨s0, s1, s2, s3, s4, s5⟩ := hSw; go_simp; with_reducible rfl)
  try simp only [Act.put, List.setIfInBounds_toArray, List.set_cons_zero, List.set_cons_succ]
  refine wpAnyH_take (i := 1) (oi := { dst := some 65, op := _, type := _, pos := _, after := _, guard := _ }) (v := ?vb1) rfl (by kernel_rfl) (by kernel_rfl) (by kernel_rfl) (fun _ _ _ h => h) (Or.inl ⟨by kernel_rfl, ?hb1⟩) hSb ?rb1
  case hb1 => first | (intro w hSw; obtain ⟨s0, s1, s2, s3, s4, s5⟩ := hSw; go_simp; done) | (intro w hSw; obtain ⟨s0, s1, s2, s3, s4, s5⟩ := hSw; go_simp; with_reducible rfl)
  try simp only [Act.put, List.setIfInBounds_toArray, List.set_cons_zero, List.set_cons_succ]
  refine wpAnyH_ready (rs := [2]) (by kernel_rfl) (by simp) ?_
  refine AllReadyH.cons rfl (fun K hK => ?_) AllReadyH.nil
  go_simp
  refine (unhide CR _ (unhide HWn)).mono ?_
  rintro e w7 ⟨rfl, hw⟩
  replace HWn := hide hw
  clear hw
  have hSb' := KeepQ.of ((unhide HWn).blk (unhide HK2).1 (unhide HK2).2.2.1) ((unhide HWn).blk (unhide HK2).2.1 (unhide HK2).2.2.2)
  refine hK _ _ hSb' (fun _ => ?_)
  clear hK K hSb
  have hSb := hSb'
  clear hSb'
  refine wpAnyH_take (i := 3) (oi := { dst := some 67, op := _, type := _, pos := _, after := _, guard := _ }) (v := ?vb3_2) rfl (by kernel_rfl) (by kernel_rfl) (by kernel_rfl) (fun _ _ _ h => h) (Or.inl ⟨by kernel_rfl, ?hb3_2⟩) hSb ?rb3_2
  case hb3_2 => first | (intro w hSw; obtain ⟨s0, s1, s2, s3, s4, s5⟩ := hSw; go_simp; done) | (intro w hSw; obtain ⟨s0, s1, s2, s3, s4, s5⟩ := hSw; go_simp; with_reducible rfl)
  try simp only [Act.put, List.setIfInBounds_toArray, List.set_cons_zero, List.set_cons_succ]
  refine wpAnyH_take (i := 4) (oi := { dst := some 68, op := _, type := _, pos := _, after := _, guard := _ }) (v := ?vb4_2) rfl (by kernel_rfl) (by kernel_rfl) (by kernel_rfl) (fun _ _ _ h => h) (Or.inl ⟨by kernel_rfl, ?hb4_2⟩) hSb ?rb4_2
  case hb4_2 => first | (intro w hSw; obtain ⟨s0, s1, s2, s3, s4, s5⟩ := hSw; go_simp; done) | (intro w hSw; obtain ⟨s0, s1, s2, s3, s4, s5⟩ := hSw; go_simp; with_reducible rfl)
  try simp only [Act.put, List.setIfInBounds_toArray, List.set_cons_zero, List.set_cons_succ]
  refine wpAnyH_take (i := 5) (oi := { dst := some 69, op := _, type := _, pos := _, after := _, guard := _ }) (v := ?vb5_2) rfl (by kernel_rfl) (by kernel_rfl) (by kernel_rfl) (fun _ _ _ h => h) (Or.inl ⟨by kernel_rfl, ?hb5_2⟩) hSb ?rb5_2
  case hb5_2 => first | (intro w hSw; obtain ⟨s0, s1, s2, s3, s4, s5⟩ := hSw; go_simp; done) | (intro w hSw; obtain ⟨s0, s1, s2, s3, s4, s5⟩ := hSw; go_simp; with_reducible rfl)
  try simp only [Act.put, List.setIfInBounds_toArray, List.set_cons_zero, List.set_cons_succ]
  refine wpAnyH_take (i := 7) (oi := { dst := some 71, op := _, type := _, pos := _, after := _, guard := _ }) (v := ?vb7_2) rfl (by kernel_rfl) (by kernel_rfl) (by kernel_rfl) (fun _ _ _ h => h) (Or.inl ⟨by kernel_rfl, ?hb7_2⟩) hSb ?rb7_2
  case hb7_2 => first | (intro w hSw; obtain ⟨s0, s1, s2, s3, s4, s5⟩ := hSw; go_simp; done) | (intro w hSw; obtain ⟨s0, s1, s2, s3, s4, s5⟩ := hSw; go_simp; with_reducible rfl)
  try simp only [Act.put, List.setIfInBounds_toArray, List.set_cons_zero, List.set_cons_succ]
  refine wpAnyH_ready (rs := [6]) (by kernel_rfl) (by simp) ?_
  refine AllReadyH.cons rfl (fun K hK => ?_) AllReadyH.nil
  go_simp
  refine (unhide CF _).mono ?_
  rintro e w8 ⟨rfl, hb⟩
  replace HWn := hide ((unhide HWn).later hb)
  clear hb
  have hSb' := KeepQ.of ((unhide HWn).blk (unhide HK2).1 (unhide HK2).2.2.1) ((unhide HWn).blk (unhide HK2).2.1 (unhide HK2).2.2.2)
  refine hK _ _ hSb' (fun _ => ?_)
  clear hK K hSb
  have hSb := hSb'
  clear hSb'
  refine wpAnyH_take (i := 8) (oi := { dst := some 72, op := _, type := _, pos := _, after := _, guard := _ }) (v := ?vb8_2_6) rfl (by kernel_rfl) (by kernel_rfl) (by kernel_rfl) (fun _ _ _ h => h) (Or.inl ⟨by kernel_rfl, ?hb8_2_6⟩) hSb ?rb8_2_6
  case hb8_2_6 => first | (intro w hSw; obtain ⟨s0, s1, s2, s3, s4, s5⟩ := hSw; go_simp; done) | (intro w hSw; obtain ⟨s0, s1, s2, s3, s4, s5⟩ := hSw; go_simp; with_reducible rfl)
  try simp only [Act.put, List.setIfInBounds_toArray, List.set_cons_zero, List.set_cons_succ]
  refine wpAnyH_take (i := 9) (oi := { dst := some 73, op := _, type := _, pos := _, after := _, guard := _ }) (v := ?vb9_2_6) rfl (by kernel_rfl) (by kernel_rfl) (by kernel_rfl) (fun _ _ _ h => h) (Or.inl ⟨by kernel_rfl, ?hb9_2_6⟩) hSb ?rb9_2_6
  case hb9_2_6 => first | (intro w hSw; obtain ⟨s0, s1, s2, s3, s4, s5⟩ := hSw; go_simp; done) | (intro w hSw; obtain ⟨s0, s1, s2, s3, s4, s5⟩ := hSw; go_simp; with_reducible rfl)
  try simp only [Act.put, List.setIfInBounds_toArray, List.set_cons_zero, List.set_cons_succ]
  refine wpAnyH_take (i := 10) (oi := { dst := some 6, op := _, type := _, pos := _, after := _, guard := _ }) (v := ?vb10_2_6) rfl (by kernel_rfl) (by kernel_rfl) (by kernel_rfl) (fun _ _ _ h => h) (Or.inl ⟨by kernel_rfl, ?hb10_2_6⟩) hSb ?rb10_2_6
  case hb10_2_6 => first | (intro w hSw; obtain ⟨s0, s1, s2, s3, s4, s5⟩ := hSw; go_simp; done) | (intro w hSw; obtain ⟨s0, s1, s2, s3, s4, s5⟩ := hSw; go_simp; with_reducible rfl)
  try simp only [Act.put, List.setIfInBounds_toArray, List.set_cons_zero, List.set_cons_succ]
  refine wpAnyH_done (by kernel_rfl) ?_ _
  clear hSb
  go_wp2
  go_ret
  exact ⟨rfl, _, unhide HL, (Way.trans (unhide HW6) (unhide HO).1 (unhide HO).2 (unhide HWn)).ahead (unhide HB2)⟩
set_option maxHeartbeats 8000000 in
set_option maxRecDepth 100000 in
theorem does_pop1 (base p r : Nat) (v u : Value) (at' id sp : Int) (nm na nb : ByteArray) (a : List Ent) (xi xs : Int) (xn : ByteArray) (w : World) (h : TwoR base p v (a ++ [⟨xi, xs, xn⟩]) r u (a ++ [⟨xi, xs, xn⟩]) w) (hbase : base ≤ w.heap.size) (hN : a.length < 200) :
    Calls Try.prog 11 #[ptr p, ptr r, .agg (stepA 4 at' id sp nm na nb)] w (DoesSaid base p r v u w) := by
  have b2 : Below w.heap.size w ((w.alloc (Obj.cells #[.int .i64 4, .int .i64 at', .int .i64 id, .int .i64 sp, .string nm, .string na, .string nb] 34)).alloc (Obj.cells #[.string na, .string nb] 9)) := (((Below.refl _ _).alloc (Nat.le_refl _) _).alloc (by simp) _)
  have kX : Blk ((w.alloc (Obj.cells #[.int .i64 4, .int .i64 at', .int .i64 id, .int .i64 sp, .string nm, .string na, .string nb] 34)).alloc (Obj.cells #[.string na, .string nb] 9)) w.heap.size (stepA 4 at' id sp nm na nb) 34 := ((Blk.new w _ _).alloc _)
  have kY : Blk ((w.alloc (Obj.cells #[.int .i64 4, .int .i64 at', .int .i64 id, .int .i64 sp, .string nm, .string na, .string nb] 34)).alloc (Obj.cells #[.string na, .string nb] 9)) (w.heap.size + 1) #[.string na, .string nb] 9 := Eq.mp (by simp) (Blk.new (w.alloc (Obj.cells #[.int .i64 4, .int .i64 at', .int .i64 id, .int .i64 sp, .string nm, .string na, .string nb] 34)) #[.string na, .string nb] 9)
  have mX : Mine p r v u ((w.alloc (Obj.cells #[.int .i64 4, .int .i64 at', .int .i64 id, .int .i64 sp, .string nm, .string na, .string nb] 34)).alloc (Obj.cells #[.string na, .string nb] 9)) w.heap.size := h.mine (Nat.le_refl _) (by simp; try omega)
  have mY : Mine p r v u ((w.alloc (Obj.cells #[.int .i64 4, .int .i64 at', .int .i64 id, .int .i64 sp, .string nm, .string na, .string nb] 34)).alloc (Obj.cells #[.string na, .string nb] 9)) (w.heap.size + 1) := h.mine (by omega) (by simp)
  have HW : Hid (Way base p r v u ((w.alloc (Obj.cells #[.int .i64 4, .int .i64 at', .int .i64 id, .int .i64 sp, .string nm, .string na, .string nb] 34)).alloc (Obj.cells #[.string na, .string nb] 9)) (a ++ [(⟨xi, xs, xn⟩ : Ent)]) (a ++ [(⟨xi, xs, xn⟩ : Ent)]) ((w.alloc (Obj.cells #[.int .i64 4, .int .i64 at', .int .i64 id, .int .i64 sp, .string nm, .string na, .string nb] 34)).alloc (Obj.cells #[.string na, .string nb] 9))) := hide (Way.start (h.later b2))
  have hz : base ≤ ((w.alloc (Obj.cells #[.int .i64 4, .int .i64 at', .int .i64 id, .int .i64 sp, .string nm, .string na, .string nb] 34)).alloc (Obj.cells #[.string na, .string nb] 9)).heap.size := Nat.le_trans hbase b2.size
  have CP : Hid (∀ W, Way base p r v u ((w.alloc (Obj.cells #[.int .i64 4, .int .i64 at', .int .i64 id, .int .i64 sp, .string nm, .string na, .string nb] 34)).alloc (Obj.cells #[.string na, .string nb] 9)) (a ++ [(⟨xi, xs, xn⟩ : Ent)]) (a ++ [(⟨xi, xs, xn⟩ : Ent)]) W → Calls Try.prog 41 #[ptr p] W fun e w' => e = .returned (.tuple #[entV ⟨xi, xs, xn⟩, .bool true]) ∧ Way base p r v u ((w.alloc (Obj.cells #[.int .i64 4, .int .i64 at', .int .i64 id, .int .i64 sp, .string nm, .string na, .string nb] 34)).alloc (Obj.cells #[.string na, .string nb] 9)) a (a ++ [(⟨xi, xs, xn⟩ : Ent)]) w') := hide fun W hW => hW.callP (fun v1 hs h1 => pop_some base p v1 a ⟨xi, xs, xn⟩ W hs)
  have CR0 : Hid (∀ v u w W, base ≤ w.heap.size → Way base p r v u w a (a ++ [(⟨xi, xs, xn⟩ : Ent)]) W → Calls Try.prog 42 #[ptr r] W fun e w' => e = .returned (.bool true) ∧ Way base p r v u w a a w') := hide fun v u w W hz hW => hW.callR (fun u1 hs h1 => by
    have := rpop_any base r u1 (a ++ [(⟨xi, xs, xn⟩ : Ent)]) W hs (Nat.le_trans hz hW.size) (by simp; omega)
    rw [List.length_append, List.length_singleton, Nat.add_sub_cancel, List.take_append_of_le_length (Nat.le_refl _), List.take_length] at this
    exact this)
  have CF := hide (fun W => ref_any ⟨xi, xs, xn⟩ W)
  have HL : Hid (a.length ≤ 200) := hide (by omega)
  have HB2 := hide b2
  have HZ := hide hz
  unfold entV at *
  dsimp only at *
  clear h b2 kX kY mX mY hz
  unfold ptr stepA at *
  go_enter Try.func11, Try.ntmps11
  go_wp2_with fail
  refine (unhide CP _ (unhide HW)).mono ?_
  rintro e w3 ⟨rfl, hw⟩
  have HW3 := hide hw
  obtain ⟨v3, u3, t3, hv3, hu3⟩ := hw.at'
  have hz3 := hw.size
  have hl : (a ++ [(⟨xi, xs, xn⟩ : Ent)]).length = a.length + 1 := by simp
  obtain ⟨q, cap, hq, hc, hm, hg⟩ := t3.2.1.slice
  subst hq
  rw [hl] at hc hg
  obtain ⟨g, hgq, hgl⟩ := hg (by omega)
  subst hgq
  obtain ⟨c1, c2, c3⟩ := (RStk.cells t3.2.1) a.length (by rw [hl]; omega)
  rw [getD_snoc, Nat.zero_add] at c1 c2 c3
  have c0 : w3.cell? ⟨r, 0, none⟩ = some (.slice (some ⟨g, 0, none⟩) (a ++ [(⟨xi, xs, xn⟩ : Ent)]).length cap) := t3.2.1.1.cell 0
  rw [hl] at c0
  have hrl := t3.2.1.lt
  have B5 : Below w3.heap.size w3 ((w3.alloc (Obj.cells #[.int .i64 xi, .int .i64 xs, .string xn] 32)).alloc (Obj.cells #[.int .i64 0, .int .i64 0, .string ⟨#[]⟩] 42)) := ((Below.refl _ _).alloc (Nat.le_refl _) _).alloc (by simp) _
  have kE : Blk ((w3.alloc (Obj.cells #[.int .i64 xi, .int .i64 xs, .string xn] 32)).alloc (Obj.cells #[.int .i64 0, .int .i64 0, .string ⟨#[]⟩] 42)) w3.heap.size #[.int .i64 xi, .int .i64 xs, .string xn] 32 := (Blk.new w3 _ _).alloc _
  have kF : Blk ((w3.alloc (Obj.cells #[.int .i64 xi, .int .i64 xs, .string xn] 32)).alloc (Obj.cells #[.int .i64 0, .int .i64 0, .string ⟨#[]⟩] 42)) (w3.heap.size + 1) #[.int .i64 0, .int .i64 0, .string ⟨#[]⟩] 42 := Eq.mp (by simp) (Blk.new (w3.alloc (Obj.cells #[.int .i64 xi, .int .i64 xs, .string xn] 32)) #[.int .i64 0, .int .i64 0, .string ⟨#[]⟩] 42)
  have B5d : Below w3.heap.size w3 ((w3.alloc (Obj.cells #[.int .i64 xi, .int .i64 xs, .string xn] 32)).alloc (Obj.cells #[.int .i64 0, .int .i64 0, .string ⟨#[]⟩] 42)).drew := B5.trans ((below_draws ((w3.alloc (Obj.cells #[.int .i64 xi, .int .i64 xs, .string xn] 32)).alloc (Obj.cells #[.int .i64 0, .int .i64 0, .string ⟨#[]⟩] 42)) 1).mono B5.size)
  have hz5 : ((w3.alloc (Obj.cells #[.int .i64 xi, .int .i64 xs, .string xn] 32)).alloc (Obj.cells #[.int .i64 0, .int .i64 0, .string ⟨#[]⟩] 42)).heap.size = w3.heap.size + 2 := by simp
  have B6 : Below w3.heap.size w3 ((w3.alloc (Obj.cells #[.int .i64 xi, .int .i64 xs, .string xn] 32)).alloc (Obj.cells #[.int .i64 xi, .int .i64 xs, .string xn] 42)).drew := (((Below.refl _ _).alloc (Nat.le_refl _) _).alloc (by simp) _).trans ((below_draws _ 1).mono (by simp; try omega))
  have kE6 : Blk ((w3.alloc (Obj.cells #[.int .i64 xi, .int .i64 xs, .string xn] 32)).alloc (Obj.cells #[.int .i64 xi, .int .i64 xs, .string xn] 42)).drew w3.heap.size #[.int .i64 xi, .int .i64 xs, .string xn] 32 := ((Blk.new w3 _ _).alloc _).later (below_draws _ 1)
  have kF6 : Blk ((w3.alloc (Obj.cells #[.int .i64 xi, .int .i64 xs, .string xn] 32)).alloc (Obj.cells #[.int .i64 xi, .int .i64 xs, .string xn] 42)).drew (w3.heap.size + 1) #[.int .i64 xi, .int .i64 xs, .string xn] 42 := (Eq.mp (by simp) (Blk.new (w3.alloc (Obj.cells #[.int .i64 xi, .int .i64 xs, .string xn] 32)) #[.int .i64 xi, .int .i64 xs, .string xn] 42) : Blk ((w3.alloc (Obj.cells #[.int .i64 xi, .int .i64 xs, .string xn] 32)).alloc (Obj.cells #[.int .i64 xi, .int .i64 xs, .string xn] 42)) (w3.heap.size + 1) #[.int .i64 xi, .int .i64 xs, .string xn] 42).later (below_draws _ 1)
  have hz6 : w3.heap.size + 1 < ((w3.alloc (Obj.cells #[.int .i64 xi, .int .i64 xs, .string xn] 32)).alloc (Obj.cells #[.int .i64 xi, .int .i64 xs, .string xn] 42)).drew.heap.size := kF6.lt
  have HSL : Hid (KeepL r (.slice (some ⟨g, 0, none⟩) (a.length + 1) cap) g (a.length * 3) xi xs xn (w3.heap.size + 1) ((w3.alloc (Obj.cells #[.int .i64 xi, .int .i64 xs, .string xn] 32)).alloc (Obj.cells #[.int .i64 0, .int .i64 0, .string ⟨#[]⟩] 42)).drew) := hide ⟨cell_later B5d c0, cell_later B5d c1, cell_later B5d c2, cell_later B5d c3, by omega, by omega⟩
  have HSL6 : Hid (KeepL r (.slice (some ⟨g, 0, none⟩) (a.length + 1) cap) g (a.length * 3) xi xs xn (w3.heap.size + 1) ((w3.alloc (Obj.cells #[.int .i64 xi, .int .i64 xs, .string xn] 32)).alloc (Obj.cells #[.int .i64 xi, .int .i64 xs, .string xn] 42)).drew) := hide ⟨cell_later B6 c0, cell_later B6 c1, cell_later B6 c2, cell_later B6 c3, by omega, by omega⟩
  have HFL := hide (kF.later (below_draws _ 1))
  have c5 := cell_later B5 c0
  have HW6 := hide (hw.later B6)
  have HO := hide (And.intro hv3 hu3)
  have HWs := hide (Way.start (t3.later B6))
  have HK2 := hide (And.intro (t3.mine (w' := ((w3.alloc (Obj.cells #[.int .i64 xi, .int .i64 xs, .string xn] 32)).alloc (Obj.cells #[.int .i64 xi, .int .i64 xs, .string xn] 42)).drew) (Nat.le_refl _) (by omega)) (And.intro (t3.mine (w' := ((w3.alloc (Obj.cells #[.int .i64 xi, .int .i64 xs, .string xn] 32)).alloc (Obj.cells #[.int .i64 xi, .int .i64 xs, .string xn] 42)).drew) (Nat.le_succ _) hz6) (And.intro kE6 kF6)))
  have CR := hide (fun W hW => unhide CR0 v3 (.slice (some ⟨g, 0, none⟩) (a ++ [(⟨xi, xs, xn⟩ : Ent)]).length cap) ((w3.alloc (Obj.cells #[.int .i64 xi, .int .i64 xs, .string xn] 32)).alloc (Obj.cells #[.int .i64 xi, .int .i64 xs, .string xn] 42)).drew W (Nat.le_trans (unhide HZ) (Nat.le_trans hz3 B6.size)) hW)
  rw [hl] at HO HWs HK2 CR
  clear c1 c2 c3 kE kF kE6 kF6 B5 B5d B6 hz5 hz6 hw t3 hv3 hu3 HW CP CR0 hl hg
  have HA := hide (rfl : a.length = a.length)
  generalize hm0 : a.length = m at c0 c5 hc HSL HSL6
  have hi : (0 : Int) ≤ (m : Int) := by omega
  have hwm : IntKind.i64.wrap (m : Int) = m := by rw [IntKind.wrap_i64]; omega
  have hi2 : (0 : Int) < (m : Int) + 1 := by omega
  have hi3 : (m : Int) < (m : Int) + 1 := by omega
  go_wp2_with fail
  have hSa := unhide HSL
  have f0 : ((w3.alloc (Obj.cells #[.int .i64 xi, .int .i64 xs, .string xn] 32)).alloc (Obj.cells #[.int .i64 0, .int .i64 0, .string ⟨#[]⟩] 42)).drew.cell? ⟨w3.heap.size + 1, 0, none⟩ = some (.int .i64 0) := (unhide HFL).cell 0
  have f1 : ((w3.alloc (Obj.cells #[.int .i64 xi, .int .i64 xs, .string xn] 32)).alloc (Obj.cells #[.int .i64 0, .int .i64 0, .string ⟨#[]⟩] 42)).drew.cell? ⟨w3.heap.size + 1, 1, none⟩ = some (.int .i64 0) := (unhide HFL).cell 1
  have f2 : ((w3.alloc (Obj.cells #[.int .i64 xi, .int .i64 xs, .string xn] 32)).alloc (Obj.cells #[.int .i64 0, .int .i64 0, .string ⟨#[]⟩] 42)).drew.cell? ⟨w3.heap.size + 1, 2, none⟩ = some (.string ⟨#[]⟩) := (unhide HFL).cell 2
  have z0 := (unhide HFL).frozen 0
  have z1 := (unhide HFL).frozen 1
  have z2 := (unhide HFL).frozen 2
  refine wp_region_held (S := KeepL r (.slice (some ⟨g, 0, none⟩) (m + 1) cap) g (m * 3) xi xs xn (w3.heap.size + 1)) (by kernel_rfl) ?_
  change wpAnyH _ _ _ _ _ _ _ _ (World.drew _)
  refine wpAnyH_take (i := 0) (oi := { dst := some 52, op := _, type := _, pos := _, after := _, guard := _ }) (v := ?va0) rfl (by kernel_rfl) (by kernel_rfl) (by kernel_rfl) (fun _ _ _ h => h) (Or.inl ⟨by kernel_rfl, ?ha0⟩) hSa ?ra0
  case ha0 => first | (intro w hSw; obtain ⟨s0, s1, s2, s3, _, _⟩ := hSw; go_simp; done) | (intro w hSw; obtain ⟨s0, s1, s2, s3, _, _⟩ := hSw; go_simp; with_reducible rfl)
  try simp only [Act.put, List.setIfInBounds_toArray, List.set_cons_zero, List.set_cons_succ]
  refine wpAnyH_take (i := 1) (oi := { dst := some 53, op := _, type := _, pos := _, after := _, guard := _ }) (v := ?va1) rfl (by kernel_rfl) (by kernel_rfl) (by kernel_rfl) (fun _ _ _ h => h) (Or.inl ⟨by kernel_rfl, ?ha1⟩) hSa ?ra1
  case ha1 => first | (intro w hSw; obtain ⟨s0, s1, s2, s3, _, _⟩ := hSw; go_simp; done) | (intro w hSw; obtain ⟨s0, s1, s2, s3, _, _⟩ := hSw; go_simp; with_reducible rfl)
  try simp only [Act.put, List.setIfInBounds_toArray, List.set_cons_zero, List.set_cons_succ]
  refine wpAnyH_take (i := 2) (oi := { dst := some 54, op := _, type := _, pos := _, after := _, guard := _ }) (v := ?va2) rfl (by kernel_rfl) (by kernel_rfl) (by kernel_rfl) (fun _ _ _ h => h) (Or.inl ⟨by kernel_rfl, ?ha2⟩) hSa ?ra2
  case ha2 => first | (intro w hSw; obtain ⟨s0, s1, s2, s3, _, _⟩ := hSw; go_simp; done) | (intro w hSw; obtain ⟨s0, s1, s2, s3, _, _⟩ := hSw; go_simp; with_reducible rfl)
  try simp only [Act.put, List.setIfInBounds_toArray, List.set_cons_zero, List.set_cons_succ]
  refine wpAnyH_take (i := 3) (oi := { dst := some 55, op := _, type := _, pos := _, after := _, guard := _ }) (v := ?va3) rfl (by kernel_rfl) (by kernel_rfl) (by kernel_rfl) (fun _ _ _ h => h) (Or.inl ⟨by kernel_rfl, ?ha3⟩) hSa ?ra3
  case ha3 => first | (intro w hSw; obtain ⟨s0, s1, s2, s3, _, _⟩ := hSw; go_simp; done) | (intro w hSw; obtain ⟨s0, s1, s2, s3, _, _⟩ := hSw; go_simp; with_reducible rfl)
  try simp only [Act.put, List.setIfInBounds_toArray, List.set_cons_zero, List.set_cons_succ]
  refine wpAnyH_take (i := 4) (oi := { dst := some 56, op := _, type := _, pos := _, after := _, guard := _ }) (v := ?va4) rfl (by kernel_rfl) (by kernel_rfl) (by kernel_rfl) (fun _ _ _ h => h) (Or.inl ⟨by kernel_rfl, ?ha4⟩) hSa ?ra4
  case ha4 => first | (intro w hSw; obtain ⟨s0, s1, s2, s3, _, _⟩ := hSw; go_simp; done) | (intro w hSw; obtain ⟨s0, s1, s2, s3, _, _⟩ := hSw; go_simp; with_reducible rfl)
  try simp only [Act.put, List.setIfInBounds_toArray, List.set_cons_zero, List.set_cons_succ]
  refine wpAnyH_take (i := 5) (oi := { dst := some 57, op := _, type := _, pos := _, after := _, guard := _ }) (v := ?va5) rfl (by kernel_rfl) (by kernel_rfl) (by kernel_rfl) (fun _ _ _ h => h) (Or.inl ⟨by kernel_rfl, ?ha5⟩) hSa ?ra5
  case ha5 => first | (intro w hSw; obtain ⟨s0, s1, s2, s3, _, _⟩ := hSw; go_simp; done) | (intro w hSw; obtain ⟨s0, s1, s2, s3, _, _⟩ := hSw; go_simp; with_reducible rfl)
  try simp only [Act.put, List.setIfInBounds_toArray, List.set_cons_zero, List.set_cons_succ]
  refine wpAnyH_take (i := 6) (oi := { dst := some 58, op := _, type := _, pos := _, after := _, guard := _ }) (v := ?va6) rfl (by kernel_rfl) (by kernel_rfl) (by kernel_rfl) (fun _ _ _ h => h) (Or.inl ⟨by kernel_rfl, ?ha6⟩) hSa ?ra6
  case ha6 => first | (intro w hSw; obtain ⟨s0, s1, s2, s3, _, _⟩ := hSw; go_simp; done) | (intro w hSw; obtain ⟨s0, s1, s2, s3, _, _⟩ := hSw; go_simp; with_reducible rfl)
  try simp only [Act.put, List.setIfInBounds_toArray, List.set_cons_zero, List.set_cons_succ]
  refine wpAnyH_take (i := 7) (oi := { dst := some 59, op := _, type := _, pos := _, after := _, guard := _ }) (v := ?va7) rfl (by kernel_rfl) (by kernel_rfl) (by kernel_rfl) (fun _ _ _ h => h) (Or.inl ⟨by kernel_rfl, ?ha7⟩) hSa ?ra7
  case ha7 => first | (intro w hSw; obtain ⟨s0, s1, s2, s3, _, _⟩ := hSw; go_simp; done) | (intro w hSw; obtain ⟨s0, s1, s2, s3, _, _⟩ := hSw; go_simp; with_reducible rfl)
  try simp only [Act.put, List.setIfInBounds_toArray, List.set_cons_zero, List.set_cons_succ]
  refine wpAnyH_take (i := 8) (oi := { dst := some 60, op := _, type := _, pos := _, after := _, guard := _ }) (v := ?va8) rfl (by kernel_rfl) (by kernel_rfl) (by kernel_rfl) (fun _ _ _ h => h) (Or.inl ⟨by kernel_rfl, ?ha8⟩) hSa ?ra8
  case ha8 => first | (intro w hSw; obtain ⟨s0, s1, s2, s3, _, _⟩ := hSw; go_simp; done) | (intro w hSw; obtain ⟨s0, s1, s2, s3, _, _⟩ := hSw; go_simp; with_reducible rfl)
  try simp only [Act.put, List.setIfInBounds_toArray, List.set_cons_zero, List.set_cons_succ]
  refine wpAnyH_take (i := 9) (oi := { dst := some 61, op := _, type := _, pos := _, after := _, guard := _ }) (v := ?va9) rfl (by kernel_rfl) (by kernel_rfl) (by kernel_rfl) (fun _ _ _ h => h) (Or.inl ⟨by kernel_rfl, ?ha9⟩) hSa ?ra9
  case ha9 => first | (intro w hSw; obtain ⟨s0, s1, s2, s3, _, _⟩ := hSw; go_simp; done) | (intro w hSw; obtain ⟨s0, s1, s2, s3, _, _⟩ := hSw; go_simp; with_reducible rfl)
  try simp only [Act.put, List.setIfInBounds_toArray, List.set_cons_zero, List.set_cons_succ]
  refine wpAnyH_take (i := 10) (oi := { dst := some 62, op := _, type := _, pos := _, after := _, guard := _ }) (v := ?va10) rfl (by kernel_rfl) (by kernel_rfl) (by kernel_rfl) (fun _ _ _ h => h) (Or.inl ⟨by kernel_rfl, ?ha10⟩) hSa ?ra10
  case ha10 => first | (intro w hSw; obtain ⟨s0, s1, s2, s3, _, _⟩ := hSw; go_simp; done) | (intro w hSw; obtain ⟨s0, s1, s2, s3, _, _⟩ := hSw; go_simp; with_reducible rfl)
  try simp only [Act.put, List.setIfInBounds_toArray, List.set_cons_zero, List.set_cons_succ]
  refine wpAnyH_take (i := 11) (oi := { dst := some 63, op := _, type := _, pos := _, after := _, guard := _ }) (v := ?va11) rfl (by kernel_rfl) (by kernel_rfl) (by kernel_rfl) (fun _ _ _ h => h) (Or.inl ⟨by kernel_rfl, ?ha11⟩) hSa ?ra11
  case ha11 => first | (intro w hSw; obtain ⟨s0, s1, s2, s3, _, _⟩ := hSw; go_simp; done) | (intro w hSw; obtain ⟨s0, s1, s2, s3, _, _⟩ := hSw; go_simp; with_reducible rfl)
  try simp only [Act.put, List.setIfInBounds_toArray, List.set_cons_zero, List.set_cons_succ]
  refine wpAnyH_ready (rs := [12]) (by kernel_rfl) (by simp) ?_
  refine AllReadyH.cons rfl (fun K hK => ?_) AllReadyH.nil
  go_simp
  have hSa' := unhide HSL6
  refine hK _ _ hSa' (fun _ => ?_)
  clear hK K hSa
  have hSa := hSa'
  clear hSa'
  refine wpAnyH_done (by kernel_rfl) ?_ _
  clear hSa f0 f1 f2 z0 z1 z2 hi hi2 hi3 hwm HSL HFL c0 c5
  go_wp2_with fail
  have HWn := hide ((unhide HWs).later (below_draws _ 1))
  have hSb : KeepQ w3.heap.size xi xs xn _ := KeepQ.of ((unhide HWn).blk (unhide HK2).1 (unhide HK2).2.2.1) ((unhide HWn).blk (unhide HK2).2.1 (unhide HK2).2.2.2)
  refine wp_region_held (S := KeepQ w3.heap.size xi xs xn) (by kernel_rfl) ?_
  change wpAnyH _ _ _ _ _ _ _ _ (World.drew _)
  refine wpAnyH_take (i := 0) (oi := { dst := some 64, op := _, type := _, pos := _, after := _, guard := _ }) (v := ?vb0) rfl (by kernel_rfl) (by kernel_rfl) (by kernel_rfl) (fun _ _ _ h => h) (Or.inl ⟨by kernel_rfl, ?hb0⟩) hSb ?rb0
  case hb0 => first | (intro w hSw; obtain ⟨s0, s1, s2, s3, s4, s5⟩ := hSw; go_simp; done) | (intro w hSw; obtain ⟨s0, s1, s2, s3, s4, s5⟩ := hSw; go_simp; with_reducible rfl)
  try simp only [Act.put, List.setIfInBounds_toArray, List.set_cons_zero, List.set_cons_succ]
  refine wpAnyH_take (i := 1) (oi := { dst := some 65, op := _, type := _, pos := _, after := _, guard := _ }) (v := ?vb1) rfl (by kernel_rfl) (by kernel_rfl) (by kernel_rfl) (fun _ _ _ h => h) (Or.inl ⟨by kernel_rfl, ?hb1⟩) hSb ?rb1
  case hb1 => first | (intro w hSw; obtain ⟨s0, s1, s2, s3, s4, s5⟩ := hSw; go_simp; done) | (intro w hSw; obtain ⟨s0, s1, s2, s3, s4, s5⟩ := hSw; go_simp; with_reducible rfl)
  try simp only [Act.put, List.setIfInBounds_toArray, List.set_cons_zero, List.set_cons_succ]
  refine wpAnyH_ready (rs := [2]) (by kernel_rfl) (by simp) ?_
  refine AllReadyH.cons rfl (fun K hK => ?_) AllReadyH.nil
  go_simp
  refine (unhide CR _ (unhide HWn)).mono ?_
  rintro e w7 ⟨rfl, hw⟩
  replace HWn := hide hw
  clear hw
  have hSb' := KeepQ.of ((unhide HWn).blk (unhide HK2).1 (unhide HK2).2.2.1) ((unhide HWn).blk (unhide HK2).2.1 (unhide HK2).2.2.2)
  refine hK _ _ hSb' (fun _ => ?_)
  clear hK K hSb
  have hSb := hSb'
  clear hSb'
  refine wpAnyH_take (i := 3) (oi := { dst := some 67, op := _, type := _, pos := _, after := _, guard := _ }) (v := ?vb3_2) rfl (by kernel_rfl) (by kernel_rfl) (by kernel_rfl) (fun _ _ _ h => h) (Or.inl ⟨by kernel_rfl, ?hb3_2⟩) hSb ?rb3_2
  case hb3_2 => first | (intro w hSw; obtain ⟨s0, s1, s2, s3, s4, s5⟩ := hSw; go_simp; done) | (intro w hSw; obtain ⟨s0, s1, s2, s3, s4, s5⟩ := hSw; go_simp; with_reducible rfl)
  try simp only [Act.put, List.setIfInBounds_toArray, List.set_cons_zero, List.set_cons_succ]
  refine wpAnyH_take (i := 4) (oi := { dst := some 68, op := _, type := _, pos := _, after := _, guard := _ }) (v := ?vb4_2) rfl (by kernel_rfl) (by kernel_rfl) (by kernel_rfl) (fun _ _ _ h => h) (Or.inl ⟨by kernel_rfl, ?hb4_2⟩) hSb ?rb4_2
  case hb4_2 => first | (intro w hSw; obtain ⟨s0, s1, s2, s3, s4, s5⟩ := hSw; go_simp; done) | (intro w hSw; obtain ⟨s0, s1, s2, s3, s4, s5⟩ := hSw; go_simp; with_reducible rfl)
  try simp only [Act.put, List.setIfInBounds_toArray, List.set_cons_zero, List.set_cons_succ]
  refine wpAnyH_take (i := 5) (oi := { dst := some 69, op := _, type := _, pos := _, after := _, guard := _ }) (v := ?vb5_2) rfl (by kernel_rfl) (by kernel_rfl) (by kernel_rfl) (fun _ _ _ h => h) (Or.inl ⟨by kernel_rfl, ?hb5_2⟩) hSb ?rb5_2
  case hb5_2 => first | (intro w hSw; obtain ⟨s0, s1, s2, s3, s4, s5⟩ := hSw; go_simp; done) | (intro w hSw; obtain ⟨s0, s1, s2, s3, s4, s5⟩ := hSw; go_simp; with_reducible rfl)
  try simp only [Act.put, List.setIfInBounds_toArray, List.set_cons_zero, List.set_cons_succ]
  refine wpAnyH_take (i := 7) (oi := { dst := some 71, op := _, type := _, pos := _, after := _, guard := _ }) (v := ?vb7_2) rfl (by kernel_rfl) (by kernel_rfl) (by kernel_rfl) (fun _ _ _ h => h) (Or.inl ⟨by kernel_rfl, ?hb7_2⟩) hSb ?rb7_2
  case hb7_2 => first | (intro w hSw; obtain ⟨s0, s1, s2, s3, s4, s5⟩ := hSw; go_simp; done) | (intro w hSw; obtain ⟨s0, s1, s2, s3, s4, s5⟩ := hSw; go_simp; with_reducible rfl)
  try simp only [Act.put, List.setIfInBounds_toArray, List.set_cons_zero, List.set_cons_succ]
  refine wpAnyH_ready (rs := [6]) (by kernel_rfl) (by simp) ?_
  refine AllReadyH.cons rfl (fun K hK => ?_) AllReadyH.nil
  go_simp
  refine (unhide CF _).mono ?_
  rintro e w8 ⟨rfl, hb⟩
  replace HWn := hide ((unhide HWn).later hb)
  clear hb
  have hSb' := KeepQ.of ((unhide HWn).blk (unhide HK2).1 (unhide HK2).2.2.1) ((unhide HWn).blk (unhide HK2).2.1 (unhide HK2).2.2.2)
  refine hK _ _ hSb' (fun _ => ?_)
  clear hK K hSb
  have hSb := hSb'
  clear hSb'
  refine wpAnyH_take (i := 8) (oi := { dst := some 72, op := _, type := _, pos := _, after := _, guard := _ }) (v := ?vb8_2_6) rfl (by kernel_rfl) (by kernel_rfl) (by kernel_rfl) (fun _ _ _ h => h) (Or.inl ⟨by kernel_rfl, ?hb8_2_6⟩) hSb ?rb8_2_6
  case hb8_2_6 => first | (intro w hSw; obtain ⟨s0, s1, s2, s3, s4, s5⟩ := hSw; go_simp; done) | (intro w hSw; obtain ⟨s0, s1, s2, s3, s4, s5⟩ := hSw; go_simp; with_reducible rfl)
  try simp only [Act.put, List.setIfInBounds_toArray, List.set_cons_zero, List.set_cons_succ]
  refine wpAnyH_take (i := 9) (oi := { dst := some 73, op := _, type := _, pos := _, after := _, guard := _ }) (v := ?vb9_2_6) rfl (by kernel_rfl) (by kernel_rfl) (by kernel_rfl) (fun _ _ _ h => h) (Or.inl ⟨by kernel_rfl, ?hb9_2_6⟩) hSb ?rb9_2_6
  case hb9_2_6 => first | (intro w hSw; obtain ⟨s0, s1, s2, s3, s4, s5⟩ := hSw; go_simp; done) | (intro w hSw; obtain ⟨s0, s1, s2, s3, s4, s5⟩ := hSw; go_simp; with_reducible rfl)
  try simp only [Act.put, List.setIfInBounds_toArray, List.set_cons_zero, List.set_cons_succ]
  refine wpAnyH_take (i := 10) (oi := { dst := some 6, op := _, type := _, pos := _, after := _, guard := _ }) (v := ?vb10_2_6) rfl (by kernel_rfl) (by kernel_rfl) (by kernel_rfl) (fun _ _ _ h => h) (Or.inl ⟨by kernel_rfl, ?hb10_2_6⟩) hSb ?rb10_2_6
  case hb10_2_6 => first | (intro w hSw; obtain ⟨s0, s1, s2, s3, s4, s5⟩ := hSw; go_simp; done) | (intro w hSw; obtain ⟨s0, s1, s2, s3, s4, s5⟩ := hSw; go_simp; with_reducible rfl)
  try simp only [Act.put, List.setIfInBounds_toArray, List.set_cons_zero, List.set_cons_succ]
  refine wpAnyH_done (by kernel_rfl) ?_ _
  clear hSb
  go_wp2
  go_ret
  exact ⟨rfl, _, unhide HL, (Way.trans (unhide HW6) (unhide HO).1 (unhide HO).2 (unhide HWn)).ahead (unhide HB2)⟩
end Go.Proofs.Ytdkjdomacilagaa
