/-
  The program's stack and the reference's side by side; an entry as the reference's; the same entries.
-/
import Derived.Test.YtdkjdomacilagaaRIm
namespace Go.Proofs.Ytdkjdomacilagaa
open Go.RowKit
set_option linter.unusedVariables false
set_option linter.unusedSimpArgs false

theorem Stk.keep' {base r p : Nat} {u : Value} {M : List Ent} {o : Option Nat} {w w' : World} (h : Stk base r u M w) (ht : Tch p o w w') (h1 : r ≠ p) (h2 : some r ≠ o) (h3 : u.ownBlock ≠ some p) (h4 : u.ownBlock = none ∨ u.ownBlock ≠ o) : Stk base r u M w' :=
  ⟨ht.blk h.1 h1 h2, ht.row h.2.1 h3 h4, h.2.2⟩
theorem RStk.keep {base r p : Nat} {u : Value} {M : List Ent} {o : Option Nat} {w w' : World} (h : RStk base r u M w) (ht : Tch p o w w') (h1 : r ≠ p) (h2 : some r ≠ o) (h3 : u.ownBlock ≠ some p) (h4 : u.ownBlock = none ∨ u.ownBlock ≠ o) : RStk base r u M w' :=
  ⟨ht.blk h.1 h1 h2, ht.row h.2.1 h3 h4, h.2.2⟩
/-- A stack of the program and one of the reference that share nothing. -/
def TwoR (base p : Nat) (v : Value) (L : List Ent) (r : Nat) (u : Value) (M : List Ent) (w : World) : Prop :=
  Stk base p v L w ∧ RStk base r u M w ∧ p ≠ r ∧ v.ownBlock ≠ some r ∧ u.ownBlock ≠ some p ∧ (∀ k, v.ownBlock = some k → u.ownBlock ≠ some k)
theorem TwoR.later {base p r : Nat} {v u : Value} {L M : List Ent} {w w' : World} (h : TwoR base p v L r u M w) (hb : Below w.heap.size w w') : TwoR base p v L r u M w' :=
  ⟨h.1.later hb, h.2.1.later hb, h.2.2⟩
theorem TwoR.updP {base p r : Nat} {v u : Value} {L L' M : List Ent} {w w' : World} (h : TwoR base p v L r u M w) (hu : Upd base p v L' w w') : ∃ v', TwoR base p v' L' r u M w' ∧ (∀ k, v'.ownBlock = some k → v.ownBlock = some k ∨ w.heap.size ≤ k) := by
  obtain ⟨hs, hr, hpr, hvr, hup, hd⟩ := h
  obtain ⟨v', hs', ht, ho⟩ := hu
  have hpl := hs.lt
  refine ⟨v', ⟨hs', hr.keep ht (fun e => hpr e.symm) (fun e => hvr e.symm) hup ?_, hpr, ?_, hup, ?_⟩, ho⟩
  · cases hq : u.ownBlock with
    | none => exact Or.inl rfl
    | some k => exact Or.inr (fun e => hd k e.symm (by rw [hq]))
  · intro e
    rcases ho r e with h | h
    · exact hvr h
    · have := hr.lt; omega
  · intro k hk e
    rcases ho k hk with h | h
    · exact hd k h e
    · have := hr.own k e; omega
theorem TwoR.updR {base p r : Nat} {v u : Value} {L M M' : List Ent} {w w' : World} (h : TwoR base p v L r u M w) (hu : RUpd base r u M' w w') : ∃ u', TwoR base p v L r u' M' w' ∧ (∀ k, u'.ownBlock = some k → u.ownBlock = some k ∨ w.heap.size ≤ k) := by
  obtain ⟨hs, hr, hpr, hvr, hup, hd⟩ := h
  obtain ⟨u', hr', ht, ho⟩ := hu
  have hpl := hr.lt
  refine ⟨u', ⟨hs.keep' ht hpr (fun e => hup e.symm) hvr ?_, hr', hpr, hvr, ?_, ?_⟩, ho⟩
  · cases hq : v.ownBlock with
    | none => exact Or.inl rfl
    | some k => exact Or.inr (fun e => hd k hq e.symm)
  · intro e
    rcases ho p e with h | h
    · exact hup h
    · have := hs.lt; omega
  · intro k hk e
    rcases ho k e with h | h
    · exact hd k hk h
    · have := hs.own k hk; omega
/-- What a step may touch. -/
structure Tc2 (p r : Nat) (o o' : Option Nat) (w w' : World) : Prop where
  os : w'.os = w.os
  tape : w'.tape = w.tape
  output : w'.output = w.output
  size : w.heap.size ≤ w'.heap.size
  block : ∀ k, k < w.heap.size → k ≠ p → k ≠ r → some k ≠ o → some k ≠ o' → w'.heap[k]? = w.heap[k]?
theorem Tc2.of_below {p r : Nat} {o o' : Option Nat} {w w' : World} (h : Below w.heap.size w w') : Tc2 p r o o' w w' := ⟨h.os, h.tape, h.output, h.size, fun k hk _ _ _ _ => h.block k hk⟩
theorem Tc2.below {p r B : Nat} {o o' : Option Nat} {w w' : World} (h : Tc2 p r o o' w w') (hB : B ≤ w.heap.size) (hp : B ≤ p) (hr : B ≤ r) (ho : ∀ k, o = some k → B ≤ k) (ho' : ∀ k, o' = some k → B ≤ k) : Below B w w' :=
  ⟨h.os, h.tape, h.output, h.size, fun k hk => h.block k (by omega) (by omega) (by omega) (fun e => by have := ho k e.symm; omega) (fun e => by have := ho' k e.symm; omega)⟩
theorem Tc2.then_below {p r : Nat} {o o' : Option Nat} {w w' w'' : World} (h : Tc2 p r o o' w w') (hb : Below w'.heap.size w' w'') : Tc2 p r o o' w w'' :=
  ⟨hb.os.trans h.os, hb.tape.trans h.tape, hb.output.trans h.output, Nat.le_trans h.size hb.size, fun k hk h1 h2 h3 h4 => (hb.block k (Nat.lt_of_lt_of_le hk h.size)).trans (h.block k hk h1 h2 h3 h4)⟩
theorem Tc2.thenP {p r : Nat} {o o' o2 : Option Nat} {w w' w'' : World} (h : Tc2 p r o o' w w') (ht : Tch p o2 w' w'') (ho : ∀ k, o2 = some k → o = some k ∨ w.heap.size ≤ k) : Tc2 p r o o' w w'' :=
  ⟨ht.os.trans h.os, ht.tape.trans h.tape, ht.output.trans h.output, Nat.le_trans h.size ht.size, fun k hk h1 h2 h3 h4 => (ht.block k (Nat.lt_of_lt_of_le hk h.size) h1 (fun e => by
    rcases ho k e.symm with h | h
    · exact h3 h.symm
    · omega)).trans (h.block k hk h1 h2 h3 h4)⟩
theorem Tc2.thenR {p r : Nat} {o o' o2 : Option Nat} {w w' w'' : World} (h : Tc2 p r o o' w w') (ht : Tch r o2 w' w'') (ho : ∀ k, o2 = some k → o' = some k ∨ w.heap.size ≤ k) : Tc2 p r o o' w w'' :=
  ⟨ht.os.trans h.os, ht.tape.trans h.tape, ht.output.trans h.output, Nat.le_trans h.size ht.size, fun k hk h1 h2 h3 h4 => (ht.block k (Nat.lt_of_lt_of_le hk h.size) h2 (fun e => by
    rcases ho k e.symm with h | h
    · exact h4 h.symm
    · omega)).trans (h.block k hk h1 h2 h3 h4)⟩
theorem Tc2.blk {p r b : Nat} {o o' : Option Nat} {w w' : World} {vs : Array Value} {t : TypeId} (h : Tc2 p r o o' w w') (hb : Blk w b vs t) (h1 : b ≠ p) (h2 : b ≠ r) (h3 : some b ≠ o) (h4 : some b ≠ o') : Blk w' b vs t := (h.block b hb.lt h1 h2 h3 h4).trans hb
/-- A state on the way of a step: both stacks, and what was touched since w. -/
structure Way (base p r : Nat) (v u : Value) (w : World) (L M : List Ent) (W : World) : Prop where
  at' : ∃ v' u', TwoR base p v' L r u' M W ∧ (∀ k, v'.ownBlock = some k → v.ownBlock = some k ∨ w.heap.size ≤ k) ∧ (∀ k, u'.ownBlock = some k → u.ownBlock = some k ∨ w.heap.size ≤ k)
  tc : Tc2 p r v.ownBlock u.ownBlock w W
theorem Way.start {base p r : Nat} {v u : Value} {w : World} {L M : List Ent} (h : TwoR base p v L r u M w) : Way base p r v u w L M w :=
  ⟨⟨v, u, h, fun k hk => Or.inl hk, fun k hk => Or.inl hk⟩, Tc2.of_below (Below.refl _ _)⟩
theorem Way.later {base p r : Nat} {v u : Value} {w W W' : World} {L M : List Ent} (h : Way base p r v u w L M W) (hb : Below W.heap.size W W') : Way base p r v u w L M W' := by
  obtain ⟨⟨v', u', h1, h2, h3⟩, ht⟩ := h
  exact ⟨⟨v', u', h1.later hb, h2, h3⟩, ht.then_below hb⟩
theorem Way.size {base p r : Nat} {v u : Value} {w W : World} {L M : List Ent} (h : Way base p r v u w L M W) : w.heap.size ≤ W.heap.size := h.tc.size
theorem Way.upP {base p r : Nat} {v u v1 : Value} {w W W' : World} {L L' M : List Ent} (h : Way base p r v u w L M W) (hv : ∃ u1, TwoR base p v1 L r u1 M W ∧ (∀ k, v1.ownBlock = some k → v.ownBlock = some k ∨ w.heap.size ≤ k) ∧ (∀ k, u1.ownBlock = some k → u.ownBlock = some k ∨ w.heap.size ≤ k)) (hu : Upd base p v1 L' W W') : Way base p r v u w L' M W' := by
  obtain ⟨u1, h1, h2, h3⟩ := hv
  obtain ⟨v2, h4, h5⟩ := h1.updP hu
  obtain ⟨_, _, ht, _⟩ := hu
  have hs := h.size
  refine ⟨⟨v2, u1, h4, fun k hk => ?_, h3⟩, h.tc.thenP ht h2⟩
  rcases h5 k hk with h | h
  · exact h2 k h
  · exact Or.inr (by omega)
theorem Way.upR {base p r : Nat} {v u u1 : Value} {w W W' : World} {L M' M : List Ent} (h : Way base p r v u w L M W) (hv : ∃ v1, TwoR base p v1 L r u1 M W ∧ (∀ k, v1.ownBlock = some k → v.ownBlock = some k ∨ w.heap.size ≤ k) ∧ (∀ k, u1.ownBlock = some k → u.ownBlock = some k ∨ w.heap.size ≤ k)) (hu : RUpd base r u1 M' W W') : Way base p r v u w L M' W' := by
  obtain ⟨v1, h1, h2, h3⟩ := hv
  obtain ⟨u2, h4, h5⟩ := h1.updR hu
  obtain ⟨_, _, ht, _⟩ := hu
  have hs := h.size
  refine ⟨⟨v1, u2, h4, h2, fun k hk => ?_⟩, h.tc.thenR ht h3⟩
  rcases h5 k hk with h | h
  · exact h3 k h
  · exact Or.inr (by omega)
/-- A call of the program's, by its contract. -/
theorem Way.callP {base p r f : Nat} {v u : Value} {w W : World} {L L' M : List Ent} {args : Array Value} {res : Value} (h : Way base p r v u w L M W)
    (hc : ∀ v1, Stk base p v1 L W → (∀ k, v1.ownBlock = some k → v.ownBlock = some k ∨ w.heap.size ≤ k) → Calls Try.prog f args W fun e w' => e = .returned res ∧ Upd base p v1 L' W w') :
    Calls Try.prog f args W fun e w' => e = .returned res ∧ Way base p r v u w L' M w' := by
  obtain ⟨v1, u1, h1, h2, h3⟩ := h.at'
  refine (hc v1 h1.1 h2).mono ?_
  rintro e w' ⟨rfl, hu⟩
  exact ⟨rfl, h.upP ⟨u1, h1, h2, h3⟩ hu⟩
theorem Way.callR {base p r f : Nat} {v u : Value} {w W : World} {L M' M : List Ent} {args : Array Value} {res : Value} (h : Way base p r v u w L M W)
    (hc : ∀ u1, RStk base r u1 M W → (∀ k, u1.ownBlock = some k → u.ownBlock = some k ∨ w.heap.size ≤ k) → Calls Try.prog f args W fun e w' => e = .returned res ∧ RUpd base r u1 M' W w') :
    Calls Try.prog f args W fun e w' => e = .returned res ∧ Way base p r v u w L M' w' := by
  obtain ⟨v1, u1, h1, h2, h3⟩ := h.at'
  refine (hc u1 h1.2.1 h3).mono ?_
  rintro e w' ⟨rfl, hu⟩
  exact ⟨rfl, h.upR ⟨v1, h1, h2, h3⟩ hu⟩

set_option maxHeartbeats 1000000 in
theorem ref_any (x : Ent) (w : World) : Calls Try.prog 17 #[entV x] w fun e w' => e = .returned (entV x) ∧ Below w.heap.size w w' := by
  obtain ⟨id, sp, nm⟩ := x
  unfold entV
  dsimp only
  go_enter Try.func17, Try.ntmps17
  go_wp2
  refine bodyPost_ret (v := .agg #[.int .i64 id, .int .i64 sp, .string nm]) (by simp [results, Try.results17, go_sem]) rfl ?_
  exact ⟨rfl, ((Below.refl _ _).alloc (Nat.le_refl _) _).alloc (by simp) _⟩

def KeepP (w0 : World) (g g2 k : Nat) (id sp : Int) (nm : ByteArray) (w : World) : Prop :=
  w.cell? ⟨g, k * 3, none⟩ = some (.int .i64 id) ∧ w.cell? ⟨g, k * 3 + 1, none⟩ = some (.int .i64 sp) ∧ w.cell? ⟨g, k * 3 + 2, none⟩ = some (.string nm) ∧
  w.cell? ⟨g2, k * 3, none⟩ = some (.int .i64 id) ∧ w.cell? ⟨g2, k * 3 + 1, none⟩ = some (.int .i64 sp) ∧ w.cell? ⟨g2, k * 3 + 2, none⟩ = some (.string nm) ∧ Below w0.heap.size w0 w
theorem KeepP.below {w0 w w' : World} {g g2 k : Nat} {id sp : Int} {nm : ByteArray} (h : KeepP w0 g g2 k id sp nm w) (hb : Below w.heap.size w w') : KeepP w0 g g2 k id sp nm w' :=
  ⟨cell_later hb h.1, cell_later hb h.2.1, cell_later hb h.2.2.1, cell_later hb h.2.2.2.1, cell_later hb h.2.2.2.2.1, cell_later hb h.2.2.2.2.2.1, tr2 h.2.2.2.2.2.2 hb⟩

set_option maxHeartbeats 4000000 in
set_option maxRecDepth 100000 in
theorem same_pos (g g2 n cap cap2 : Nat) (L : List Ent) (w : World) (hn : Hid (L.length = n)) (h0 : 0 < n) (hn2 : n ≤ 1000000) (hc : Cells3 g 0 L w) (hc2 : Cells3 g2 0 L w) :
    Calls Try.prog 12 #[.slice (some ⟨g, 0, none⟩) n cap, .slice (some ⟨g2, 0, none⟩) n cap2] w fun e w' => e = .returned (.bool true) ∧ Below w.heap.size w w' := by
  have HC := hide hc
  have HC2 := hide hc2
  have CR0 := hide (fun x w => ref_any x w)
  clear hc hc2
  go_enter Try.func12, Try.ntmps12
  go_wp2
  go_loopw [8] (fun i wr => ∃ k : Nat, k ≤ n ∧ i = .int .i64 k ∧ Below w.heap.size w wr) (fun i _ => n - (intOf i).toNat)
  case atStart => exact ⟨0, Nat.zero_le _, rfl, Below.refl _ _⟩
  case round =>
    obtain ⟨k, hk, rfl, hbw⟩ := hrel
    have HB := hide hbw
    by_cases hlt : k < n
    · have hlti : (k : Int) < (n : Int) := by omega
      have hge : ¬ (n : Int) ≤ (k : Int) := by omega
      have hgd : decide ((n : Int) ≤ (k : Int)) = false := decide_eq_false hge
      have hgN : decide (n ≤ k) = false := decide_eq_false (by omega)
      have hkl : k < L.length := by rw [unhide hn]; exact hlt
      obtain ⟨c1, c2, c3⟩ := (unhide HC).below hbw k hkl
      obtain ⟨d1, d2, d3⟩ := (unhide HC2).below hbw k hkl
      rw [Nat.zero_add] at c1 c2 c3 d1 d2 d3
      have CR := hide (fun W => unhide CR0 (L.getD k e0) W)
      generalize L.getD k e0 = y at *
      obtain ⟨id, sp, nm⟩ := y
      unfold entV at CR
      dsimp only at *
      have HS : Hid (KeepP wr g g2 k id sp nm wr.drew) := hide ⟨c1, c2, c3, d1, d2, d3, below_draws wr 1⟩
      have hk1 : (k : Int) + 1 ≤ 1000000 := by omega
      have hk0 : (0 : Int) ≤ (k : Int) := by omega
      have e1 : (nm.toList == nm.toList) = true := by simp
      have e2 : (id == id) = true := by simp
      have e3 : (sp == sp) = true := by simp
      clear hkl hbw c1 c2 c3 d1 d2 d3 hge
      go_wp2_with fail
      have hSa := unhide HS
      refine wp_region_held (S := KeepP wr g g2 k id sp nm) (by kernel_rfl) ?_
      change wpAnyH _ _ _ _ _ _ _ _ (World.drew _)
      refine wpAnyH_take (i := 0) (oi := { dst := some 11, op := _, type := _, pos := _, after := _, guard := _ }) (v := ?va0) rfl (by kernel_rfl) (by kernel_rfl) (by kernel_rfl) (fun _ _ _ h => h) (Or.inl ⟨by kernel_rfl, ?ha0⟩) hSa ?ra0
      case ha0 => first | (intro w hSw; obtain ⟨s0, s1, s2, s3, s4, s5, _⟩ := hSw; go_simp; done) | (intro w hSw; obtain ⟨s0, s1, s2, s3, s4, s5, _⟩ := hSw; go_simp; with_reducible rfl)
      try simp only [Act.put, List.setIfInBounds_toArray, List.set_cons_zero, List.set_cons_succ]
      refine wpAnyH_take (i := 1) (oi := { dst := some 12, op := _, type := _, pos := _, after := _, guard := _ }) (v := ?va1) rfl (by kernel_rfl) (by kernel_rfl) (by kernel_rfl) (fun _ _ _ h => h) (Or.inl ⟨by kernel_rfl, ?ha1⟩) hSa ?ra1
      case ha1 => first | (intro w hSw; obtain ⟨s0, s1, s2, s3, s4, s5, _⟩ := hSw; go_simp; done) | (intro w hSw; obtain ⟨s0, s1, s2, s3, s4, s5, _⟩ := hSw; go_simp; with_reducible rfl)
      try simp only [Act.put, List.setIfInBounds_toArray, List.set_cons_zero, List.set_cons_succ]
      refine wpAnyH_take (i := 2) (oi := { dst := some 13, op := _, type := _, pos := _, after := _, guard := _ }) (v := ?va2) rfl (by kernel_rfl) (by kernel_rfl) (by kernel_rfl) (fun _ _ _ h => h) (Or.inl ⟨by kernel_rfl, ?ha2⟩) hSa ?ra2
      case ha2 => first | (intro w hSw; obtain ⟨s0, s1, s2, s3, s4, s5, _⟩ := hSw; go_simp; done) | (intro w hSw; obtain ⟨s0, s1, s2, s3, s4, s5, _⟩ := hSw; go_simp; with_reducible rfl)
      try simp only [Act.put, List.setIfInBounds_toArray, List.set_cons_zero, List.set_cons_succ]
      refine wpAnyH_take (i := 3) (oi := { dst := some 14, op := _, type := _, pos := _, after := _, guard := _ }) (v := ?va3) rfl (by kernel_rfl) (by kernel_rfl) (by kernel_rfl) (fun _ _ _ h => h) (Or.inl ⟨by kernel_rfl, ?ha3⟩) hSa ?ra3
      case ha3 => first | (intro w hSw; obtain ⟨s0, s1, s2, s3, s4, s5, _⟩ := hSw; go_simp; done) | (intro w hSw; obtain ⟨s0, s1, s2, s3, s4, s5, _⟩ := hSw; go_simp; with_reducible rfl)
      try simp only [Act.put, List.setIfInBounds_toArray, List.set_cons_zero, List.set_cons_succ]
      refine wpAnyH_take (i := 4) (oi := { dst := some 15, op := _, type := _, pos := _, after := _, guard := _ }) (v := ?va4) rfl (by kernel_rfl) (by kernel_rfl) (by kernel_rfl) (fun _ _ _ h => h) (Or.inl ⟨by kernel_rfl, ?ha4⟩) hSa ?ra4
      case ha4 => first | (intro w hSw; obtain ⟨s0, s1, s2, s3, s4, s5, _⟩ := hSw; go_simp; done) | (intro w hSw; obtain ⟨s0, s1, s2, s3, s4, s5, _⟩ := hSw; go_simp; with_reducible rfl)
      try simp only [Act.put, List.setIfInBounds_toArray, List.set_cons_zero, List.set_cons_succ]
      refine wpAnyH_take (i := 5) (oi := { dst := some 16, op := _, type := _, pos := _, after := _, guard := _ }) (v := ?va5) rfl (by kernel_rfl) (by kernel_rfl) (by kernel_rfl) (fun _ _ _ h => h) (Or.inl ⟨by kernel_rfl, ?ha5⟩) hSa ?ra5
      case ha5 => first | (intro w hSw; obtain ⟨s0, s1, s2, s3, s4, s5, _⟩ := hSw; go_simp; done) | (intro w hSw; obtain ⟨s0, s1, s2, s3, s4, s5, _⟩ := hSw; go_simp; with_reducible rfl)
      try simp only [Act.put, List.setIfInBounds_toArray, List.set_cons_zero, List.set_cons_succ]
      refine wpAnyH_take (i := 6) (oi := { dst := some 17, op := _, type := _, pos := _, after := _, guard := _ }) (v := ?va6) rfl (by kernel_rfl) (by kernel_rfl) (by kernel_rfl) (fun _ _ _ h => h) (Or.inl ⟨by kernel_rfl, ?ha6⟩) hSa ?ra6
      case ha6 => first | (intro w hSw; obtain ⟨s0, s1, s2, s3, s4, s5, _⟩ := hSw; go_simp; done) | (intro w hSw; obtain ⟨s0, s1, s2, s3, s4, s5, _⟩ := hSw; go_simp; with_reducible rfl)
      try simp only [Act.put, List.setIfInBounds_toArray, List.set_cons_zero, List.set_cons_succ]
      refine wpAnyH_take (i := 7) (oi := { dst := some 18, op := _, type := _, pos := _, after := _, guard := _ }) (v := ?va7) rfl (by kernel_rfl) (by kernel_rfl) (by kernel_rfl) (fun _ _ _ h => h) (Or.inl ⟨by kernel_rfl, ?ha7⟩) hSa ?ra7
      case ha7 => first | (intro w hSw; obtain ⟨s0, s1, s2, s3, s4, s5, _⟩ := hSw; go_simp; done) | (intro w hSw; obtain ⟨s0, s1, s2, s3, s4, s5, _⟩ := hSw; go_simp; with_reducible rfl)
      try simp only [Act.put, List.setIfInBounds_toArray, List.set_cons_zero, List.set_cons_succ]
      refine wpAnyH_take (i := 8) (oi := { dst := some 19, op := _, type := _, pos := _, after := _, guard := _ }) (v := ?va8) rfl (by kernel_rfl) (by kernel_rfl) (by kernel_rfl) (fun _ _ _ h => h) (Or.inl ⟨by kernel_rfl, ?ha8⟩) hSa ?ra8
      case ha8 => first | (intro w hSw; obtain ⟨s0, s1, s2, s3, s4, s5, _⟩ := hSw; go_simp; done) | (intro w hSw; obtain ⟨s0, s1, s2, s3, s4, s5, _⟩ := hSw; go_simp; with_reducible rfl)
      try simp only [Act.put, List.setIfInBounds_toArray, List.set_cons_zero, List.set_cons_succ]
      refine wpAnyH_take (i := 10) (oi := { dst := some 21, op := _, type := _, pos := _, after := _, guard := _ }) (v := ?va10) rfl (by kernel_rfl) (by kernel_rfl) (by kernel_rfl) (fun _ _ _ h => h) (Or.inl ⟨by kernel_rfl, ?ha10⟩) hSa ?ra10
      case ha10 => first | (intro w hSw; obtain ⟨s0, s1, s2, s3, s4, s5, _⟩ := hSw; go_simp; done) | (intro w hSw; obtain ⟨s0, s1, s2, s3, s4, s5, _⟩ := hSw; go_simp; with_reducible rfl)
      try simp only [Act.put, List.setIfInBounds_toArray, List.set_cons_zero, List.set_cons_succ]
      refine wpAnyH_take (i := 11) (oi := { dst := some 22, op := _, type := _, pos := _, after := _, guard := _ }) (v := ?va11) rfl (by kernel_rfl) (by kernel_rfl) (by kernel_rfl) (fun _ _ _ h => h) (Or.inl ⟨by kernel_rfl, ?ha11⟩) hSa ?ra11
      case ha11 => first | (intro w hSw; obtain ⟨s0, s1, s2, s3, s4, s5, _⟩ := hSw; go_simp; done) | (intro w hSw; obtain ⟨s0, s1, s2, s3, s4, s5, _⟩ := hSw; go_simp; with_reducible rfl)
      try simp only [Act.put, List.setIfInBounds_toArray, List.set_cons_zero, List.set_cons_succ]
      refine wpAnyH_take (i := 12) (oi := { dst := some 23, op := _, type := _, pos := _, after := _, guard := _ }) (v := ?va12) rfl (by kernel_rfl) (by kernel_rfl) (by kernel_rfl) (fun _ _ _ h => h) (Or.inl ⟨by kernel_rfl, ?ha12⟩) hSa ?ra12
      case ha12 => first | (intro w hSw; obtain ⟨s0, s1, s2, s3, s4, s5, _⟩ := hSw; go_simp; done) | (intro w hSw; obtain ⟨s0, s1, s2, s3, s4, s5, _⟩ := hSw; go_simp; with_reducible rfl)
      try simp only [Act.put, List.setIfInBounds_toArray, List.set_cons_zero, List.set_cons_succ]
      refine wpAnyH_take (i := 13) (oi := { dst := some 24, op := _, type := _, pos := _, after := _, guard := _ }) (v := ?va13) rfl (by kernel_rfl) (by kernel_rfl) (by kernel_rfl) (fun _ _ _ h => h) (Or.inl ⟨by kernel_rfl, ?ha13⟩) hSa ?ra13
      case ha13 => first | (intro w hSw; obtain ⟨s0, s1, s2, s3, s4, s5, _⟩ := hSw; go_simp; done) | (intro w hSw; obtain ⟨s0, s1, s2, s3, s4, s5, _⟩ := hSw; go_simp; with_reducible rfl)
      try simp only [Act.put, List.setIfInBounds_toArray, List.set_cons_zero, List.set_cons_succ]
      refine wpAnyH_ready (rs := [9]) (by kernel_rfl) (by simp) ?_
      refine AllReadyH.cons rfl (fun K hK => ?_) AllReadyH.nil
      go_simp
      refine (unhide CR _).mono ?_
      rintro r W5 ⟨rfl, hb5⟩
      have hSa' := KeepP.below hSa hb5
      clear hb5
      refine hK _ _ hSa' (fun _ => ?_)
      clear hK K hSa
      have hSa := hSa'
      clear hSa'
      refine wpAnyH_take (i := 14) (oi := { dst := some 25, op := _, type := _, pos := _, after := _, guard := _ }) (v := ?va14_9) rfl (by kernel_rfl) (by kernel_rfl) (by kernel_rfl) (fun _ _ _ h => h) (Or.inl ⟨by kernel_rfl, ?ha14_9⟩) hSa ?ra14_9
      case ha14_9 => first | (intro w hSw; obtain ⟨s0, s1, s2, s3, s4, s5, _⟩ := hSw; go_simp; done) | (intro w hSw; obtain ⟨s0, s1, s2, s3, s4, s5, _⟩ := hSw; go_simp; with_reducible rfl)
      try simp only [Act.put, List.setIfInBounds_toArray, List.set_cons_zero, List.set_cons_succ]
      refine wpAnyH_take (i := 15) (oi := { dst := some 26, op := _, type := _, pos := _, after := _, guard := _ }) (v := ?va15_9) rfl (by kernel_rfl) (by kernel_rfl) (by kernel_rfl) (fun _ _ _ h => h) (Or.inl ⟨by kernel_rfl, ?ha15_9⟩) hSa ?ra15_9
      case ha15_9 => first | (intro w hSw; obtain ⟨s0, s1, s2, s3, s4, s5, _⟩ := hSw; go_simp; done) | (intro w hSw; obtain ⟨s0, s1, s2, s3, s4, s5, _⟩ := hSw; go_simp; with_reducible rfl)
      try simp only [Act.put, List.setIfInBounds_toArray, List.set_cons_zero, List.set_cons_succ]
      refine wpAnyH_done (by kernel_rfl) ?_ _
      obtain ⟨-, -, -, -, -, -, hbE⟩ := hSa
      have B2 := hide (tr2 (unhide HB) hbE)
      clear hbE hgd e1 e2 e3 HS hk0
      try simp only [hgN]
      clear hgN
      go_wp2
      go_roundw
      case rel => exact ⟨k + 1, by omega, by go_num, unhide B2⟩
      case measure => simp [intOf]; omega
    · have hlti : ¬ (k : Int) < (n : Int) := by omega
      clear hlt hbw
      go_wp2
      go_ret
      exact ⟨rfl, unhide HB⟩
set_option maxHeartbeats 1000000 in
theorem same_zero (q q2 : Option Addr) (cap cap2 : Nat) (w : World) :
    Calls Try.prog 12 #[.slice q 0 cap, .slice q2 0 cap2] w fun e w' => e = .returned (.bool true) ∧ Below w.heap.size w w' := by
  go_enter Try.func12, Try.ntmps12
  go_wp2
  refine wp_loop_rounds 1 ?_
  rw [rounds_succ]; go_wp2
  go_ret
  exact ⟨rfl, Below.refl _ _⟩
theorem same_any (base base2 : Nat) (v u : Value) (t t2 : TypeId) (L : List Ent) (w : World) (hN : L.length ≤ 1000000) (h : w.ownsRow base t 3 v L.length (flatE L)) (h2 : w.ownsRow base2 t2 3 u L.length (flatE L)) :
    Calls Try.prog 12 #[v, u] w fun e w' => e = .returned (.bool true) ∧ Below w.heap.size w w' := by
  by_cases h0 : L.length = 0
  · obtain rfl := List.eq_nil_of_length_eq_zero h0
    rcases h.2 with ⟨rfl, _⟩ | ⟨g, cap, cur, rfl, _⟩ <;> rcases h2.2 with ⟨rfl, _⟩ | ⟨g2, cap2, cur2, rfl, _⟩ <;> exact same_zero _ _ _ _ w
  · rcases h.2 with ⟨rfl, hz⟩ | ⟨g, cap, cur, rfl, _⟩
    · omega
    · rcases h2.2 with ⟨rfl, hz⟩ | ⟨g2, cap2, cur2, rfl, _⟩
      · omega
      · exact same_pos g g2 L.length cap cap2 L w (hide rfl) (by omega) hN (cells3_of_row h) (cells3_of_row h2)
end Go.Proofs.Ytdkjdomacilagaa
