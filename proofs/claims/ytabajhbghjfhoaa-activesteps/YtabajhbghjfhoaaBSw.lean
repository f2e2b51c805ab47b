/-
  What a list's Swap does, of entries with any attributes.
-/
import Derived.Test.YtabajhbghjfhoaaBOp
import Derived.Deep.RegionHeld
namespace Go.Proofs.Ytabajhbghjfhoaa
open Go.RowKit
set_option linter.unusedVariables false
set_option linter.unusedSimpArgs false

theorem flatE_set : ∀ (L : List AEnt) (i : Nat) (y : AEnt), i < L.length → flatE (L.set i y) = ((((flatE L).set (i * 4) (.bool y.mr)).set (i * 4 + 1) (.int .i64 y.id)).set (i * 4 + 2) (.string y.nm)).set (i * 4 + 3) (.slice y.q y.n y.c)
  | [], i, y, h => by simp at h
  | e :: r, 0, y, h => by simp [flatE, entL]
  | e :: r, i + 1, y, h => by
    have := flatE_set r i y (by simpa using h)
    rw [List.set_cons_succ, flatE, this, flatE]
    rw [show (i + 1) * 4 = (i * 4) + 4 by omega]
    simp [entL]
/-- A row in which one entry is laid anew. -/
theorem row_set {w : World} {base g n cap i : Nat} {L : List AEnt} (y : AEnt) (h : w.ownsRow base 58 4 (.slice (some ⟨g, 0, none⟩) n cap) L.length (flatE L)) (hi : i < L.length) :
    ((((w.setCell ⟨g, i * 4, none⟩ (.bool y.mr)).setCell ⟨g, i * 4 + 1, none⟩ (.int .i64 y.id)).setCell ⟨g, i * 4 + 2, none⟩ (.string y.nm)).setCell ⟨g, i * 4 + 3, none⟩ (.slice y.q y.n y.c)).ownsRow base 58 4 (.slice (some ⟨g, 0, none⟩) n cap) (L.set i y).length (flatE (L.set i y)) := by
  obtain ⟨h1, h2⟩ := h
  have hl : (L.set i y).length = L.length := List.length_set ..
  refine ⟨by rw [flatE_len], ?_⟩
  rcases h2 with ⟨h, h0⟩ | ⟨g', cap', cur, hv, hb, hblk, hc, hm, hcs, htk⟩
  · omega
  · injection hv with e1 e2 e3
    injection e1 with e1
    injection e1 with e1
    subst e1 e2 e3
    have kb : Blk w g cur 58 := hblk
    have hz : i * 4 + 3 < cur.size := by rw [hcs]; omega
    have k4 := (((kb.set (i * 4) (by omega) (.bool y.mr)).set (i * 4 + 1) (by simp; omega) (.int .i64 y.id)).set (i * 4 + 2) (by simp; omega) (.string y.nm)).set (i * 4 + 3) (by simp; omega) (.slice y.q y.n y.c)
    refine Or.inr ⟨g, cap, _, by rw [hl], hb, k4, by rw [hl]; exact hc, hm, by simpa using hcs, ?_⟩
    rw [hl, flatE_set L i y hi, ← htk]
    simp [List.take_set]
def KeepW (p : Nat) (v : Value) (b : Nat) (xm : Bool) (xi : Int) (xn : ByteArray) (xq : Option Addr) (xl xc : Nat) (W : World) : Prop :=
  W.cell? ⟨p, 0, none⟩ = some v ∧ W.cell? ⟨b, 0, none⟩ = some (.bool xm) ∧ W.cell? ⟨b, 1, none⟩ = some (.int .i64 xi) ∧ W.cell? ⟨b, 2, none⟩ = some (.string xn) ∧ W.cell? ⟨b, 3, none⟩ = some (.slice xq xl xc)
theorem KeepW.of {p b : Nat} {v : Value} {xm : Bool} {xi : Int} {xn : ByteArray} {xq : Option Addr} {xl xc : Nat} {W : World} {t t2 : TypeId} (h : Blk W p #[v] t) (h2 : Blk W b #[.bool xm, .int .i64 xi, .string xn, .slice xq xl xc] t2) : KeepW p v b xm xi xn xq xl xc W := ⟨h.cell 0, h2.cell 0, h2.cell 1, h2.cell 2, h2.cell 3⟩
set_option maxHeartbeats 4000000 in
set_option maxRecDepth 100000 in
theorem swap_in (base p i : Nat) (v : Value) (id : Int) (xm : Bool) (xi : Int) (xn : ByteArray) (xq : Option Addr) (xl xc : Nat) (ats : List (ByteArray × ByteArray)) (L : List AEnt) (w : World) (h : Stk base p v L w) (hbase : base ≤ w.heap.size) (hi : i < L.length) (hN : L.length ≤ 1000) (hf : lastE (isId id) L = (i : Int)) (hx : isElB ⟨xm, xi, xn, xq, xl, xc⟩ = true) (hq : xq = none → xl = 0 ∧ xc = 0) (hats : AtsV xq xl ats w) :
    Calls Try.prog 62 #[ptr p, .int .i64 id, entV ⟨xm, xi, xn, xq, xl, xc⟩] w fun e w' => ∃ q2 c2, e = .returned (.bool true) ∧ UpdV base p v v (L.set i ⟨xm, xi, xn, q2, xl, c2⟩) w w' ∧ OwnA w.heap.size q2 xl ats w' ∧ (q2 = none → xl = 0 ∧ c2 = 0) ∧ (∀ g, q2 = some ⟨g, 0, none⟩ → some g ≠ v.ownBlock) := by
  have b1 : Below w.heap.size w (w.alloc (Obj.cells #[.bool xm, .int .i64 xi, .string xn, .slice xq xl xc] 58)) := (Below.refl _ _).alloc (Nat.le_refl _) _
  have CF := hide (find_any base p v id L (w.alloc (Obj.cells #[.bool xm, .int .i64 xi, .string xn, .slice xq xl xc] 58)) (h.later b1))
  rw [hf] at CF
  have CE := hide (fun w => element_any ⟨xm, xi, xn, xq, xl, xc⟩ w)
  rw [hx] at CE
  have OW := hide (fun W (hW : Below w.heap.size w W) => own_any xm xi xn xq xl xc ats W hq (hats.below hW))
  have K1 := hide (Blk.new w #[.bool xm, .int .i64 xi, .string xn, .slice xq xl xc] 58)
  have B1 := hide b1
  have H := hide h
  obtain ⟨q, cap, hv, hc, hm, hg⟩ := h.slice
  obtain ⟨g, hgq, hgl⟩ := hg (by omega)
  subst hgq
  subst hv
  have hgp : g ≠ p := by have := h.2.2; simpa [Value.ownBlock] using this
  have hpl := h.lt
  have hi1 : ¬ (i : Int) < 0 := by omega
  have hi2 : decide ((i : Int) < 0) = false := decide_eq_false hi1
  have hi3 : (i : Int) < (L.length : Int) := by omega
  have hi4 : (0 : Int) ≤ (i : Int) := by omega
  have HI := hide hi
  clear h b1 hg hf hx
  unfold entV at CE
  dsimp only at CE
  unfold ptr at *
  unfold entV
  dsimp only
  obtain ⟨t, hLt⟩ : ∃ t, L.length = t := ⟨_, rfl⟩
  have HLT := hide hLt
  rw [hLt] at hi3 H hc
  clear hi hLt
  go_enter Try.func62, Try.ntmps62
  go_wp2_with fail
  refine (unhide CF).mono ?_
  rintro e w1 ⟨rfl, hb⟩
  have B2 := hide (cellC (unhide B1) hb)
  have k1 := (unhide K1).later hb
  have K2 := hide k1
  have m0 : w1.cell? ⟨w.heap.size, 0, none⟩ = some (.bool xm) := k1.cell 0
  have m1 : w1.cell? ⟨w.heap.size, 1, none⟩ = some (.int .i64 xi) := k1.cell 1
  have m2 : w1.cell? ⟨w.heap.size, 2, none⟩ = some (.string xn) := k1.cell 2
  have m3 : w1.cell? ⟨w.heap.size, 3, none⟩ = some (.slice xq xl xc) := k1.cell 3
  clear hb k1
  go_wp2_with fail
  refine (unhide CE _).mono ?_
  rintro e w2 ⟨rfl, hb⟩
  have B3 := hide (cellC (unhide B2) hb)
  have K3 := hide ((unhide K2).later hb)
  have S3 := hide ((unhide H).later (unhide B3))
  have B3d := hide (tr2 (unhide B3) (below_draws w2 1))
  have HS : Hid (KeepW p (.slice (some ⟨g, 0, none⟩) t cap) w.heap.size xm xi xn xq xl xc w2.drew) := hide (KeepW.of ((unhide S3).1.later (below_draws w2 1)) ((unhide K3).later (below_draws w2 1)))
  clear hb m0 m1 m2 m3
  go_wp2_with fail
  have hSa := unhide HS
  refine wp_region_held (S := KeepW p (.slice (some ⟨g, 0, none⟩) t cap) w.heap.size xm xi xn xq xl xc) (by kernel_rfl) ?_
  change wpAnyH _ _ _ _ _ _ _ _ (World.drew _)
  refine wpAnyH_take (i := 0) (oi := { dst := some 18, op := _, type := _, pos := _, after := _, guard := _ }) (v := ?va0_1) rfl (by kernel_rfl) (by kernel_rfl) (by kernel_rfl) (fun _ _ _ h => h) (Or.inl ⟨by kernel_rfl, ?ha0_1⟩) hSa ?ra0_1
  case ha0_1 => first | (intro w hSw; obtain ⟨s0, s1, s2, s3, s4⟩ := hSw; go_simp; done) | (intro w hSw; obtain ⟨s0, s1, s2, s3, s4⟩ := hSw; go_simp; with_reducible rfl)
  try simp only [Act.put, List.setIfInBounds_toArray, List.set_cons_zero, List.set_cons_succ]
  refine wpAnyH_take (i := 1) (oi := { dst := some 19, op := _, type := _, pos := _, after := _, guard := _ }) (v := ?va1_2) rfl (by kernel_rfl) (by kernel_rfl) (by kernel_rfl) (fun _ _ _ h => h) (Or.inl ⟨by kernel_rfl, ?ha1_2⟩) hSa ?ra1_2
  case ha1_2 => first | (intro w hSw; obtain ⟨s0, s1, s2, s3, s4⟩ := hSw; go_simp; done) | (intro w hSw; obtain ⟨s0, s1, s2, s3, s4⟩ := hSw; go_simp; with_reducible rfl)
  try simp only [Act.put, List.setIfInBounds_toArray, List.set_cons_zero, List.set_cons_succ]
  refine wpAnyH_take (i := 2) (oi := { dst := some 20, op := _, type := _, pos := _, after := _, guard := _ }) (v := ?va2_3) rfl (by kernel_rfl) (by kernel_rfl) (by kernel_rfl) (fun _ _ _ h => h) (Or.inl ⟨by kernel_rfl, ?ha2_3⟩) hSa ?ra2_3
  case ha2_3 => first | (intro w hSw; obtain ⟨s0, s1, s2, s3, s4⟩ := hSw; go_simp; done) | (intro w hSw; obtain ⟨s0, s1, s2, s3, s4⟩ := hSw; go_simp; with_reducible rfl)
  try simp only [Act.put, List.setIfInBounds_toArray, List.set_cons_zero, List.set_cons_succ]
  refine wpAnyH_take (i := 3) (oi := { dst := some 21, op := _, type := _, pos := _, after := _, guard := _ }) (v := ?va3_4) rfl (by kernel_rfl) (by kernel_rfl) (by kernel_rfl) (fun _ _ _ h => h) (Or.inl ⟨by kernel_rfl, ?ha3_4⟩) hSa ?ra3_4
  case ha3_4 => first | (intro w hSw; obtain ⟨s0, s1, s2, s3, s4⟩ := hSw; go_simp; done) | (intro w hSw; obtain ⟨s0, s1, s2, s3, s4⟩ := hSw; go_simp; with_reducible rfl)
  try simp only [Act.put, List.setIfInBounds_toArray, List.set_cons_zero, List.set_cons_succ]
  refine wpAnyH_take (i := 4) (oi := { dst := some 22, op := _, type := _, pos := _, after := _, guard := _ }) (v := ?va4_5) rfl (by kernel_rfl) (by kernel_rfl) (by kernel_rfl) (fun _ _ _ h => h) (Or.inl ⟨by kernel_rfl, ?ha4_5⟩) hSa ?ra4_5
  case ha4_5 => first | (intro w hSw; obtain ⟨s0, s1, s2, s3, s4⟩ := hSw; go_simp; done) | (intro w hSw; obtain ⟨s0, s1, s2, s3, s4⟩ := hSw; go_simp; with_reducible rfl)
  try simp only [Act.put, List.setIfInBounds_toArray, List.set_cons_zero, List.set_cons_succ]
  refine wpAnyH_take (i := 5) (oi := { dst := some 23, op := _, type := _, pos := _, after := _, guard := _ }) (v := ?va5_6) rfl (by kernel_rfl) (by kernel_rfl) (by kernel_rfl) (fun _ _ _ h => h) (Or.inl ⟨by kernel_rfl, ?ha5_6⟩) hSa ?ra5_6
  case ha5_6 => first | (intro w hSw; obtain ⟨s0, s1, s2, s3, s4⟩ := hSw; go_simp; done) | (intro w hSw; obtain ⟨s0, s1, s2, s3, s4⟩ := hSw; go_simp; with_reducible rfl)
  try simp only [Act.put, List.setIfInBounds_toArray, List.set_cons_zero, List.set_cons_succ]
  refine wpAnyH_ready (rs := [6]) (by kernel_rfl) (by simp) ?_
  refine AllReadyH.cons rfl (fun K hK => ?_) AllReadyH.nil
  go_simp
  refine (unhide OW _ (unhide B3d)).mono ?_
  rintro e w4 ⟨q2, c2, rfl, hO, hnn, hb4⟩
  have hb4' := tr2 (below_draws w2 1) hb4
  have S4 := hide ((unhide S3).later hb4')
  have K4 := hide ((unhide K3).later hb4')
  have hSa' := KeepW.of (unhide S4).1 (unhide K4)
  have O4 := hide hO
  have N4 := hide hnn
  have B4 := hide (cellC (unhide B3) hb4')
  clear hb4 hb4' hO hnn
  refine hK _ _ hSa' (fun _ => ?_)
  clear hK K hSa
  have hSa := hSa'
  clear hSa'
  refine wpAnyH_take (i := 7) (oi := { dst := some 25, op := _, type := _, pos := _, after := _, guard := _ }) (v := ?va7_7) rfl (by kernel_rfl) (by kernel_rfl) (by kernel_rfl) (fun _ _ _ h => h) (Or.inl ⟨by kernel_rfl, ?ha7_7⟩) hSa ?ra7_7
  case ha7_7 => first | (intro w hSw; obtain ⟨s0, s1, s2, s3, s4⟩ := hSw; go_simp; done) | (intro w hSw; obtain ⟨s0, s1, s2, s3, s4⟩ := hSw; go_simp; with_reducible rfl)
  try simp only [Act.put, List.setIfInBounds_toArray, List.set_cons_zero, List.set_cons_succ]
  refine wpAnyH_ready (rs := [8]) (by kernel_rfl) (by simp) ?_
  refine AllReadyH.cons rfl (fun K hK => ?_) AllReadyH.nil
  obtain ⟨s0, s1, s2, s3⟩ := (unhide S4).cells i (unhide HI)
  rw [Nat.zero_add] at s0 s1 s2 s3
  obtain ⟨cur, hblk⟩ : ∃ cur, Blk w4 g cur 58 := by
    rcases (unhide S4).2.1.2 with ⟨h, _⟩ | ⟨g', _, cur, h, _, hb, _⟩
    · injection h with h; cases h
    · injection h with h1 _ _
      injection h1 with h1
      injection h1 with h1
      subst h1
      exact ⟨cur, hb⟩
  have f0 := hblk.frozen (i * 4)
  have f1 := hblk.frozen (i * 4 + 1)
  have f2 := hblk.frozen (i * 4 + 2)
  have f3 := hblk.frozen (i * 4 + 3)
  go_simp
  have hrow := row_set (w := w4) ⟨xm, xi, xn, q2, xl, c2⟩ (unhide S4).2.1 (unhide HI)
  have kp := ((((unhide S4).1.away (b' := g) (o := i * 4) (by omega) (.bool xm)).away (b' := g) (o := i * 4 + 1) (by omega) (.int .i64 xi)).away (b' := g) (o := i * 4 + 2) (by omega) (.string xn)).away (b' := g) (o := i * 4 + 3) (by omega) (.slice q2 xl c2)
  have kb := ((((unhide K4).away (b' := g) (o := i * 4) (by omega) (.bool xm)).away (b' := g) (o := i * 4 + 1) (by omega) (.int .i64 xi)).away (b' := g) (o := i * 4 + 2) (by omega) (.string xn)).away (b' := g) (o := i * 4 + 3) (by omega) (.slice q2 xl c2)
  have hSa' := KeepW.of kp kb
  clear s0 s1 s2 s3 f0 f1 f2 f3
  refine hK _ _ hSa' (fun _ => ?_)
  clear hK K hSa
  have hSa := hSa'
  clear hSa'
  refine wpAnyH_done (by kernel_rfl) ?_ _
  have HROW := hide hrow
  have KP := hide kp
  clear hSa hrow kp kb HS
  go_wp2
  go_ret
  have hgw : g < w.heap.size := hgl
  rw [unhide HLT]
  refine ⟨rfl, q2, c2, ⟨⟨unhide KP, unhide HROW, (unhide S4).2.2⟩, ?_, fun k hk => Or.inl hk⟩, ?_, unhide N4, ?_⟩
  · have tb := Tch.of_below (p := p) (o := (Value.slice (some ⟨g, 0, none⟩) t cap).ownBlock) (unhide B4)
    refine ⟨tb.os, tb.tape, tb.output, by simpa using tb.size, fun k hk h1 h2 => ?_⟩
    have hkg : k ≠ g := fun e => h2 (by simp [Value.ownBlock, e])
    rw [Below.heap_setCell _ _ _ k (by show k ≠ g; exact hkg), Below.heap_setCell _ _ _ k (by show k ≠ g; exact hkg), Below.heap_setCell _ _ _ k (by show k ≠ g; exact hkg), Below.heap_setCell _ _ _ k (by show k ≠ g; exact hkg)]
    exact tb.block k hk h1 h2
  · have hzz : w.heap.size ≤ w2.drew.heap.size := (unhide B3d).size
    exact (((((unhide O4).mono hzz).away (b := g) hgw _).away (b := g) hgw _).away (b := g) hgw _).away (b := g) hgw _
  · intro gg hgg e
    have h1 : w2.heap.size ≤ gg := ((unhide O4).blk hgg).1
    simp only [Value.ownBlock, Option.some.injEq] at e
    have hzz : w.heap.size ≤ w2.heap.size := (unhide B3).size
    omega
set_option maxHeartbeats 1000000 in
theorem swap_no (q : Value) (id at' : Int) (x : AEnt) (w : World) (hn : at' < 0 ∨ isElB x = false) (hf : Hid (∀ w1, Below w.heap.size w w1 → Calls Try.prog 23 #[q, .int .i64 id] w1 fun e w' => e = .returned (.int .i64 at') ∧ Below w1.heap.size w1 w')) :
    Calls Try.prog 62 #[q, .int .i64 id, entV x] w fun e w' => e = .returned (.bool false) ∧ Below w.heap.size w w' := by
  have CE := hide (fun w => element_any x w)
  obtain ⟨xm, xi, xn, xq, xl, xc⟩ := x
  have b1 : Below w.heap.size w (w.alloc (Obj.cells #[.bool xm, .int .i64 xi, .string xn, .slice xq xl xc] 58)) := (Below.refl _ _).alloc (Nat.le_refl _) _
  have K1 := hide (Blk.new w #[.bool xm, .int .i64 xi, .string xn, .slice xq xl xc] 58)
  have B1 := hide b1
  unfold entV at *
  dsimp only at *
  by_cases ha : at' < 0
  · clear hn b1
    go_enter Try.func62, Try.ntmps62
    go_wp2_with fail
    refine (unhide hf _ (unhide B1)).mono ?_
    rintro e w1 ⟨rfl, hb⟩
    go_wp2
    go_ret
    exact ⟨rfl, tr2 (unhide B1) hb⟩
  · have hx : isElB ⟨xm, xi, xn, xq, xl, xc⟩ = false := by
      rcases hn with h | h
      · exact absurd h ha
      · exact h
    rw [hx] at CE
    have hd : decide (at' < 0) = false := decide_eq_false ha
    clear hn b1 hx
    go_enter Try.func62, Try.ntmps62
    go_wp2_with fail
    refine (unhide hf _ (unhide B1)).mono ?_
    rintro e w1 ⟨rfl, hb⟩
    have B2 := hide (tr2 (unhide B1) hb)
    have k1 := (unhide K1).later hb
    have m0 : w1.cell? ⟨w.heap.size, 0, none⟩ = some (.bool xm) := k1.cell 0
    have m1 : w1.cell? ⟨w.heap.size, 1, none⟩ = some (.int .i64 xi) := k1.cell 1
    have m2 : w1.cell? ⟨w.heap.size, 2, none⟩ = some (.string xn) := k1.cell 2
    have m3 : w1.cell? ⟨w.heap.size, 3, none⟩ = some (.slice xq xl xc) := k1.cell 3
    clear hb k1
    go_wp2_with fail
    refine (unhide CE _).mono ?_
    rintro e w2 ⟨rfl, hb⟩
    go_wp2
    go_ret
    exact ⟨rfl, tr2 (unhide B2) hb⟩
theorem Rel2.set {R : AEnt → PEnt → Prop} {y : AEnt} {z : PEnt} (hyz : R y z) : ∀ {L : List AEnt} {P : List PEnt} (i : Nat), Rel2 R L P → Rel2 R (L.set i y) (P.set i z)
  | [], [], i, _ => by simp; trivial
  | a :: l, b :: m, 0, h => ⟨hyz, h.2⟩
  | a :: l, b :: m, i + 1, h => ⟨h.1, Rel2.set hyz i h.2⟩
  | [], b :: m, _, h => h.elim
  | a :: l, [], _, h => h.elim
def swapR (id : Int) (x : PEnt) (P : List PEnt) : Bool := decide (0 ≤ findP id P) && isElP x
def swapP (id : Int) (x : PEnt) (P : List PEnt) : List PEnt := if swapR id x P then P.set (findP id P).toNat x else P
/-- Swap. -/
theorem swap_p (base p : Nat) (v : Value) (P : List PEnt) (id : Int) (x : PEnt) (q : Option Addr) (n c : Nat) (w : World) (h : LstP base p v P w) (hbase : base ≤ w.heap.size) (hN : P.length ≤ 1000) (hq : q = none → n = 0 ∧ c = 0) (hats : AtsV q n x.ats w) :
    Calls Try.prog 62 #[ptr p, .int .i64 id, .agg #[.bool x.mr, .int .i64 x.id, .string x.nm, .slice q n c]] w fun e w' => e = .returned (.bool (swapR id x P)) ∧ UpdP base p v (swapP id x P) w w' := by
  have hlt := lastP_lt (fun x => !x.mr && (x.id == id)) P
  have hlt2 : findP id P < P.length ∧ -1 ≤ findP id P := hlt
  have hfd : Hid (∀ w1, Below w.heap.size w w1 → Calls Try.prog 23 #[ptr p, .int .i64 id] w1 fun e w' => e = .returned (.int .i64 (findP id P)) ∧ Below w1.heap.size w1 w') := hide fun w1 hb1 => find_p base p v id P w1 (h.later hb1)
  obtain ⟨L, hs, hr⟩ := h
  have hl := hr.len
  obtain ⟨xm, xi, xn, ats⟩ := x
  dsimp only at *
  have hEl : isElB ⟨xm, xi, xn, q, n, c⟩ = isElP ⟨xm, xi, xn, ats⟩ := rfl
  unfold swapP
  cases hR : swapR id ⟨xm, xi, xn, ats⟩ P with
  | false =>
    have hno : findP id P < 0 ∨ isElB ⟨xm, xi, xn, q, n, c⟩ = false := by
      unfold swapR at hR
      rw [hEl]
      by_cases h0 : 0 ≤ findP id P
      · right; rw [decide_eq_true h0, Bool.true_and] at hR; exact hR
      · left; omega
    refine (swap_no (ptr p) id (findP id P) ⟨xm, xi, xn, q, n, c⟩ w hno hfd).mono ?_
    rintro e w' ⟨rfl, hb⟩
    exact ⟨rfl, UpdP.same ⟨L, hs, hr⟩ hb⟩
  | true =>
    unfold swapR at hR
    rw [Bool.and_eq_true, decide_eq_true_eq] at hR
    have hfe : lastE (isId id) L = findP id P := last_rel (fun a b hab => by unfold isId; rw [hab.1, hab.2.1]) hr
    have hk : lastE (isId id) L = (((findP id P).toNat : Nat) : Int) := by rw [hfe]; omega
    refine (swap_in base p (findP id P).toNat v id xm xi xn q n c ats L w hs hbase (by omega) (by omega) hk (hEl.trans hR.2) hq hats).mono ?_
    rintro e w' ⟨q2, c2, rfl, ⟨hs', ht, ho⟩, hown, hnn, hne⟩
    have hone : EntP base p v w' ⟨xm, xi, xn, q2, n, c2⟩ ⟨xm, xi, xn, ats⟩ := ⟨rfl, rfl, rfl, hown.mono hbase, hnn, fun g hg => newsafe hs.lt hown hne hg⟩
    exact ⟨rfl, v, ⟨_, hs', Rel2.set hone _ (hr.mono fun a b hab => hab.tch ht ho)⟩, ht, ho⟩
end Go.Proofs.Ytabajhbghjfhoaa
