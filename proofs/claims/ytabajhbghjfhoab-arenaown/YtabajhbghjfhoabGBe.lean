/-
  What an arena's below does of one kid.
-/
import Derived.Test.YtabajhbghjfhoabGKi
import Derived.Deep.RegionHeld
namespace Go.Proofs.Ytabajhbghjfhoab
open Go.RowKit
set_option linter.unusedVariables false
set_option linter.unusedSimpArgs false

/-- A node of a tree, as its cells lie. -/
structure DCell (w : World) (g : Nat) (e : NEnt) (a : Sli) (l : List UInt8) (kv : Value) : Prop where
  kd : w.cell? ⟨g, 0, none⟩ = some (.int .i64 e.kd)
  sp : w.cell? ⟨g, 1, none⟩ = some (.int .i64 e.sp)
  nm : w.cell? ⟨g, 2, none⟩ = some (.string e.nm)
  a : w.cell? ⟨g, 3, none⟩ = some (.slice a.q a.n a.c)
  t : w.cell? ⟨g, 4, none⟩ = some (.string (bs l))
  k : w.cell? ⟨g, 5, none⟩ = some kv
theorem DCell.later {w w' : World} {g : Nat} {e : NEnt} {a : Sli} {l : List UInt8} {kv : Value} (h : DCell w g e a l kv) (hb : Below w.heap.size w w') : DCell w' g e a l kv :=
  ⟨cell_later hb h.kd, cell_later hb h.sp, cell_later hb h.nm, cell_later hb h.a, cell_later hb h.t, cell_later hb h.k⟩
/-- A list of one node. -/
def OneSaid (z : Nat) (e : NEnt) (xs : List Value) (l : List UInt8) (R : Value → World → Prop) (v : Value) (w' : World) : Prop :=
  ∃ g cap a kv, v = .slice (some ⟨g, 0, none⟩) 1 cap ∧ DCell w' g e a l kv ∧ w'.ownsRow z 59 2 (sV a) e.a.n xs ∧ a.n = e.a.n ∧ R kv w' ∧ (∃ cur, w'.heap[g]? = some (.cells cur 43 (0, 0)))
theorem OneSaid.later {z : Nat} {e : NEnt} {xs : List Value} {l : List UInt8} {R : Value → World → Prop} (hR : ∀ v W W', R v W → Below W.heap.size W W' → R v W') {v : Value} {w w' : World} (h : OneSaid z e xs l R v w) (hb : Below w.heap.size w w') : OneSaid z e xs l R v w' := by
  obtain ⟨g, cap, a, kv, h1, h2, h3, h4, h5, cur, h6⟩ := h
  exact ⟨g, cap, a, kv, h1, h2.later hb, ownsRow_below h3 hb, h4, hR _ _ _ h5 hb, cur, (hb.block g (Array.getElem?_eq_some_iff.1 h6).1).trans h6⟩
def KeepD (b : Nat) (kd sp : Int) (nm : ByteArray) (aq : Option Addr) (an ac : Nat) (tq : Option Addr) (tn tc : Nat) (l : List UInt8) (W : World) : Prop :=
  W.cell? ⟨b, 0, none⟩ = some (.int .i64 kd) ∧ W.cell? ⟨b, 1, none⟩ = some (.int .i64 sp) ∧ W.cell? ⟨b, 2, none⟩ = some (.string nm) ∧ W.cell? ⟨b, 3, none⟩ = some (.slice aq an ac) ∧ W.cell? ⟨b, 4, none⟩ = some (.slice tq tn tc) ∧
  (convert 63 9 (.slice tq tn tc)).run Try.prog W = .ok (.string (bs l)) W
theorem KeepD.of {base b : Nat} {kd sp pr : Int} {nm : ByteArray} {aq tq kq : Option Addr} {an ac tn tc kn kc : Nat} {l : List UInt8} {W : World} {ty : TypeId} (h : Blk W b #[.int .i64 kd, .int .i64 sp, .string nm, .slice aq an ac, .slice tq tn tc, .int .i64 pr, .slice kq kn kc] ty) (ht : TxtR base W ⟨tq, tn, tc⟩ l) : KeepD b kd sp nm aq an ac tq tn tc l W :=
  ⟨h.cell 0, h.cell 1, h.cell 2, h.cell 3, h.cell 4, ht.str⟩
set_option maxHeartbeats 8000000 in
set_option maxRecDepth 100000 in
theorem below_one (base p par i : Nat) (v : Value) (L : List NEnt) (xs : List Value) (l : List UInt8) (R : Value → World → Prop) (w : World) (h : Arn base p v L w) (hpar : par < L.length) (hi : i < L.length) (hL : L.length ≤ 600)
    (hk : w.ownsRow base 3 1 (sV (L.getD par n0).k) (L.getD par n0).k.n [.int .i64 (i : Int)]) (ha : w.ownsRow base 59 2 (sV (L.getD i n0).a) (L.getD i n0).a.n xs) (ha1 : ∀ u ∈ xs, u.oneCell' = true) (han : (L.getD i n0).a.n ≤ 100000) (ht : TxtR base w (L.getD i n0).t l)
    (hR : Hid (∀ v W W', R v W → Below W.heap.size W W' → R v W'))
    (hrec : Hid (∀ W, Below w.heap.size w W → Calls Try.prog 42 #[ptr p, .int .i64 (i : Int)] W fun e w' => (∃ q n c, e = .returned (.slice q n c) ∧ R (.slice q n c) w') ∧ Below W.heap.size W w')) :
    Calls Try.prog 42 #[ptr p, .int .i64 (par : Int)] w fun e w' => (∃ q n c, e = .returned (.slice q n c) ∧ OneSaid w.heap.size (L.getD i n0) xs l R (.slice q n c) w') ∧ Below w.heap.size w w' := by
  obtain ⟨i0, hi0, hi1, hi2, hi3⟩ := infoD
  have hkn : (L.getD par n0).k.n = 1 := by have := hk.1; rw [List.length_singleton, Nat.mul_one] at this; omega
  have C1 := hide (kids_any base p par v L _ w h hpar hk (by simp [Value.oneCell']) (by omega))
  rw [hkn] at C1
  have H := hide h
  have HAT := hide ha
  have HTX := hide ht
  have hpl := h.lt
  have HI := hide hi
  have hii : (i : Int) < (L.length : Int) := by omega
  obtain ⟨n, hln⟩ : ∃ n, L.length = n := ⟨_, rfl⟩
  have HLN := hide hln
  rw [hln] at hii
  obtain ⟨e, hee⟩ : ∃ e, L.getD i n0 = e := ⟨_, rfl⟩
  have HEE := hide hee
  rw [hee] at HAT HTX han
  rw [hee]
  obtain ⟨kd, sp, nm, ⟨aq, an, ac⟩, ⟨tq, tn, tc⟩, pr, ⟨kq, kn, kc⟩⟩ := e
  dsimp only at HAT HTX han
  have CA := hide (fun W (hW : Below w.heap.size w W) => cloneT_row base ⟨aq, an, ac⟩ xs W (ownsRow_below (unhide HAT) hW) ha1 (by dsimp only; omega))
  dsimp only at CA
  have AP : Hid (∀ (qa : Option Addr) (ca : Nat) (qb : Option Addr) (nb cb : Nat) (W : World), w.heap.size ≤ W.heap.size → ∃ v' w', (Builtin.append_ #[41, 41] 41 #[.slice none 0 0, .slice (some ⟨W.heap.size, 0, none⟩) 1 1]).run Try.prog (W.alloc (Obj.cells #[.int .i64 kd, .int .i64 sp, .string nm, .slice qa an ca, .string (bs l), .slice qb nb cb] 43)) = .ok v' w' ∧ w'.ownsRow w.heap.size 43 6 v' 1 ([] ++ [.int .i64 kd, .int .i64 sp, .string nm, .slice qa an ca, .string (bs l), .slice qb nb cb]) ∧ (W.alloc (Obj.cells #[.int .i64 kd, .int .i64 sp, .string nm, .slice qa an ca, .string (bs l), .slice qb nb cb] 43)).grownBy w' (Value.slice none 0 0).ownBlock ∧ (v' = .slice none 0 0 ↔ (Value.slice none 0 0) = .slice none 0 0 ∧ 1 = 0) ∧ (v'.ownBlock = (Value.slice none 0 0).ownBlock ∨ v'.ownBlock = some (W.alloc (Obj.cells #[.int .i64 kd, .int .i64 sp, .string nm, .slice qa an ca, .string (bs l), .slice qb nb cb] 43)).heap.size)) := hide fun qa ca qb nb cb W hb =>
    run_append_own_at (P := Try.prog) (W.alloc (Obj.cells #[.int .i64 kd, .int .i64 sp, .string nm, .slice qa an ca, .string (bs l), .slice qb nb cb] 43)) w.heap.size 41 41 43 i0 (.agg #[.int .i64 0, .int .i64 0, .string ⟨#[]⟩, .slice none 0 0, .string ⟨#[]⟩, .slice none 0 0]) 6 96 Try.underlying41 hi0 hi1 hi2 hi3 rfl (by decide) (.slice none 0 0) 0 [] (World.ownsRow_nil _ _ _ _) ⟨W.heap.size, 0, none⟩ 1 1 [.int .i64 kd, .int .i64 sp, .string nm, .slice qa an ca, .string (bs l), .slice qb nb cb] rfl (fun j u hj => by
      rw [Addr.add_lit, Nat.zero_add, (Blk.new W _ _).cell j]
      simpa using hj) (by simp [Value.oneCell']) (by simp [maxLen]) (by omega) (by simp; omega)
  clear h hk ha ht hln hee hi0 hi1 hi2 hi3 hkn hpar hi
  unfold ptr at *
  go_enter Try.func42, Try.ntmps42
  go_wp2_with fail
  refine (unhide C1).mono ?_
  rintro r w1 ⟨v1, rfl, hr1, hb1⟩
  obtain ⟨gk, ck, hv1, ck0⟩ : ∃ gk ck, v1 = .slice (some ⟨gk, 0, none⟩) 1 ck ∧ w1.cell? ⟨gk, 0, none⟩ = some (.int .i64 (i : Int)) := by
    rcases hr1.2 with ⟨h1, h2⟩ | ⟨gk, cap', cur, h1, _⟩
    · omega
    · have := hr1.cells (g := gk) (by rw [h1]; rfl) 0 (.int .i64 (i : Int)) (by simp)
      rw [Addr.add_lit, Nat.zero_add] at this
      exact ⟨gk, cap', h1, this⟩
  subst hv1
  obtain ⟨g, cap, hv, hc, hm, hgl, hbg, c0, hnd⟩ := ((unhide H).later hb1).open (by rw [unhide HLN]; omega)
  have nc := hnd i (unhide HI)
  rw [unhide HEE] at nc
  obtain ⟨m0, m1, m2, m3, m4, m5, m6⟩ := nc
  dsimp only at m0 m1 m2 m3 m4 m5 m6
  rw [unhide HLN] at c0
  have HB1 := hide hb1
  have al : Below w1.heap.size w1 (w1.alloc (Obj.cells #[.int .i64 kd, .int .i64 sp, .string nm, .slice aq an ac, .slice tq tn tc, .int .i64 pr, .slice kq kn kc] 65)) := (Below.refl _ _).alloc (Nat.le_refl _) _
  have ald : Below w.heap.size w (w1.alloc (Obj.cells #[.int .i64 kd, .int .i64 sp, .string nm, .slice aq an ac, .slice tq tn tc, .int .i64 pr, .slice kq kn kc] 65)).drew := tr2 (tr2 hb1 al) (below_draws _ 1)
  have kX : Blk (w1.alloc (Obj.cells #[.int .i64 kd, .int .i64 sp, .string nm, .slice aq an ac, .slice tq tn tc, .int .i64 pr, .slice kq kn kc] 65)).drew w1.heap.size #[.int .i64 kd, .int .i64 sp, .string nm, .slice aq an ac, .slice tq tn tc, .int .i64 pr, .slice kq kn kc] 65 := (Blk.new w1 _ _).later (below_draws _ 1)
  have HKX := hide kX
  have HAL := hide ald
  have HS : Hid (KeepD w1.heap.size kd sp nm aq an ac tq tn tc l (w1.alloc (Obj.cells #[.int .i64 kd, .int .i64 sp, .string nm, .slice aq an ac, .slice tq tn tc, .int .i64 pr, .slice kq kn kc] 65)).drew) := hide (KeepD.of kX ((unhide HTX).later ald))
  clear hr1 hb1 hnd hv kX ald al
  have hneg : ¬ (0 : Int) ≤ -1 := by omega
  go_wp2
  refine wp_loop_rounds 2 ?_
  rw [rounds_succ]
  cases hkd : (kd == 2) with
  | true =>
    go_wp2_with fail
    have hSa := unhide HS
    refine wp_region_held (S := KeepD w1.heap.size kd sp nm aq an ac tq tn tc l) (by kernel_rfl) ?_
    change wpAnyH _ _ _ _ _ _ _ _ (World.drew _)
    refine wpAnyH_take (i := 0) (oi := { dst := some 54, op := _, type := _, pos := _, after := _, guard := _ }) (v := ?va0_1) rfl (by kernel_rfl) (by kernel_rfl) (by kernel_rfl) (fun _ _ _ h => h) (Or.inl ⟨by kernel_rfl, ?ha0_1⟩) hSa ?ra0_1
    case ha0_1 => first | (intro w hSw; obtain ⟨s0, s1, s2, s3, s4, s5⟩ := hSw; go_simp; done) | (intro w hSw; obtain ⟨s0, s1, s2, s3, s4, s5⟩ := hSw; go_simp; with_reducible rfl)
    try simp only [Act.put, List.setIfInBounds_toArray, List.set_cons_zero, List.set_cons_succ]
    refine wpAnyH_take (i := 1) (oi := { dst := some 55, op := _, type := _, pos := _, after := _, guard := _ }) (v := ?va1_2) rfl (by kernel_rfl) (by kernel_rfl) (by kernel_rfl) (fun _ _ _ h => h) (Or.inl ⟨by kernel_rfl, ?ha1_2⟩) hSa ?ra1_2
    case ha1_2 => first | (intro w hSw; obtain ⟨s0, s1, s2, s3, s4, s5⟩ := hSw; go_simp; done) | (intro w hSw; obtain ⟨s0, s1, s2, s3, s4, s5⟩ := hSw; go_simp; with_reducible rfl)
    try simp only [Act.put, List.setIfInBounds_toArray, List.set_cons_zero, List.set_cons_succ]
    refine wpAnyH_take (i := 2) (oi := { dst := some 56, op := _, type := _, pos := _, after := _, guard := _ }) (v := ?va2_3) rfl (by kernel_rfl) (by kernel_rfl) (by kernel_rfl) (fun _ _ _ h => h) (Or.inl ⟨by kernel_rfl, ?ha2_3⟩) hSa ?ra2_3
    case ha2_3 => first | (intro w hSw; obtain ⟨s0, s1, s2, s3, s4, s5⟩ := hSw; go_simp; done) | (intro w hSw; obtain ⟨s0, s1, s2, s3, s4, s5⟩ := hSw; go_simp; with_reducible rfl)
    try simp only [Act.put, List.setIfInBounds_toArray, List.set_cons_zero, List.set_cons_succ]
    refine wpAnyH_take (i := 3) (oi := { dst := some 57, op := _, type := _, pos := _, after := _, guard := _ }) (v := ?va3_4) rfl (by kernel_rfl) (by kernel_rfl) (by kernel_rfl) (fun _ _ _ h => h) (Or.inl ⟨by kernel_rfl, ?ha3_4⟩) hSa ?ra3_4
    case ha3_4 => first | (intro w hSw; obtain ⟨s0, s1, s2, s3, s4, s5⟩ := hSw; go_simp; done) | (intro w hSw; obtain ⟨s0, s1, s2, s3, s4, s5⟩ := hSw; go_simp; with_reducible rfl)
    try simp only [Act.put, List.setIfInBounds_toArray, List.set_cons_zero, List.set_cons_succ]
    refine wpAnyH_take (i := 4) (oi := { dst := some 58, op := _, type := _, pos := _, after := _, guard := _ }) (v := ?va4_5) rfl (by kernel_rfl) (by kernel_rfl) (by kernel_rfl) (fun _ _ _ h => h) (Or.inl ⟨by kernel_rfl, ?ha4_5⟩) hSa ?ra4_5
    case ha4_5 => first | (intro w hSw; obtain ⟨s0, s1, s2, s3, s4, s5⟩ := hSw; go_simp; done) | (intro w hSw; obtain ⟨s0, s1, s2, s3, s4, s5⟩ := hSw; go_simp; with_reducible rfl)
    try simp only [Act.put, List.setIfInBounds_toArray, List.set_cons_zero, List.set_cons_succ]
    refine wpAnyH_take (i := 5) (oi := { dst := some 59, op := _, type := _, pos := _, after := _, guard := _ }) (v := ?va5_6) rfl (by kernel_rfl) (by kernel_rfl) (by kernel_rfl) (fun _ _ _ h => h) (Or.inl ⟨by kernel_rfl, ?ha5_6⟩) hSa ?ra5_6
    case ha5_6 => first | (intro w hSw; obtain ⟨s0, s1, s2, s3, s4, s5⟩ := hSw; go_simp; done) | (intro w hSw; obtain ⟨s0, s1, s2, s3, s4, s5⟩ := hSw; go_simp; with_reducible rfl)
    try simp only [Act.put, List.setIfInBounds_toArray, List.set_cons_zero, List.set_cons_succ]
    refine wpAnyH_take (i := 6) (oi := { dst := some 60, op := _, type := _, pos := _, after := _, guard := _ }) (v := ?va6_7) rfl (by kernel_rfl) (by kernel_rfl) (by kernel_rfl) (fun _ _ _ h => h) (Or.inl ⟨by kernel_rfl, ?ha6_7⟩) hSa ?ra6_7
    case ha6_7 => first | (intro w hSw; obtain ⟨s0, s1, s2, s3, s4, s5⟩ := hSw; go_simp; done) | (intro w hSw; obtain ⟨s0, s1, s2, s3, s4, s5⟩ := hSw; go_simp; with_reducible rfl)
    try simp only [Act.put, List.setIfInBounds_toArray, List.set_cons_zero, List.set_cons_succ]
    refine wpAnyH_take (i := 7) (oi := { dst := some 61, op := _, type := _, pos := _, after := _, guard := _ }) (v := ?va7_8) rfl (by kernel_rfl) (by kernel_rfl) (by kernel_rfl) (fun _ _ _ h => h) (Or.inl ⟨by kernel_rfl, ?ha7_8⟩) hSa ?ra7_8
    case ha7_8 => first | (intro w hSw; obtain ⟨s0, s1, s2, s3, s4, s5⟩ := hSw; go_simp; done) | (intro w hSw; obtain ⟨s0, s1, s2, s3, s4, s5⟩ := hSw; go_simp; with_reducible rfl)
    try simp only [Act.put, List.setIfInBounds_toArray, List.set_cons_zero, List.set_cons_succ]
    refine wpAnyH_take (i := 8) (oi := { dst := some 62, op := _, type := _, pos := _, after := _, guard := _ }) (v := ?va8_9) rfl (by kernel_rfl) (by kernel_rfl) (by kernel_rfl) (fun _ _ _ h => h) (Or.inl ⟨by kernel_rfl, ?ha8_9⟩) hSa ?ra8_9
    case ha8_9 => first | (intro w hSw; obtain ⟨s0, s1, s2, s3, s4, s5⟩ := hSw; go_simp; done) | (intro w hSw; obtain ⟨s0, s1, s2, s3, s4, s5⟩ := hSw; go_simp; with_reducible rfl)
    try simp only [Act.put, List.setIfInBounds_toArray, List.set_cons_zero, List.set_cons_succ]
    refine wpAnyH_take (i := 10) (oi := { dst := some 64, op := _, type := _, pos := _, after := _, guard := _ }) (v := ?va10_10) rfl (by kernel_rfl) (by kernel_rfl) (by kernel_rfl) (fun _ _ _ h => h) (Or.inl ⟨by kernel_rfl, ?ha10_10⟩) hSa ?ra10_10
    case ha10_10 => first | (intro w hSw; obtain ⟨s0, s1, s2, s3, s4, s5⟩ := hSw; go_simp; done) | (intro w hSw; obtain ⟨s0, s1, s2, s3, s4, s5⟩ := hSw; go_simp; with_reducible rfl)
    try simp only [Act.put, List.setIfInBounds_toArray, List.set_cons_zero, List.set_cons_succ]
    refine wpAnyH_take (i := 11) (oi := { dst := some 65, op := _, type := _, pos := _, after := _, guard := _ }) (v := ?va11_11) rfl (by kernel_rfl) (by kernel_rfl) (by kernel_rfl) (fun _ _ _ h => h) (Or.inl ⟨by kernel_rfl, ?ha11_11⟩) hSa ?ra11_11
    case ha11_11 => first | (intro w hSw; obtain ⟨s0, s1, s2, s3, s4, s5⟩ := hSw; go_simp; done) | (intro w hSw; obtain ⟨s0, s1, s2, s3, s4, s5⟩ := hSw; go_simp; with_reducible rfl)
    try simp only [Act.put, List.setIfInBounds_toArray, List.set_cons_zero, List.set_cons_succ]
    refine wpAnyH_take (i := 12) (oi := { dst := some 66, op := _, type := _, pos := _, after := _, guard := _ }) (v := ?va12_12) rfl (by kernel_rfl) (by kernel_rfl) (by kernel_rfl) (fun _ _ _ h => h) (Or.inl ⟨by kernel_rfl, ?ha12_12⟩) hSa ?ra12_12
    case ha12_12 => first | (intro w hSw; obtain ⟨s0, s1, s2, s3, s4, s5⟩ := hSw; go_simp; done) | (intro w hSw; obtain ⟨s0, s1, s2, s3, s4, s5⟩ := hSw; go_simp; with_reducible rfl)
    try simp only [Act.put, List.setIfInBounds_toArray, List.set_cons_zero, List.set_cons_succ]
    refine wpAnyH_take (i := 13) (oi := { dst := some 67, op := _, type := _, pos := _, after := _, guard := _ }) (v := ?va13_13) rfl (by kernel_rfl) (by kernel_rfl) (by kernel_rfl) (fun _ _ _ h => h) (Or.inl ⟨by kernel_rfl, ?ha13_13⟩) hSa ?ra13_13
    case ha13_13 => first | (intro w hSw; obtain ⟨s0, s1, s2, s3, s4, s5⟩ := hSw; go_simp; done) | (intro w hSw; obtain ⟨s0, s1, s2, s3, s4, s5⟩ := hSw; go_simp; with_reducible rfl)
    try simp only [Act.put, List.setIfInBounds_toArray, List.set_cons_zero, List.set_cons_succ]
    refine wpAnyH_take (i := 14) (oi := { dst := some 68, op := _, type := _, pos := _, after := _, guard := _ }) (v := ?va14_14) rfl (by kernel_rfl) (by kernel_rfl) (by kernel_rfl) (fun _ _ _ h => h) (Or.inl ⟨by kernel_rfl, ?ha14_14⟩) hSa ?ra14_14
    case ha14_14 => first | (intro w hSw; obtain ⟨s0, s1, s2, s3, s4, s5⟩ := hSw; go_simp; done) | (intro w hSw; obtain ⟨s0, s1, s2, s3, s4, s5⟩ := hSw; go_simp; with_reducible rfl)
    try simp only [Act.put, List.setIfInBounds_toArray, List.set_cons_zero, List.set_cons_succ]
    refine wpAnyH_ready (rs := [9]) (by kernel_rfl) (by simp) ?_
    refine AllReadyH.cons rfl (fun K hK => ?_) AllReadyH.nil
    go_simp
    refine (unhide CA _ (unhide HAL)).mono ?_
    rintro r w3 ⟨v3, rfl, hr3, hb⟩
    obtain ⟨qa, na, ca, rfl⟩ := slice_of hr3
    have hna : an = na := by
      rcases hr3.2 with ⟨h1, h2⟩ | ⟨g3, cap3, cur3, h1, _⟩
      · injection h1 with _ h1; omega
      · injection h1 with _ h1; exact h1.symm
    subst hna
    have HR3 := hide (ownsRow_mono hr3 (unhide HAL).size)
    have HBn := hide (tr2 (unhide HAL) hb)
    have HKn := hide ((unhide HKX).later hb)
    have hSa' := KeepD.of (unhide HKn) ((unhide HTX).later (unhide HBn))
    clear hr3 hb
    refine hK _ _ hSa' (fun _ => ?_)
    clear hK K hSa
    have hSa := hSa'
    clear hSa'
    refine wpAnyH_ready (rs := [15]) (by kernel_rfl) (by simp) ?_
    refine AllReadyH.cons rfl (fun K hK => ?_) AllReadyH.nil
    go_simp
    refine (unhide hrec _ (unhide HBn)).mono ?_
    rintro r w4 ⟨⟨qb, nb, cb, rfl, hr4⟩, hb⟩
    replace HR3 := hide (ownsRow_below (unhide HR3) hb)
    replace HBn := hide (tr2 (unhide HBn) hb)
    replace HKn := hide ((unhide HKn).later hb)
    have HR4 := hide hr4
    have hSa' := KeepD.of (unhide HKn) ((unhide HTX).later (unhide HBn))
    clear hr4 hb
    refine hK _ _ hSa' (fun _ => ?_)
    clear hK K hSa
    have hSa := hSa'
    clear hSa'
    refine wpAnyH_take (i := 16) (oi := { dst := some 70, op := _, type := _, pos := _, after := _, guard := _ }) (v := ?va16_15) rfl (by kernel_rfl) (by kernel_rfl) (by kernel_rfl) (fun _ _ _ h => h) (Or.inl ⟨by kernel_rfl, ?ha16_15⟩) hSa ?ra16_15
    case ha16_15 => first | (intro w hSw; obtain ⟨s0, s1, s2, s3, s4, s5⟩ := hSw; go_simp; done) | (intro w hSw; obtain ⟨s0, s1, s2, s3, s4, s5⟩ := hSw; go_simp; with_reducible rfl)
    try simp only [Act.put, List.setIfInBounds_toArray, List.set_cons_zero, List.set_cons_succ]
    refine wpAnyH_ready (rs := [17]) (by kernel_rfl) (by simp) ?_
    refine AllReadyH.cons rfl (fun K hK => ?_) AllReadyH.nil
    go_simp
    have al5 : Below w4.heap.size w4 (w4.alloc (Obj.cells #[.int .i64 kd, .int .i64 sp, .string nm, .slice qa an ca, .string (bs l), .slice qb nb cb] 43)) := (Below.refl _ _).alloc (Nat.le_refl _) _
    have HB5 := hide (tr2 (unhide HBn) al5)
    have HR5 := hide (ownsRow_below (unhide HR3) al5)
    have HR6 := hide (unhide hR _ _ _ (unhide HR4) al5)
    have hSa' := KeepD.of ((unhide HKn).later al5) ((unhide HTX).later (unhide HB5))
    have HKn5 := hide ((unhide HKn).later al5)
    clear al5
    refine hK _ _ hSa' (fun _ => ?_)
    clear hK K hSa
    have hSa := hSa'
    clear hSa'
    refine wpAnyH_ready (rs := [18]) (by kernel_rfl) (by simp) ?_
    refine AllReadyH.cons rfl (fun K hK => ?_) AllReadyH.nil
    obtain ⟨v6, w6, hr, hown, hgr, hnil, hat⟩ := unhide AP qa ca qb nb cb w4 (unhide HBn).size
    refine step_append_run rfl (.tmp 54) (.tmp 71) 41 41 rfl (.slice none 0 0) (.slice (some ⟨w4.heap.size, 0, none⟩) 1 1) (by simp [Act.eval, Act.put]) (by simp [Act.eval, Act.put]) hr ?_
    have hb6 : Below (w4.alloc (Obj.cells #[.int .i64 kd, .int .i64 sp, .string nm, .slice qa an ca, .string (bs l), .slice qb nb cb] 43)).heap.size (w4.alloc (Obj.cells #[.int .i64 kd, .int .i64 sp, .string nm, .slice qa an ca, .string (bs l), .slice qb nb cb] 43)) w6 := (Chg.of_grown hgr).below (Nat.le_refl _) (fun k hk => by simp [Value.ownBlock] at hk)
    have HB6 := hide (tr2 (unhide HB5) hb6)
    have HR7 := hide (ownsRow_below (unhide HR5) hb6)
    have HR8 := hide (unhide hR _ _ _ (unhide HR6) hb6)
    have HO6 := hide hown
    have hSa' := KeepD.of ((unhide HKn5).later hb6) ((unhide HTX).later (unhide HB6))
    obtain ⟨g6, cap6, cur6, hv6, hblk6, hcel⟩ : ∃ g6 cap6 cur6, v6 = .slice (some ⟨g6, 0, none⟩) 1 cap6 ∧ w6.heap[g6]? = some (.cells cur6 43 (0, 0)) ∧ (∀ j u, ([.int .i64 kd, .int .i64 sp, .string nm, .slice qa an ca, .string (bs l), .slice qb nb cb] : List Value)[j]? = some u → w6.cell? ⟨g6, j, none⟩ = some u) := by
      rcases hown.2 with ⟨h1, h2⟩ | ⟨g6, cap6, cur6, h1, _, hb, _⟩
      · omega
      · refine ⟨g6, cap6, cur6, h1, hb, fun j u hu => ?_⟩
        have := hown.cells (g := g6) (by rw [h1]; rfl) j u hu
        rw [Addr.add_lit, Nat.zero_add] at this
        exact this
    subst hv6
    have hex : ∃ cur, w6.heap[g6]? = some (.cells cur 43 (0, 0)) := ⟨cur6, hblk6⟩
    have HBK := hide (And.intro hex hcel)
    clear hr hown hgr hnil hat hb6 hblk6 hcel hex
    refine hK _ _ hSa' (fun _ => ?_)
    clear hK K hSa
    have hSa := hSa'
    clear hSa'
    refine wpAnyH_take (i := 19) (oi := { dst := some 5, op := _, type := _, pos := _, after := _, guard := _ }) (v := ?va19_16) rfl (by kernel_rfl) (by kernel_rfl) (by kernel_rfl) (fun _ _ _ h => h) (Or.inl ⟨by kernel_rfl, ?ha19_16⟩) hSa ?ra19_16
    case ha19_16 => first | (intro w hSw; obtain ⟨s0, s1, s2, s3, s4, s5⟩ := hSw; go_simp; done) | (intro w hSw; obtain ⟨s0, s1, s2, s3, s4, s5⟩ := hSw; go_simp; with_reducible rfl)
    try simp only [Act.put, List.setIfInBounds_toArray, List.set_cons_zero, List.set_cons_succ]
    refine wpAnyH_done (by kernel_rfl) ?_ _
    clear hSa HS
    go_wp2
    rw [rounds_succ]; go_wp2
    go_ret
    obtain ⟨hbk, hcel⟩ := unhide HBK
    refine ⟨⟨_, _, _, rfl, g6, cap6, ⟨qa, an, ca⟩, _, rfl, ⟨hcel 0 _ rfl, hcel 1 _ rfl, hcel 2 _ rfl, hcel 3 _ rfl, hcel 4 _ rfl, hcel 5 _ rfl⟩, unhide HR7, rfl, unhide HR8, hbk⟩, unhide HB6⟩
  | false =>
    go_wp2_with fail
    have hSa := unhide HS
    refine wp_region_held (S := KeepD w1.heap.size kd sp nm aq an ac tq tn tc l) (by kernel_rfl) ?_
    change wpAnyH _ _ _ _ _ _ _ _ (World.drew _)
    refine wpAnyH_take (i := 0) (oi := { dst := some 54, op := _, type := _, pos := _, after := _, guard := _ }) (v := ?va0_17) rfl (by kernel_rfl) (by kernel_rfl) (by kernel_rfl) (fun _ _ _ h => h) (Or.inl ⟨by kernel_rfl, ?ha0_17⟩) hSa ?ra0_17
    case ha0_17 => first | (intro w hSw; obtain ⟨s0, s1, s2, s3, s4, s5⟩ := hSw; go_simp; done) | (intro w hSw; obtain ⟨s0, s1, s2, s3, s4, s5⟩ := hSw; go_simp; with_reducible rfl)
    try simp only [Act.put, List.setIfInBounds_toArray, List.set_cons_zero, List.set_cons_succ]
    refine wpAnyH_take (i := 1) (oi := { dst := some 55, op := _, type := _, pos := _, after := _, guard := _ }) (v := ?va1_18) rfl (by kernel_rfl) (by kernel_rfl) (by kernel_rfl) (fun _ _ _ h => h) (Or.inl ⟨by kernel_rfl, ?ha1_18⟩) hSa ?ra1_18
    case ha1_18 => first | (intro w hSw; obtain ⟨s0, s1, s2, s3, s4, s5⟩ := hSw; go_simp; done) | (intro w hSw; obtain ⟨s0, s1, s2, s3, s4, s5⟩ := hSw; go_simp; with_reducible rfl)
    try simp only [Act.put, List.setIfInBounds_toArray, List.set_cons_zero, List.set_cons_succ]
    refine wpAnyH_take (i := 2) (oi := { dst := some 56, op := _, type := _, pos := _, after := _, guard := _ }) (v := ?va2_19) rfl (by kernel_rfl) (by kernel_rfl) (by kernel_rfl) (fun _ _ _ h => h) (Or.inl ⟨by kernel_rfl, ?ha2_19⟩) hSa ?ra2_19
    case ha2_19 => first | (intro w hSw; obtain ⟨s0, s1, s2, s3, s4, s5⟩ := hSw; go_simp; done) | (intro w hSw; obtain ⟨s0, s1, s2, s3, s4, s5⟩ := hSw; go_simp; with_reducible rfl)
    try simp only [Act.put, List.setIfInBounds_toArray, List.set_cons_zero, List.set_cons_succ]
    refine wpAnyH_take (i := 3) (oi := { dst := some 57, op := _, type := _, pos := _, after := _, guard := _ }) (v := ?va3_20) rfl (by kernel_rfl) (by kernel_rfl) (by kernel_rfl) (fun _ _ _ h => h) (Or.inl ⟨by kernel_rfl, ?ha3_20⟩) hSa ?ra3_20
    case ha3_20 => first | (intro w hSw; obtain ⟨s0, s1, s2, s3, s4, s5⟩ := hSw; go_simp; done) | (intro w hSw; obtain ⟨s0, s1, s2, s3, s4, s5⟩ := hSw; go_simp; with_reducible rfl)
    try simp only [Act.put, List.setIfInBounds_toArray, List.set_cons_zero, List.set_cons_succ]
    refine wpAnyH_take (i := 4) (oi := { dst := some 58, op := _, type := _, pos := _, after := _, guard := _ }) (v := ?va4_21) rfl (by kernel_rfl) (by kernel_rfl) (by kernel_rfl) (fun _ _ _ h => h) (Or.inl ⟨by kernel_rfl, ?ha4_21⟩) hSa ?ra4_21
    case ha4_21 => first | (intro w hSw; obtain ⟨s0, s1, s2, s3, s4, s5⟩ := hSw; go_simp; done) | (intro w hSw; obtain ⟨s0, s1, s2, s3, s4, s5⟩ := hSw; go_simp; with_reducible rfl)
    try simp only [Act.put, List.setIfInBounds_toArray, List.set_cons_zero, List.set_cons_succ]
    refine wpAnyH_take (i := 5) (oi := { dst := some 59, op := _, type := _, pos := _, after := _, guard := _ }) (v := ?va5_22) rfl (by kernel_rfl) (by kernel_rfl) (by kernel_rfl) (fun _ _ _ h => h) (Or.inl ⟨by kernel_rfl, ?ha5_22⟩) hSa ?ra5_22
    case ha5_22 => first | (intro w hSw; obtain ⟨s0, s1, s2, s3, s4, s5⟩ := hSw; go_simp; done) | (intro w hSw; obtain ⟨s0, s1, s2, s3, s4, s5⟩ := hSw; go_simp; with_reducible rfl)
    try simp only [Act.put, List.setIfInBounds_toArray, List.set_cons_zero, List.set_cons_succ]
    refine wpAnyH_take (i := 6) (oi := { dst := some 60, op := _, type := _, pos := _, after := _, guard := _ }) (v := ?va6_23) rfl (by kernel_rfl) (by kernel_rfl) (by kernel_rfl) (fun _ _ _ h => h) (Or.inl ⟨by kernel_rfl, ?ha6_23⟩) hSa ?ra6_23
    case ha6_23 => first | (intro w hSw; obtain ⟨s0, s1, s2, s3, s4, s5⟩ := hSw; go_simp; done) | (intro w hSw; obtain ⟨s0, s1, s2, s3, s4, s5⟩ := hSw; go_simp; with_reducible rfl)
    try simp only [Act.put, List.setIfInBounds_toArray, List.set_cons_zero, List.set_cons_succ]
    refine wpAnyH_take (i := 7) (oi := { dst := some 61, op := _, type := _, pos := _, after := _, guard := _ }) (v := ?va7_24) rfl (by kernel_rfl) (by kernel_rfl) (by kernel_rfl) (fun _ _ _ h => h) (Or.inl ⟨by kernel_rfl, ?ha7_24⟩) hSa ?ra7_24
    case ha7_24 => first | (intro w hSw; obtain ⟨s0, s1, s2, s3, s4, s5⟩ := hSw; go_simp; done) | (intro w hSw; obtain ⟨s0, s1, s2, s3, s4, s5⟩ := hSw; go_simp; with_reducible rfl)
    try simp only [Act.put, List.setIfInBounds_toArray, List.set_cons_zero, List.set_cons_succ]
    refine wpAnyH_take (i := 8) (oi := { dst := some 62, op := _, type := _, pos := _, after := _, guard := _ }) (v := ?va8_25) rfl (by kernel_rfl) (by kernel_rfl) (by kernel_rfl) (fun _ _ _ h => h) (Or.inl ⟨by kernel_rfl, ?ha8_25⟩) hSa ?ra8_25
    case ha8_25 => first | (intro w hSw; obtain ⟨s0, s1, s2, s3, s4, s5⟩ := hSw; go_simp; done) | (intro w hSw; obtain ⟨s0, s1, s2, s3, s4, s5⟩ := hSw; go_simp; with_reducible rfl)
    try simp only [Act.put, List.setIfInBounds_toArray, List.set_cons_zero, List.set_cons_succ]
    refine wpAnyH_take (i := 10) (oi := { dst := some 64, op := _, type := _, pos := _, after := _, guard := _ }) (v := ?va10_26) rfl (by kernel_rfl) (by kernel_rfl) (by kernel_rfl) (fun _ _ _ h => h) (Or.inl ⟨by kernel_rfl, ?ha10_26⟩) hSa ?ra10_26
    case ha10_26 => first | (intro w hSw; obtain ⟨s0, s1, s2, s3, s4, s5⟩ := hSw; go_simp; done) | (intro w hSw; obtain ⟨s0, s1, s2, s3, s4, s5⟩ := hSw; go_simp; with_reducible rfl)
    try simp only [Act.put, List.setIfInBounds_toArray, List.set_cons_zero, List.set_cons_succ]
    refine wpAnyH_take (i := 11) (oi := { dst := some 65, op := _, type := _, pos := _, after := _, guard := _ }) (v := ?va11_27) rfl (by kernel_rfl) (by kernel_rfl) (by kernel_rfl) (fun _ _ _ h => h) (Or.inl ⟨by kernel_rfl, ?ha11_27⟩) hSa ?ra11_27
    case ha11_27 => first | (intro w hSw; obtain ⟨s0, s1, s2, s3, s4, s5⟩ := hSw; go_simp; done) | (intro w hSw; obtain ⟨s0, s1, s2, s3, s4, s5⟩ := hSw; go_simp; with_reducible rfl)
    try simp only [Act.put, List.setIfInBounds_toArray, List.set_cons_zero, List.set_cons_succ]
    refine wpAnyH_take (i := 12) (oi := { dst := some 66, op := _, type := _, pos := _, after := _, guard := _ }) (v := ?va12_28) rfl (by kernel_rfl) (by kernel_rfl) (by kernel_rfl) (fun _ _ _ h => h) (Or.inl ⟨by kernel_rfl, ?ha12_28⟩) hSa ?ra12_28
    case ha12_28 => first | (intro w hSw; obtain ⟨s0, s1, s2, s3, s4, s5⟩ := hSw; go_simp; done) | (intro w hSw; obtain ⟨s0, s1, s2, s3, s4, s5⟩ := hSw; go_simp; with_reducible rfl)
    try simp only [Act.put, List.setIfInBounds_toArray, List.set_cons_zero, List.set_cons_succ]
    refine wpAnyH_take (i := 13) (oi := { dst := some 67, op := _, type := _, pos := _, after := _, guard := _ }) (v := ?va13_29) rfl (by kernel_rfl) (by kernel_rfl) (by kernel_rfl) (fun _ _ _ h => h) (Or.inl ⟨by kernel_rfl, ?ha13_29⟩) hSa ?ra13_29
    case ha13_29 => first | (intro w hSw; obtain ⟨s0, s1, s2, s3, s4, s5⟩ := hSw; go_simp; done) | (intro w hSw; obtain ⟨s0, s1, s2, s3, s4, s5⟩ := hSw; go_simp; with_reducible rfl)
    try simp only [Act.put, List.setIfInBounds_toArray, List.set_cons_zero, List.set_cons_succ]
    refine wpAnyH_take (i := 14) (oi := { dst := some 68, op := _, type := _, pos := _, after := _, guard := _ }) (v := ?va14_30) rfl (by kernel_rfl) (by kernel_rfl) (by kernel_rfl) (fun _ _ _ h => h) (Or.inl ⟨by kernel_rfl, ?ha14_30⟩) hSa ?ra14_30
    case ha14_30 => first | (intro w hSw; obtain ⟨s0, s1, s2, s3, s4, s5⟩ := hSw; go_simp; done) | (intro w hSw; obtain ⟨s0, s1, s2, s3, s4, s5⟩ := hSw; go_simp; with_reducible rfl)
    try simp only [Act.put, List.setIfInBounds_toArray, List.set_cons_zero, List.set_cons_succ]
    refine wpAnyH_ready (rs := [9]) (by kernel_rfl) (by simp) ?_
    refine AllReadyH.cons rfl (fun K hK => ?_) AllReadyH.nil
    go_simp
    refine (unhide CA _ (unhide HAL)).mono ?_
    rintro r w3 ⟨v3, rfl, hr3, hb⟩
    obtain ⟨qa, na, ca, rfl⟩ := slice_of hr3
    have hna : an = na := by
      rcases hr3.2 with ⟨h1, h2⟩ | ⟨g3, cap3, cur3, h1, _⟩
      · injection h1 with _ h1; omega
      · injection h1 with _ h1; exact h1.symm
    subst hna
    have HR3 := hide (ownsRow_mono hr3 (unhide HAL).size)
    have HBn := hide (tr2 (unhide HAL) hb)
    have HKn := hide ((unhide HKX).later hb)
    have hSa' := KeepD.of (unhide HKn) ((unhide HTX).later (unhide HBn))
    clear hr3 hb
    refine hK _ _ hSa' (fun _ => ?_)
    clear hK K hSa
    have hSa := hSa'
    clear hSa'
    refine wpAnyH_ready (rs := [15]) (by kernel_rfl) (by simp) ?_
    refine AllReadyH.cons rfl (fun K hK => ?_) AllReadyH.nil
    go_simp
    refine (unhide hrec _ (unhide HBn)).mono ?_
    rintro r w4 ⟨⟨qb, nb, cb, rfl, hr4⟩, hb⟩
    replace HR3 := hide (ownsRow_below (unhide HR3) hb)
    replace HBn := hide (tr2 (unhide HBn) hb)
    replace HKn := hide ((unhide HKn).later hb)
    have HR4 := hide hr4
    have hSa' := KeepD.of (unhide HKn) ((unhide HTX).later (unhide HBn))
    clear hr4 hb
    refine hK _ _ hSa' (fun _ => ?_)
    clear hK K hSa
    have hSa := hSa'
    clear hSa'
    refine wpAnyH_take (i := 16) (oi := { dst := some 70, op := _, type := _, pos := _, after := _, guard := _ }) (v := ?va16_31) rfl (by kernel_rfl) (by kernel_rfl) (by kernel_rfl) (fun _ _ _ h => h) (Or.inl ⟨by kernel_rfl, ?ha16_31⟩) hSa ?ra16_31
    case ha16_31 => first | (intro w hSw; obtain ⟨s0, s1, s2, s3, s4, s5⟩ := hSw; go_simp; done) | (intro w hSw; obtain ⟨s0, s1, s2, s3, s4, s5⟩ := hSw; go_simp; with_reducible rfl)
    try simp only [Act.put, List.setIfInBounds_toArray, List.set_cons_zero, List.set_cons_succ]
    refine wpAnyH_ready (rs := [17]) (by kernel_rfl) (by simp) ?_
    refine AllReadyH.cons rfl (fun K hK => ?_) AllReadyH.nil
    go_simp
    have al5 : Below w4.heap.size w4 (w4.alloc (Obj.cells #[.int .i64 kd, .int .i64 sp, .string nm, .slice qa an ca, .string (bs l), .slice qb nb cb] 43)) := (Below.refl _ _).alloc (Nat.le_refl _) _
    have HB5 := hide (tr2 (unhide HBn) al5)
    have HR5 := hide (ownsRow_below (unhide HR3) al5)
    have HR6 := hide (unhide hR _ _ _ (unhide HR4) al5)
    have hSa' := KeepD.of ((unhide HKn).later al5) ((unhide HTX).later (unhide HB5))
    have HKn5 := hide ((unhide HKn).later al5)
    clear al5
    refine hK _ _ hSa' (fun _ => ?_)
    clear hK K hSa
    have hSa := hSa'
    clear hSa'
    refine wpAnyH_ready (rs := [18]) (by kernel_rfl) (by simp) ?_
    refine AllReadyH.cons rfl (fun K hK => ?_) AllReadyH.nil
    obtain ⟨v6, w6, hr, hown, hgr, hnil, hat⟩ := unhide AP qa ca qb nb cb w4 (unhide HBn).size
    refine step_append_run rfl (.tmp 54) (.tmp 71) 41 41 rfl (.slice none 0 0) (.slice (some ⟨w4.heap.size, 0, none⟩) 1 1) (by simp [Act.eval, Act.put]) (by simp [Act.eval, Act.put]) hr ?_
    have hb6 : Below (w4.alloc (Obj.cells #[.int .i64 kd, .int .i64 sp, .string nm, .slice qa an ca, .string (bs l), .slice qb nb cb] 43)).heap.size (w4.alloc (Obj.cells #[.int .i64 kd, .int .i64 sp, .string nm, .slice qa an ca, .string (bs l), .slice qb nb cb] 43)) w6 := (Chg.of_grown hgr).below (Nat.le_refl _) (fun k hk => by simp [Value.ownBlock] at hk)
    have HB6 := hide (tr2 (unhide HB5) hb6)
    have HR7 := hide (ownsRow_below (unhide HR5) hb6)
    have HR8 := hide (unhide hR _ _ _ (unhide HR6) hb6)
    have HO6 := hide hown
    have hSa' := KeepD.of ((unhide HKn5).later hb6) ((unhide HTX).later (unhide HB6))
    obtain ⟨g6, cap6, cur6, hv6, hblk6, hcel⟩ : ∃ g6 cap6 cur6, v6 = .slice (some ⟨g6, 0, none⟩) 1 cap6 ∧ w6.heap[g6]? = some (.cells cur6 43 (0, 0)) ∧ (∀ j u, ([.int .i64 kd, .int .i64 sp, .string nm, .slice qa an ca, .string (bs l), .slice qb nb cb] : List Value)[j]? = some u → w6.cell? ⟨g6, j, none⟩ = some u) := by
      rcases hown.2 with ⟨h1, h2⟩ | ⟨g6, cap6, cur6, h1, _, hb, _⟩
      · omega
      · refine ⟨g6, cap6, cur6, h1, hb, fun j u hu => ?_⟩
        have := hown.cells (g := g6) (by rw [h1]; rfl) j u hu
        rw [Addr.add_lit, Nat.zero_add] at this
        exact this
    subst hv6
    have hex : ∃ cur, w6.heap[g6]? = some (.cells cur 43 (0, 0)) := ⟨cur6, hblk6⟩
    have HBK := hide (And.intro hex hcel)
    clear hr hown hgr hnil hat hb6 hblk6 hcel hex
    refine hK _ _ hSa' (fun _ => ?_)
    clear hK K hSa
    have hSa := hSa'
    clear hSa'
    refine wpAnyH_take (i := 19) (oi := { dst := some 5, op := _, type := _, pos := _, after := _, guard := _ }) (v := ?va19_32) rfl (by kernel_rfl) (by kernel_rfl) (by kernel_rfl) (fun _ _ _ h => h) (Or.inl ⟨by kernel_rfl, ?ha19_32⟩) hSa ?ra19_32
    case ha19_32 => first | (intro w hSw; obtain ⟨s0, s1, s2, s3, s4, s5⟩ := hSw; go_simp; done) | (intro w hSw; obtain ⟨s0, s1, s2, s3, s4, s5⟩ := hSw; go_simp; with_reducible rfl)
    try simp only [Act.put, List.setIfInBounds_toArray, List.set_cons_zero, List.set_cons_succ]
    refine wpAnyH_done (by kernel_rfl) ?_ _
    clear hSa HS
    go_wp2
    rw [rounds_succ]; go_wp2
    go_ret
    obtain ⟨hbk, hcel⟩ := unhide HBK
    refine ⟨⟨_, _, _, rfl, g6, cap6, ⟨qa, an, ca⟩, _, rfl, ⟨hcel 0 _ rfl, hcel 1 _ rfl, hcel 2 _ rfl, hcel 3 _ rfl, hcel 4 _ rfl, hcel 5 _ rfl⟩, unhide HR7, rfl, unhide HR8, hbk⟩, unhide HB6⟩
end Go.Proofs.Ytabajhbghjfhoab
