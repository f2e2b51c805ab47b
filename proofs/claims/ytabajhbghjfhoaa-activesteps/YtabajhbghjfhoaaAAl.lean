/-
  What a list's alike does: entries with any attributes.
-/
import Derived.Test.YtabajhbghjfhoaaACt
import Derived.Test.YtabajhbghjfhoaaAAd
namespace Go.Proofs.Ytabajhbghjfhoaa
open Go.RowKit Go.Maps
set_option linter.unusedVariables false
set_option linter.unusedSimpArgs false

/-- A slice of attributes as it lies in memory. -/
def AtsV (q : Option Addr) (n : Nat) (ats : List (ByteArray × ByteArray)) (w : World) : Prop :=
  n = ats.length ∧ n ≤ 4398046511104 ∧ SzA ats ∧ (n = 0 ∨ ∃ g o, q = some ⟨g, o, none⟩ ∧ Cells2 g o ats w)
theorem AtsV.below {q : Option Addr} {n : Nat} {ats : List (ByteArray × ByteArray)} {w w' : World} (h : AtsV q n ats w) (hb : Below w.heap.size w w') : AtsV q n ats w' := by
  obtain ⟨h1, h2, h3, h4⟩ := h
  refine ⟨h1, h2, h3, ?_⟩
  rcases h4 with h | ⟨g, o, h5, h6⟩
  · exact Or.inl h
  · exact Or.inr ⟨g, o, h5, h6.below hb⟩
/-- Does each of the first ones stand just once in both? -/
def onceK (ax ay : List (ByteArray × ByteArray)) (n : Nat) : Nat → Bool
  | 0 => true
  | k + 1 => onceK ax ay n k && (timesN ax (an ax k) (av ax k) n == 1 && timesN ay (an ax k) (av ax k) n == 1)
theorem onceK_no (ax ay : List (ByteArray × ByteArray)) (n k : Nat) (h : (timesN ax (an ax k) (av ax k) n == 1 && timesN ay (an ax k) (av ax k) n == 1) = false) : ∀ m, k < m → onceK ax ay n m = false
  | 0, hk => by omega
  | m + 1, hk => by
    unfold onceK
    by_cases he : k = m
    · subst he; rw [h, Bool.and_false]
    · rw [onceK_no ax ay n k h m (by omega), Bool.false_and]
def alikeB (xn : ByteArray) (ax : List (ByteArray × ByteArray)) (yn : ByteArray) (ay : List (ByteArray × ByteArray)) : Bool :=
  (xn.toList == yn.toList) && (ax.length == ay.length && onceK ax ay ax.length ax.length)
theorem counted_v (kl : ByteArray → ByteArray → Lit) (hkl : KeyFn kl) (q : Option Addr) (n cap : Nat) (ats : List (ByteArray × ByteArray)) (w : World) (h : AtsV q n ats w) :
    Calls Try.prog 107 #[.slice q n cap] w fun e w' => e = .returned (.map (some w.heap.size)) ∧ w'.ownsMap Try.prog 108 (plainElem Try.prog 3) w.heap.size n (cntD kl ats n) ∧ Below w.heap.size w w' := by
  obtain ⟨h1, h2, h3, h4⟩ := h
  by_cases h0 : n = 0
  · subst h0
    exact counted_zero kl q cap w
  · rcases h4 with h | ⟨g, o, rfl, h6⟩
    · exact absurd h h0
    · exact counted_pos kl hkl g o cap ats n w (hide h1.symm) (by omega) (by omega) h6 h3
theorem ownsMap_below {P : Program} {k : TypeId} {H : Type} {R : Value → Option (DataW H × List MemPlace)} {b n : Nat} {D : DataW H} {w w' : World} (h : w.ownsMap P k R b n D) (hb : Below w.heap.size w w') : w'.ownsMap P k R b n D := by
  have hl := h.lt
  obtain ⟨es, clock, h1, h2⟩ := h
  exact ⟨es, clock, (hb.block b hl).trans h1, h2⟩
def KeepB (b : Nat) (aq : Option Addr) (al ac : Nat) (bq : Option Addr) (bl bc : Nat) (W : World) : Prop := W.cell? ⟨b, 3, none⟩ = some (.slice aq al ac) ∧ W.cell? ⟨b + 1, 3, none⟩ = some (.slice bq bl bc)
theorem KeepB.below {b : Nat} {aq : Option Addr} {al ac : Nat} {bq : Option Addr} {bl bc : Nat} {w w' : World} (h : KeepB b aq al ac bq bl bc w) (hb : Below w.heap.size w w') : KeepB b aq al ac bq bl bc w' := ⟨cell_later hb h.1, cell_later hb h.2⟩

set_option maxHeartbeats 2000000 in
theorem alike_name (am bm : Bool) (ai bi : Int) (xn yn : ByteArray) (aq bq : Option Addr) (al ac bl bc : Nat) (w : World) (h : (xn.toList == yn.toList) = false) :
    Calls Try.prog 97 #[.agg #[.bool am, .int .i64 ai, .string xn, .slice aq al ac], .agg #[.bool bm, .int .i64 bi, .string yn, .slice bq bl bc]] w fun e w' => e = .returned (.bool false) ∧ Below w.heap.size w w' := by
  have HB : Hid (Below w.heap.size w ((w.alloc (Obj.cells #[.bool am, .int .i64 ai, .string xn, .slice aq al ac] 58)).alloc (Obj.cells #[.bool bm, .int .i64 bi, .string yn, .slice bq bl bc] 58))) := hide (((Below.refl _ _).alloc (Nat.le_refl _) _).alloc (by simp) _)
  go_enter Try.func97, Try.ntmps97
  go_wp2
  go_ret
  exact ⟨rfl, unhide HB⟩
set_option maxHeartbeats 2000000 in
theorem alike_len (am bm : Bool) (ai bi : Int) (xn yn : ByteArray) (aq bq : Option Addr) (al ac bl bc : Nat) (w : World) (h : (xn.toList == yn.toList) = true) (hl : ¬ al = bl) :
    Calls Try.prog 97 #[.agg #[.bool am, .int .i64 ai, .string xn, .slice aq al ac], .agg #[.bool bm, .int .i64 bi, .string yn, .slice bq bl bc]] w fun e w' => e = .returned (.bool false) ∧ Below w.heap.size w w' := by
  have HB : Hid (Below w.heap.size w ((w.alloc (Obj.cells #[.bool am, .int .i64 ai, .string xn, .slice aq al ac] 58)).alloc (Obj.cells #[.bool bm, .int .i64 bi, .string yn, .slice bq bl bc] 58))) := hide (((Below.refl _ _).alloc (Nat.le_refl _) _).alloc (by simp) _)
  have h2 : ((al : Int) == (bl : Int)) = false := beq_eq_false_iff_ne.2 (by omega)
  have h3 : (al == bl) = false := beq_eq_false_iff_ne.2 hl
  have h4 : ¬ (al : Int) = (bl : Int) := by omega
  go_enter Try.func97, Try.ntmps97
  go_wp2
  go_ret
  exact ⟨rfl, unhide HB⟩

set_option maxHeartbeats 8000000 in
set_option maxRecDepth 100000 in
theorem alike_same (am bm : Bool) (ai bi : Int) (xn yn : ByteArray) (aq bq : Option Addr) (n ac bc : Nat) (ax ay : List (ByteArray × ByteArray)) (w : World) (h : (xn.toList == yn.toList) = true) (hx : AtsV aq n ax w) (hy : AtsV bq n ay w) :
    Calls Try.prog 97 #[.agg #[.bool am, .int .i64 ai, .string xn, .slice aq n ac], .agg #[.bool bm, .int .i64 bi, .string yn, .slice bq n bc]] w fun e w' => e = .returned (.bool (onceK ax ay n n)) ∧ Below w.heap.size w w' := by
  obtain ⟨kl, hkf⟩ := keyFn_ex
  have b2 : Below w.heap.size w ((w.alloc (Obj.cells #[.bool am, .int .i64 ai, .string xn, .slice aq n ac] 58)).alloc (Obj.cells #[.bool bm, .int .i64 bi, .string yn, .slice bq n bc] 58)) := ((Below.refl _ _).alloc (Nat.le_refl _) _).alloc (by simp) _
  have b2d : Below w.heap.size w ((w.alloc (Obj.cells #[.bool am, .int .i64 ai, .string xn, .slice aq n ac] 58)).alloc (Obj.cells #[.bool bm, .int .i64 bi, .string yn, .slice bq n bc] 58)).drew := tr2 b2 (below_draws _ 1)
  have HX := hide hx
  have HY := hide hy
  have C1 := hide (fun W hW => counted_v kl hkf aq n ac ax W hW)
  have C2 := hide (fun W hW => counted_v kl hkf bq n bc ay W hW)
  have kA : Blk ((w.alloc (Obj.cells #[.bool am, .int .i64 ai, .string xn, .slice aq n ac] 58)).alloc (Obj.cells #[.bool bm, .int .i64 bi, .string yn, .slice bq n bc] 58)) w.heap.size #[.bool am, .int .i64 ai, .string xn, .slice aq n ac] 58 := (Blk.new w _ _).alloc _
  have kB : Blk ((w.alloc (Obj.cells #[.bool am, .int .i64 ai, .string xn, .slice aq n ac] 58)).alloc (Obj.cells #[.bool bm, .int .i64 bi, .string yn, .slice bq n bc] 58)) (w.heap.size + 1) #[.bool bm, .int .i64 bi, .string yn, .slice bq n bc] 58 := Eq.mp (by simp) (Blk.new (w.alloc (Obj.cells #[.bool am, .int .i64 ai, .string xn, .slice aq n ac] 58)) #[.bool bm, .int .i64 bi, .string yn, .slice bq n bc] 58)
  have HK : Hid (KeepB w.heap.size aq n ac bq n bc ((w.alloc (Obj.cells #[.bool am, .int .i64 ai, .string xn, .slice aq n ac] 58)).alloc (Obj.cells #[.bool bm, .int .i64 bi, .string yn, .slice bq n bc] 58)).drew) := hide ⟨(kA.later (below_draws _ 1)).cell 3, (kB.later (below_draws _ 1)).cell 3⟩
  have HB := hide b2d
  have hnn : ((n : Int) == (n : Int)) = true := by simp
  have hbound := hx.2.1
  clear b2 b2d kA kB
  go_enter Try.func97, Try.ntmps97
  go_wp2_with fail
  have hSa := unhide HK
  have HBn := HB
  refine wp_region_held (S := KeepB w.heap.size aq n ac bq n bc) (by kernel_rfl) ?_
  change wpAnyH _ _ _ _ _ _ _ _ (World.drew _)
  refine wpAnyH_take (i := 0) (oi := { dst := some 23, op := _, type := _, pos := _, after := _, guard := _ }) (v := ?va0_1) rfl (by kernel_rfl) (by kernel_rfl) (by kernel_rfl) (fun _ _ _ h => h) (Or.inl ⟨by kernel_rfl, ?ha0_1⟩) hSa ?ra0_1
  case ha0_1 => first | (intro w hSw; obtain ⟨s0, s1⟩ := hSw; go_simp; done) | (intro w hSw; obtain ⟨s0, s1⟩ := hSw; go_simp; with_reducible rfl)
  try simp only [Act.put, List.setIfInBounds_toArray, List.set_cons_zero, List.set_cons_succ]
  refine wpAnyH_take (i := 1) (oi := { dst := some 24, op := _, type := _, pos := _, after := _, guard := _ }) (v := ?va1_2) rfl (by kernel_rfl) (by kernel_rfl) (by kernel_rfl) (fun _ _ _ h => h) (Or.inl ⟨by kernel_rfl, ?ha1_2⟩) hSa ?ra1_2
  case ha1_2 => first | (intro w hSw; obtain ⟨s0, s1⟩ := hSw; go_simp; done) | (intro w hSw; obtain ⟨s0, s1⟩ := hSw; go_simp; with_reducible rfl)
  try simp only [Act.put, List.setIfInBounds_toArray, List.set_cons_zero, List.set_cons_succ]
  refine wpAnyH_take (i := 3) (oi := { dst := some 26, op := _, type := _, pos := _, after := _, guard := _ }) (v := ?va3_3) rfl (by kernel_rfl) (by kernel_rfl) (by kernel_rfl) (fun _ _ _ h => h) (Or.inl ⟨by kernel_rfl, ?ha3_3⟩) hSa ?ra3_3
  case ha3_3 => first | (intro w hSw; obtain ⟨s0, s1⟩ := hSw; go_simp; done) | (intro w hSw; obtain ⟨s0, s1⟩ := hSw; go_simp; with_reducible rfl)
  try simp only [Act.put, List.setIfInBounds_toArray, List.set_cons_zero, List.set_cons_succ]
  refine wpAnyH_take (i := 4) (oi := { dst := some 27, op := _, type := _, pos := _, after := _, guard := _ }) (v := ?va4_4) rfl (by kernel_rfl) (by kernel_rfl) (by kernel_rfl) (fun _ _ _ h => h) (Or.inl ⟨by kernel_rfl, ?ha4_4⟩) hSa ?ra4_4
  case ha4_4 => first | (intro w hSw; obtain ⟨s0, s1⟩ := hSw; go_simp; done) | (intro w hSw; obtain ⟨s0, s1⟩ := hSw; go_simp; with_reducible rfl)
  try simp only [Act.put, List.setIfInBounds_toArray, List.set_cons_zero, List.set_cons_succ]
  refine wpAnyH_ready (rs := [2]) (by kernel_rfl) (by simp) ?_
  refine AllReadyH.cons rfl (fun K hK => ?_) AllReadyH.nil
  go_simp
  refine (unhide C1 _ ((unhide HX).below (unhide HBn))).mono ?_
  rintro e w4 ⟨rfl, hm, hb⟩
  have hSa' := hSa.below hb
  have HM1 := hide hm
  replace HBn := hide (tr2 (unhide HBn) hb)
  clear hb hm
  refine hK _ _ hSa' (fun _ => ?_)
  clear hK K hSa
  have hSa := hSa'
  clear hSa'
  refine wpAnyH_ready (rs := [5]) (by kernel_rfl) (by simp) ?_
  refine AllReadyH.cons rfl (fun K hK => ?_) AllReadyH.nil
  go_simp
  refine (unhide C2 _ ((unhide HY).below (unhide HBn))).mono ?_
  rintro e w5 ⟨rfl, hm, hb⟩
  have hSa' := hSa.below hb
  have HM2 := hide hm
  replace HM1 := hide (ownsMap_below (unhide HM1) hb)
  replace HBn := hide (tr2 (unhide HBn) hb)
  clear hb hm
  refine hK _ _ hSa' (fun _ => ?_)
  clear hK K hSa
  have hSa := hSa'
  clear hSa'
  refine wpAnyH_take (i := 6) (oi := { dst := some 5, op := _, type := _, pos := _, after := _, guard := _ }) (v := ?va6_5) rfl (by kernel_rfl) (by kernel_rfl) (by kernel_rfl) (fun _ _ _ h => h) (Or.inl ⟨by kernel_rfl, ?ha6_5⟩) hSa ?ra6_5
  case ha6_5 => first | (intro w hSw; obtain ⟨s0, s1⟩ := hSw; go_simp; done) | (intro w hSw; obtain ⟨s0, s1⟩ := hSw; go_simp; with_reducible rfl)
  try simp only [Act.put, List.setIfInBounds_toArray, List.set_cons_zero, List.set_cons_succ]
  refine wpAnyH_take (i := 7) (oi := { dst := some 6, op := _, type := _, pos := _, after := _, guard := _ }) (v := ?va7_6) rfl (by kernel_rfl) (by kernel_rfl) (by kernel_rfl) (fun _ _ _ h => h) (Or.inl ⟨by kernel_rfl, ?ha7_6⟩) hSa ?ra7_6
  case ha7_6 => first | (intro w hSw; obtain ⟨s0, s1⟩ := hSw; go_simp; done) | (intro w hSw; obtain ⟨s0, s1⟩ := hSw; go_simp; with_reducible rfl)
  try simp only [Act.put, List.setIfInBounds_toArray, List.set_cons_zero, List.set_cons_succ]
  refine wpAnyH_done (by kernel_rfl) ?_ _
  have c3 := hSa.1
  clear hSa HK C1 C2 hnn h
  generalize w4.heap.size = mB at *
  have hmA : ((w.alloc (Obj.cells #[.bool am, .int .i64 ai, .string xn, .slice aq n ac] 58)).alloc (Obj.cells #[.bool bm, .int .i64 bi, .string yn, .slice bq n bc] 58)).drew.heap.size = w.heap.size + 1 + 1 := by simp
  rw [hmA] at HM1
  clear hmA
  go_wp2
  generalize w.heap.size + 1 + 1 = mA at *
  go_loopw [32] (fun i wr => ∃ k : Nat, k ≤ n ∧ i = .int .i64 k ∧ onceK ax ay n k = true ∧ wr.ownsMap Try.prog 108 (plainElem (H := Unit) Try.prog 3) mA n (cntD kl ax n) ∧ wr.ownsMap Try.prog 108 (plainElem (H := Unit) Try.prog 3) mB n (cntD kl ay n) ∧ Below w.heap.size w wr) (fun i _ => n - (intOf i).toNat)
  case atStart => exact ⟨0, Nat.zero_le _, rfl, rfl, unhide HM1, unhide HM2, unhide HBn⟩
  case round =>
    clear HM1 HM2 HBn HB c3
    obtain ⟨k, hk, rfl, hon, hm1, hm2, hbw⟩ := hrel
    have HB := hide hbw
    have hsz := hbw.size
    by_cases hp : k < n
    · have hpi : (k : Int) < (n : Int) := by omega
      obtain ⟨hxl, _, hxs, hxc⟩ := unhide HX
      obtain ⟨hyl, _, hys, _⟩ := unhide HY
      rcases hxc with h0 | ⟨g, o, rfl, hcs⟩
      · omega
      have hkl : k < ax.length := by omega
      obtain ⟨c1, c2⟩ := hcs.below hbw k hkl
      obtain ⟨z1, z2⟩ := hxs k hkl
      have hA1 := cntD_at hkf ax hxs z1 z2 n (by omega)
      have hA2 := cntD_at hkf ay hys z1 z2 n (by omega)
      have o1 := hm1.alloc (Obj.cells #[.string (an ax k), .string (av ax k)] 108)
      have o2 := hm2.alloc (Obj.cells #[.string (an ax k), .string (av ax k)] 108)
      obtain ⟨cA, l1, a1e, _⟩ := o1.lookup_int lawT Try.underlying131 Try.underlying3 (zeroI _) (hkf _ _ z1 z2)
      obtain ⟨cB, l2, a2e, _⟩ := o2.lookup_int lawT Try.underlying131 Try.underlying3 (zeroI _) (hkf _ _ z1 z2)
      have eA : cA = (timesN ax (an ax k) (av ax k) n : Nat) := by
        have := a1e.symm.trans hA1
        injection this with e1
        injection e1
      have eB : cB = (timesN ay (an ax k) (av ax k) n : Nat) := by
        have := a2e.symm.trans hA2
        injection this with e1
        injection e1
      subst eA eB
      have HO := hide (And.intro o1 o2)
      have HN := hide (onceK_no ax ay n k)
      have HS : Hid (onceK ax ay n (k + 1) = (onceK ax ay n k && (timesN ax (an ax k) (av ax k) n == 1 && timesN ay (an ax k) (av ax k) n == 1))) := hide rfl
      have HON := hide hon
      have HB2 := hide (hbw.alloc hsz (Obj.cells #[.string (an ax k), .string (av ax k)] 108))
      clear hA1 hA2 o1 o2 a1e a2e hm1 hm2 hcs hxs hys hon hbw z1 z2 hkl hxl hyl
      generalize an ax k = a1 at *
      generalize av ax k = a2 at *
      generalize timesN ax a1 a2 n = tA at *
      generalize timesN ay a1 a2 n = tB at *
      by_cases hA : tA = 1
      · subst hA
        by_cases hB : tB = 1
        · subst hB
          have l1' := l1
          have l2' := l2
          simp only [Int.cast_ofNat_Int] at l1' l2'
          go_wp2
          go_roundw
          case rel => exact ⟨k + 1, by omega, by go_num, by rw [unhide HS, unhide HON]; rfl, (unhide HO).1, (unhide HO).2, unhide HB2⟩
          case measure => simp [intOf]; omega
        · have i1 : ((tB : Int) == 1) = false := beq_eq_false_iff_ne.2 (by omega)
          have i2 : (tB == 1) = false := beq_eq_false_iff_ne.2 hB
          have i3 : ¬ (tB : Int) = 1 := by omega
          have l1' := l1
          simp only [Int.cast_ofNat_Int] at l1'
          have HF := hide (unhide HN (by rw [i2]; rfl) n hp)
          go_wp2
          go_ret
          exact ⟨by rw [unhide HF]; rfl, unhide HB2⟩
      · have i1 : ((tA : Int) == 1) = false := beq_eq_false_iff_ne.2 (by omega)
        have i2 : (tA == 1) = false := beq_eq_false_iff_ne.2 hA
        have i3 : ¬ (tA : Int) = 1 := by omega
        have HF := hide (unhide HN (by rw [i2]; rfl) n hp)
        go_wp2
        go_ret
        exact ⟨by rw [unhide HF]; rfl, unhide HB2⟩
    · have hke : k = n := by omega
      subst hke
      have hnl : ¬ (k : Int) < (k : Int) := by omega
      have HON := hide hon
      clear hm1 hm2 hbw hp hon
      go_wp2
      go_ret
      exact ⟨by rw [unhide HON]; rfl, unhide HB⟩
/-- Whether two entries are alike. -/
theorem alike_any (x y : AEnt) (ax ay : List (ByteArray × ByteArray)) (w : World) (hx : AtsV x.q x.n ax w) (hy : AtsV y.q y.n ay w) :
    Calls Try.prog 97 #[entV x, entV y] w fun e w' => e = .returned (.bool (alikeB x.nm ax y.nm ay)) ∧ Below w.heap.size w w' := by
  obtain ⟨am, ai, xn, aq, al, ac⟩ := x
  obtain ⟨bm, bi, yn, bq, bl, bc⟩ := y
  unfold entV alikeB
  dsimp only at *
  cases h : (xn.toList == yn.toList) with
  | false => rw [Bool.false_and]; exact alike_name am bm ai bi xn yn aq bq al ac bl bc w h
  | true =>
    rw [Bool.true_and]
    by_cases hl : al = bl
    · subst hl
      rw [← hx.1, ← hy.1, beq_self_eq_true, Bool.true_and]
      exact alike_same am bm ai bi xn yn aq bq al ac bc ax ay w h hx hy
    · rw [← hx.1, ← hy.1, beq_eq_false_iff_ne.2 hl, Bool.false_and]
      exact alike_len am bm ai bi xn yn aq bq al ac bl bc w h hl
end Go.Proofs.Ytabajhbghjfhoaa
