/-
  What the reference's flat, Raw, In and Text of layer 13 do (made by mk_jrf.py).
-/
import Derived.Test.YtpfnjgkfombmpaaDoorJLs
namespace Go.Proofs.YtpfnjgkfombmpaaDoor
open Go.RowKit
set_option linter.unusedVariables false
set_option linter.unusedSimpArgs false

theorem bs_add' (l : List UInt8) (x : ByteArray) : bs l ++ x = bs (l ++ x.data.toList) := by
  rw [← bs_self x, bs_bs, bs_toList]
theorem flat_snoc (l : List UInt8) (b : UInt8) : flatL (l ++ [b]) = flatL l ++ [flB b] := by unfold flatL; simp
set_option maxHeartbeats 1000000 in
theorem rflat_any (s : ByteArray) (w : World) (hs : s.size ≤ 100000) : Calls Tryd.prog 50 #[.string s] w fun e w' => e = .returned (.string (bs (flatL s.data.toList))) ∧ w' = w := by
  have hdl := data_len s
  go_enter Tryd.func50, Tryd.ntmps50
  go_wp2
  go_loopw [3, 4] (fun o i wr => ∃ k : Nat, k ≤ s.size ∧ i = .int .i64 k ∧ o = .string (bs (flatL (s.data.toList.take k))) ∧ wr = w) (fun _ i _ => s.size - (intOf i).toNat)
  case atStart => exact ⟨0, Nat.zero_le _, rfl, rfl, rfl⟩
  case round =>
    obtain ⟨k, hk, rfl, rfl, rfl⟩ := hrel
    have hz : (bs (flatL (s.data.toList.take k))).size ≤ 100000 := by rw [bs_size]; unfold flatL; rw [List.length_map, List.length_take]; omega
    by_cases hp : k < s.size
    · have hpi : (k : Int) < (s.size : Int) := by omega
      have hki : (k : Int) ≤ 100000 := by omega
      have hk1 : k < s.data.toList.length := by omega
      have htk : s.data.toList.take (k + 1) = s.data.toList.take k ++ [s.data.toList[k]] := by rw [List.take_add_one, List.getElem?_eq_getElem hk1]; rfl
      have e := dgt_at s k hp
      have hdg : dgt s.data.toList k = (s.data.toList[k]).toNat := by unfold dgt; rw [List.getD, List.getElem?_eq_getElem hk1]; rfl
      have hone := one_atE s k hp
      have hbt : byt (dgt s.data.toList k) = s.data.toList[k] := by rw [hdg]; exact byt_self _
      rw [hbt] at hone
      have hone' := congrArg ByteArray.size hone
      rw [bs_size] at hone'
      simp only [List.length_cons, List.length_nil] at hone'
      have HR : Hid (bs (flatL (s.data.toList.take (k + 1))) = bs (flatL (s.data.toList.take k)) ++ bs [flB s.data.toList[k]]) := hide (by rw [htk, flat_snoc, bs_bs])
      have h10 : Hid (dgt s.data.toList k = 10 → bs [flB s.data.toList[k]] = ⟨#[32]⟩) := hide (fun h => by
        have : s.data.toList[k] = 10 := by rw [hdg] at h; exact UInt8.toNat_inj.1 h
        rw [this]; rfl)
      have hno : Hid (¬ dgt s.data.toList k = 10 → bs [flB s.data.toList[k]] = s.extract k (k + 1)) := hide (fun h => by
        rw [hone]
        unfold flB
        rw [if_neg (fun h' => h (by rw [hdg, h']; rfl))])
      clear htk hdg hbt hone hdl
      generalize hX : bs (flatL (s.data.toList.take k)) = X at *
      generalize hY : bs [flB s.data.toList[k]] = Y at *
      generalize dgt s.data.toList k = b at *
      clear hX hY
      have z1 : ¬ 9223372036854775807 < X.size + 1 := by omega
      by_cases g10 : b = 10
      · subst g10
        have HY := hide (unhide h10 rfl)
        clear h10 hno
        go_wp2
        go_roundw
        case rel => exact ⟨k + 1, by omega, by go_num, by rw [unhide HR, unhide HY], by first | exact rfl | trivial⟩
        case measure => simp [intOf]; omega
      · have n10 : ((b : Int) == 10) = false := bneI (by omega)
        have HY := hide (unhide hno g10)
        clear h10 hno
        go_wp2
        go_roundw
        case rel => exact ⟨k + 1, by omega, by go_num, by rw [unhide HR, unhide HY], by first | exact rfl | trivial⟩
        case measure => simp [intOf]; omega
    · have hpi : ¬ (k : Int) < (s.size : Int) := by omega
      have HF : Hid (bs (flatL (s.data.toList.take k)) = bs (flatL s.data.toList)) := hide (by rw [List.take_of_length_le (by omega)])
      generalize bs (flatL (s.data.toList.take k)) = X at *
      clear hz hdl
      go_wp2
      go_ret
      exact ⟨by rw [← unhide HF]; rfl, rfl⟩
set_option maxHeartbeats 1000000 in
set_option maxRecDepth 100000 in
theorem rraw_any (k sp : Int) (n tx : ByteArray) (qa qk : Option Addr) (al ca kl ck : Nat) (w : World) :
    Calls Tryd.prog 65 #[.agg #[.int .i64 k, .int .i64 sp, .string n, .slice qa al ca, .string tx, .slice qk kl ck]] w fun e w' => e = .returned (.bool (rwB k sp n)) ∧ Below w.heap.size w w' := by
  have hbA := (Below.refl w.heap.size w).alloc (Nat.le_refl _) (Obj.cells #[.int .i64 k, .int .i64 sp, .string n, .slice qa al ca, .string tx, .slice qk kl ck] 31)
  have CI := hide (in_any n _ rwNs _ (view_lit (w.alloc (Obj.cells #[.int .i64 k, .int .i64 sp, .string n, .slice qa al ca, .string tx, .slice qk kl ck] 31)) rwNs 9 (by decide) 3 rfl))
  have hz : (w.alloc (Obj.cells #[.int .i64 k, .int .i64 sp, .string n, .slice qa al ca, .string tx, .slice qk kl ck] 31)).heap.size = w.heap.size + 1 := by simp
  rw [hz] at CI
  have hbB := tr2 hbA ((Below.refl _ (w.alloc (Obj.cells #[.int .i64 k, .int .i64 sp, .string n, .slice qa al ca, .string tx, .slice qk kl ck] 31))).alloc (Nat.le_refl _) (Obj.cells (rwNs.map (fun l => Value.string (bs l))).toArray 9))
  have HB := hide (And.intro hbA hbB)
  clear hbA hbB hz
  unfold rwB
  generalize inB n.toList rwNs = x at *
  by_cases hk : k = 1
  · subst hk
    rw [show ((1 : Int) == 1) = true from rfl, Bool.true_and]
    by_cases h : sp = 0
    · subst h
      rw [show ((0 : Int) == 0) = true from rfl, Bool.true_and]
      go_enter Tryd.func65, Tryd.ntmps65
      go_wp2_with fail
      refine (unhide CI).mono ?_
      rintro e w1 ⟨rfl, hb⟩
      have HB1 := hide (tr2 (unhide HB).2 hb)
      clear hb CI
      go_wp2
      go_ret
      exact ⟨rfl, unhide HB1⟩
    · have e1 : (sp == 0) = false := beq_eq_false_iff_ne.2 h
      rw [e1, Bool.false_and]
      clear h CI
      go_enter Tryd.func65, Tryd.ntmps65
      go_wp2
      go_ret
      exact ⟨rfl, (unhide HB).1⟩
  · have e1 : (k == 1) = false := beq_eq_false_iff_ne.2 hk
    rw [e1, Bool.false_and]
    clear hk CI
    go_enter Tryd.func65, Tryd.ntmps65
    go_wp2
    go_ret
    exact ⟨rfl, (unhide HB).1⟩
def KeepN6 (b : Nat) (k sp : Int) (n : ByteArray) (qa : Option Addr) (al ca : Nat) (tx : ByteArray) (qk : Option Addr) (kl ck : Nat) (W : World) : Prop :=
  W.cell? ⟨b, 0, none⟩ = some (.int .i64 k) ∧ W.cell? ⟨b, 1, none⟩ = some (.int .i64 sp) ∧ W.cell? ⟨b, 2, none⟩ = some (.string n) ∧ W.cell? ⟨b, 3, none⟩ = some (.slice qa al ca) ∧ W.cell? ⟨b, 4, none⟩ = some (.string tx) ∧ W.cell? ⟨b, 5, none⟩ = some (.slice qk kl ck)
theorem KeepN6.of {b : Nat} {k sp : Int} {n : ByteArray} {qa : Option Addr} {al ca : Nat} {tx : ByteArray} {qk : Option Addr} {kl ck : Nat} {W : World} {t : TypeId} (h : Blk W b #[.int .i64 k, .int .i64 sp, .string n, .slice qa al ca, .string tx, .slice qk kl ck] t) : KeepN6 b k sp n qa al ca tx qk kl ck W := ⟨h.cell 0, h.cell 1, h.cell 2, h.cell 3, h.cell 4, h.cell 5⟩
set_option maxHeartbeats 1000000 in
theorem rin_none (q : Option Addr) (cap : Nat) (raw : Bool) (w : World) : Calls Tryd.prog 39 #[.slice q 0 cap, .bool raw] w fun e w' => e = .returned (.string ⟨#[]⟩) ∧ w' = w := by
  go_enter Tryd.func39, Tryd.ntmps39
  go_wp2
  refine wp_loop_rounds 1 ?_
  rw [rounds_succ]; go_wp2
  go_ret
  exact ⟨rfl, rfl⟩
set_option maxHeartbeats 2000000 in
set_option maxRecDepth 100000 in
theorem rin_some (f : Forest) (g o cap : Nat) (raw : Bool) (w : World) (hl : Lies f g o w) (hsm : SmF f) (hc : f.count ≤ 1000)
    (ih : ∀ j k sp n ats tx kids, f.drop j = .cons k sp n ats tx kids (f.drop (j + 1)) → ∀ raw q cap W, Fo q kids W → Calls Tryd.prog 39 #[.slice q kids.len cap, .bool raw] W fun e w' => e = .returned (.string (bs (txF kids raw))) ∧ Below W.heap.size W w') :
    Calls Tryd.prog 39 #[.slice (some ⟨g, o, none⟩) f.len cap, .bool raw] w fun e w' => e = .returned (.string (bs (txF f raw))) ∧ Below w.heap.size w w' := by
  have HL := hide hl
  have IH := hide ih
  have hlc := f.len_count
  have htl := tx_len f raw hsm
  have HSM := hide (fun j => sm_drop' j f hsm)
  clear hl ih hsm
  go_enter Tryd.func39, Tryd.ntmps39
  go_wp2
  go_loopw [5, 10] (fun x i wr => ∃ (j : Nat) (acc : List UInt8), j ≤ f.len ∧ i = .int .i64 j ∧ x = .string (bs acc) ∧ acc ++ txF (f.drop j) raw = txF f raw ∧ Below w.heap.size w wr) (fun _ i _ => f.len - (intOf i).toNat)
  case atStart => exact ⟨0, [], Nat.zero_le _, rfl, rfl, by rw [Forest.drop_zero]; rfl, Below.refl _ _⟩
  case round =>
    obtain ⟨j, acc, hj, rfl, rfl, hacc, hbw⟩ := hrel
    by_cases hp : j < f.len
    · have hpi : (j : Int) < (f.len : Int) := by omega
      have hji : (j : Int) ≤ 1000 := by omega
      obtain ⟨k, sp, n, ats, tx, kids, hdr⟩ := f.drop_cons j hp
      have hl0 := ((unhide HL).drop j).below hbw
      have hs0 := unhide HSM j
      rw [hdr] at hl0 hs0 hacc
      obtain ⟨⟨c0, c1, c2, ⟨qa, ca, c3, hsl⟩, c4, ⟨qk, ck, c5, _, hfk⟩⟩, _⟩ := hl0
      have hbA := (Below.refl wr.heap.size wr).alloc (Nat.le_refl _) (Obj.cells #[.int .i64 k, .int .i64 sp, .string n, .slice qa ats.length ca, .string tx, .slice qk kids.len ck] 31)
      have hA := Blk.new wr #[.int .i64 k, .int .i64 sp, .string n, .slice qa ats.length ca, .string tx, .slice qk kids.len ck] 31
      have CO := hide (fun W (hW : Below wr.heap.size wr W) => jropen_any k sp n ats tx qa qk ca kids.len ck W (hsl.below hW) hs0.1.2.2.1 (by have := hs0.1.2.1; omega))
      have CR := hide (fun W => rraw_any k sp n tx qa qk ats.length ca kids.len ck W)
      have CI := hide (fun r W (hW : Below wr.heap.size wr W) => unhide IH j k sp n ats tx kids hdr r qk ck W ((show Fo qk kids wr from hfk).below hW))
      have CE := hide (fun W => rescape_any tx false W (by have := hs0.1.1; omega))
      have CV := hide (fun W => rvoid_any n W)
      have hXl : acc.length + (txF (.cons k sp n ats tx kids (f.drop (j + 1))) raw).length = (txF f raw).length := by rw [← hacc, List.length_append]
      rw [txF, List.length_append, List.length_append] at hXl
      have htl' : (txF f raw).length ≤ 100000000000 := by omega
      have HAC : Hid (acc ++ (ahL k n.data.toList ats tx.data.toList raw ++ ((if k = 1 ∧ vdB sp n = false then txF kids (rwB k sp n) ++ endL n.data.toList else []) ++ txF (f.drop (j + 1)) raw)) = txF f raw) := hide hacc
      have hxs : (bs acc).size ≤ 100000000000 := by rw [bs_size]; omega
      have zt : tx.size ≤ 5000 := hs0.1.1
      have zn : n.size ≤ 5000 := hs0.1.2.1
      have HA := hide hA
      have HBA := hide hbA
      have HBW := hide hbw
      clear hs0 hdr hsl hfk hacc hA hbA hbw htl
      by_cases h1 : k = 1
      · subst h1
        have hop : opL 1 n.data.toList ats = openL n.data.toList ats := if_pos rfl
        have hah : ahL 1 n.data.toList ats tx.data.toList raw = openL n.data.toList ats := if_pos rfl
        rw [hop] at CO
        rw [hah] at HAC hXl
        have hos : (bs (openL n.data.toList ats)).size ≤ 100000000000 := by rw [bs_size]; omega
        cases hvd : vdB sp n with
        | true =>
          rw [hvd, if_neg (by simp), List.nil_append] at HAC
          have hv2 := hvd
          unfold vdB at hv2
          rw [Bool.and_eq_true, beq_iff_eq] at hv2
          obtain ⟨rfl, hv2⟩ := hv2
          rw [hv2] at CV
          have z1 : ¬ 9223372036854775807 < (bs acc).size + (bs (openL n.data.toList ats)).size := by omega
          have HN : Hid (bs acc ++ bs (openL n.data.toList ats) = bs (acc ++ openL n.data.toList ats)) := hide (bs_bs _ _)
          clear hXl hvd hv2 hop hah CR CI CE hos
          generalize bs (openL n.data.toList ats) = O at *
          generalize hX : bs acc = X at *
          clear hX
          generalize ats.length = al at *
          generalize kids.len = kl at *
          go_wp2_with fail
          refine (unhide CV _).mono ?_
          rintro e w1 ⟨rfl, hb1⟩
          have hK := (unhide HA).later hb1
          have d0 := hK.cell 0
          have d1 := hK.cell 1
          have d2 := hK.cell 2
          have d3 := hK.cell 3
          have d4 := hK.cell 4
          have d5 := hK.cell 5
          simp only [List.getElem?_toArray, List.getElem?_cons_zero, List.getElem?_cons_succ] at d0 d1 d2 d3 d4 d5
          have C1 := hide (unhide CO w1 (tr2 (unhide HBA) hb1))
          have HB1 := hide (tr2 (tr2 (unhide HBW) (unhide HBA)) hb1)
          clear CV CO hb1 hK
          go_wp2_with fail
          refine (unhide C1).mono ?_
          rintro e w2 ⟨rfl, hb2⟩
          have HB2 := hide (tr2 (unhide HB1) hb2)
          clear C1 HB1 hb2 d0 d1 d2 d3 d4 d5
          go_wp2
          go_roundw
          case rel => exact ⟨j + 1, acc ++ openL n.data.toList ats, by omega, by go_num, by rw [← unhide HN], by rw [List.append_assoc]; exact unhide HAC, unhide HB2⟩
          case measure => simp [intOf]; omega
        | false =>
          rw [hvd, if_pos ⟨rfl, rfl⟩] at HAC
          rw [if_pos ⟨rfl, hvd⟩] at hXl
          rw [List.length_append] at hXl
          have his : (bs (txF kids (rwB 1 sp n))).size ≤ 100000000000 := by rw [bs_size]; omega
          have CI' := hide (unhide CI (rwB 1 sp n))
          have HN : Hid (bs acc ++ bs (openL n.data.toList ats) ++ bs (txF kids (rwB 1 sp n)) ++ ⟨#[60, 47]⟩ ++ n ++ ⟨#[62]⟩ = bs (acc ++ (openL n.data.toList ats ++ (txF kids (rwB 1 sp n) ++ endL n.data.toList)))) := hide (by
            have he := end_bs n
            rw [show bs acc ++ bs (openL n.data.toList ats) ++ bs (txF kids (rwB 1 sp n)) ++ ⟨#[60, 47]⟩ ++ n ++ ⟨#[62]⟩ = bs acc ++ bs (openL n.data.toList ats) ++ bs (txF kids (rwB 1 sp n)) ++ (⟨#[60, 47]⟩ ++ n ++ ⟨#[62]⟩) by simp only [ByteArray.append_assoc], he, bs_bs, bs_bs, bs_bs]
            simp only [List.append_assoc])
          have HAC2 : Hid (acc ++ (openL n.data.toList ats ++ (txF kids (rwB 1 sp n) ++ endL n.data.toList)) ++ txF (f.drop (j + 1)) raw = txF f raw) := hide (by rw [← unhide HAC]; simp only [List.append_assoc])
          clear hXl hop hah CE HAC CI
          generalize txF kids (rwB 1 sp n) = ik at *
          generalize rwB 1 sp n = rw' at *
          generalize hOq : bs (openL n.data.toList ats) = O at *
          generalize hIq : bs ik = I at *
          generalize hX : bs acc = X at *
          clear hX hOq hIq
          generalize ats.length = al at *
          generalize kids.len = kl at *
          have z1 : ¬ 9223372036854775807 < X.size + O.size := by omega
          have z2 : ¬ 9223372036854775807 < X.size + O.size + I.size := by omega
          have z3 : ¬ 9223372036854775807 < X.size + O.size + I.size + 2 := by omega
          have z4 : ¬ 9223372036854775807 < X.size + O.size + I.size + 2 + n.size := by omega
          have z5 : ¬ 9223372036854775807 < X.size + O.size + I.size + 2 + n.size + 1 := by omega
          by_cases h0 : sp = 0
          · subst h0
            have hv2 := hvd
            unfold vdB at hv2
            rw [show ((0 : Int) == 0) = true from rfl, Bool.true_and] at hv2
            rw [hv2] at CV
            clear hvd hv2
            go_wp2_with fail
            refine (unhide CV _).mono ?_
            rintro e w1 ⟨rfl, hb1⟩
            have HK1 := hide ((unhide HA).later hb1)
            have d0 : w1.cell? ⟨wr.heap.size, 0, none⟩ = some (.int .i64 1) := (unhide HK1).cell 0
            have HB0 := hide (tr2 (unhide HBA) hb1)
            clear CV hb1
            have hD : Below w1.heap.size w1 w1.drew := below_draws w1 1
            have HKd := hide ((unhide HK1).later hD)
            have HBd := hide (tr2 (unhide HB0) hD)
            clear hD
            go_wp2_with fail
            clear d0
            have hSa := KeepN6.of (unhide HKd)
            refine wp_region_held (S := KeepN6 wr.heap.size 1 0 n qa al ca tx qk kl ck) (by kernel_rfl) ?_
            change wpAnyH _ _ _ _ _ _ _ _ (World.drew _)
            refine wpAnyH_take (i := 0) (oi := { dst := some 36, op := _, type := _, pos := _, after := _, guard := _ }) (v := ?va0_1) rfl (by kernel_rfl) (by kernel_rfl) (by kernel_rfl) (fun _ _ _ h => h) (Or.inl ⟨by kernel_rfl, ?ha0_1⟩) hSa ?ra0_1
            case ha0_1 => first | (intro w hSw; obtain ⟨s0, s1, s2, s3, s4, s5⟩ := hSw; go_simp; done) | (intro w hSw; obtain ⟨s0, s1, s2, s3, s4, s5⟩ := hSw; go_simp; with_reducible rfl)
            try simp only [Act.put, List.setIfInBounds_toArray, List.set_cons_zero, List.set_cons_succ]
            refine wpAnyH_take (i := 1) (oi := { dst := some 37, op := _, type := _, pos := _, after := _, guard := _ }) (v := ?va1_2) rfl (by kernel_rfl) (by kernel_rfl) (by kernel_rfl) (fun _ _ _ h => h) (Or.inl ⟨by kernel_rfl, ?ha1_2⟩) hSa ?ra1_2
            case ha1_2 => first | (intro w hSw; obtain ⟨s0, s1, s2, s3, s4, s5⟩ := hSw; go_simp; done) | (intro w hSw; obtain ⟨s0, s1, s2, s3, s4, s5⟩ := hSw; go_simp; with_reducible rfl)
            try simp only [Act.put, List.setIfInBounds_toArray, List.set_cons_zero, List.set_cons_succ]
            refine wpAnyH_take (i := 4) (oi := { dst := some 40, op := _, type := _, pos := _, after := _, guard := _ }) (v := ?va4_3) rfl (by kernel_rfl) (by kernel_rfl) (by kernel_rfl) (fun _ _ _ h => h) (Or.inl ⟨by kernel_rfl, ?ha4_3⟩) hSa ?ra4_3
            case ha4_3 => first | (intro w hSw; obtain ⟨s0, s1, s2, s3, s4, s5⟩ := hSw; go_simp; done) | (intro w hSw; obtain ⟨s0, s1, s2, s3, s4, s5⟩ := hSw; go_simp; with_reducible rfl)
            try simp only [Act.put, List.setIfInBounds_toArray, List.set_cons_zero, List.set_cons_succ]
            refine wpAnyH_take (i := 5) (oi := { dst := some 41, op := _, type := _, pos := _, after := _, guard := _ }) (v := ?va5_4) rfl (by kernel_rfl) (by kernel_rfl) (by kernel_rfl) (fun _ _ _ h => h) (Or.inl ⟨by kernel_rfl, ?ha5_4⟩) hSa ?ra5_4
            case ha5_4 => first | (intro w hSw; obtain ⟨s0, s1, s2, s3, s4, s5⟩ := hSw; go_simp; done) | (intro w hSw; obtain ⟨s0, s1, s2, s3, s4, s5⟩ := hSw; go_simp; with_reducible rfl)
            try simp only [Act.put, List.setIfInBounds_toArray, List.set_cons_zero, List.set_cons_succ]
            refine wpAnyH_take (i := 6) (oi := { dst := some 42, op := _, type := _, pos := _, after := _, guard := _ }) (v := ?va6_5) rfl (by kernel_rfl) (by kernel_rfl) (by kernel_rfl) (fun _ _ _ h => h) (Or.inl ⟨by kernel_rfl, ?ha6_5⟩) hSa ?ra6_5
            case ha6_5 => first | (intro w hSw; obtain ⟨s0, s1, s2, s3, s4, s5⟩ := hSw; go_simp; done) | (intro w hSw; obtain ⟨s0, s1, s2, s3, s4, s5⟩ := hSw; go_simp; with_reducible rfl)
            try simp only [Act.put, List.setIfInBounds_toArray, List.set_cons_zero, List.set_cons_succ]
            refine wpAnyH_take (i := 11) (oi := { dst := some 47, op := _, type := _, pos := _, after := _, guard := _ }) (v := ?va11_6) rfl (by kernel_rfl) (by kernel_rfl) (by kernel_rfl) (fun _ _ _ h => h) (Or.inl ⟨by kernel_rfl, ?ha11_6⟩) hSa ?ra11_6
            case ha11_6 => first | (intro w hSw; obtain ⟨s0, s1, s2, s3, s4, s5⟩ := hSw; go_simp; done) | (intro w hSw; obtain ⟨s0, s1, s2, s3, s4, s5⟩ := hSw; go_simp; with_reducible rfl)
            try simp only [Act.put, List.setIfInBounds_toArray, List.set_cons_zero, List.set_cons_succ]
            refine wpAnyH_take (i := 12) (oi := { dst := some 48, op := _, type := _, pos := _, after := _, guard := _ }) (v := ?va12_7) rfl (by kernel_rfl) (by kernel_rfl) (by kernel_rfl) (fun _ _ _ h => h) (Or.inl ⟨by kernel_rfl, ?ha12_7⟩) hSa ?ra12_7
            case ha12_7 => first | (intro w hSw; obtain ⟨s0, s1, s2, s3, s4, s5⟩ := hSw; go_simp; done) | (intro w hSw; obtain ⟨s0, s1, s2, s3, s4, s5⟩ := hSw; go_simp; with_reducible rfl)
            try simp only [Act.put, List.setIfInBounds_toArray, List.set_cons_zero, List.set_cons_succ]
            refine wpAnyH_ready (rs := [2]) (by kernel_rfl) (by simp) ?_
            refine AllReadyH.cons rfl (fun K hK => ?_) AllReadyH.nil
            go_simp
            refine (unhide CO _ (unhide HBd)).mono ?_
            rintro e w2 ⟨rfl, hb⟩
            have HK2 := hide ((unhide HKd).later hb)
            have HB2 := hide (tr2 (unhide HBd) hb)
            have hSa' := KeepN6.of (unhide HK2)
            clear hb CO
            refine hK _ _ hSa' (fun _ => ?_)
            clear hK K hSa
            have hSa := hSa'
            clear hSa'
            refine wpAnyH_take (i := 3) (oi := { dst := some 39, op := _, type := _, pos := _, after := _, guard := _ }) (v := ?va3_8) rfl (by kernel_rfl) (by kernel_rfl) (by kernel_rfl) (fun _ _ _ h => h) (Or.inl ⟨by kernel_rfl, ?ha3_8⟩) hSa ?ra3_8
            case ha3_8 => first | (intro w hSw; obtain ⟨s0, s1, s2, s3, s4, s5⟩ := hSw; go_simp; done) | (intro w hSw; obtain ⟨s0, s1, s2, s3, s4, s5⟩ := hSw; go_simp; with_reducible rfl)
            try simp only [Act.put, List.setIfInBounds_toArray, List.set_cons_zero, List.set_cons_succ]
            refine wpAnyH_ready (rs := [7]) (by kernel_rfl) (by simp) ?_
            refine AllReadyH.cons rfl (fun K hK => ?_) AllReadyH.nil
            go_simp
            refine (unhide CR _).mono ?_
            rintro e w3 ⟨rfl, hb⟩
            have HK3 := hide ((unhide HK2).later hb)
            have HB3 := hide (tr2 (unhide HB2) hb)
            have hSa' := KeepN6.of (unhide HK3)
            clear hb CR
            refine hK _ _ hSa' (fun _ => ?_)
            clear hK K hSa
            have hSa := hSa'
            clear hSa'
            refine wpAnyH_ready (rs := [8]) (by kernel_rfl) (by simp) ?_
            refine AllReadyH.cons rfl (fun K hK => ?_) AllReadyH.nil
            go_simp
            refine (unhide CI' _ (unhide HB3)).mono ?_
            rintro e w4 ⟨rfl, hb⟩
            have HK4 := hide ((unhide HK3).later hb)
            have HB4 := hide (tr2 (unhide HB3) hb)
            have hSa' := KeepN6.of (unhide HK4)
            clear hb CI'
            refine hK _ _ hSa' (fun _ => ?_)
            clear hK K hSa
            have hSa := hSa'
            clear hSa'
            refine wpAnyH_take (i := 9) (oi := { dst := some 45, op := _, type := _, pos := _, after := _, guard := _ }) (v := ?va9_9) rfl (by kernel_rfl) (by kernel_rfl) (by kernel_rfl) (fun _ _ _ h => h) (Or.inl ⟨by kernel_rfl, ?ha9_9⟩) hSa ?ra9_9
            case ha9_9 => first | (intro w hSw; obtain ⟨s0, s1, s2, s3, s4, s5⟩ := hSw; go_simp; done) | (intro w hSw; obtain ⟨s0, s1, s2, s3, s4, s5⟩ := hSw; go_simp; with_reducible rfl)
            try simp only [Act.put, List.setIfInBounds_toArray, List.set_cons_zero, List.set_cons_succ]
            refine wpAnyH_take (i := 10) (oi := { dst := some 46, op := _, type := _, pos := _, after := _, guard := _ }) (v := ?va10_10) rfl (by kernel_rfl) (by kernel_rfl) (by kernel_rfl) (fun _ _ _ h => h) (Or.inl ⟨by kernel_rfl, ?ha10_10⟩) hSa ?ra10_10
            case ha10_10 => first | (intro w hSw; obtain ⟨s0, s1, s2, s3, s4, s5⟩ := hSw; go_simp; done) | (intro w hSw; obtain ⟨s0, s1, s2, s3, s4, s5⟩ := hSw; go_simp; with_reducible rfl)
            try simp only [Act.put, List.setIfInBounds_toArray, List.set_cons_zero, List.set_cons_succ]
            refine wpAnyH_take (i := 13) (oi := { dst := some 49, op := _, type := _, pos := _, after := _, guard := _ }) (v := ?va13_11) rfl (by kernel_rfl) (by kernel_rfl) (by kernel_rfl) (fun _ _ _ h => h) (Or.inl ⟨by kernel_rfl, ?ha13_11⟩) hSa ?ra13_11
            case ha13_11 => first | (intro w hSw; obtain ⟨s0, s1, s2, s3, s4, s5⟩ := hSw; go_simp; done) | (intro w hSw; obtain ⟨s0, s1, s2, s3, s4, s5⟩ := hSw; go_simp; with_reducible rfl)
            try simp only [Act.put, List.setIfInBounds_toArray, List.set_cons_zero, List.set_cons_succ]
            refine wpAnyH_take (i := 14) (oi := { dst := some 50, op := _, type := _, pos := _, after := _, guard := _ }) (v := ?va14_12) rfl (by kernel_rfl) (by kernel_rfl) (by kernel_rfl) (fun _ _ _ h => h) (Or.inl ⟨by kernel_rfl, ?ha14_12⟩) hSa ?ra14_12
            case ha14_12 => first | (intro w hSw; obtain ⟨s0, s1, s2, s3, s4, s5⟩ := hSw; go_simp; done) | (intro w hSw; obtain ⟨s0, s1, s2, s3, s4, s5⟩ := hSw; go_simp; with_reducible rfl)
            try simp only [Act.put, List.setIfInBounds_toArray, List.set_cons_zero, List.set_cons_succ]
            refine wpAnyH_take (i := 15) (oi := { dst := some 5, op := _, type := _, pos := _, after := _, guard := _ }) (v := ?va15_13) rfl (by kernel_rfl) (by kernel_rfl) (by kernel_rfl) (fun _ _ _ h => h) (Or.inl ⟨by kernel_rfl, ?ha15_13⟩) hSa ?ra15_13
            case ha15_13 => first | (intro w hSw; obtain ⟨s0, s1, s2, s3, s4, s5⟩ := hSw; go_simp; done) | (intro w hSw; obtain ⟨s0, s1, s2, s3, s4, s5⟩ := hSw; go_simp; with_reducible rfl)
            try simp only [Act.put, List.setIfInBounds_toArray, List.set_cons_zero, List.set_cons_succ]
            refine wpAnyH_done (by kernel_rfl) ?_ _
            clear hSa z1 z2 z3 z4 z5
            go_wp2
            go_roundw
            case rel => exact ⟨j + 1, _, by omega, by go_num, by rw [unhide HN], unhide HAC2, tr2 (unhide HBW) (unhide HB4)⟩
            case measure => simp [intOf]; omega
          · have e0 : (sp == 0) = false := beq_eq_false_iff_ne.2 h0
            clear hvd h0 CV
            have hD : Below (wr.alloc (Obj.cells #[.int .i64 1, .int .i64 sp, .string n, .slice qa al ca, .string tx, .slice qk kl ck] 31)).heap.size (wr.alloc (Obj.cells #[.int .i64 1, .int .i64 sp, .string n, .slice qa al ca, .string tx, .slice qk kl ck] 31)) (wr.alloc (Obj.cells #[.int .i64 1, .int .i64 sp, .string n, .slice qa al ca, .string tx, .slice qk kl ck] 31)).drew := below_draws _ 1
            have HKd := hide ((unhide HA).later hD)
            have HBd := hide (tr2 (unhide HBA) hD)
            clear hD
            go_wp2_with fail
            have hSa := KeepN6.of (unhide HKd)
            refine wp_region_held (S := KeepN6 wr.heap.size 1 sp n qa al ca tx qk kl ck) (by kernel_rfl) ?_
            change wpAnyH _ _ _ _ _ _ _ _ (World.drew _)
            refine wpAnyH_take (i := 0) (oi := { dst := some 36, op := _, type := _, pos := _, after := _, guard := _ }) (v := ?va0_14) rfl (by kernel_rfl) (by kernel_rfl) (by kernel_rfl) (fun _ _ _ h => h) (Or.inl ⟨by kernel_rfl, ?ha0_14⟩) hSa ?ra0_14
            case ha0_14 => first | (intro w hSw; obtain ⟨s0, s1, s2, s3, s4, s5⟩ := hSw; go_simp; done) | (intro w hSw; obtain ⟨s0, s1, s2, s3, s4, s5⟩ := hSw; go_simp; with_reducible rfl)
            try simp only [Act.put, List.setIfInBounds_toArray, List.set_cons_zero, List.set_cons_succ]
            refine wpAnyH_take (i := 1) (oi := { dst := some 37, op := _, type := _, pos := _, after := _, guard := _ }) (v := ?va1_15) rfl (by kernel_rfl) (by kernel_rfl) (by kernel_rfl) (fun _ _ _ h => h) (Or.inl ⟨by kernel_rfl, ?ha1_15⟩) hSa ?ra1_15
            case ha1_15 => first | (intro w hSw; obtain ⟨s0, s1, s2, s3, s4, s5⟩ := hSw; go_simp; done) | (intro w hSw; obtain ⟨s0, s1, s2, s3, s4, s5⟩ := hSw; go_simp; with_reducible rfl)
            try simp only [Act.put, List.setIfInBounds_toArray, List.set_cons_zero, List.set_cons_succ]
            refine wpAnyH_take (i := 4) (oi := { dst := some 40, op := _, type := _, pos := _, after := _, guard := _ }) (v := ?va4_16) rfl (by kernel_rfl) (by kernel_rfl) (by kernel_rfl) (fun _ _ _ h => h) (Or.inl ⟨by kernel_rfl, ?ha4_16⟩) hSa ?ra4_16
            case ha4_16 => first | (intro w hSw; obtain ⟨s0, s1, s2, s3, s4, s5⟩ := hSw; go_simp; done) | (intro w hSw; obtain ⟨s0, s1, s2, s3, s4, s5⟩ := hSw; go_simp; with_reducible rfl)
            try simp only [Act.put, List.setIfInBounds_toArray, List.set_cons_zero, List.set_cons_succ]
            refine wpAnyH_take (i := 5) (oi := { dst := some 41, op := _, type := _, pos := _, after := _, guard := _ }) (v := ?va5_17) rfl (by kernel_rfl) (by kernel_rfl) (by kernel_rfl) (fun _ _ _ h => h) (Or.inl ⟨by kernel_rfl, ?ha5_17⟩) hSa ?ra5_17
            case ha5_17 => first | (intro w hSw; obtain ⟨s0, s1, s2, s3, s4, s5⟩ := hSw; go_simp; done) | (intro w hSw; obtain ⟨s0, s1, s2, s3, s4, s5⟩ := hSw; go_simp; with_reducible rfl)
            try simp only [Act.put, List.setIfInBounds_toArray, List.set_cons_zero, List.set_cons_succ]
            refine wpAnyH_take (i := 6) (oi := { dst := some 42, op := _, type := _, pos := _, after := _, guard := _ }) (v := ?va6_18) rfl (by kernel_rfl) (by kernel_rfl) (by kernel_rfl) (fun _ _ _ h => h) (Or.inl ⟨by kernel_rfl, ?ha6_18⟩) hSa ?ra6_18
            case ha6_18 => first | (intro w hSw; obtain ⟨s0, s1, s2, s3, s4, s5⟩ := hSw; go_simp; done) | (intro w hSw; obtain ⟨s0, s1, s2, s3, s4, s5⟩ := hSw; go_simp; with_reducible rfl)
            try simp only [Act.put, List.setIfInBounds_toArray, List.set_cons_zero, List.set_cons_succ]
            refine wpAnyH_take (i := 11) (oi := { dst := some 47, op := _, type := _, pos := _, after := _, guard := _ }) (v := ?va11_19) rfl (by kernel_rfl) (by kernel_rfl) (by kernel_rfl) (fun _ _ _ h => h) (Or.inl ⟨by kernel_rfl, ?ha11_19⟩) hSa ?ra11_19
            case ha11_19 => first | (intro w hSw; obtain ⟨s0, s1, s2, s3, s4, s5⟩ := hSw; go_simp; done) | (intro w hSw; obtain ⟨s0, s1, s2, s3, s4, s5⟩ := hSw; go_simp; with_reducible rfl)
            try simp only [Act.put, List.setIfInBounds_toArray, List.set_cons_zero, List.set_cons_succ]
            refine wpAnyH_take (i := 12) (oi := { dst := some 48, op := _, type := _, pos := _, after := _, guard := _ }) (v := ?va12_20) rfl (by kernel_rfl) (by kernel_rfl) (by kernel_rfl) (fun _ _ _ h => h) (Or.inl ⟨by kernel_rfl, ?ha12_20⟩) hSa ?ra12_20
            case ha12_20 => first | (intro w hSw; obtain ⟨s0, s1, s2, s3, s4, s5⟩ := hSw; go_simp; done) | (intro w hSw; obtain ⟨s0, s1, s2, s3, s4, s5⟩ := hSw; go_simp; with_reducible rfl)
            try simp only [Act.put, List.setIfInBounds_toArray, List.set_cons_zero, List.set_cons_succ]
            refine wpAnyH_ready (rs := [2]) (by kernel_rfl) (by simp) ?_
            refine AllReadyH.cons rfl (fun K hK => ?_) AllReadyH.nil
            go_simp
            refine (unhide CO _ (unhide HBd)).mono ?_
            rintro e w2 ⟨rfl, hb⟩
            have HK2 := hide ((unhide HKd).later hb)
            have HB2 := hide (tr2 (unhide HBd) hb)
            have hSa' := KeepN6.of (unhide HK2)
            clear hb CO
            refine hK _ _ hSa' (fun _ => ?_)
            clear hK K hSa
            have hSa := hSa'
            clear hSa'
            refine wpAnyH_take (i := 3) (oi := { dst := some 39, op := _, type := _, pos := _, after := _, guard := _ }) (v := ?va3_21) rfl (by kernel_rfl) (by kernel_rfl) (by kernel_rfl) (fun _ _ _ h => h) (Or.inl ⟨by kernel_rfl, ?ha3_21⟩) hSa ?ra3_21
            case ha3_21 => first | (intro w hSw; obtain ⟨s0, s1, s2, s3, s4, s5⟩ := hSw; go_simp; done) | (intro w hSw; obtain ⟨s0, s1, s2, s3, s4, s5⟩ := hSw; go_simp; with_reducible rfl)
            try simp only [Act.put, List.setIfInBounds_toArray, List.set_cons_zero, List.set_cons_succ]
            refine wpAnyH_ready (rs := [7]) (by kernel_rfl) (by simp) ?_
            refine AllReadyH.cons rfl (fun K hK => ?_) AllReadyH.nil
            go_simp
            refine (unhide CR _).mono ?_
            rintro e w3 ⟨rfl, hb⟩
            have HK3 := hide ((unhide HK2).later hb)
            have HB3 := hide (tr2 (unhide HB2) hb)
            have hSa' := KeepN6.of (unhide HK3)
            clear hb CR
            refine hK _ _ hSa' (fun _ => ?_)
            clear hK K hSa
            have hSa := hSa'
            clear hSa'
            refine wpAnyH_ready (rs := [8]) (by kernel_rfl) (by simp) ?_
            refine AllReadyH.cons rfl (fun K hK => ?_) AllReadyH.nil
            go_simp
            refine (unhide CI' _ (unhide HB3)).mono ?_
            rintro e w4 ⟨rfl, hb⟩
            have HK4 := hide ((unhide HK3).later hb)
            have HB4 := hide (tr2 (unhide HB3) hb)
            have hSa' := KeepN6.of (unhide HK4)
            clear hb CI'
            refine hK _ _ hSa' (fun _ => ?_)
            clear hK K hSa
            have hSa := hSa'
            clear hSa'
            refine wpAnyH_take (i := 9) (oi := { dst := some 45, op := _, type := _, pos := _, after := _, guard := _ }) (v := ?va9_22) rfl (by kernel_rfl) (by kernel_rfl) (by kernel_rfl) (fun _ _ _ h => h) (Or.inl ⟨by kernel_rfl, ?ha9_22⟩) hSa ?ra9_22
            case ha9_22 => first | (intro w hSw; obtain ⟨s0, s1, s2, s3, s4, s5⟩ := hSw; go_simp; done) | (intro w hSw; obtain ⟨s0, s1, s2, s3, s4, s5⟩ := hSw; go_simp; with_reducible rfl)
            try simp only [Act.put, List.setIfInBounds_toArray, List.set_cons_zero, List.set_cons_succ]
            refine wpAnyH_take (i := 10) (oi := { dst := some 46, op := _, type := _, pos := _, after := _, guard := _ }) (v := ?va10_23) rfl (by kernel_rfl) (by kernel_rfl) (by kernel_rfl) (fun _ _ _ h => h) (Or.inl ⟨by kernel_rfl, ?ha10_23⟩) hSa ?ra10_23
            case ha10_23 => first | (intro w hSw; obtain ⟨s0, s1, s2, s3, s4, s5⟩ := hSw; go_simp; done) | (intro w hSw; obtain ⟨s0, s1, s2, s3, s4, s5⟩ := hSw; go_simp; with_reducible rfl)
            try simp only [Act.put, List.setIfInBounds_toArray, List.set_cons_zero, List.set_cons_succ]
            refine wpAnyH_take (i := 13) (oi := { dst := some 49, op := _, type := _, pos := _, after := _, guard := _ }) (v := ?va13_24) rfl (by kernel_rfl) (by kernel_rfl) (by kernel_rfl) (fun _ _ _ h => h) (Or.inl ⟨by kernel_rfl, ?ha13_24⟩) hSa ?ra13_24
            case ha13_24 => first | (intro w hSw; obtain ⟨s0, s1, s2, s3, s4, s5⟩ := hSw; go_simp; done) | (intro w hSw; obtain ⟨s0, s1, s2, s3, s4, s5⟩ := hSw; go_simp; with_reducible rfl)
            try simp only [Act.put, List.setIfInBounds_toArray, List.set_cons_zero, List.set_cons_succ]
            refine wpAnyH_take (i := 14) (oi := { dst := some 50, op := _, type := _, pos := _, after := _, guard := _ }) (v := ?va14_25) rfl (by kernel_rfl) (by kernel_rfl) (by kernel_rfl) (fun _ _ _ h => h) (Or.inl ⟨by kernel_rfl, ?ha14_25⟩) hSa ?ra14_25
            case ha14_25 => first | (intro w hSw; obtain ⟨s0, s1, s2, s3, s4, s5⟩ := hSw; go_simp; done) | (intro w hSw; obtain ⟨s0, s1, s2, s3, s4, s5⟩ := hSw; go_simp; with_reducible rfl)
            try simp only [Act.put, List.setIfInBounds_toArray, List.set_cons_zero, List.set_cons_succ]
            refine wpAnyH_take (i := 15) (oi := { dst := some 5, op := _, type := _, pos := _, after := _, guard := _ }) (v := ?va15_26) rfl (by kernel_rfl) (by kernel_rfl) (by kernel_rfl) (fun _ _ _ h => h) (Or.inl ⟨by kernel_rfl, ?ha15_26⟩) hSa ?ra15_26
            case ha15_26 => first | (intro w hSw; obtain ⟨s0, s1, s2, s3, s4, s5⟩ := hSw; go_simp; done) | (intro w hSw; obtain ⟨s0, s1, s2, s3, s4, s5⟩ := hSw; go_simp; with_reducible rfl)
            try simp only [Act.put, List.setIfInBounds_toArray, List.set_cons_zero, List.set_cons_succ]
            refine wpAnyH_done (by kernel_rfl) ?_ _
            clear hSa z1 z2 z3 z4 z5
            go_wp2
            go_roundw
            case rel => exact ⟨j + 1, _, by omega, by go_num, by rw [unhide HN], unhide HAC2, tr2 (unhide HBW) (unhide HB4)⟩
            case measure => simp [intOf]; omega
      · have e1 : (k == 1) = false := beq_eq_false_iff_ne.2 h1
        have hno : ¬ (k = 1 ∧ vdB sp n = false) := fun h => h1 h.1
        rw [if_neg hno, List.nil_append] at HAC
        rw [if_neg hno] at hXl
        clear CO CR CI CV
        have STEP : Hid (∀ (y : ByteArray) (l : List UInt8), ahL k n.data.toList ats tx.data.toList raw = l → bs acc ++ y = bs (acc ++ l) → ∃ acc' : List UInt8, bs acc ++ y = bs acc' ∧ acc' ++ txF (f.drop (j + 1)) raw = txF f raw) := hide (fun y l hl he => ⟨acc ++ l, he, by rw [List.append_assoc, ← hl]; exact unhide HAC⟩)
        have HB1 := hide (tr2 (unhide HBW) (unhide HBA))
        by_cases h2 : k = 2
        · subst h2
          cases raw with
          | true =>
            obtain ⟨acc', y1, y2⟩ := unhide STEP tx tx.data.toList (by show ahL 2 _ _ _ true = _; unfold ahL; simp) (by rw [bs_add' acc tx])
            have HY := hide (And.intro y1 y2)
            have z1 : ¬ 9223372036854775807 < (bs acc).size + tx.size := by omega
            clear y1 y2 STEP HAC hXl hno
            generalize bs acc = X at *
            generalize ats.length = al at *
            generalize kids.len = kl at *
            go_wp2
            go_roundw
            case rel => exact ⟨j + 1, acc', by omega, by go_num, by rw [(unhide HY).1], (unhide HY).2, unhide HB1⟩
            case measure => simp [intOf]; omega
          | false =>
            obtain ⟨acc', y1, y2⟩ := unhide STEP (bs (escL false tx.data.toList)) (escL false tx.data.toList) (by show ahL 2 _ _ _ false = _; unfold ahL; simp) (bs_bs _ _)
            have HY := hide (And.intro y1 y2)
            have hel := esc_len false tx.data.toList false
            have hes : (bs (escL false tx.data.toList)).size ≤ 30000 := by
              rw [bs_size]
              have h6 : (escL false tx.data.toList).length ≤ 6 * tx.data.toList.length := hel
              rw [data_len] at h6
              omega
            have z1 : ¬ 9223372036854775807 < (bs acc).size + (bs (escL false tx.data.toList)).size := by omega
            clear y1 y2 STEP HAC hXl hno hel
            generalize bs (escL false tx.data.toList) = Y at *
            generalize bs acc = X at *
            generalize ats.length = al at *
            generalize kids.len = kl at *
            go_wp2_with fail
            refine (unhide CE _).mono ?_
            rintro e w1 ⟨rfl, hw1⟩
            subst hw1
            clear CE
            go_wp2
            go_roundw
            case rel => exact ⟨j + 1, acc', by omega, by go_num, by rw [(unhide HY).1], (unhide HY).2, unhide HB1⟩
            case measure => simp [intOf]; omega
        · have e2 : (k == 2) = false := beq_eq_false_iff_ne.2 h2
          by_cases h3 : k = 3
          · subst h3
            obtain ⟨acc', y1, y2⟩ := unhide STEP (⟨#[60, 33, 45, 45]⟩ ++ tx ++ ⟨#[45, 45, 62]⟩) (noteL tx.data.toList) (by unfold ahL; simp) (by rw [note_bs, bs_bs])
            have HY : Hid (bs acc ++ ⟨#[60, 33, 45, 45]⟩ ++ tx ++ ⟨#[45, 45, 62]⟩ = bs acc' ∧ acc' ++ txF (f.drop (j + 1)) raw = txF f raw) := hide ⟨by rw [← y1]; simp only [ByteArray.append_assoc], y2⟩
            have z1 : ¬ 9223372036854775807 < (bs acc).size + 4 := by omega
            have z2 : ¬ 9223372036854775807 < (bs acc).size + 4 + tx.size := by omega
            have z3 : ¬ 9223372036854775807 < (bs acc).size + 4 + tx.size + 3 := by omega
            clear y1 y2 STEP HAC hXl hno CE
            generalize bs acc = X at *
            generalize ats.length = al at *
            generalize kids.len = kl at *
            go_wp2
            go_roundw
            case rel => exact ⟨j + 1, acc', by omega, by go_num, by rw [(unhide HY).1], (unhide HY).2, unhide HB1⟩
            case measure => simp [intOf]; omega
          · have e3 : (k == 3) = false := beq_eq_false_iff_ne.2 h3
            have HY : Hid (acc ++ txF (f.drop (j + 1)) raw = txF f raw) := hide (by
              have := unhide HAC
              rw [show ahL k n.data.toList ats tx.data.toList raw = [] by unfold ahL; rw [if_neg h1, if_neg h3, if_neg h2], List.nil_append] at this
              exact this)
            clear STEP HAC hXl hno CE h1 h2 h3
            generalize hX : bs acc = X at *
            have HX := hide hX
            clear hX
            generalize ats.length = al at *
            generalize kids.len = kl at *
            go_wp2
            go_roundw
            case rel => exact ⟨j + 1, acc, by omega, by go_num, by rw [unhide HX], unhide HY, unhide HB1⟩
            case measure => simp [intOf]; omega
    · have hpi : ¬ (j : Int) < (f.len : Int) := by omega
      rw [f.drop_out j (by omega)] at hacc
      have HF : Hid (bs acc = bs (txF f raw)) := hide (by rw [← hacc]; simp [txF])
      have HX := hide hbw
      clear hp hacc hbw htl
      generalize bs acc = X at *
      go_wp2
      go_ret
      exact ⟨by rw [← unhide HF]; rfl, unhide HX⟩
theorem rin_any : ∀ (m : Nat) (f : Forest), f.count ≤ m → m ≤ 1000 → SmF f → ∀ (raw : Bool) (q : Option Addr) (cap : Nat) (w : World), Fo q f w → Calls Tryd.prog 39 #[.slice q f.len cap, .bool raw] w fun e w' => e = .returned (.string (bs (txF f raw))) ∧ Below w.heap.size w w'
  | m, f, hm, hM, hsm, raw, q, cap, w, h => by
    rcases h with rfl | ⟨g, o, rfl, hl⟩
    · refine (rin_none q cap raw w).mono ?_
      rintro e w' ⟨rfl, rfl⟩
      exact ⟨rfl, Below.refl _ _⟩
    · refine rin_some f g o cap raw w hl hsm (by omega) (fun j k sp n ats tx kids hd raw q cap W hf => ?_)
      have h1 : (f.drop j).count ≤ f.count := f.count_drop j
      have hs := sm_drop' j f hsm
      rw [hd] at h1 hs
      have h2 : 1 + kids.count + (f.drop (j + 1)).count ≤ f.count := h1
      match m, hm with
      | 0, hm => omega
      | m + 1, hm => exact rin_any m kids (by omega) (by omega) hs.2.1 raw q cap W hf
set_option maxHeartbeats 1000000 in
theorem rtext_any (f : Forest) (q : Option Addr) (cap : Nat) (w : World) (hf : Fo q f w) (hs : SmF f) (hc : f.count ≤ 1000) :
    Calls Tryd.prog 18 #[.slice q f.len cap] w fun e w' => e = .returned (.string (bs (txF f false))) ∧ Below w.heap.size w w' := by
  have C := hide (rin_any f.count f (Nat.le_refl _) hc hs false q cap w hf)
  generalize bs (txF f false) = Y at *
  generalize f.len = fl at *
  clear hf hs
  go_enter Tryd.func18, Tryd.ntmps18
  go_wp2_with fail
  refine (unhide C).mono ?_
  rintro e w1 ⟨rfl, hb⟩
  have HB := hide hb
  clear hb C
  go_wp2
  go_ret
  exact ⟨rfl, unhide HB⟩
end Go.Proofs.YtpfnjgkfombmpaaDoor
