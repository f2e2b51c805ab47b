/-
  What the reference's Lines of layer 13 does (made by mk_jrl.py).
-/
import Derived.Test.YtfbgpodcdgmpjaaDoorJRf
import Derived.Laws.OwnMore
namespace Go.Proofs.YtfbgpodcdgmpjaaDoor
open Go.RowKit
set_option linter.unusedVariables false
set_option linter.unusedSimpArgs false

theorem append_strs (w : World) (base base' : Nat) (v v6 : Value) (n : Nat) (xs : List Value) (ts : List ByteArray) (hown : w.ownsRow base 9 1 v n xs) (hsrc : w.ownsRow base' 9 1 v6 ts.length (ts.map Value.string)) (hn : n + ts.length ≤ 1000000) (hbase : base ≤ w.heap.size) :
    ∃ v' w', (Builtin.append_ #[26, 26] 26 #[v, v6]).run Tryd.prog w = .ok v' w' ∧ w'.ownsRow base 9 1 v' (n + ts.length) (xs ++ ts.map Value.string) ∧ w.grownBy w' v.ownBlock := by
  obtain ⟨i0, hi0, hi1, hi2, hi3⟩ := info_parts infoStr0
  rcases hsrc.2 with ⟨rfl, h0⟩ | ⟨g, cap, cur, rfl, h1, h2, h3, _⟩
  · have hts : ts = [] := List.eq_nil_of_length_eq_zero h0
    subst hts
    refine ⟨v, w, run_append_owned_none (P := Tryd.prog) (w := w) base _ _ 9 i0 1 Tryd.underlying26 hi0 v n xs hown, ?_, World.grownBy.refl _ _⟩
    simpa using hown
  · obtain ⟨v', w', x1, x2, x3, _⟩ := run_append_own (P := Tryd.prog) w base 26 26 9 i0 (.string ⟨#[]⟩) 1 16 Tryd.underlying26 hi0 hi1 hi2 hi3 rfl (by decide) v n xs hown ⟨g, 0, none⟩ ts.length cap (ts.map Value.string) (by simp) (fun j u hj => hsrc.cells (g := g) rfl j u hj) (str_one ts) (by unfold maxLen; omega) (by omega) hbase
    exact ⟨v', w', x1, x2, x3⟩
theorem sp_more (d : Nat) : bs (spL d) ++ ⟨#[32]⟩ = bs (spL (d + 1)) := by
  have h : (⟨#[32]⟩ : ByteArray) = bs [32] := rfl
  rw [h, bs_bs]
  unfold spL
  rw [Lib.repeatL_add, Lib.repeatL_one]
set_option maxHeartbeats 1000000 in
theorem rlines_none (q : Option Addr) (cap : Nat) (x : ByteArray) (w : World) : Calls Tryd.prog 17 #[.slice q 0 cap, .string x] w fun e w' => e = .returned (.slice none 0 0) ∧ w' = w := by
  go_enter Tryd.func17, Tryd.ntmps17
  go_wp2
  refine wp_loop_rounds 1 ?_
  rw [rounds_succ]; go_wp2
  go_ret
  exact ⟨rfl, rfl⟩
set_option maxHeartbeats 2000000 in
set_option maxRecDepth 100000 in
theorem rlines_some (f : Forest) (g o cap d : Nat) (w : World) (hl : Lies f g o w) (hsm : SmF f) (hc : f.count ≤ 1000) (hd : d ≤ 1000)
    (ih : ∀ j k sp n ats tx kids, f.drop j = .cons k sp n ats tx kids (f.drop (j + 1)) → ∀ q cap W, Fo q kids W → Calls Tryd.prog 17 #[.slice q kids.len cap, .string (bs (spL (d + 1)))] W fun e w' => ∃ v, e = .returned v ∧ w'.ownsRow W.heap.size 9 1 v (lnF kids (d + 1)).length ((lnF kids (d + 1)).map Value.string) ∧ Below W.heap.size W w') :
    Calls Tryd.prog 17 #[.slice (some ⟨g, o, none⟩) f.len cap, .string (bs (spL d))] w fun e w' => ∃ v, e = .returned v ∧ w'.ownsRow w.heap.size 9 1 v (lnF f d).length ((lnF f d).map Value.string) ∧ Below w.heap.size w w' := by
  obtain ⟨i0, hi0, hi1, hi2, hi3⟩ := info_parts infoStr0
  have HL := hide hl
  have IH := hide ih
  have hlc := f.len_count
  have HSM := hide (fun j => sm_drop' j f hsm)
  have hsz : (bs (spL d)).size = d := by rw [bs_size, spL_len]
  have HSP := hide (sp_more d)
  have z0 : ¬ 9223372036854775807 < (bs (spL d)).size + 1 := by omega
  have HSB : Hid (∀ l, bs (spL d) ++ bs l = bs (spL d ++ l)) := hide (fun l => bs_bs _ _)
  clear hl ih hsm
  generalize hA0 : bs (spL d) = A0 at *
  go_enter Tryd.func17, Tryd.ntmps17
  go_wp2
  go_loopw [5, 11] (fun x i wr => ∃ (j : Nat) (ys : List ByteArray) (v : Value), j ≤ f.len ∧ i = .int .i64 j ∧ x = v ∧ ys ++ lnF (f.drop j) d = lnF f d ∧ wr.ownsRow w.heap.size 9 1 v ys.length (ys.map Value.string) ∧ Below w.heap.size w wr) (fun _ i _ => f.len - (intOf i).toNat)
  case atStart => exact ⟨0, [], _, Nat.zero_le _, rfl, rfl, by rw [Forest.drop_zero]; rfl, World.ownsRow_nil _ _ _ _, Below.refl _ _⟩
  case round =>
    obtain ⟨j, ys, v, hj, rfl, rfl, hys, hrow, hbw⟩ := hrel
    rename Value => v
    obtain ⟨aV, cV, hV⟩ := slice_n hrow
    have hyl : ys.length + (f.drop j).count = f.count := by
      have := congrArg List.length hys
      rw [List.length_append, lnF_len, lnF_len] at this
      exact this
    by_cases hp : j < f.len
    · have hpi : (j : Int) < (f.len : Int) := by omega
      have hji : (j : Int) ≤ 1000 := by omega
      obtain ⟨k, sp, n, ats, tx, kids, hdr⟩ := f.drop_cons j hp
      have hl0 := ((unhide HL).drop j).below hbw
      have hs0 := unhide HSM j
      rw [hdr] at hl0 hs0 hys hyl
      have hyl' : ys.length + (1 + kids.count + (f.drop (j + 1)).count) = f.count := hyl
      obtain ⟨⟨c0, c1, c2, ⟨qa, ca, c3, hsl⟩, c4, ⟨qk, ck, c5, _, hfk⟩⟩, _⟩ := hl0
      have hbA := (Below.refl wr.heap.size wr).alloc (Nat.le_refl _) (Obj.cells #[.int .i64 k, .int .i64 sp, .string n, .slice qa ats.length ca, .string tx, .slice qk kids.len ck] 47)
      have hA := Blk.new wr #[.int .i64 k, .int .i64 sp, .string n, .slice qa ats.length ca, .string tx, .slice qk kids.len ck] 47
      have CO := hide (jropen_any k sp n ats tx qa qk ca kids.len ck _ (hsl.below hbA) hs0.1.2.2.1 (by have := hs0.1.2.1; omega))
      have CF := hide (fun W => rflat_any tx W (by have := hs0.1.1; omega))
      have CK := hide (fun W (hW : Below w.heap.size w W) => unhide IH j k sp n ats tx kids hdr qk ck W (by
        have h0 := (unhide HL).drop j
        rw [hdr] at h0
        obtain ⟨⟨_, _, _, _, _, ⟨qk0, ck0, e5, _, hk0⟩⟩, _⟩ := h0
        have e5' := cell_later hbw e5
        rw [c5] at e5'
        simp only [Option.some.injEq, Value.slice.injEq] at e5'
        obtain ⟨rfl, _, rfl⟩ := e5'
        exact (show Fo qk kids w from hk0).below hW))
      have hln := ln_len (k := k) hs0.1.2.2.1 hs0.1.2.1 hs0.1.1
      have HLN : Hid (ys ++ (bs (spL d ++ lnL k n.data.toList ats tx.data.toList) :: (lnF kids (d + 1) ++ lnF (f.drop (j + 1)) d)) = lnF f d) := hide hys
      have HKC : Hid (ys.length + 1 + kids.count ≤ 1000) := hide (by omega)
      have hyN : ys.length ≤ 1000 := by omega
      have HR := hide hrow
      have HBW := hide hbw
      have HK := hide hA
      have HBA := hide hbA
      have HLD : Hid (lnL k n.data.toList ats tx.data.toList = if k = 2 ∨ k = 3 then flatL tx.data.toList else opL k n.data.toList ats) := hide (by
        unfold lnL opL
        by_cases h1 : k = 1
        · rw [if_pos h1, if_neg (by omega), if_pos h1]
        · rw [if_neg h1]
          by_cases h2 : k = 2 ∨ k = 3
          · rw [if_pos h2, if_pos h2]
          · rw [if_neg h2, if_neg h2, if_neg h1])
      have hol : (opL k n.data.toList ats).length ≤ 90000000 := by
        unfold opL
        by_cases h1 : k = 1
        · rw [if_pos h1]
          have := hln
          unfold lnL at this
          rw [if_pos h1] at this
          exact this
        · rw [if_neg h1]; simp
      have hfl : (flatL tx.data.toList).length ≤ 5000 := by unfold flatL; rw [List.length_map, data_len]; exact hs0.1.1
      have zo : (bs (opL k n.data.toList ats)).size ≤ 90000000 := by rw [bs_size]; exact hol
      have zf : (bs (flatL tx.data.toList)).size ≤ 5000 := by rw [bs_size]; exact hfl
      have z1 : ¬ 9223372036854775807 < A0.size + (bs (opL k n.data.toList ats)).size := by omega
      have z2 : ¬ 9223372036854775807 < A0.size + (bs (flatL tx.data.toList)).size := by omega
      rw [← unhide HSP] at CK
      clear hs0 hdr hsl hfk hyl hyl' hys hrow hbw hA hbA hln hol hfl
      by_cases h23 : k = 2 ∨ k = 3
      · have HX0 : Hid (A0 ++ bs (flatL tx.data.toList) = bs (spL d ++ lnL k n.data.toList ats tx.data.toList)) := hide (by rw [unhide HLD, if_pos h23]; exact unhide HSB _)
        clear HLD HSB
        generalize bs (spL d ++ lnL k n.data.toList ats tx.data.toList) = L0 at *
        generalize bs (flatL tx.data.toList) = Y at *
        generalize bs (opL k n.data.toList ats) = O at *
        rcases h23 with h23 | h23
        · subst h23
          subst hV
          go_wp2_with fail
          refine (unhide CO).mono ?_
          rintro e w2 ⟨rfl, hb2⟩
          have HKn := hide ((unhide HK).later hb2)
          have HB2 := hide (tr2 (unhide HBA) hb2)
          have d0 : w2.cell? ⟨wr.heap.size, 0, none⟩ = some (.int .i64 2) := (unhide HKn).cell 0
          have d4 : w2.cell? ⟨wr.heap.size, 4, none⟩ = some (.string tx) := (unhide HKn).cell 4
          clear CO hb2
          go_wp2_with fail
          refine (unhide CF _).mono ?_
          rintro e w3 ⟨rfl, hw3⟩
          obtain rfl : w2 = w3 := hw3.symm
          clear CF d0 d4 hw3
          have hA1 := (Below.refl w2.heap.size w2).alloc (Nat.le_refl _) (Obj.cells #[.string (A0 ++ Y)] 9)
          have hr1 := ownsRow_below' (ownsRow_below' (unhide HR) (unhide HB2)) hA1
          obtain ⟨v5, w5, hrun5, hown5, hgr5⟩ : ∃ v5 w5, (Builtin.append_ #[26, 26] 26 #[.slice aV ys.length cV, .slice (some ⟨w2.heap.size, 0, none⟩) 1 1]).run Tryd.prog (w2.alloc (Obj.cells #[.string (A0 ++ Y)] 9)) = .ok v5 w5 ∧ w5.ownsRow w.heap.size 9 1 v5 (ys.length + 1) (ys.map Value.string ++ [.string (A0 ++ Y)]) ∧ (w2.alloc (Obj.cells #[.string (A0 ++ Y)] 9)).grownBy w5 (Value.slice aV ys.length cV).ownBlock := by
            obtain ⟨v4, w4, h1, h2, h3, _⟩ := run_append_own (P := Tryd.prog) (w2.alloc (Obj.cells #[.string (A0 ++ Y)] 9)) w.heap.size 26 26 9 i0 (.string ⟨#[]⟩) 1 16 Tryd.underlying26 hi0 hi1 hi2 hi3 rfl (by decide) (.slice aV ys.length cV) ys.length (ys.map Value.string) hr1 ⟨w2.heap.size, 0, none⟩ 1 1 [.string (A0 ++ Y)] rfl (fun j u hj => lit1 hj) (fun u hu => by simp at hu; rw [hu]; rfl) (by unfold maxLen; omega) (by omega) (by have h1 := (unhide HBW).size; have h2 := (unhide HB2).size; simp; omega)
            exact ⟨v4, w4, h1, h2, h3⟩
          have hb5 : Below w.heap.size w w5 := ((tr2 (tr2 (unhide HBW) (unhide HB2)) hA1)).grown hgr5 (tr2 (tr2 (unhide HBW) (unhide HB2)) hA1).size (fun k hk => (hr1.lt k hk).1)
          have K5 : Blk w5 wr.heap.size #[.int .i64 2, .int .i64 sp, .string n, .slice qa ats.length ca, .string tx, .slice qk kids.len ck] 47 := (hgr5.block wr.heap.size (by have h2 := (unhide HKn).lt; simp; omega) (fun e => by
            have h1 := (unhide HR).lt _ e.symm
            omega)).trans ((unhide HKn).alloc _)
          have d5 : w5.cell? ⟨wr.heap.size, 5, none⟩ = some (.slice qk kids.len ck) := K5.cell 5
          have C9 := hide (unhide CK w5 hb5)
          obtain ⟨a5, c5', hv5⟩ := slice_n hown5
          subst hv5
          have HO5 := hide (And.intro hown5 hb5)
          clear hA1 hr1 hown5 hgr5 hb5 K5 CK
          go_wp2_with (at_builtin; refine wpList_append_run _ rfl _ _ 26 26 rfl _ _ rfl rfl hrun5 ?_)
          clear hrun5
          refine (unhide C9).mono ?_
          rintro e w6 ⟨v6, rfl, hrow6, hb6⟩
          have hr6 := ownsRow_below' (unhide HO5).1 hb6
          obtain ⟨v7, w7, hrun7, hown7, hgr7⟩ := append_strs w6 w.heap.size w5.heap.size _ v6 (ys.length + 1) (ys.map Value.string ++ [.string (A0 ++ Y)]) (lnF kids (d + 1)) hr6 hrow6 (by have := unhide HKC; rw [lnF_len]; omega) (Nat.le_trans (unhide HO5).2.size hb6.size)
          have hb7 : Below w.heap.size w w7 := (tr2 (unhide HO5).2 hb6).grown hgr7 (tr2 (unhide HO5).2 hb6).size (fun k hk => (hr6.lt k hk).1)
          obtain ⟨a7, c7, hv7⟩ := slice_n hown7
          obtain ⟨a6, c6, hv6⟩ := slice_n hrow6
          subst hv7
          subst hv6
          have HO7 := hide (And.intro hown7 hb7)
          clear hr6 hown7 hgr7 hb7 hrow6 hb6 C9 d5
          go_wp2_with (at_builtin; refine wpList_append_run _ rfl _ _ 26 26 rfl _ _ rfl rfl hrun7 ?_)
          clear hrun7
          go_roundw
          case rel =>
            refine ⟨j + 1, ys ++ [L0] ++ lnF kids (d + 1), _, by omega, by go_num, rfl, by rw [← unhide HLN]; simp [List.append_assoc], ?_, (unhide HO7).2⟩
            have := (unhide HO7).1
            rw [unhide HX0] at this
            rw [List.length_append, List.length_append, List.map_append, List.map_append]
            exact this
          case measure => simp [intOf]; omega
        · subst h23
          subst hV
          go_wp2_with fail
          refine (unhide CO).mono ?_
          rintro e w2 ⟨rfl, hb2⟩
          have HKn := hide ((unhide HK).later hb2)
          have HB2 := hide (tr2 (unhide HBA) hb2)
          have d0 : w2.cell? ⟨wr.heap.size, 0, none⟩ = some (.int .i64 3) := (unhide HKn).cell 0
          have d4 : w2.cell? ⟨wr.heap.size, 4, none⟩ = some (.string tx) := (unhide HKn).cell 4
          clear CO hb2
          go_wp2_with fail
          refine (unhide CF _).mono ?_
          rintro e w3 ⟨rfl, hw3⟩
          obtain rfl : w2 = w3 := hw3.symm
          clear CF d0 d4 hw3
          have hA1 := (Below.refl w2.heap.size w2).alloc (Nat.le_refl _) (Obj.cells #[.string (A0 ++ Y)] 9)
          have hr1 := ownsRow_below' (ownsRow_below' (unhide HR) (unhide HB2)) hA1
          obtain ⟨v5, w5, hrun5, hown5, hgr5⟩ : ∃ v5 w5, (Builtin.append_ #[26, 26] 26 #[.slice aV ys.length cV, .slice (some ⟨w2.heap.size, 0, none⟩) 1 1]).run Tryd.prog (w2.alloc (Obj.cells #[.string (A0 ++ Y)] 9)) = .ok v5 w5 ∧ w5.ownsRow w.heap.size 9 1 v5 (ys.length + 1) (ys.map Value.string ++ [.string (A0 ++ Y)]) ∧ (w2.alloc (Obj.cells #[.string (A0 ++ Y)] 9)).grownBy w5 (Value.slice aV ys.length cV).ownBlock := by
            obtain ⟨v4, w4, h1, h2, h3, _⟩ := run_append_own (P := Tryd.prog) (w2.alloc (Obj.cells #[.string (A0 ++ Y)] 9)) w.heap.size 26 26 9 i0 (.string ⟨#[]⟩) 1 16 Tryd.underlying26 hi0 hi1 hi2 hi3 rfl (by decide) (.slice aV ys.length cV) ys.length (ys.map Value.string) hr1 ⟨w2.heap.size, 0, none⟩ 1 1 [.string (A0 ++ Y)] rfl (fun j u hj => lit1 hj) (fun u hu => by simp at hu; rw [hu]; rfl) (by unfold maxLen; omega) (by omega) (by have h1 := (unhide HBW).size; have h2 := (unhide HB2).size; simp; omega)
            exact ⟨v4, w4, h1, h2, h3⟩
          have hb5 : Below w.heap.size w w5 := ((tr2 (tr2 (unhide HBW) (unhide HB2)) hA1)).grown hgr5 (tr2 (tr2 (unhide HBW) (unhide HB2)) hA1).size (fun k hk => (hr1.lt k hk).1)
          have K5 : Blk w5 wr.heap.size #[.int .i64 3, .int .i64 sp, .string n, .slice qa ats.length ca, .string tx, .slice qk kids.len ck] 47 := (hgr5.block wr.heap.size (by have h2 := (unhide HKn).lt; simp; omega) (fun e => by
            have h1 := (unhide HR).lt _ e.symm
            omega)).trans ((unhide HKn).alloc _)
          have d5 : w5.cell? ⟨wr.heap.size, 5, none⟩ = some (.slice qk kids.len ck) := K5.cell 5
          have C9 := hide (unhide CK w5 hb5)
          obtain ⟨a5, c5', hv5⟩ := slice_n hown5
          subst hv5
          have HO5 := hide (And.intro hown5 hb5)
          clear hA1 hr1 hown5 hgr5 hb5 K5 CK
          go_wp2_with (at_builtin; refine wpList_append_run _ rfl _ _ 26 26 rfl _ _ rfl rfl hrun5 ?_)
          clear hrun5
          refine (unhide C9).mono ?_
          rintro e w6 ⟨v6, rfl, hrow6, hb6⟩
          have hr6 := ownsRow_below' (unhide HO5).1 hb6
          obtain ⟨v7, w7, hrun7, hown7, hgr7⟩ := append_strs w6 w.heap.size w5.heap.size _ v6 (ys.length + 1) (ys.map Value.string ++ [.string (A0 ++ Y)]) (lnF kids (d + 1)) hr6 hrow6 (by have := unhide HKC; rw [lnF_len]; omega) (Nat.le_trans (unhide HO5).2.size hb6.size)
          have hb7 : Below w.heap.size w w7 := (tr2 (unhide HO5).2 hb6).grown hgr7 (tr2 (unhide HO5).2 hb6).size (fun k hk => (hr6.lt k hk).1)
          obtain ⟨a7, c7, hv7⟩ := slice_n hown7
          obtain ⟨a6, c6, hv6⟩ := slice_n hrow6
          subst hv7
          subst hv6
          have HO7 := hide (And.intro hown7 hb7)
          clear hr6 hown7 hgr7 hb7 hrow6 hb6 C9 d5
          go_wp2_with (at_builtin; refine wpList_append_run _ rfl _ _ 26 26 rfl _ _ rfl rfl hrun7 ?_)
          clear hrun7
          go_roundw
          case rel =>
            refine ⟨j + 1, ys ++ [L0] ++ lnF kids (d + 1), _, by omega, by go_num, rfl, by rw [← unhide HLN]; simp [List.append_assoc], ?_, (unhide HO7).2⟩
            have := (unhide HO7).1
            rw [unhide HX0] at this
            rw [List.length_append, List.length_append, List.map_append, List.map_append]
            exact this
          case measure => simp [intOf]; omega
      · have HX0 : Hid (A0 ++ bs (opL k n.data.toList ats) = bs (spL d ++ lnL k n.data.toList ats tx.data.toList)) := hide (by rw [unhide HLD, if_neg h23]; exact unhide HSB _)
        have e2 : (k == 2) = false := beq_eq_false_iff_ne.2 (fun h => h23 (Or.inl h))
        have e3 : (k == 3) = false := beq_eq_false_iff_ne.2 (fun h => h23 (Or.inr h))
        clear HLD HSB h23 CF
        generalize bs (spL d ++ lnL k n.data.toList ats tx.data.toList) = L0 at *
        generalize bs (opL k n.data.toList ats) = O at *
        subst hV
        go_wp2_with fail
        refine (unhide CO).mono ?_
        rintro e w2 ⟨rfl, hb2⟩
        have HKn := hide ((unhide HK).later hb2)
        have HB2 := hide (tr2 (unhide HBA) hb2)
        have d0 : w2.cell? ⟨wr.heap.size, 0, none⟩ = some (.int .i64 k) := (unhide HKn).cell 0
        clear CO hb2
        have hA1 := (Below.refl w2.heap.size w2).alloc (Nat.le_refl _) (Obj.cells #[.string (A0 ++ O)] 9)
        have hr1 := ownsRow_below' (ownsRow_below' (unhide HR) (unhide HB2)) hA1
        obtain ⟨v5, w5, hrun5, hown5, hgr5⟩ : ∃ v5 w5, (Builtin.append_ #[26, 26] 26 #[.slice aV ys.length cV, .slice (some ⟨w2.heap.size, 0, none⟩) 1 1]).run Tryd.prog (w2.alloc (Obj.cells #[.string (A0 ++ O)] 9)) = .ok v5 w5 ∧ w5.ownsRow w.heap.size 9 1 v5 (ys.length + 1) (ys.map Value.string ++ [.string (A0 ++ O)]) ∧ (w2.alloc (Obj.cells #[.string (A0 ++ O)] 9)).grownBy w5 (Value.slice aV ys.length cV).ownBlock := by
          obtain ⟨v4, w4, h1, h2, h3, _⟩ := run_append_own (P := Tryd.prog) (w2.alloc (Obj.cells #[.string (A0 ++ O)] 9)) w.heap.size 26 26 9 i0 (.string ⟨#[]⟩) 1 16 Tryd.underlying26 hi0 hi1 hi2 hi3 rfl (by decide) (.slice aV ys.length cV) ys.length (ys.map Value.string) hr1 ⟨w2.heap.size, 0, none⟩ 1 1 [.string (A0 ++ O)] rfl (fun j u hj => lit1 hj) (fun u hu => by simp at hu; rw [hu]; rfl) (by unfold maxLen; omega) (by omega) (by have h1 := (unhide HBW).size; have h2 := (unhide HB2).size; simp; omega)
          exact ⟨v4, w4, h1, h2, h3⟩
        have hb5 : Below w.heap.size w w5 := ((tr2 (tr2 (unhide HBW) (unhide HB2)) hA1)).grown hgr5 (tr2 (tr2 (unhide HBW) (unhide HB2)) hA1).size (fun k hk => (hr1.lt k hk).1)
        have K5 : Blk w5 wr.heap.size #[.int .i64 k, .int .i64 sp, .string n, .slice qa ats.length ca, .string tx, .slice qk kids.len ck] 47 := (hgr5.block wr.heap.size (by have h2 := (unhide HKn).lt; simp; omega) (fun e => by
          have h1 := (unhide HR).lt _ e.symm
          omega)).trans ((unhide HKn).alloc _)
        have d5 : w5.cell? ⟨wr.heap.size, 5, none⟩ = some (.slice qk kids.len ck) := K5.cell 5
        have C9 := hide (unhide CK w5 hb5)
        obtain ⟨a5, c5', hv5⟩ := slice_n hown5
        subst hv5
        have HO5 := hide (And.intro hown5 hb5)
        clear hA1 hr1 hown5 hgr5 hb5 K5 CK
        go_wp2_with (at_builtin; refine wpList_append_run _ rfl _ _ 26 26 rfl _ _ rfl rfl hrun5 ?_)
        clear hrun5
        refine (unhide C9).mono ?_
        rintro e w6 ⟨v6, rfl, hrow6, hb6⟩
        have hr6 := ownsRow_below' (unhide HO5).1 hb6
        obtain ⟨v7, w7, hrun7, hown7, hgr7⟩ := append_strs w6 w.heap.size w5.heap.size _ v6 (ys.length + 1) (ys.map Value.string ++ [.string (A0 ++ O)]) (lnF kids (d + 1)) hr6 hrow6 (by have := unhide HKC; rw [lnF_len]; omega) (Nat.le_trans (unhide HO5).2.size hb6.size)
        have hb7 : Below w.heap.size w w7 := (tr2 (unhide HO5).2 hb6).grown hgr7 (tr2 (unhide HO5).2 hb6).size (fun k hk => (hr6.lt k hk).1)
        obtain ⟨a7, c7, hv7⟩ := slice_n hown7
        obtain ⟨a6, c6, hv6⟩ := slice_n hrow6
        subst hv7
        subst hv6
        have HO7 := hide (And.intro hown7 hb7)
        clear hr6 hown7 hgr7 hb7 hrow6 hb6 C9 d5
        go_wp2_with (at_builtin; refine wpList_append_run _ rfl _ _ 26 26 rfl _ _ rfl rfl hrun7 ?_)
        clear hrun7
        go_roundw
        case rel =>
          refine ⟨j + 1, ys ++ [L0] ++ lnF kids (d + 1), _, by omega, by go_num, rfl, by rw [← unhide HLN]; simp [List.append_assoc], ?_, (unhide HO7).2⟩
          have := (unhide HO7).1
          rw [unhide HX0] at this
          rw [List.length_append, List.length_append, List.map_append, List.map_append]
          exact this
        case measure => simp [intOf]; omega
    · have hpi : ¬ (j : Int) < (f.len : Int) := by omega
      rw [f.drop_out j (by omega)] at hys
      have HF : Hid (ys = lnF f d) := hide (by rw [← hys]; simp [lnF])
      have HX := hide (And.intro hrow hbw)
      clear hp hys hrow hbw hyl
      subst hV
      go_wp2
      go_ret
      refine ⟨_, rfl, ?_, (unhide HX).2⟩
      rw [← unhide HF]; exact (unhide HX).1
theorem rlines_any : ∀ (m : Nat) (f : Forest), f.count ≤ m → m ≤ 1000 → SmF f → ∀ (d : Nat) (q : Option Addr) (cap : Nat) (w : World), d + m ≤ 1000 → Fo q f w → Calls Tryd.prog 17 #[.slice q f.len cap, .string (bs (spL d))] w fun e w' => ∃ v, e = .returned v ∧ w'.ownsRow w.heap.size 9 1 v (lnF f d).length ((lnF f d).map Value.string) ∧ Below w.heap.size w w'
  | m, f, hm, hM, hsm, d, q, cap, w, hd, h => by
    rcases h with rfl | ⟨g, o, rfl, hl⟩
    · refine (rlines_none q cap _ w).mono ?_
      rintro e w' ⟨rfl, rfl⟩
      exact ⟨_, rfl, World.ownsRow_nil _ _ _ _, Below.refl _ _⟩
    · refine rlines_some f g o cap d w hl hsm (by omega) (by omega) (fun j k sp n ats tx kids hdr q cap W hf => ?_)
      have h1 : (f.drop j).count ≤ f.count := f.count_drop j
      have hs := sm_drop' j f hsm
      rw [hdr] at h1 hs
      have h2 : 1 + kids.count + (f.drop (j + 1)).count ≤ f.count := h1
      match m, hm with
      | 0, hm => omega
      | m + 1, hm => exact rlines_any m kids (by omega) (by omega) hs.2.1 (d + 1) q cap W (by omega) hf
end Go.Proofs.YtfbgpodcdgmpjaaDoor
