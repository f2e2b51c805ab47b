/-
  What the reference's Way does.
-/
import Derived.Test.YtemccomnhjhjeaaDoorMgAF
namespace Go.Proofs.YtemccomnhjhjeaaDoor
open Go.RowKit Go.Maps
set_option linter.unusedVariables false
set_option linter.unusedSimpArgs false

theorem wayF_ne : ∀ (f : Forest) (i : Nat) (num : Int), 0 ≤ num → num < (f.count : Int) → wayF f i num ≠ []
  | .nil, i, num, h0, h1 => by simp [Forest.count] at h1; omega
  | .cons _ _ _ _ _ kids rest, i, num, h0, h1 => by
    simp only [Forest.count] at h1
    simp only [wayF]
    split
    · simp
    · split
      · simp
      · exact wayF_ne rest _ _ (by omega) (by omega)
theorem ints_map {q : Option Addr} {n : Nat} {zs : List Int} {w : World} (h : IntsV q n zs w) (h0 : zs ≠ []) : ∃ g o, q = some ⟨g, o, none⟩ ∧ ∀ j u, (zs.map (Value.int .i64))[j]? = some u → w.cell? ((⟨g, o, none⟩ : Addr).add j) = some u := by
  obtain ⟨h1, h2⟩ := h
  have hp : 0 < n := by rw [h1]; exact List.length_pos_iff.2 h0
  obtain ⟨g, o, hq, hc⟩ := h2 hp
  refine ⟨g, o, hq, fun j u hu => ?_⟩
  have e : (⟨g, o, none⟩ : Addr).add j = ⟨g, o + j, none⟩ := by unfold Addr.add; split <;> simp_all
  rw [List.getElem?_map] at hu
  have hj : j < zs.length := by
    rcases Nat.lt_or_ge j zs.length with h | h
    · exact h
    · rw [List.getElem?_eq_none h] at hu; cases hu
  rw [List.getElem?_eq_getElem hj] at hu
  simp at hu
  rw [e, hc j (by omega), ← hu]
  simp [List.getD, hj]
def RWySaid (w : World) (zs : List Int) (e : Ending) (w' : World) : Prop := ∃ q' n' c', e = .returned (.slice q' n' c') ∧ n' ≤ c' ∧ IntsV q' n' zs w' ∧ Below w.heap.size w w'
set_option maxHeartbeats 2000000 in
theorem rway_none (q : Option Addr) (cap : Nat) (num : Int) (w : World) : Calls Tryd.prog 12 #[.slice q 0 cap, .int .i64 num] w fun e w' => RWySaid w [] e w' := by
  go_enter Tryd.func12, Tryd.ntmps12
  go_wp2
  refine wp_loop_rounds 1 ?_
  rw [rounds_succ]; go_wp2
  go_ret
  exact ⟨none, 0, 0, rfl, Nat.le_refl _, IntsV.nil _ _, Below.refl _ _⟩
set_option maxHeartbeats 8000000 in
set_option maxRecDepth 100000 in
theorem rway_some (f : Forest) (g o cap : Nat) (num : Int) (w : World) (hl : Lies f g o w) (hc : f.count ≤ 500000) (hn0 : 0 ≤ num) (hn1 : num ≤ 1000000)
    (ih : ∀ j k sp n ats tx kids, f.drop j = .cons k sp n ats tx kids (f.drop (j + 1)) → ∀ q cap num w, 0 ≤ num → num ≤ 1000000 → Fo q kids w → Calls Tryd.prog 12 #[.slice q kids.len cap, .int .i64 num] w fun e w' => RWySaid w (wayF kids 0 num) e w') :
    Calls Tryd.prog 12 #[.slice (some ⟨g, o, none⟩) f.len cap, .int .i64 num] w fun e w' => RWySaid w (wayF f 0 num) e w' := by
  obtain ⟨i0, hi0, hi1, hi2, hi3⟩ := infoInt
  have HL := hide hl
  have IH := hide ih
  have hlc := f.len_count
  obtain ⟨WF, hWF⟩ : ∃ WF, wayF f 0 num = WF := ⟨_, rfl⟩
  have hwl := wayF_len f 0 num
  rw [hWF] at hwl
  rw [hWF]
  have HWF := hide hWF
  clear hl ih hWF
  go_enter Tryd.func12, Tryd.ntmps12
  go_wp2
  go_loopw [5, 12] (fun a b wr => ∃ j c : Nat, j ≤ f.len ∧ b = .int .i64 j ∧ a = .int .i64 c ∧ c + (f.drop j).count = f.count ∧ (c : Int) ≤ num ∧ Hid (wayF (f.drop j) j (num - (c : Int)) = WF) ∧ Below w.heap.size w wr) (fun _ b _ => f.len - (intOf b).toNat)
  case atStart => exact ⟨0, 0, Nat.zero_le _, rfl, rfl, by rw [Forest.drop_zero]; omega, hn0, by rw [Forest.drop_zero]; show Hid (wayF f 0 (num - 0) = WF); rw [Int.sub_zero]; exact HWF, Below.refl _ _⟩
  case round =>
    obtain ⟨j, c, hj, rfl, rfl, hsum, hcn, HS, hbw⟩ := hrel
    by_cases hp : j < f.len
    · have hpi : (j : Int) < (f.len : Int) := by omega
      obtain ⟨k, sp, n, ats, tx, kids, hd⟩ := f.drop_cons j hp
      have hlj := (unhide HL).drop j
      have hlw := hlj.below hbw
      rw [hd] at hlw hsum
      have HS2 := hide (unhide HS)
      rw [hd] at HS2
      obtain ⟨⟨c0, c1, c2, ⟨qa, ca, c3, hsl⟩, c4, ⟨qk, ck, c5, hck, hfo⟩⟩, _⟩ := hlw
      have hsum' : c + (1 + kids.count + (f.drop (j + 1)).count) = f.count := hsum
      have hbA := (Below.refl wr.heap.size wr).alloc (Nat.le_refl _) (Obj.cells #[.int .i64 k, .int .i64 sp, .string n, .slice qa ats.length ca, .string tx, .slice qk kids.len ck] 34)
      have hkb := Blk.new wr #[.int .i64 k, .int .i64 sp, .string n, .slice qa ats.length ca, .string tx, .slice qk kids.len ck] 34
      have hF := ((show Fo qk kids wr from hfo).below hbA)
      have CK := hide (rcount_any kids.count kids (Nat.le_refl _) (by omega) qk ck _ hF)
      have CI := hide (fun W (hW : Below (wr.alloc (Obj.cells #[.int .i64 k, .int .i64 sp, .string n, .slice qa ats.length ca, .string tx, .slice qk kids.len ck] 34)).heap.size (wr.alloc (Obj.cells #[.int .i64 k, .int .i64 sp, .string n, .slice qa ats.length ca, .string tx, .slice qk kids.len ck] 34)) W) x h0 h1 => unhide IH j k sp n ats tx kids hd qk ck x W h0 h1 (hF.below hW))
      have HB := hide (tr2 hbw hbA)
      have hkl := kids.len_count
      have HNE := hide (fun x (h0 : 0 ≤ x) (h1 : x < (kids.count : Int)) => wayF_ne kids 0 x h0 h1)
      have HSP : Hid ((num = (c : Int) → [(j : Int)] = WF) ∧ ((c : Int) < num → num < (c : Int) + (1 + (kids.count : Int)) → (j : Int) :: wayF kids 0 (num - (c : Int) - 1) = WF) ∧ ((c : Int) + (1 + (kids.count : Int)) ≤ num → wayF (f.drop (j + 1)) (j + 1) (num - ((c : Int) + (1 + (kids.count : Int)))) = WF)) := hide (by
        have h := unhide HS2
        simp only [wayF] at h
        refine ⟨fun e => ?_, fun e1 e2 => ?_, fun e => ?_⟩
        · rw [if_pos (by omega)] at h; exact h
        · rw [if_neg (by omega), if_pos (by omega)] at h; exact h
        · rw [if_neg (by omega), if_neg (by omega)] at h
          rw [← h]; congr 1; omega)
      have hz := hbw.size
      have HKB := hide hkb
      generalize kids.len = kl at *
      generalize kids.count = kc at *
      have HS' := hide hsum'
      have b1 : (c : Int) + 1 + (kc : Int) ≤ 500000 := by omega
      have b0 : (0 : Int) ≤ (kc : Int) := by omega
      have b2 : (0 : Int) ≤ (c : Int) := by omega
      clear hlj hsl hfo hd hsum hsum' hbA hbw hF hkb hkl HS HS2 IH HL
      by_cases e1 : num = (c : Int)
      · subst e1
        have HW := hide ((unhide HSP).1 rfl)
        clear HSP CI HNE
        go_wp2_with fail
        refine (unhide CK).mono ?_
        rintro e w1 ⟨rfl, hb1⟩
        have HB1 := hide (tr2 (unhide HB) hb1)
        clear hb1 CK
        go_wp2
        go_ret
        refine ⟨some ⟨w1.heap.size, 0, none⟩, 1, 1, rfl, Nat.le_refl _, ?_, (unhide HB1).alloc (unhide HB1).size _⟩
        rw [← unhide HW]
        refine ⟨rfl, fun _ => ⟨_, 0, rfl, fun i hi => ?_⟩⟩
        obtain rfl : i = 0 := by omega
        exact (Blk.new w1 _ _).cell 0
      · have f1 : (num == (c : Int)) = false := beq_eq_false_iff_ne.2 e1
        have f2 : decide ((c : Int) < num) = true := decide_eq_true (by omega)
        by_cases e2 : num < (c : Int) + (1 + (kc : Int))
        · have f3 : decide (num < (c : Int) + (1 + (kc : Int))) = true := decide_eq_true e2
          have HW := hide ((unhide HSP).2.1 (by omega) e2)
          have hne := unhide HNE (num - (c : Int) - 1) (by omega) (by omega)
          have HNN := hide hne
          have hwk : ((j : Int) :: wayF kids 0 (num - (c : Int) - 1)).length ≤ 500000 := by rw [unhide HW]; omega
          rw [List.length_cons] at hwk
          have CI2 := hide (fun W hW => unhide CI W hW (num - (c : Int) - 1) (by omega) (by omega))
          generalize wayF kids 0 (num - (c : Int) - 1) = WK at *
          clear HSP CI HNE hne
          go_wp2_with fail
          refine (unhide CK).mono ?_
          rintro e w1 ⟨rfl, hb1⟩
          have HB1 := hide (tr2 (unhide HB) hb1)
          have hz1 := hb1.size
          have k7 := (unhide HKB).later hb1
          have d5 : w1.cell? ⟨wr.heap.size, 5, none⟩ = some (.slice qk kl ck) := k7.cell 5
          have d5' : (w1.alloc (Obj.cells #[.int .i64 (j : Int)] 3)).cell? ⟨wr.heap.size, 5, none⟩ = some (.slice qk kl ck) := (k7.alloc _).cell 5
          have CI1 := hide (unhide CI2 _ (hb1.alloc hb1.size (Obj.cells #[.int .i64 (j : Int)] 3)))
          have R0 : Hid ((w1.alloc (Obj.cells #[.int .i64 (j : Int)] 3)).ownsRow w1.heap.size 3 1 (.slice (some ⟨w1.heap.size, 0, none⟩) 1 1) 1 [.int .i64 (j : Int)]) := hide ⟨rfl, Or.inr ⟨w1.heap.size, 1, #[.int .i64 (j : Int)], rfl, Nat.le_refl _, Blk.new w1 _ _, Nat.le_refl _, by unfold maxLen; omega, rfl, rfl⟩⟩
          clear hb1 CK CI2 k7
          go_wp2_with fail
          refine (unhide CI1).mono ?_
          rintro e w3 ⟨q', n', c', rfl, hnc, hiv, hb3⟩
          obtain ⟨g', o', hq', hcl⟩ := ints_map hiv (unhide HNN)
          subst hq'
          have HNL := hide hiv.1
          have hnn : n' ≤ 500000 := by have := hiv.1; omega
          have R3 := hide (ownsRow_below (unhide R0) hb3)
          have HB3 := hide (((unhide HB1).alloc (unhide HB1).size (Obj.cells #[.int .i64 (j : Int)] 3)).trans (hb3.mono (by have := (unhide HB1).size; simp; omega)))
          have HCL := hide hcl
          have hz3 := hb3.size
          clear hiv hb3 CI1 R0 d5 d5' hcl hnc
          go_wp2_with (at_builtin; refine wpList_append_own_at _ rfl _ _ 30 rfl w1.heap.size 3 i0 (.int .i64 0) 1 8 Tryd.underlying30 hi0 hi1 hi2 hi3 rfl (by decide) (.slice (some ⟨w1.heap.size, 0, none⟩) 1 1) _ _ rfl (unhide R3) ⟨g', o', none⟩ n' c' (WK.map (Value.int .i64)) rfl ?c0 ?c1 ?c2 ?c3 ?c4 ?c5 ?_)
          case c0 => rw [List.length_map, unhide HNL, Nat.mul_one]
          case c1 => exact unhide HCL
          case c2 => intro u hu; rw [List.mem_map] at hu; obtain ⟨x, _, rfl⟩ := hu; rfl
          case c3 => simp only [maxLen]; omega
          case c4 => omega
          case c5 => simp at hz3; omega
          intro u' w4 hown hgr _ _
          have HG := hide ((unhide HB3).grown hgr (unhide HB3).size (fun k hk => by have := (unhide R3).lt k hk; have := (unhide HB1).size; omega))
          obtain ⟨q4, c4, rfl, hl4, hc4, hi4⟩ := ints_of_row (zs := (j : Int) :: WK) hown
          rw [unhide HW] at hi4
          have HI4 := hide hi4
          clear hown hgr hi4 hl4
          go_wp2
          go_ret
          exact ⟨q4, _, c4, rfl, hc4, unhide HI4, unhide HG⟩
        · have f3 : decide (num < (c : Int) + (1 + (kc : Int))) = false := decide_eq_false e2
          have HW := hide ((unhide HSP).2.2 (by omega))
          clear HSP CI HNE
          go_wp2_with fail
          refine (unhide CK).mono ?_
          rintro e w1 ⟨rfl, hb1⟩
          have HB1 := hide (tr2 (unhide HB) hb1)
          clear hb1 CK
          go_wp2
          go_roundw
          case rel => exact ⟨j + 1, c + (1 + kc), by omega, by go_num, by first | rfl | (congr 1) | skip, by have := unhide HS'; omega, by omega, unhide HW, unhide HB1⟩
          case measure => simp [intOf]; omega
    · have hpi : ¬ (j : Int) < (f.len : Int) := by omega
      have HX := hide hbw
      have HW : Hid (WF = []) := hide (by rw [← unhide HS, f.drop_out j (by omega)]; rfl)
      clear hp hsum hbw HS
      go_wp2
      go_ret
      exact ⟨none, 0, 0, rfl, Nat.le_refl _, by rw [unhide HW]; exact IntsV.nil _ _, unhide HX⟩
theorem rway_any : ∀ (m : Nat) (f : Forest), f.count ≤ m → m ≤ 500000 → ∀ (q : Option Addr) (cap : Nat) (num : Int) (w : World), 0 ≤ num → num ≤ 1000000 → Fo q f w → Calls Tryd.prog 12 #[.slice q f.len cap, .int .i64 num] w fun e w' => RWySaid w (wayF f 0 num) e w'
  | m, f, hm, hM, q, cap, num, w, h0, h1, h => by
    rcases h with rfl | ⟨g, o, rfl, hl⟩
    · exact rway_none q cap num w
    · refine rway_some f g o cap num w hl (by omega) h0 h1 (fun j k sp n ats tx kids hd q cap num w h0 h1 hf => ?_)
      have h1' : (f.drop j).count ≤ f.count := f.count_drop j
      rw [hd] at h1'
      have h2 : 1 + kids.count + (f.drop (j + 1)).count ≤ f.count := h1'
      match m, hm with
      | 0, hm => omega
      | m + 1, hm => exact rway_any m kids (by omega) (by omega) q cap num w h0 h1 hf
end Go.Proofs.YtemccomnhjhjeaaDoor
