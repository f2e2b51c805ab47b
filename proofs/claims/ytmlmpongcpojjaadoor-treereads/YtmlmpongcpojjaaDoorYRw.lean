/-
  The reference's 'Words' of nodes is all their texts, one behind the other: what 'tree.Words' is.
-/
import Derived.Test.YtmlmpongcpojjaaDoorYWw
namespace Go.Proofs.YtmlmpongcpojjaaDoor
open Go.RowKit
set_option linter.unusedVariables false

theorem rwords_none (q : Option Addr) (cap : Nat) (w : World) : Calls Tryd.prog 18 #[.slice q 0 cap] w fun e w' => e = .returned (.string (bs [])) ∧ Below w.heap.size w w' := by
  go_enter Tryd.func18, Tryd.ntmps18
  go_wp2
  refine wp_loop_rounds 1 ?_
  rw [rounds_succ]; go_wp2
  go_ret
  exact ⟨rfl, Below.refl _ _⟩
set_option maxHeartbeats 4000000 in
theorem rwords_some (f : Forest) (g o cap : Nat) (w : World) (hl : Lies f g o w) (hc : f.count ≤ 1000000) (hw : (woF f).length ≤ 10000000000)
    (ih : ∀ j k sp n ats tx kids, f.drop j = .cons k sp n ats tx kids (f.drop (j + 1)) → (woF kids).length ≤ 10000000000 → ∀ q cap w, Fo q kids w → Calls Tryd.prog 18 #[.slice q kids.len cap] w fun e w' => e = .returned (.string (bs (woF kids))) ∧ Below w.heap.size w w') :
    Calls Tryd.prog 18 #[.slice (some ⟨g, o, none⟩) f.len cap] w fun e w' => e = .returned (.string (bs (woF f))) ∧ Below w.heap.size w w' := by
  have HL := hide hl
  have IH := hide ih
  have hlc := f.len_count
  clear hl ih
  go_enter Tryd.func18, Tryd.ntmps18
  go_wp2
  go_loopw [3, 8] (fun a b wr => ∃ (j : Nat) (c : List UInt8), j ≤ f.len ∧ b = .int .i64 j ∧ a = .string (bs c) ∧ c ++ woF (f.drop j) = woF f ∧ Below w.heap.size w wr) (fun _ b _ => f.len - (intOf b).toNat)
  case atStart => exact ⟨0, [], Nat.zero_le _, rfl, rfl, by rw [Forest.drop_zero]; rfl, Below.refl _ _⟩
  case round =>
    obtain ⟨j, c, hj, rfl, rfl, hsum, hbw⟩ := hrel
    by_cases hp : j < f.len
    · have hpi : (j : Int) < (f.len : Int) := by omega
      obtain ⟨k, sp, n, ats, tx, kids, hd⟩ := f.drop_cons j hp
      have hlj := (unhide HL).drop j
      have hlw := hlj.below hbw
      rw [hd] at hlw hsum
      obtain ⟨⟨c0, c1, c2, ⟨qa, ca, c3, hsl⟩, c4, ⟨qk, ck, c5, hck, hfo⟩⟩, _⟩ := hlw
      have hsum' : c ++ ((if k = 2 then tx.data.toList else []) ++ (woF kids ++ woF (f.drop (j + 1)))) = woF f := hsum
      have hlen := congrArg List.length hsum'
      simp only [List.length_append] at hlen
      have hkl : (woF kids).length ≤ 10000000000 := by omega
      have CK := hide (fun w h => unhide IH j k sp n ats tx kids hd hkl qk ck w h)
      have hbA := (Below.refl wr.heap.size wr).alloc (Nat.le_refl _) (Obj.cells #[.int .i64 k, .int .i64 sp, .string n, .slice qa ats.length ca, .string tx, .slice qk kids.len ck] 49)
      have HF := hide ((show Fo qk kids wr from hfo).below hbA)
      have HB := hide (tr2 hbw hbA)
      generalize kids.len = kl at *
      generalize woF kids = kw at *
      have h4 : tx.data.toList.length = tx.size := by rw [Array.length_toList]; rfl
      by_cases h2 : k = 2
      · subst h2
        rw [if_pos rfl] at hsum' hlen
        have b1 : (bs c).size + tx.size ≤ 10000000000 := by rw [bs_size]; omega
        have b2 : (bs c ++ tx).size + (bs kw).size ≤ 10000000000 := by rw [ByteArray.size_append, bs_size, bs_size]; omega
        have HE : Hid (bs c ++ tx ++ bs kw = bs (c ++ (tx.data.toList ++ kw))) := hide (by rw [bs_add, bs_bs, List.append_assoc])
        have HS : Hid ((c ++ (tx.data.toList ++ kw)) ++ woF (f.drop (j + 1)) = woF f) := hide (by rw [← hsum']; simp only [List.append_assoc])
        generalize bs c = x at *
        generalize bs kw = y at *
        clear hlj hsl hfo hd hsum hsum' hlen hbA hbw h4 hkl
        go_wp2_with fail
        refine (unhide CK _ (unhide HF)).mono ?_
        rintro e w1 ⟨rfl, hb1⟩
        have HB1 := hide (tr2 (unhide HB) hb1)
        clear hb1 HF
        go_wp2
        go_roundw
        case rel => exact ⟨j + 1, c ++ (tx.data.toList ++ kw), by omega, by go_num, by rw [← unhide HE], unhide HS, unhide HB1⟩
        case measure => simp [intOf]; omega
      · rw [if_neg h2] at hsum' hlen
        have b2 : (bs c).size + (bs kw).size ≤ 10000000000 := by rw [bs_size, bs_size]; omega
        have HE : Hid (bs c ++ bs kw = bs (c ++ kw)) := hide (by rw [bs_bs])
        have HS : Hid ((c ++ kw) ++ woF (f.drop (j + 1)) = woF f) := hide (by rw [← hsum']; simp only [List.nil_append, List.append_assoc])
        generalize bs c = x at *
        generalize bs kw = y at *
        clear hlj hsl hfo hd hsum hsum' hlen hbA hbw h4 hkl
        go_wp2_with fail
        refine (unhide CK _ (unhide HF)).mono ?_
        rintro e w1 ⟨rfl, hb1⟩
        have HB1 := hide (tr2 (unhide HB) hb1)
        clear hb1 HF
        go_wp2
        go_roundw
        case rel => exact ⟨j + 1, c ++ kw, by omega, by go_num, by rw [← unhide HE], unhide HS, unhide HB1⟩
        case measure => simp [intOf]; omega
    · have hpi : ¬ (j : Int) < (f.len : Int) := by omega
      rw [f.drop_out j (by omega)] at hsum
      have HS : Hid (c = woF f) := hide (by rw [← hsum]; show c = c ++ []; simp)
      clear hp hsum
      go_wp2
      go_ret
      exact ⟨by rw [← unhide HS]; rfl, hbw⟩
theorem rwords_any : ∀ (m : Nat) (f : Forest), f.count ≤ m → m ≤ 1000000 → (woF f).length ≤ 10000000000 → ∀ (q : Option Addr) (cap : Nat) (w : World), Fo q f w → Calls Tryd.prog 18 #[.slice q f.len cap] w fun e w' => e = .returned (.string (bs (woF f))) ∧ Below w.heap.size w w'
  | m, f, hm, hM, hw, q, cap, w, h => by
    rcases h with rfl | ⟨g, o, rfl, hl⟩
    · exact rwords_none q cap w
    · refine rwords_some f g o cap w hl (by omega) hw (fun j k sp n ats tx kids hd hwk q cap w hf => ?_)
      have h1 : (f.drop j).count ≤ f.count := f.count_drop j
      rw [hd] at h1
      have h2 : 1 + kids.count + (f.drop (j + 1)).count ≤ f.count := h1
      match m, hm with
      | 0, hm => omega
      | m + 1, hm => exact rwords_any m kids (by omega) (by omega) hwk q cap w hf
end Go.Proofs.YtmlmpongcpojjaaDoor
