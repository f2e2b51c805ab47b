/-
  The law RefsBack walked: what was escaped is, all of it, what it was, if it was right.
-/
import Derived.Test.YtmiehnknnkcdlaaDoorEBk
import Derived.Test.YtmiehnknnkcdlaaDoorEEs
import Derived.Test.YtmiehnknnkcdlaaDoorEAl
import Derived.Test.YtmiehnknnkcdlaaDoorUCln
namespace Go.Proofs.YtmiehnknnkcdlaaDoor
open Go.RowKit
set_option linter.unusedVariables false

set_option maxHeartbeats 4000000 in
theorem refsBack_walk (s : ByteArray) (v : Bool) (w : World) (ht : Tab4 w) (hs : s.size ≤ 9223372036854775807) :
    Calls Tryd.prog 7 #[.string s, .bool v] w fun e w' => e = .returned (.bool true) ∧ Below w.heap.size w w' := by
  have HT := hide ht
  have E := hide notin_any
  clear ht
  by_cases h1 : 2000 < s.size
  · have hi : (2000 : Int) < (s.size : Int) := by omega
    go_enter Tryd.func7, Tryd.ntmps7
    go_wp2_with fail
    refine (unhide E _ (unhide HT)).mono ?_
    rintro e w2 ⟨rfl, hb2⟩
    go_wp2
    go_ret
    exact ⟨rfl, hb2⟩
  have hi : ¬ (2000 : Int) < (s.size : Int) := by omega
  have hel := esc_len v s.data.toList false
  have hel' : (escL v s.data.toList).length ≤ 6 * s.size := by rw [data_len] at hel; exact hel
  rw [← bs_size] at hel'
  have C1 := hide (fun w h => escape_any s v w h (by omega))
  have C2 := hide (fun w h => clean_any s w h (by omega))
  have C3 := hide (fun w h => right_any s w h hs)
  have C4 := hide (fun w h => all_any (bs (escL v s.data.toList)) v w h (by omega))
  have hae : bs (allL v (bs (escL v s.data.toList)).data.toList) = bs (cleanL s.data.toList) := by rw [bs_toList, all_esc v _ _ (Nat.le_refl _)]
  rw [hae] at C4
  have hcr : rightB s.data.toList = true → bs (cleanL s.data.toList) = s := fun h => by rw [clean_right _ _ (Nat.le_refl _) h, bs_self]
  have hsf := fun k => esc_safe_at v s.data.toList k
  have hdg : ∀ k (h : k < (bs (escL v s.data.toList)).size), ((bs (escL v s.data.toList))[k]).toNat = dgt (escL v s.data.toList) k := fun k h => by rw [dgt_at, bs_toList]
  have hxl := bs_size (escL v s.data.toList)
  rw [← hxl] at hsf
  have HCR := hide hcr
  have HSF := hide hsf
  have HDG := hide hdg
  clear hcr hsf hae hel hdg hxl
  generalize bs (cleanL s.data.toList) = y at *
  generalize rightB s.data.toList = rb at *
  generalize dgt (escL v s.data.toList) = dg at *
  generalize bs (escL v s.data.toList) = x at *
  go_enter Tryd.func7, Tryd.ntmps7
  go_wp2_with fail
  refine (unhide C1 _ (unhide HT).1).mono ?_
  rintro e w2 ⟨rfl, hb2⟩
  have HB2 := hide hb2
  clear hb2
  go_wp2
  go_loopw [6] (fun i wr => ∃ k : Nat, k ≤ x.size ∧ i = .int .i64 k ∧ wr = w2) (fun i _ => x.size - (intOf i).toNat)
  case atStart => exact ⟨0, Nat.zero_le _, rfl, rfl⟩
  case round =>
    obtain ⟨k, hk, rfl, rfl⟩ := hrel
    have hb2 := unhide HB2
    by_cases hp : k < x.size
    · have hpi : (k : Int) < (x.size : Int) := by omega
      have e := unhide HDG k hp
      have hsk := unhide HSF k hp
      generalize dg k = b at *
      obtain ⟨g60, g62, g34⟩ := hsk
      have n60 : ((b : Int) == 60) = false := bneI (by omega)
      have n62 : ((b : Int) == 62) = false := bneI (by omega)
      clear g60 g62
      cases v with
      | false =>
        clear g34
        go_wp2
        go_roundw
        case rel => exact ⟨k + 1, by omega, by go_num, by first | exact rfl | trivial⟩
        case measure => simp [intOf]; omega
      | true =>
        have n34 : ((b : Int) == 34) = false := bneI (by have := g34 rfl; omega)
        clear g34
        go_wp2
        go_roundw
        case rel => exact ⟨k + 1, by omega, by go_num, by first | exact rfl | trivial⟩
        case measure => simp [intOf]; omega
    · have hyy := ssame y
      cases rb with
      | false =>
        go_wp2_with fail
        refine (unhide C3 _ ((unhide HT).below hb2).1).mono ?_
        rintro e w3 ⟨rfl, hb3⟩
        have hb13 := tr2 hb2 hb3
        go_wp2_with fail
        refine (unhide C4 _ ((unhide HT).below hb13)).mono ?_
        rintro e w4 ⟨rfl, hb4⟩
        have hb14 := tr2 hb13 hb4
        go_wp2_with fail
        refine (unhide C2 _ ((unhide HT).below hb14).1).mono ?_
        rintro e w5 ⟨rfl, hb5⟩
        have hb15 := tr2 hb14 hb5
        go_wp2_with fail
        refine (unhide E _ ((unhide HT).below hb15)).mono ?_
        rintro e w6 ⟨rfl, hb6⟩
        go_wp2
        go_ret
        exact ⟨rfl, tr2 hb15 hb6⟩
      | true =>
        have e3 := unhide HCR rfl
        subst e3
        go_wp2_with fail
        refine (unhide C3 _ ((unhide HT).below hb2).1).mono ?_
        rintro e w3 ⟨rfl, hb3⟩
        have hb13 := tr2 hb2 hb3
        go_wp2_with fail
        refine (unhide C4 _ ((unhide HT).below hb13)).mono ?_
        rintro e w4 ⟨rfl, hb4⟩
        have hb14 := tr2 hb13 hb4
        go_wp2_with fail
        refine (unhide C4 _ ((unhide HT).below hb14)).mono ?_
        rintro e w5 ⟨rfl, hb5⟩
        have hb15 := tr2 hb14 hb5
        go_wp2_with fail
        refine (unhide C2 _ ((unhide HT).below hb15).1).mono ?_
        rintro e w6 ⟨rfl, hb6⟩
        have hb16 := tr2 hb15 hb6
        go_wp2_with fail
        refine (unhide E _ ((unhide HT).below hb16)).mono ?_
        rintro e w7 ⟨rfl, hb7⟩
        go_wp2
        go_ret
        exact ⟨rfl, tr2 hb16 hb7⟩
end Go.Proofs.YtmiehnknnkcdlaaDoor
