/-
  The small case that each law of this layer asks, and the laws UtfBytes and UtfBack walked.
-/
import Derived.Test.YtekkgmgdihlefabDoorUa
namespace Go.Proofs.YtekkgmgdihlefabDoor
open Go.RowKit
set_option linter.unusedVariables false

theorem step_euro : step [226, 130, 172, 120] = (8364, 3, true) := by rfl
theorem step_cut : step [195] = (65533, 1, false) := by rfl
theorem right_e : rightB [97, 195, 169] = true := by rfl

def Euro : Prop := ∀ w, Tabs w → Calls Tryd.prog 10 #[] w fun e w' => e = .returned (.bool true) ∧ Below w.heap.size w w'

theorem euro_any : Euro := by
  intro w ht
  have C1 : Hid (FirstIs ⟨#[226, 130, 172, 120]⟩ 8364 3) := firstIs ⟨#[226, 130, 172, 120]⟩ (by decide) (by decide)
  have C2 : Hid (FirstIs ⟨#[195]⟩ 65533 1) := firstIs ⟨#[195]⟩ (by decide) (by decide)
  have C3 : Hid (∀ w, Tabs w → Calls Tryd.prog 8 #[.int .i64 8364] w fun e w' => e = .returned (.string ⟨#[226, 130, 172]⟩) ∧ Below w.heap.size w w') := fun w h => bytes_any 8364 w h
  have C4 : Hid (∀ w, Tabs w → Calls Tryd.prog 18 #[.string ⟨#[97, 195, 169]⟩] w fun e w' => e = .returned (.bool true) ∧ Below w.heap.size w w') := fun w h => right_any ⟨#[97, 195, 169]⟩ w h (by decide)
  have HT := hide ht
  clear ht
  go_enter Tryd.func10, Tryd.ntmps10
  go_wp2_with fail
  refine (unhide C1 _ (unhide HT)).mono ?_
  rintro e w1 ⟨rfl, hb1⟩
  go_wp2_with fail
  refine (unhide C2 _ ((unhide HT).below hb1)).mono ?_
  rintro e w2 ⟨rfl, hb2⟩
  have hb02 := tr2 hb1 hb2
  go_wp2_with fail
  refine (unhide C3 _ ((unhide HT).below hb02)).mono ?_
  rintro e w3 ⟨rfl, hb3⟩
  have hb03 := tr2 hb02 hb3
  go_wp2_with fail
  refine (unhide C4 _ ((unhide HT).below hb03)).mono ?_
  rintro e w4 ⟨rfl, hb4⟩
  go_wp2
  go_ret
  exact ⟨rfl, tr2 hb03 hb4⟩

theorem utfBytes_walk (c : Int) (w : World) (ht : Tabs w) :
    Calls Tryd.prog 3 #[.int .i64 c] w fun e w' => e = .returned (.bool true) ∧ Below w.heap.size w w' := by
  have hab := euro_any
  have C1 := hide (fun w h => bytes_any c w h)
  have C2 := hide (fun w => rbytes_any c w)
  have HT := hide ht
  clear ht
  generalize str (utfI c) = x at C1 C2
  go_enter Tryd.func3, Tryd.ntmps3
  go_wp2_with fail
  refine (unhide C1 _ (unhide HT)).mono ?_
  rintro e w1 ⟨rfl, hb1⟩
  go_wp2_with fail
  refine (unhide C2 _).mono ?_
  rintro e w2 ⟨rfl, hb2⟩
  have hb02 := tr2 hb1 hb2
  go_wp2_with fail
  refine (hab _ ((unhide HT).below hb02)).mono ?_
  rintro e w3 ⟨rfl, hb3⟩
  go_wp2
  go_ret
  exact ⟨rfl, tr2 hb02 hb3⟩

theorem str_len (c : Int) : (str (ubI c)).size = sz c := by rw [str_size, ubI_len]
theorem ub_step (c : Int) (b : ByteArray) (h : isC c = true) : step (str (ubI c) ++ b).data.toList = (c, sz c, true) := by
  rw [str_bs, bs_add, bs_toList]; exact step_ub c _ h
theorem right_ub (c : Int) (h : isC c = true) : rightB (str (ubI c)).data.toList = true := by
  have hs := step_ub c [] h
  have hne : ub c ≠ [] := by
    intro e
    have := ub_len c
    have := sz_le c
    rw [e] at *; simp at *; omega
  rw [str_bs, bs_toList]
  show rightB (ub c) = true
  rw [List.append_nil] at hs
  rw [rightB_cons hne, hs]
  simp only [Bool.true_and]
  rw [← ub_len c, List.drop_length]; rfl

set_option maxHeartbeats 400000 in
theorem utfBack_main (c d : Int) (t : Bool) (b x : ByteArray) (k : Nat) (w : World) (ht : Tabs w) (hab : Euro) (hb : b.size ≤ 1000) (hk : k ≤ 4) (hx : x.size = k)
    (C0 : Hid (∀ w, Calls Tryd.prog 20 #[.int .i64 c] w fun e w' => e = .returned (.bool t) ∧ w' = w)) (hcd : (t = true ∧ d = c) ∨ (t = false ∧ d = 65533))
    (C1 : Hid (∀ w, Tabs w → Calls Tryd.prog 8 #[.int .i64 c] w fun e w' => e = .returned (.string x) ∧ Below w.heap.size w w'))
    (C2 : Hid (FirstIs (x ++ b) d k))
    (C3 : Hid (∀ w, Tabs w → Calls Tryd.prog 18 #[.string x] w fun e w' => e = .returned (.bool true) ∧ Below w.heap.size w w')) :
    Calls Tryd.prog 6 #[.int .i64 c, .string b] w fun e w' => e = .returned (.bool true) ∧ Below w.heap.size w w' := by
  have HT := hide ht
  clear ht
  rcases hcd with ⟨rfl, rfl⟩ | ⟨rfl, rfl⟩
  all_goals
    go_enter Tryd.func6, Tryd.ntmps6
    go_wp2_with fail
    refine (unhide C1 _ (unhide HT)).mono ?_
    rintro e w1 ⟨rfl, hb1⟩
    go_wp2_with fail
    refine (unhide C2 _ ((unhide HT).below hb1)).mono ?_
    rintro e w2 ⟨rfl, hb2⟩
    have hb02 := tr2 hb1 hb2
    go_wp2_with fail
    refine (unhide C0 _).mono ?_
    rintro e w3 ⟨rfl, rfl⟩
    go_wp2_with fail
    refine (unhide C3 _ ((unhide HT).below hb02)).mono ?_
    rintro e w4 ⟨rfl, hb4⟩
    have hb04 := tr2 hb02 hb4
    go_wp2_with fail
    refine (hab _ ((unhide HT).below hb04)).mono ?_
    rintro e w5 ⟨rfl, hb5⟩
    go_wp2
    go_ret
    exact ⟨rfl, tr2 hb04 hb5⟩

theorem utfBack_walk (c : Int) (b : ByteArray) (w : World) (ht : Tabs w) (hs : b.size ≤ 9223372036854775807) :
    Calls Tryd.prog 6 #[.int .i64 c, .string b] w fun e w' => e = .returned (.bool true) ∧ Below w.heap.size w w' := by
  have hab := euro_any
  by_cases hb : 1000 < b.size
  · have HT := hide ht
    clear ht
    go_enter Tryd.func6, Tryd.ntmps6
    go_wp2_with fail
    refine (hab _ (unhide HT)).mono ?_
    rintro e w5 ⟨rfl, hb5⟩
    go_wp2
    go_ret
    exact ⟨rfl, hb5⟩
  · have hb' : b.size ≤ 1000 := by omega
    have C0 := fun w => rIs_any c w
    have C1 := fun w h => bytes_any c w h
    cases hc : isC c with
    | true =>
      rw [hc] at C0
      rw [utfI, hc, if_pos rfl] at C1
      have hk := sz_le c
      have hx := str_len c
      have hsz : (str (ubI c) ++ b).size = sz c + b.size := by rw [ByteArray.size_append, hx]
      have F := firstIs (str (ubI c) ++ b) (by omega) (by omega)
      rw [ub_step c b hc] at F
      exact utfBack_main c c true b _ _ w ht hab hb' (by omega) hx (hide C0) (.inl ⟨rfl, rfl⟩) (hide C1) (hide F) (hide fun w h => by
        have := right_any (str (ubI c)) w h (by omega)
        rw [right_ub c hc] at this; exact this)
    | false =>
      rw [hc] at C0
      rw [utfI, hc, if_neg (by decide)] at C1
      have hk := sz_le 65533
      have hx := str_len 65533
      have hsz : (str (ubI 65533) ++ b).size = sz 65533 + b.size := by rw [ByteArray.size_append, hx]
      have F := firstIs (str (ubI 65533) ++ b) (by omega) (by omega)
      rw [ub_step 65533 b (by decide)] at F
      exact utfBack_main c 65533 false b _ _ w ht hab hb' (by omega) hx (hide C0) (.inr ⟨rfl, rfl⟩) (hide C1) (hide F) (hide fun w h => by
        have := right_any (str (ubI 65533)) w h (by omega)
        rw [right_ub 65533 (by decide)] at this; exact this)
end Go.Proofs.YtekkgmgdihlefabDoor
