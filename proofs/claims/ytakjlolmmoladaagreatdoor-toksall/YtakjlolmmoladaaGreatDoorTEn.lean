/-
  What 'toks.endsName' and 'toks.endsLast' do.
-/
import Derived.Test.YtakjlolmmoladaaGreatDoorTBe
import Derived.Test.YtakjlolmmoladaaGreatDoorHp
import Derived.Test.YtakjlolmmoladaaGreatDoorDLo
namespace Go.Proofs.YtakjlolmmoladaaGreatDoor
open Go.RowKit
set_option linter.unusedVariables false

/-- Which bytes end a tag's name. -/
def enB (b : Nat) : Bool := decide (b = 47) || (decide (b = 62) || spN b)
set_option maxHeartbeats 1000000 in
theorem endsName_tag (b : Nat) (w : World) :
    Calls Tryz.prog 43 #[.int .u8 (b : Int), .bool false] w fun e w' => e = .returned (.bool (enB b)) ∧ w' = w := by
  have CS := hide (space_any b)
  unfold enB
  by_cases h61 : b = 61
  · subst h61
    have e : (decide (61 = 47) || (decide (61 = 62) || spN 61)) = false := by decide
    rw [e]
    go_enter Tryz.func43, Tryz.ntmps43
    go_wp2
    go_ret
    exact ⟨rfl, rfl⟩
  have n61 : ((b : Int) == 61) = false := bneI (by omega)
  by_cases h47 : b = 47
  · subst h47
    rw [decide_eq_true rfl, Bool.true_or]
    go_enter Tryz.func43, Tryz.ntmps43
    go_wp2
    go_ret
    exact ⟨rfl, rfl⟩
  have n47 : ((b : Int) == 47) = false := bneI (by omega)
  rw [decide_eq_false h47, Bool.false_or]
  by_cases h62 : b = 62
  · subst h62
    rw [decide_eq_true rfl, Bool.true_or]
    go_enter Tryz.func43, Tryz.ntmps43
    go_wp2
    go_ret
    exact ⟨rfl, rfl⟩
  have n62 : ((b : Int) == 62) = false := bneI (by omega)
  rw [decide_eq_false h62, Bool.false_or]
  generalize spN b = sb at *
  clear h61 h47 h62
  go_enter Tryz.func43, Tryz.ntmps43
  go_wp2_with fail
  refine (unhide CS _).mono ?_
  rintro e w1 ⟨rfl, rfl⟩
  go_wp2
  go_ret
  exact ⟨rfl, rfl⟩

def lastB (l n : List UInt8) : Bool := [60, 47].isPrefixOf l && (decide (n ≠ [] ∧ n.length + 2 < l.length) && (enB (dgt l (2 + n.length)) && (lowL ((l.drop 2).take n.length) == n)))

theorem cut2_yes (s : ByteArray) (w : World) (h : [60, 47].isPrefixOf s.data.toList = true) :
    Calls Tryz.prog 42 #[.string s, .string ⟨#[60, 47]⟩] w fun e w' => e = .returned (.tuple #[.string (bs (s.data.toList.drop 2)), .bool true]) ∧ w' = w := cutPrefix_yes s ⟨#[60, 47]⟩ w h
theorem cut2_no (s : ByteArray) (w : World) (h : [60, 47].isPrefixOf s.data.toList = false) :
    Calls Tryz.prog 42 #[.string s, .string ⟨#[60, 47]⟩] w fun e w' => e = .returned (.tuple #[.string s, .bool false]) ∧ w' = w := cutPrefix_no s ⟨#[60, 47]⟩ w h

set_option maxHeartbeats 2000000 in
theorem endsLast_any (s n : ByteArray) (w : World) (hs : s.size ≤ 100000) (hn : n.size ≤ 100000) :
    Calls Tryz.prog 23 #[.string s, .string n] w fun e w' => e = .returned (.bool (lastB s.data.toList n.data.toList)) ∧ Below w.heap.size w w' := by
  unfold lastB
  cases hp : [60, 47].isPrefixOf s.data.toList with
  | false =>
    have C := hide (fun w => cut2_no s w hp)
    rw [Bool.false_and]
    clear hp
    go_enter Tryz.func23, Tryz.ntmps23
    go_wp2_with fail
    refine (unhide C _).mono ?_
    rintro e w1 ⟨rfl, rfl⟩
    go_wp2
    go_ret
    exact ⟨rfl, Below.refl _ _⟩
  | true =>
    have C := hide (fun w => cut2_yes s w hp)
    rw [Bool.true_and]
    have hl2 : 2 ≤ s.size := by have := (List.isPrefixOf_iff_prefix.1 hp).length_le; rw [data_len] at this; simpa using this
    clear hp
    by_cases h0 : n.size = 0
    · have he := is_empty n h0
      have e0 : n.data.toList = [] := List.eq_nil_of_length_eq_zero (by rw [data_len]; exact h0)
      rw [decide_eq_false (fun h => h.1 e0), Bool.false_and]
      clear e0
      go_enter Tryz.func23, Tryz.ntmps23
      go_wp2_with fail
      refine (unhide C _).mono ?_
      rintro e w1 ⟨rfl, rfl⟩
      go_wp2
      go_ret
      exact ⟨rfl, Below.refl _ _⟩
    have he := not_empty n (by omega)
    have hne : n.data.toList ≠ [] := by
      intro e; have := congrArg List.length e; rw [data_len] at this; simp only [List.length_nil] at this; omega
    have hrz : (bs (s.data.toList.drop 2)).size = s.size - 2 := by rw [bs_size, List.length_drop, data_len]
    have hrd : (bs (s.data.toList.drop 2)).data.toList = s.data.toList.drop 2 := bs_toList _
    by_cases h1 : n.size + 2 < s.size
    · rw [decide_eq_true ⟨hne, by rw [data_len, data_len]; exact h1⟩, Bool.true_and]
      have hd : dgt s.data.toList (2 + n.data.toList.length) = dgt (s.data.toList.drop 2) n.size := by rw [dgt_drop, data_len]
      rw [hd, data_len]
      generalize hR : bs (s.data.toList.drop 2) = R at *
      have h1i : ¬ (R.size : Int) ≤ (n.size : Int) := by omega
      have h1j : (n.size : Int) < (R.size : Int) := by omega
      have h1k : (n.size : Int) ≤ (R.size : Int) := by omega
      have e0 := dgt_at R n.size (by omega)
      rw [hrd] at e0
      have CE := hide (fun w => endsName_tag (dgt (s.data.toList.drop 2) n.size) w)
      have hxz : (R.extract 0 n.size).size = n.size := by simp; omega
      have hxd : (R.extract 0 n.size).data.toList = (s.data.toList.drop 2).take n.size := by
        have := extract_take R 0 n.size
        rw [Nat.zero_add] at this
        rw [this, bs_toList, hrd, List.drop_zero]
      have CL := hide (fun w => lower_any (R.extract 0 n.size) w (by omega))
      rw [hxd] at CL
      have hq : (lowL ((s.data.toList.drop 2).take n.size) == n.data.toList) = ((bs (lowL ((s.data.toList.drop 2).take n.size))).toList == n.toList) := by
        rw [Lib.toList_data, Lib.toList_data, bs_toList]
      rw [hq]
      generalize bs (lowL ((s.data.toList.drop 2).take n.size)) = Y at *
      generalize dgt (s.data.toList.drop 2) n.size = b at *
      clear hR hd hq hrd hxd h0 hne
      cases hb : enB b with
      | false =>
        rw [hb] at CE
        rw [Bool.false_and]
        clear hb
        go_enter Tryz.func23, Tryz.ntmps23
        go_wp2_with fail
        refine (unhide C _).mono ?_
        rintro e w1 ⟨rfl, rfl⟩
        go_wp2_with fail
        refine (unhide CE _).mono ?_
        rintro e w1 ⟨rfl, rfl⟩
        go_wp2
        go_ret
        exact ⟨rfl, Below.refl _ _⟩
      | true =>
        rw [hb] at CE
        rw [Bool.true_and]
        clear hb
        go_enter Tryz.func23, Tryz.ntmps23
        go_wp2_with fail
        refine (unhide C _).mono ?_
        rintro e w1 ⟨rfl, rfl⟩
        go_wp2_with fail
        refine (unhide CE _).mono ?_
        rintro e w1 ⟨rfl, rfl⟩
        go_wp2_with fail
        refine (unhide CL _).mono ?_
        rintro e w2 ⟨rfl, hb2⟩
        go_wp2
        go_ret
        exact ⟨rfl, hb2⟩
    · rw [decide_eq_false (fun h => h1 (by have := h.2; rw [data_len, data_len] at this; exact this)), Bool.false_and]
      generalize bs (s.data.toList.drop 2) = R at *
      have h1i : (R.size : Int) ≤ (n.size : Int) := by omega
      clear h1 hne h0
      go_enter Tryz.func23, Tryz.ntmps23
      go_wp2_with fail
      refine (unhide C _).mono ?_
      rintro e w1 ⟨rfl, rfl⟩
      go_wp2
      go_ret
      exact ⟨rfl, Below.refl _ _⟩
end Go.Proofs.YtakjlolmmoladaaGreatDoor
