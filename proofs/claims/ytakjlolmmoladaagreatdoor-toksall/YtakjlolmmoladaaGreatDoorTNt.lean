/-
  What 'toks.noteEnd' and 'toks.withoutPartOfEnd' do, and 'seek' for a comment's end.
-/
import Derived.Test.YtakjlolmmoladaaGreatDoorTTc
namespace Go.Proofs.YtakjlolmmoladaaGreatDoor
open Go.RowKit
set_option linter.unusedVariables false

/-- How many bytes a comment's end has with which a text begins. -/
def neN (l : List UInt8) : Nat := if [45, 45, 62].isPrefixOf l = true then 3 else if [45, 45, 33, 62].isPrefixOf l = true then 4 else 0
theorem ends_0 (w : World) : Sem.run Tryz.prog (Instr.index 103 (.agg #[.string ⟨#[45, 45, 62]⟩, .string ⟨#[45, 45, 33, 62]⟩]) (.int .i64 0)) w = .ok (.string ⟨#[45, 45, 62]⟩) w := by kernel_rfl
theorem ends_1 (w : World) : Sem.run Tryz.prog (Instr.index 103 (.agg #[.string ⟨#[45, 45, 62]⟩, .string ⟨#[45, 45, 33, 62]⟩]) (.int .i64 1)) w = .ok (.string ⟨#[45, 45, 33, 62]⟩) w := by kernel_rfl

set_option maxHeartbeats 2000000 in
set_option maxRecDepth 100000 in
theorem noteEnd_any (s : ByteArray) (w : World) :
    Calls Tryz.prog 94 #[.string s] w fun e w' => e = .returned (.int .i64 (neN s.data.toList : Nat)) ∧ w' = w := by
  have q0 := ends_0
  have q1 := ends_1
  unfold neN
  cases h1 : [45, 45, 62].isPrefixOf s.data.toList with
  | true =>
    rw [if_pos rfl]
    have C1 : Hid (∀ w, Calls Tryz.prog 46 #[.string s, .string ⟨#[45, 45, 62]⟩] w fun e w' => e = .returned (.bool true) ∧ w' = w) := fun w => by
      have := prefix_any s [45, 45, 62] w
      rw [h1] at this
      exact this
    clear h1
    go_enter Tryz.func94, Tryz.ntmps94
    go_wp2
    refine wp_loop_rounds 3 ?_
    rw [rounds_succ]; go_wp2_with fail
    refine (unhide C1 _).mono ?_
    rintro e w1 ⟨rfl, hw1⟩
    obtain rfl : w = w1 := hw1.symm
    go_wp2
    go_ret
    exact ⟨rfl, rfl⟩
  | false =>
    rw [if_neg (by decide)]
    have C1 : Hid (∀ w, Calls Tryz.prog 46 #[.string s, .string ⟨#[45, 45, 62]⟩] w fun e w' => e = .returned (.bool false) ∧ w' = w) := fun w => by
      have := prefix_any s [45, 45, 62] w
      rw [h1] at this
      exact this
    cases h2 : [45, 45, 33, 62].isPrefixOf s.data.toList with
    | true =>
      rw [if_pos rfl]
      have C2 : Hid (∀ w, Calls Tryz.prog 46 #[.string s, .string ⟨#[45, 45, 33, 62]⟩] w fun e w' => e = .returned (.bool true) ∧ w' = w) := fun w => by
        have := prefix_any s [45, 45, 33, 62] w
        rw [h2] at this
        exact this
      clear h1 h2
      go_enter Tryz.func94, Tryz.ntmps94
      go_wp2
      refine wp_loop_rounds 3 ?_
      rw [rounds_succ]; go_wp2_with fail
      refine (unhide C1 _).mono ?_
      rintro e w1 ⟨rfl, hw1⟩
      obtain rfl : w = w1 := hw1.symm
      go_wp2
      rw [rounds_succ]; go_wp2_with fail
      refine (unhide C2 _).mono ?_
      rintro e w1 ⟨rfl, hw1⟩
      obtain rfl : w = w1 := hw1.symm
      go_wp2
      go_ret
      exact ⟨rfl, rfl⟩
    | false =>
      rw [if_neg (by decide)]
      have C2 : Hid (∀ w, Calls Tryz.prog 46 #[.string s, .string ⟨#[45, 45, 33, 62]⟩] w fun e w' => e = .returned (.bool false) ∧ w' = w) := fun w => by
        have := prefix_any s [45, 45, 33, 62] w
        rw [h2] at this
        exact this
      clear h1 h2
      go_enter Tryz.func94, Tryz.ntmps94
      go_wp2
      refine wp_loop_rounds 3 ?_
      rw [rounds_succ]; go_wp2_with fail
      refine (unhide C1 _).mono ?_
      rintro e w1 ⟨rfl, hw1⟩
      obtain rfl : w = w1 := hw1.symm
      go_wp2
      rw [rounds_succ]; go_wp2_with fail
      refine (unhide C2 _).mono ?_
      rintro e w1 ⟨rfl, hw1⟩
      obtain rfl : w = w1 := hw1.symm
      go_wp2
      rw [rounds_succ]; go_wp2
      go_ret
      exact ⟨rfl, rfl⟩

/-- A comment's text without what may have been going to be its end. -/
def woL (l : List UInt8) : List UInt8 := if Lib.hasSuffix l [45, 45, 33] = true then Lib.trimSuffix l [45, 45, 33] else if Lib.hasSuffix l [45, 45] = true then Lib.trimSuffix l [45, 45] else if Lib.hasSuffix l [45] = true then Lib.trimSuffix l [45] else l
theorem part_0 (w : World) : Sem.run Tryz.prog (Instr.index 119 (.agg #[.string ⟨#[45, 45, 33]⟩, .string ⟨#[45, 45]⟩, .string ⟨#[45]⟩]) (.int .i64 0)) w = .ok (.string ⟨#[45, 45, 33]⟩) w := by kernel_rfl
theorem part_1 (w : World) : Sem.run Tryz.prog (Instr.index 119 (.agg #[.string ⟨#[45, 45, 33]⟩, .string ⟨#[45, 45]⟩, .string ⟨#[45]⟩]) (.int .i64 1)) w = .ok (.string ⟨#[45, 45]⟩) w := by kernel_rfl
theorem part_2 (w : World) : Sem.run Tryz.prog (Instr.index 119 (.agg #[.string ⟨#[45, 45, 33]⟩, .string ⟨#[45, 45]⟩, .string ⟨#[45]⟩]) (.int .i64 2)) w = .ok (.string ⟨#[45]⟩) w := by kernel_rfl
theorem cutSuffix_any (s : ByteArray) (p : List UInt8) (w : World) (hs : s.size ≤ 100000) :
    Calls Tryz.prog 100 #[.string s, .string (bs p)] w fun e w' => e = .returned (.tuple #[.string (bs (Lib.trimSuffix s.data.toList p)), .bool (Lib.hasSuffix s.data.toList p)]) ∧ w' = w := by
  have := Tryz.strings_CutSuffix s (bs p) w (by omega)
  rw [bs_toList] at this; exact this

set_option maxHeartbeats 4000000 in
set_option maxRecDepth 100000 in
theorem without_any (s : ByteArray) (w : World) (hs : s.size ≤ 100000) :
    Calls Tryz.prog 95 #[.string s] w fun e w' => e = .returned (.string (bs (woL s.data.toList))) ∧ w' = w := by
  have q0 := part_0
  have q1 := part_1
  have q2 := part_2
  unfold woL
  have C0 : Hid (∀ w, Calls Tryz.prog 100 #[.string s, .string ⟨#[45, 45, 33]⟩] w fun e w' => e = .returned (.tuple #[.string (bs (Lib.trimSuffix s.data.toList [45, 45, 33])), .bool (Lib.hasSuffix s.data.toList [45, 45, 33])]) ∧ w' = w) := fun w => cutSuffix_any s [45, 45, 33] w hs
  have C1 : Hid (∀ w, Calls Tryz.prog 100 #[.string s, .string ⟨#[45, 45]⟩] w fun e w' => e = .returned (.tuple #[.string (bs (Lib.trimSuffix s.data.toList [45, 45])), .bool (Lib.hasSuffix s.data.toList [45, 45])]) ∧ w' = w) := fun w => cutSuffix_any s [45, 45] w hs
  have C2 : Hid (∀ w, Calls Tryz.prog 100 #[.string s, .string ⟨#[45]⟩] w fun e w' => e = .returned (.tuple #[.string (bs (Lib.trimSuffix s.data.toList [45])), .bool (Lib.hasSuffix s.data.toList [45])]) ∧ w' = w) := fun w => cutSuffix_any s [45] w hs
  have hz : bs s.data.toList = s := bs_self s
  cases h0 : Lib.hasSuffix s.data.toList [45, 45, 33] with
  | true =>
    rw [if_pos rfl]
    rw [h0] at C0
    generalize bs (Lib.trimSuffix s.data.toList [45, 45, 33]) = t0 at *
    clear hz h0
    go_enter Tryz.func95, Tryz.ntmps95
    go_wp2
    refine wp_loop_rounds 4 ?_
    rw [rounds_succ]; go_wp2_with fail
    refine (unhide C0 _).mono ?_
    rintro e w1 ⟨rfl, hw1⟩
    obtain rfl : w = w1 := hw1.symm
    go_wp2
    go_ret
    exact ⟨rfl, rfl⟩
  | false =>
    rw [if_neg (by decide)]
    rw [h0] at C0
    cases h1 : Lib.hasSuffix s.data.toList [45, 45] with
    | true =>
      rw [if_pos rfl]
      rw [h1] at C1
      generalize bs (Lib.trimSuffix s.data.toList [45, 45]) = t1 at *
      clear hz h0 h1
      go_enter Tryz.func95, Tryz.ntmps95
      go_wp2
      refine wp_loop_rounds 4 ?_
      rw [rounds_succ]; go_wp2_with fail
      refine (unhide C0 _).mono ?_
      rintro e w1 ⟨rfl, hw1⟩
      obtain rfl : w = w1 := hw1.symm
      go_wp2
      rw [rounds_succ]; go_wp2_with fail
      refine (unhide C1 _).mono ?_
      rintro e w1 ⟨rfl, hw1⟩
      obtain rfl : w = w1 := hw1.symm
      go_wp2
      go_ret
      exact ⟨rfl, rfl⟩
    | false =>
      rw [if_neg (by decide)]
      rw [h1] at C1
      cases h2 : Lib.hasSuffix s.data.toList [45] with
      | true =>
        rw [if_pos rfl]
        rw [h2] at C2
        generalize bs (Lib.trimSuffix s.data.toList [45]) = t2 at *
        clear hz h0 h1 h2
        go_enter Tryz.func95, Tryz.ntmps95
        go_wp2
        refine wp_loop_rounds 4 ?_
        rw [rounds_succ]; go_wp2_with fail
        refine (unhide C0 _).mono ?_
        rintro e w1 ⟨rfl, hw1⟩
        obtain rfl : w = w1 := hw1.symm
        go_wp2
        rw [rounds_succ]; go_wp2_with fail
        refine (unhide C1 _).mono ?_
        rintro e w1 ⟨rfl, hw1⟩
        obtain rfl : w = w1 := hw1.symm
        go_wp2
        rw [rounds_succ]; go_wp2_with fail
        refine (unhide C2 _).mono ?_
        rintro e w1 ⟨rfl, hw1⟩
        obtain rfl : w = w1 := hw1.symm
        go_wp2
        go_ret
        exact ⟨rfl, rfl⟩
      | false =>
        rw [if_neg (by decide)]
        rw [h2] at C2
        clear h0 h1 h2
        rw [hz]
        go_enter Tryz.func95, Tryz.ntmps95
        go_wp2
        refine wp_loop_rounds 4 ?_
        rw [rounds_succ]; go_wp2_with fail
        refine (unhide C0 _).mono ?_
        rintro e w1 ⟨rfl, hw1⟩
        obtain rfl : w = w1 := hw1.symm
        go_wp2
        rw [rounds_succ]; go_wp2_with fail
        refine (unhide C1 _).mono ?_
        rintro e w1 ⟨rfl, hw1⟩
        obtain rfl : w = w1 := hw1.symm
        go_wp2
        rw [rounds_succ]; go_wp2_with fail
        refine (unhide C2 _).mono ?_
        rintro e w1 ⟨rfl, hw1⟩
        obtain rfl : w = w1 := hw1.symm
        go_wp2
        rw [rounds_succ]; go_wp2
        go_ret
        exact ⟨rfl, rfl⟩

def nePos (s : ByteArray) (i : Nat) : Bool := decide (0 < neN (s.data.toList.drop i))
theorem note1_any (s : ByteArray) (i g : Nat) (w : World) (hg : w.cell? ⟨g, 0, none⟩ = some (.string s)) (hi : i ≤ s.size) (hs : s.size ≤ 100000) :
    Calls Tryz.prog 93 #[.int .i64 (i : Int), .pointer (some ⟨g, 0, none⟩)] w fun e w' => e = .returned (.bool (nePos s i)) ∧ w' = w := by
  have hii : (i : Int) ≤ (s.size : Int) := by omega
  have C := hide (fun w => noteEnd_any (s.extract i s.size) w)
  have hxd : (s.extract i s.size).data.toList = s.data.toList.drop i := by rw [rest_of, bs_toList]
  rw [hxd] at C
  unfold nePos
  generalize neN (s.data.toList.drop i) = k at *
  clear hxd
  go_enter Tryz.func93, Tryz.ntmps93
  go_wp2_with fail
  refine (unhide C _).mono ?_
  rintro e w1 ⟨rfl, hw1⟩
  obtain rfl : w = w1 := hw1.symm
  go_wp2
  go_ret
  exact ⟨rfl, rfl⟩

set_option maxHeartbeats 1000000 in
theorem seek_note (s : ByteArray) (i g : Nat) (w : World) (hg : w.cell? ⟨g, 0, none⟩ = some (.string s)) (hi : i ≤ s.size) (hs : s.size ≤ 100000) :
    Calls Tryz.prog 21 #[.string s, .int .i64 (i : Int), .func (.func 93) #[] #[.pointer (some ⟨g, 0, none⟩)]] w fun e w' => e = .returned (.int .i64 (seekN (nePos s) s.size i : Int)) ∧ w' = w := by
  have HG := hide hg
  clear hg
  go_enter Tryz.func21, Tryz.ntmps21
  go_wp2
  go_loopw [1] (fun a wr => ∃ k : Nat, k ≤ s.size ∧ a = .int .i64 (k : Int) ∧ seekN (nePos s) s.size i = seekN (nePos s) s.size k ∧ wr = w) (fun a _ => s.size - (intOf a).toNat)
  case atStart => exact ⟨i, hi, rfl, rfl, rfl⟩
  case round =>
    obtain ⟨k, hk, rfl, hr, rfl⟩ := hrel
    have HR := hide hr
    clear hr
    by_cases hp : k < s.size
    · have hpi : (k : Int) < (s.size : Int) := by omega
      have C := hide (fun w h => note1_any s k g w h (by omega) hs)
      have hh := @seek_hit (nePos s) s.size k
      have hn := @seek_next (nePos s) s.size k hp
      generalize nePos s k = b at *
      cases b with
      | true =>
        have HV := hide (hh rfl)
        clear hh hn
        go_wp2_with (go_at_call 93; refine (unhide C _ (unhide HG)).mono ?_; rintro e1 w1 ⟨rfl, rfl⟩)
        go_ret
        exact ⟨by rw [unhide HR, unhide HV]; rfl, rfl⟩
      | false =>
        have HV := hide (hn rfl)
        clear hh hn
        go_wp2_with (go_at_call 93; refine (unhide C _ (unhide HG)).mono ?_; rintro e1 w1 ⟨rfl, rfl⟩)
        go_roundw
        case rel => exact ⟨k + 1, by omega, by go_num, by rw [unhide HR, unhide HV], by first | exact rfl | trivial⟩
        case measure => simp [intOf]; omega
    · have HV := hide (@seek_end (nePos s) s.size k (by omega))
      go_wp2
      go_ret
      exact ⟨by rw [unhide HR, unhide HV]; rfl, rfl⟩
end Go.Proofs.YtakjlolmmoladaaGreatDoor
