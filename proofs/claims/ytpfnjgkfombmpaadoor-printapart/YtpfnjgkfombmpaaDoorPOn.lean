/-
  'pen.Open' and the reference's where there are no attributes at all, wherever the slice may point to.
-/
import Derived.Test.YtpfnjgkfombmpaaDoorPOe
namespace Go.Proofs.YtpfnjgkfombmpaaDoor
open Go.RowKit
set_option linter.unusedVariables false

set_option maxHeartbeats 2000000 in
theorem allRight_nil (q : Option Addr) (cap : Nat) (w : World) :
    Calls Tryd.prog 117 #[.slice q 0 cap] w fun e w' => e = .returned (.bool true) ∧ w' = w := by
  go_enter Tryd.func117, Tryd.ntmps117
  go_wp2
  refine wp_loop_rounds 1 ?_
  rw [rounds_succ]; go_wp2
  go_ret
  exact ⟨rfl, rfl⟩
set_option maxHeartbeats 2000000 in
set_option maxRecDepth 100000 in
theorem hasTwice_nil (q : Option Addr) (cap : Nat) (w : World) :
    Calls Tryd.prog 118 #[.slice q 0 cap] w fun e w' => e = .returned (.bool false) ∧ Below w.heap.size w w' := by
  have hmm := @run_makeMap Tryd.prog
  go_enter Tryd.func118, Tryd.ntmps118
  go_wp2
  refine wp_loop_rounds 1 ?_
  rw [rounds_succ]
  have hown := World.ownsMap_made w Tryd.prog 9 (plainElem (H := Unit) Tryd.prog 3)
  go_wp2_with (first
    | (at_len; refine wpList_len_own _ rfl _ 150 rfl 9 3 Tryd.underlying150 _ w.heap.size 0 _ rfl hown ?_)
    | go_in)
  go_ret
  exact ⟨rfl, (Below.refl _ _).alloc (Nat.le_refl _) _⟩

theorem right_nil : rightAs [] = true := rfl
theorem dup_nil : dupF [] ([] : List (ByteArray × ByteArray)).length = false := rfl
set_option maxHeartbeats 4000000 in
theorem popen_nil (n : ByteArray) (q : Option Addr) (cap : Nat) (w : World) (hn : n.size ≤ 10000) :
    Calls Tryd.prog 104 #[.string n, .slice q 0 cap] w fun e w' => e = .returned (openV n.data.toList []) ∧ Below w.heap.size w w' := by
  have CN := hide (fun w => pname_any n w (by omega))
  have CR := hide (allRight_nil q cap)
  have CT := hide (hasTwice_nil q cap)
  cases h1 : nameB n.data.toList with
  | false =>
    have hw := wrong_1 (ats := []) h1
    rw [openV_1 (by rw [hw]; decide), hw]
    rw [h1] at CN
    clear h1 hw
    go_enter Tryd.func104, Tryd.ntmps104
    go_wp2_with fail
    refine (unhide CN _).mono ?_
    rintro e w1 ⟨rfl, hb1⟩
    go_wp2
    go_ret2
    exact ⟨rfl, hb1⟩
  | true =>
    rw [openV_0 (wrong_0 h1 right_nil dup_nil (by decide))]
    rw [h1] at CN
    have hol : openL n.data.toList [] = [60] ++ n.data.toList ++ [62] := by simp [openL, attL]
    rw [hol]
    clear h1 hol
    go_enter Tryd.func104, Tryd.ntmps104
    go_wp2_with fail
    refine (unhide CN _).mono ?_
    rintro e w1 ⟨rfl, hb1⟩
    go_wp2_with fail
    refine (unhide CR _).mono ?_
    rintro e w2 ⟨rfl, hw2⟩
    obtain rfl : w1 = w2 := hw2.symm
    go_wp2_with fail
    refine (unhide CT _).mono ?_
    rintro e w3 ⟨rfl, hb3⟩
    have hb13 := tr2 hb1 hb3
    have hbB : Below w.heap.size w (w3.alloc (.cells #[.pointer none, .slice none 0 0] 62)) := tr2 hb13 ((Below.refl _ _).alloc (Nat.le_refl _) _)
    have BN := bld_new w3
    have hz3 := hb13.size
    have hsz1 : (⟨#[60]⟩ ++ n : ByteArray).size = n.size + 1 := by rw [ByteArray.size_append]; show 1 + _ = _; omega
    have hdt1 : (⟨#[60]⟩ ++ n : ByteArray).data.toList = [60] ++ n.data.toList := by simp
    go_wp2_with fail
    refine (writeString_any _ _ _ _ _ BN (by rw [hsz1]; simp; omega) (by simp)).mono ?_
    rintro e w4 ⟨rfl, B4, hb4⟩
    rw [hdt1] at B4
    simp only [List.nil_append] at B4
    have hbW : Below w.heap.size w w4 := hbB.trans (hb4.mono (by omega))
    have hbz4 : w3.heap.size ≤ w4.heap.size := by have := hb4.size; simp at this; omega
    generalize w3.heap.size = b at *
    clear hb4 hbB BN hb13 hsz1 hdt1
    go_wp2
    refine wp_loop_rounds 1 ?_
    rw [rounds_succ]
    have hl1 : ([60] ++ n.data.toList).length + (⟨#[62]⟩ : ByteArray).size ≤ 140737488355328 := by
      rw [List.length_append, data_len]
      have : (⟨#[62]⟩ : ByteArray).size = 1 := rfl
      rw [this]; simp; omega
    go_wp2_with fail
    refine (writeString_any _ _ _ _ _ B4 hl1 hbz4).mono ?_
    rintro e1 w5 ⟨rfl, B5, hb5⟩
    have hb05 := hbW.trans (hb5.mono hz3)
    go_wp2_with fail
    refine (string_any _ _ _ _ B5 (by simp)).mono ?_
    rintro e1 w6 ⟨rfl, hb6⟩
    have hb06 := hb05.trans (hb6.mono hz3)
    go_wp2
    go_ret2
    exact ⟨rfl, hb06⟩

set_option maxHeartbeats 4000000 in
theorem rwrong_nil (n : ByteArray) (q : Option Addr) (cap : Nat) (w : World) (hn : n.size ≤ 10000) :
    Calls Tryd.prog 80 #[.string n, .slice q 0 cap] w fun e w' => e = .returned (.int .i64 (wrongN n.data.toList [])) ∧ w' = w := by
  have CN := hide (fun w => rname6_any n w (by omega))
  cases h1 : nameB n.data.toList with
  | false =>
    rw [wrong_1 (ats := []) h1]
    rw [h1] at CN
    clear h1
    go_enter Tryd.func80, Tryd.ntmps80
    go_wp2_with fail
    refine (unhide CN _).mono ?_
    rintro e w1 ⟨rfl, rfl⟩
    go_wp2
    go_ret
    exact ⟨rfl, rfl⟩
  | true =>
    rw [wrong_0 h1 right_nil dup_nil (by decide)]
    rw [h1] at CN
    clear h1
    go_enter Tryd.func80, Tryd.ntmps80
    go_wp2_with fail
    refine (unhide CN _).mono ?_
    rintro e w1 ⟨rfl, hw1⟩
    obtain rfl : w = w1 := hw1.symm
    go_wp2
    refine wp_loop_rounds 1 ?_
    rw [rounds_succ]; go_wp2
    refine wp_loop_rounds 1 ?_
    rw [rounds_succ]; go_wp2
    go_ret
    exact ⟨rfl, rfl⟩
end Go.Proofs.YtpfnjgkfombmpaaDoor
