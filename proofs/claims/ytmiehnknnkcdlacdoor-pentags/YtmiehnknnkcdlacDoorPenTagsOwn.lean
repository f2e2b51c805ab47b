/-
  For every name and all attributes the law PenTags answers true: which texts are names, which are good, each tag's text, or why it has none, are the document's; the two tables of the package utf start as the program's text lays them (the card ties them); and each argument reads as it did.
-/
import Derived.Test.YtmiehnknnkcdlacDoorPOr
import Derived.Test.YtmiehnknnkcdlacDoorLLk
import Derived.Deep.SlicePairs
import Derived.Carry
import Derived.OpenShut
import Derived.Test.YtmiehnknnkcdlacDoorCards
import Derived.Test.YtmiehnknnkcdlacDoorTie
import Derived.ProofKit
import Derived.ShutString
import Derived.ChangeOld
import Derived.Below
import Derived.Deep.DeepHandedRow
import Derived.Lib.LaidTab

/-
  What 'pen.Open' tells where something is wrong, and on the whole.
-/
namespace Go.Proofs.YtmiehnknnkcdlacDoor
open Go.RowKit
set_option linter.unusedVariables false

set_option maxHeartbeats 4000000 in
theorem popen_any (n : ByteArray) (ats : List (ByteArray × ByteArray)) (g o cap : Nat) (w : World) (ht : Tabs w) (hc : Cells2 g o ats w) (hf : Fits ats) (hn : n.size ≤ 10000) :
    Calls Tryd.prog 10 #[.string n, .slice (some ⟨g, o, none⟩) ats.length cap] w fun e w' => e = .returned (openV n.data.toList ats) ∧ Below w.heap.size w w' := by
  have HT := hide ht
  have HC := hide hc
  have CN := hide (fun w => pname_any n w (by omega))
  have CR := hide (fun w ht hc => allRight_any ats g o cap w ht hc hf)
  have CT := hide (fun w hc => hasTwice_any ats g o cap w hc hf)
  cases h1 : nameB n.data.toList with
  | false =>
    have hw := wrong_1 (ats := ats) h1
    rw [openV_1 (by rw [hw]; decide), hw]
    rw [h1] at CN
    clear ht hc hf h1 hw
    go_enter Tryd.func10, Tryd.ntmps10
    go_wp2_with fail
    refine (unhide CN _).mono ?_
    rintro e w1 ⟨rfl, hb1⟩
    go_wp2
    go_ret2
    exact ⟨rfl, hb1⟩
  | true =>
    cases h2 : rightAs ats with
    | false =>
      have hw := wrong_2 (n := n.data.toList) h2
      rw [openV_1 (by rw [hw]; decide), hw]
      rw [h1] at CN
      rw [h2] at CR
      clear ht hc hf h1 h2 hw
      go_enter Tryd.func10, Tryd.ntmps10
      go_wp2_with fail
      refine (unhide CN _).mono ?_
      rintro e w1 ⟨rfl, hb1⟩
      go_wp2_with fail
      refine (unhide CR _ ((unhide HT).below hb1) ((unhide HC).below hb1)).mono ?_
      rintro e w2 ⟨rfl, hb2⟩
      go_wp2
      go_ret2
      exact ⟨rfl, tr2 hb1 hb2⟩
    | true =>
      by_cases h3 : diffN ats < ats.length
      · have hw := wrong_3 h1 h2 (by rw [diff_dup]; exact decide_eq_true h3)
        rw [openV_1 (by rw [hw]; decide), hw]
        rw [h1] at CN
        rw [h2] at CR
        rw [decide_eq_true h3] at CT
        clear ht hc hf h1 h2 h3 hw
        go_enter Tryd.func10, Tryd.ntmps10
        go_wp2_with fail
        refine (unhide CN _).mono ?_
        rintro e w1 ⟨rfl, hb1⟩
        go_wp2_with fail
        refine (unhide CR _ ((unhide HT).below hb1) ((unhide HC).below hb1)).mono ?_
        rintro e w2 ⟨rfl, hb2⟩
        have hb12 := tr2 hb1 hb2
        go_wp2_with fail
        refine (unhide CT _ ((unhide HC).below hb12)).mono ?_
        rintro e w3 ⟨rfl, hb3⟩
        go_wp2
        go_ret2
        exact ⟨rfl, tr2 hb12 hb3⟩
      · have hd : dupF ats ats.length = false := by rw [diff_dup]; exact decide_eq_false h3
        by_cases h4 : 12 < ats.length
        · have hw := wrong_4 h1 h2 hd h4
          rw [openV_1 (by rw [hw]; decide), hw]
          rw [h1] at CN
          rw [h2] at CR
          rw [decide_eq_false h3] at CT
          have h4i : (12 : Int) < (ats.length : Int) := by omega
          clear ht hc hf h1 h2 h3 hw hd h4
          go_enter Tryd.func10, Tryd.ntmps10
          go_wp2_with fail
          refine (unhide CN _).mono ?_
          rintro e w1 ⟨rfl, hb1⟩
          go_wp2_with fail
          refine (unhide CR _ ((unhide HT).below hb1) ((unhide HC).below hb1)).mono ?_
          rintro e w2 ⟨rfl, hb2⟩
          have hb12 := tr2 hb1 hb2
          go_wp2_with fail
          refine (unhide CT _ ((unhide HC).below hb12)).mono ?_
          rintro e w3 ⟨rfl, hb3⟩
          go_wp2
          go_ret2
          exact ⟨rfl, tr2 hb12 hb3⟩
        · rw [openV_0 (wrong_0 h1 h2 hd h4)]
          exact popen_ok n ats g o cap w ht hc hf hn h1 h2 h3 h4
end Go.Proofs.YtmiehnknnkcdlacDoor

/-
  'pen.Open' and the reference's where there are no attributes at all, wherever the slice may point to.
-/
namespace Go.Proofs.YtmiehnknnkcdlacDoor
open Go.RowKit
set_option linter.unusedVariables false

set_option maxHeartbeats 2000000 in
theorem allRight_nil (q : Option Addr) (cap : Nat) (w : World) :
    Calls Tryd.prog 26 #[.slice q 0 cap] w fun e w' => e = .returned (.bool true) ∧ w' = w := by
  go_enter Tryd.func26, Tryd.ntmps26
  go_wp2
  refine wp_loop_rounds 1 ?_
  rw [rounds_succ]; go_wp2
  go_ret
  exact ⟨rfl, rfl⟩
set_option maxHeartbeats 2000000 in
set_option maxRecDepth 100000 in
theorem hasTwice_nil (q : Option Addr) (cap : Nat) (w : World) :
    Calls Tryd.prog 27 #[.slice q 0 cap] w fun e w' => e = .returned (.bool false) ∧ Below w.heap.size w w' := by
  have hmm := @run_makeMap Tryd.prog
  go_enter Tryd.func27, Tryd.ntmps27
  go_wp2
  refine wp_loop_rounds 1 ?_
  rw [rounds_succ]
  have hown := World.ownsMap_made w Tryd.prog 9 (plainElem (H := Unit) Tryd.prog 3)
  go_wp2_with (first
    | (at_len; refine wpList_len_own _ rfl _ 69 rfl 9 3 Tryd.underlying69 _ w.heap.size 0 _ rfl hown ?_)
    | go_in)
  go_ret
  exact ⟨rfl, (Below.refl _ _).alloc (Nat.le_refl _) _⟩

theorem right_nil : rightAs [] = true := rfl
theorem dup_nil : dupF [] ([] : List (ByteArray × ByteArray)).length = false := rfl
set_option maxHeartbeats 4000000 in
theorem popen_nil (n : ByteArray) (q : Option Addr) (cap : Nat) (w : World) (hn : n.size ≤ 10000) :
    Calls Tryd.prog 10 #[.string n, .slice q 0 cap] w fun e w' => e = .returned (openV n.data.toList []) ∧ Below w.heap.size w w' := by
  have CN := hide (fun w => pname_any n w (by omega))
  have CR := hide (allRight_nil q cap)
  have CT := hide (hasTwice_nil q cap)
  cases h1 : nameB n.data.toList with
  | false =>
    have hw := wrong_1 (ats := []) h1
    rw [openV_1 (by rw [hw]; decide), hw]
    rw [h1] at CN
    clear h1 hw
    go_enter Tryd.func10, Tryd.ntmps10
    go_wp2_with fail
    refine (unhide CN _).mono ?_
    rintro e w1 ⟨rfl, hb1⟩
    go_wp2
    go_ret2
    exact ⟨rfl, hb1⟩
  | true =>
    rw [openV_0 (wrong_0 h1 right_nil dup_nil (by decide))]
    rw [h1] at CN
    have hol : openL n.data.toList [] = [60] ++ n.data.toList ++ [62] := by simp [openL, attL]
    rw [hol]
    clear h1 hol
    go_enter Tryd.func10, Tryd.ntmps10
    go_wp2_with fail
    refine (unhide CN _).mono ?_
    rintro e w1 ⟨rfl, hb1⟩
    go_wp2_with fail
    refine (unhide CR _).mono ?_
    rintro e w2 ⟨rfl, hw2⟩
    obtain rfl : w1 = w2 := hw2.symm
    go_wp2_with fail
    refine (unhide CT _).mono ?_
    rintro e w3 ⟨rfl, hb3⟩
    have hb13 := tr2 hb1 hb3
    have hbB : Below w.heap.size w (w3.alloc (.cells #[.pointer none, .slice none 0 0] 51)) := tr2 hb13 ((Below.refl _ _).alloc (Nat.le_refl _) _)
    have BN := bld_new w3
    have hz3 := hb13.size
    have hsz1 : (⟨#[60]⟩ ++ n : ByteArray).size = n.size + 1 := by rw [ByteArray.size_append]; show 1 + _ = _; omega
    have hdt1 : (⟨#[60]⟩ ++ n : ByteArray).data.toList = [60] ++ n.data.toList := by simp
    go_wp2_with fail
    refine (writeString_any _ _ _ _ _ BN (by rw [hsz1]; simp; omega) (by simp)).mono ?_
    rintro e w4 ⟨rfl, B4, hb4⟩
    rw [hdt1] at B4
    simp only [List.nil_append] at B4
    have hbW : Below w.heap.size w w4 := hbB.trans (hb4.mono (by omega))
    have hbz4 : w3.heap.size ≤ w4.heap.size := by have := hb4.size; simp at this; omega
    generalize w3.heap.size = b at *
    clear hb4 hbB BN hb13 hsz1 hdt1
    go_wp2
    refine wp_loop_rounds 1 ?_
    rw [rounds_succ]
    have hl1 : ([60] ++ n.data.toList).length + (⟨#[62]⟩ : ByteArray).size ≤ 140737488355328 := by
      rw [List.length_append, data_len]
      have : (⟨#[62]⟩ : ByteArray).size = 1 := rfl
      rw [this]; simp; omega
    go_wp2_with fail
    refine (writeString_any _ _ _ _ _ B4 hl1 hbz4).mono ?_
    rintro e1 w5 ⟨rfl, B5, hb5⟩
    have hb05 := hbW.trans (hb5.mono hz3)
    go_wp2_with fail
    refine (string_any _ _ _ _ B5 (by simp)).mono ?_
    rintro e1 w6 ⟨rfl, hb6⟩
    have hb06 := hb05.trans (hb6.mono hz3)
    go_wp2
    go_ret2
    exact ⟨rfl, hb06⟩

set_option maxHeartbeats 4000000 in
theorem rwrong_nil (n : ByteArray) (q : Option Addr) (cap : Nat) (w : World) (hn : n.size ≤ 10000) :
    Calls Tryd.prog 31 #[.string n, .slice q 0 cap] w fun e w' => e = .returned (.int .i64 (wrongN n.data.toList [])) ∧ w' = w := by
  have CN := hide (fun w => rname6_any n w (by omega))
  cases h1 : nameB n.data.toList with
  | false =>
    rw [wrong_1 (ats := []) h1]
    rw [h1] at CN
    clear h1
    go_enter Tryd.func31, Tryd.ntmps31
    go_wp2_with fail
    refine (unhide CN _).mono ?_
    rintro e w1 ⟨rfl, rfl⟩
    go_wp2
    go_ret
    exact ⟨rfl, rfl⟩
  | true =>
    rw [wrong_0 h1 right_nil dup_nil (by decide)]
    rw [h1] at CN
    clear h1
    go_enter Tryd.func31, Tryd.ntmps31
    go_wp2_with fail
    refine (unhide CN _).mono ?_
    rintro e w1 ⟨rfl, hw1⟩
    obtain rfl : w = w1 := hw1.symm
    go_wp2
    refine wp_loop_rounds 1 ?_
    rw [rounds_succ]; go_wp2
    refine wp_loop_rounds 1 ?_
    rw [rounds_succ]; go_wp2
    go_ret
    exact ⟨rfl, rfl⟩
set_option maxHeartbeats 4000000 in
theorem rplain_nil (n : ByteArray) (q : Option Addr) (cap : Nat) (w : World) (hn : n.size ≤ 10000) :
    Calls Tryd.prog 32 #[.string n, .slice q 0 cap] w fun e w' => e = .returned (.string (bs (openL n.data.toList []))) ∧ w' = w := by
  have hol : bs (openL n.data.toList []) = ⟨#[60]⟩ ++ n ++ ⟨#[62]⟩ := by
    have h1 : (⟨#[60]⟩ : ByteArray) = bs [60] := rfl
    have h2 : (⟨#[62]⟩ : ByteArray) = bs [62] := rfl
    rw [h1, h2, bs_add, bs_bs]; simp [openL, attL]
  rw [hol]
  clear hol
  go_enter Tryd.func32, Tryd.ntmps32
  go_wp2
  refine wp_loop_rounds 1 ?_
  rw [rounds_succ]; go_wp2
  go_ret
  exact ⟨rfl, rfl⟩
set_option maxHeartbeats 2000000 in
theorem ropen_nil (n : ByteArray) (q : Option Addr) (cap : Nat) (w : World) (hn : n.size ≤ 10000) :
    Calls Tryd.prog 11 #[.string n, .slice q 0 cap] w fun e w' => e = .returned (openV n.data.toList []) ∧ Below w.heap.size w w' := by
  have CW := hide (rwrong_nil n q cap w hn)
  have CP := hide (fun w => rplain_nil n q cap w hn)
  by_cases h0 : wrongN n.data.toList [] = 0
  · rw [openV_0 h0]
    rw [h0] at CW
    generalize bs (openL n.data.toList []) = y at *
    clear h0
    go_enter Tryd.func11, Tryd.ntmps11
    go_wp2_with fail
    refine (unhide CW).mono ?_
    rintro e w1 ⟨rfl, hw1⟩
    obtain rfl : w = w1 := hw1.symm
    go_wp2_with fail
    refine (unhide CP _).mono ?_
    rintro e w2 ⟨rfl, hw2⟩
    obtain rfl : w = w2 := hw2.symm
    go_wp2
    go_ret2
    exact ⟨rfl, Below.refl _ _⟩
  · rw [openV_1 h0]
    generalize wrongN n.data.toList [] = wn at *
    have hne : (wn == 0) = false := beq_eq_false_iff_ne.2 h0
    have hne' : (wn != 0) = true := by simpa using h0
    clear h0
    go_enter Tryd.func11, Tryd.ntmps11
    go_wp2_with fail
    refine (unhide CW).mono ?_
    rintro e w1 ⟨rfl, hw1⟩
    obtain rfl : w = w1 := hw1.symm
    go_wp2
    go_ret2
    exact ⟨rfl, Below.refl _ _⟩
end Go.Proofs.YtmiehnknnkcdlacDoor

/-
  What the law's 'long' of layer 6 tells.
-/
namespace Go.Proofs.YtmiehnknnkcdlacDoor
open Go.RowKit
set_option linter.unusedVariables false

/-- Attributes behind a slice, or none at all. -/
def Sl (q : Option Addr) (ats : List (ByteArray × ByteArray)) (w : World) : Prop := ats = [] ∨ ∃ g o, q = some ⟨g, o, none⟩ ∧ Cells2 g o ats w
theorem Sl.below {q : Option Addr} {ats : List (ByteArray × ByteArray)} {w w' : World} (h : Sl q ats w) (hb : Below w.heap.size w w') : Sl q ats w' :=
  h.imp id fun ⟨g, o, h1, h2⟩ => ⟨g, o, h1, h2.below hb⟩
def Wfs (ats : List (ByteArray × ByteArray)) : Prop := ats.length ≤ 9223372036854775807 ∧ ∀ k, k < ats.length → (an ats k).size ≤ 9223372036854775807 ∧ (av ats k).size ≤ 9223372036854775807
def LongSaid (ats : List (ByteArray × ByteArray)) (w : World) (e : Ending) (w' : World) : Prop := ∃ b, e = .returned (.bool b) ∧ (b = false → Fits ats) ∧ Below w.heap.size w w'
theorem fits_nil : Fits [] := ⟨by decide, fun k hk => by simp at hk⟩

set_option maxHeartbeats 2000000 in
theorem long_nil (q : Option Addr) (cap : Nat) (w : World) :
    Calls Tryd.prog 8 #[.slice q 0 cap] w fun e w' => e = .returned (.bool false) ∧ w' = w := by
  go_enter Tryd.func8, Tryd.ntmps8
  go_wp2
  refine wp_loop_rounds 1 ?_
  rw [rounds_succ]; go_wp2
  go_ret
  exact ⟨rfl, rfl⟩

set_option maxHeartbeats 2000000 in
theorem long_some (ats : List (ByteArray × ByteArray)) (g o cap : Nat) (w : World) (hc : Cells2 g o ats w) (hf : Wfs ats) :
    Calls Tryd.prog 8 #[.slice (some ⟨g, o, none⟩) ats.length cap] w (LongSaid ats w) := by
  have HC := hide hc
  have HF := hide hf
  have hlen := hf.1
  clear hc hf
  by_cases h40 : 40 < ats.length
  · have hi : (40 : Int) < (ats.length : Int) := by omega
    go_enter Tryd.func8, Tryd.ntmps8
    go_wp2
    go_ret
    exact ⟨true, rfl, fun h => (by cases h), Below.refl _ _⟩
  have hi : ¬ (40 : Int) < (ats.length : Int) := by omega
  go_enter Tryd.func8, Tryd.ntmps8
  go_wp2
  go_loopw [10] (fun i wr => ∃ k : Nat, k ≤ ats.length ∧ i = .int .i64 k ∧ (∀ j, j < k → (an ats j).size ≤ 10000 ∧ (av ats j).size ≤ 10000) ∧ Below w.heap.size w wr) (fun i _ => ats.length - (intOf i).toNat)
  case atStart => exact ⟨0, Nat.zero_le _, rfl, fun j hj => by omega, Below.refl _ _⟩
  case round =>
    obtain ⟨k, hk, rfl, hr, hbw⟩ := hrel
    have HR := hide hr
    have hzw := hbw.size
    clear hr
    by_cases hp : k < ats.length
    · have hpi : (k : Int) < (ats.length : Int) := by omega
      obtain ⟨c1, c2⟩ := (unhide HC).below hbw k hp
      obtain ⟨z1, z2⟩ := (unhide HF).2 k hp
      have hst : (an ats k).size ≤ 10000 → (av ats k).size ≤ 10000 → ∀ j, j < k + 1 → (an ats j).size ≤ 10000 ∧ (av ats j).size ≤ 10000 := fun h1 h2 j hj => by
        by_cases e : j = k
        · subst e; exact ⟨h1, h2⟩
        · exact unhide HR j (by omega)
      have HST := hide hst
      clear hst
      generalize an ats k = a1 at *
      generalize av ats k = a2 at *
      have hbA : Below wr.heap.size wr (wr.alloc (.cells #[.string a1, .string a2] 47)) := (Below.refl _ _).alloc (Nat.le_refl _) _
      have hbA' := tr2 hbw hbA
      by_cases h1 : 200 < a1.size
      · have h1i : (200 : Int) < (a1.size : Int) := by omega
        go_wp2
        go_ret
        exact ⟨true, rfl, fun h => (by cases h), hbA'⟩
      · have h1i : ¬ (200 : Int) < (a1.size : Int) := by omega
        by_cases h2 : 1000 < a2.size
        · have h2i : (1000 : Int) < (a2.size : Int) := by omega
          go_wp2
          go_ret
          exact ⟨true, rfl, fun h => (by cases h), hbA'⟩
        · have h2i : ¬ (1000 : Int) < (a2.size : Int) := by omega
          have HN := hide (unhide HST (by omega) (by omega))
          go_wp2
          go_roundw
          case rel => exact ⟨k + 1, by omega, by go_num, unhide HN, hbA'⟩
          case measure => simp [intOf]; omega
    · have hke : k = ats.length := by omega
      have hv : Fits ats := ⟨by omega, by rw [← hke]; exact unhide HR⟩
      have HV := hide hv
      clear hv
      go_wp2
      go_ret
      exact ⟨false, rfl, fun _ => unhide HV, hbw⟩
theorem long_any (q : Option Addr) (ats : List (ByteArray × ByteArray)) (cap : Nat) (w : World) (hs : Sl q ats w) (hf : Wfs ats) :
    Calls Tryd.prog 8 #[.slice q ats.length cap] w (LongSaid ats w) := by
  rcases hs with rfl | ⟨g, o, rfl, hc⟩
  · refine (long_nil q cap w).mono ?_
    rintro e w' ⟨rfl, rfl⟩
    exact ⟨false, rfl, fun _ => fits_nil, Below.refl _ _⟩
  · exact long_some ats g o cap w hc hf
theorem popen_all (n : ByteArray) (q : Option Addr) (ats : List (ByteArray × ByteArray)) (cap : Nat) (w : World) (ht : Tabs w) (hs : Sl q ats w) (hf : Fits ats) (hn : n.size ≤ 10000) :
    Calls Tryd.prog 10 #[.string n, .slice q ats.length cap] w fun e w' => e = .returned (openV n.data.toList ats) ∧ Below w.heap.size w w' := by
  rcases hs with rfl | ⟨g, o, rfl, hc⟩
  · exact popen_nil n q cap w hn
  · exact popen_any n ats g o cap w ht hc hf hn
theorem ropen_all (n : ByteArray) (q : Option Addr) (ats : List (ByteArray × ByteArray)) (cap : Nat) (w : World) (hs : Sl q ats w) (hf : Fits ats) (hn : n.size ≤ 10000) :
    Calls Tryd.prog 11 #[.string n, .slice q ats.length cap] w fun e w' => e = .returned (openV n.data.toList ats) ∧ Below w.heap.size w w' := by
  rcases hs with rfl | ⟨g, o, rfl, hc⟩
  · exact ropen_nil n q cap w hn
  · exact ropen_any n ats g o cap w hc hf hn
end Go.Proofs.YtmiehnknnkcdlacDoor

/-
  The law PenTags walked: which texts are names, which are good; each tag's text, or why it has none.
-/
namespace Go.Proofs.YtmiehnknnkcdlacDoor
open Go.RowKit
set_option linter.unusedVariables false

theorem toldV_two (b : Bool) (x : ByteArray) : ∃ y c, toldV b x = .tuple #[.string y, .int .i64 c] ∧ -10 ≤ c ∧ c ≤ 10 := by
  cases b with
  | true => exact ⟨_, _, rfl, by decide, by decide⟩
  | false => exact ⟨_, _, rfl, by decide, by decide⟩
theorem openV_eq (n : List UInt8) (ats : List (ByteArray × ByteArray)) : ∃ y c, openV n ats = .tuple #[.string y, .int .i64 c] ∧ -10 ≤ c ∧ c ≤ 10 := by
  refine ⟨_, wrongN n ats, rfl, ?_, ?_⟩ <;> unfold wrongN <;> split <;> (try split) <;> (try split) <;> decide

set_option maxHeartbeats 4000000 in
theorem penTags_walk (n : ByteArray) (q : Option Addr) (ats : List (ByteArray × ByteArray)) (cap : Nat) (w : World) (ht : Tabs w) (hm : Mx w) (hs : Sl q ats w) (hf : Wfs ats) (hn : n.size ≤ 9223372036854775807) :
    Calls Tryd.prog 3 #[.string n, .slice q ats.length cap] w fun e w' => e = .returned (.bool true) ∧ Below w.heap.size w w' := by
  have HT := hide ht
  have HM := hide hm
  have HS := hide hs
  have E := hide link_any
  have CL := hide (long_any q ats cap w hs hf)
  clear ht hm hs hf
  go_enter Tryd.func3, Tryd.ntmps3
  go_wp2_with fail
  refine (unhide CL).mono ?_
  rintro e w1 ⟨b, rfl, hfit, hb1⟩
  have HFT := hide hfit
  clear hfit
  cases b with
  | true =>
    go_wp2_with fail
    refine (unhide E _ ((unhide HT).below hb1) ((unhide HM).below hb1)).mono ?_
    rintro e w2 ⟨rfl, hb2⟩
    go_wp2
    go_ret
    exact ⟨rfl, tr2 hb1 hb2⟩
  | false =>
    by_cases h1 : 1000 < n.size
    · have hi : (1000 : Int) < (n.size : Int) := by omega
      go_wp2_with fail
      refine (unhide E _ ((unhide HT).below hb1) ((unhide HM).below hb1)).mono ?_
      rintro e w2 ⟨rfl, hb2⟩
      go_wp2
      go_ret
      exact ⟨rfl, tr2 hb1 hb2⟩
    have hi : ¬ (1000 : Int) < (n.size : Int) := by omega
    have C1 := hide (fun w h1 h2 => popen_all n q ats cap w h1 h2 (unhide HFT rfl) (by omega))
    have C2 := hide (fun w h2 => ropen_all n q ats cap w h2 (unhide HFT rfl) (by omega))
    have C3 := hide (fun w => pclose_any n w (by omega))
    have C4 := hide (fun w => rclose6_any n w (by omega))
    have C5 := hide (fun w => pname_any n w (by omega))
    have C6 := hide (fun w => rname6_any n w (by omega))
    have C7 := hide (fun w h => pgood_any n w h (by omega))
    have C8 := hide (fun w => rgood6_any n w (by omega))
    obtain ⟨y1, c1, e1, l1, u1⟩ := openV_eq n.data.toList ats
    obtain ⟨y2, c2, e2, l2, u2⟩ := toldV_two (nameB n.data.toList) (bs (closeL n.data.toList))
    rw [e1] at C1 C2
    rw [e2] at C3 C4
    generalize nameB n.data.toList = nb at *
    generalize goodB n.data.toList = gb at *
    have q1 : (y1.toList == y1.toList) = true := by simp
    have q2 : (y2.toList == y2.toList) = true := by simp
    have r1 : (c1 == c1) = true := by simp
    have r2 : (c2 == c2) = true := by simp
    have r3 : (nb == nb) = true := by simp
    have r4 : (gb == gb) = true := by simp
    clear e1 e2 HFT CL
    go_wp2_with fail
    refine (unhide C1 _ ((unhide HT).below hb1) ((unhide HS).below hb1)).mono ?_
    rintro e w2 ⟨rfl, hb2⟩
    have hb02 := tr2 hb1 hb2
    go_wp2_with fail
    refine (unhide C2 _ ((unhide HS).below hb02)).mono ?_
    rintro e w3 ⟨rfl, hb3⟩
    have hb03 := tr2 hb02 hb3
    go_wp2_with fail
    refine (unhide C3 _).mono ?_
    rintro e w4 ⟨rfl, hb4⟩
    have hb04 := tr2 hb03 hb4
    go_wp2_with fail
    refine (unhide C4 _).mono ?_
    rintro e w5 ⟨rfl, hw5⟩
    obtain rfl : w4 = w5 := hw5.symm
    clear hb1 hb2 hb02 hb3 hb03 hb4
    go_wp2_with fail
    refine (unhide C5 _).mono ?_
    rintro e w6 ⟨rfl, hb6⟩
    have hb06 := tr2 hb04 hb6
    go_wp2_with fail
    refine (unhide C6 _).mono ?_
    rintro e w7 ⟨rfl, hw7⟩
    obtain rfl : w6 = w7 := hw7.symm
    go_wp2_with fail
    refine (unhide C7 _ ((unhide HT).below hb06)).mono ?_
    rintro e w8 ⟨rfl, hb8⟩
    have hb08 := tr2 hb06 hb8
    go_wp2_with fail
    refine (unhide C8 _).mono ?_
    rintro e w9 ⟨rfl, hb9⟩
    have hb09 := tr2 hb08 hb9
    go_wp2_with fail
    refine (unhide E _ ((unhide HT).below hb09) ((unhide HM).below hb09)).mono ?_
    rintro e w10 ⟨rfl, hb10⟩
    go_wp2
    go_ret
    exact ⟨rfl, tr2 hb09 hb10⟩
end Go.Proofs.YtmiehnknnkcdlacDoor

/-
  An argument of type []api.Attr opened: the attributes behind it.
-/
namespace Go.Proofs.YtmiehnknnkcdlacDoor
open Go.RowKit Go.Deep Go.WideShapes Go.ChangeShapes
set_option linter.unusedVariables false

theorem attr_cells : Tryd.prog.cellsOf 47 = 2 := by kernel_rfl
theorem str_cells : Tryd.prog.cellsOf 9 = 1 := by kernel_rfl
def strOf : Value → ByteArray
  | .string s => s
  | _ => ByteArray.empty
def mkAts (V0 V1 : Nat → Value) (len : Nat) : List (ByteArray × ByteArray) := (List.range len).map fun i => (strOf (V0 i), strOf (V1 i))
theorem mkAts_len (V0 V1 : Nat → Value) (len : Nat) : (mkAts V0 V1 len).length = len := by simp [mkAts]
theorem mkAts_an {V0 V1 : Nat → Value} {len k : Nat} (h : k < len) : an (mkAts V0 V1 len) k = strOf (V0 k) := by simp [an, mkAts, List.getD, h]
theorem mkAts_av {V0 V1 : Nat → Value} {len k : Nat} (h : k < len) : av (mkAts V0 V1 len) k = strOf (V1 k) := by simp [av, mkAts, List.getD, h]

theorem open_attrs {H : Type} {enc : TypeId × Value → H} {W : World} {qa : Option Addr} {len cap : Nat} {d : DataW H} {ps : List MemPlace}
    (h : DataW.Trod enc Tryd.prog W 0 (fun _ => true) true 22 (.slice qa len cap) d ps) :
    ∃ ats : List (ByteArray × ByteArray), ats.length = len ∧ Sl qa ats W ∧ Wfs ats := by
  obtain ⟨n, t0⟩ := h
  rcases open_slice_pairs Tryd.underlying22 Tryd.underlying47 attr_cells rfl rfl str_cells str_cells t0 with ⟨hc, hx⟩ | ⟨a, len', cap', m, k, V0, V1, D0, D1, P0, P1, hc, _, hl, hm, hmm, hx, hall⟩
  · simp only [Value.cells, List.cons.injEq, and_true, Value.slice.injEq] at hc
    obtain ⟨rfl, rfl, rfl⟩ := hc
    exact ⟨[], rfl, Or.inl rfl, by decide, fun k hk => by simp at hk⟩
  · simp only [Value.cells, List.cons.injEq, and_true, Value.slice.injEq] at hc
    obtain ⟨rfl, rfl, rfl⟩ := hc
    simp only [if_true] at hmm
    subst hmm
    have hs0 : ∀ i, i < m → V0 i = .string (strOf (V0 i)) ∧ (strOf (V0 i)).size ≤ maxLen := fun i hi => by
      obtain ⟨s, h1, h2, h3⟩ := DataW.trod_string Tryd.underlying9 (hall i hi).2.2.1
      simp only [List.cons.injEq, and_true] at h1
      rw [h1]; exact ⟨rfl, h3⟩
    have hs1 : ∀ i, i < m → V1 i = .string (strOf (V1 i)) ∧ (strOf (V1 i)).size ≤ maxLen := fun i hi => by
      obtain ⟨s, h1, h2, h3⟩ := DataW.trod_string Tryd.underlying9 (hall i hi).2.2.2
      simp only [List.cons.injEq, and_true] at h1
      rw [h1]; exact ⟨rfl, h3⟩
    refine ⟨mkAts V0 V1 len, mkAts_len _ _ _, ?_, ?_, ?_⟩
    · by_cases h0 : len = 0
      · subst h0; exact Or.inl rfl
      · obtain ⟨sb, so, spot⟩ := a
        have hspot : spot = none := by simpa [Addr.add] using World.cell?_spot (hall 0 (by omega)).1
        subst hspot
        refine Or.inr ⟨sb, so, rfl, fun k hk => ?_⟩
        rw [mkAts_len] at hk
        rw [mkAts_an hk, mkAts_av hk]
        have e0 := (hall k (by omega)).1
        have e1 := (hall k (by omega)).2.1
        rw [(hs0 k (by omega)).1] at e0
        rw [(hs1 k (by omega)).1] at e1
        rw [add_plain] at e0 e1
        exact ⟨e0, by rw [Nat.add_assoc]; exact e1⟩
    · rw [mkAts_len]; unfold maxLen at hm; omega
    · intro k hk
      rw [mkAts_len] at hk
      rw [mkAts_an hk, mkAts_av hk]
      have := (hs0 k (by omega)).2
      have := (hs1 k (by omega)).2
      unfold maxLen at *
      omega
end Go.Proofs.YtmiehnknnkcdlacDoor

namespace Go.Proofs.YtmiehnknnkcdlacDoor.tagsF
open Go.ChangeShapes Go.WideShapes Go.ChangeAt Go.RowKit
open Go.ChangeMaps (open_string shut_string)
set_option linter.unusedVariables false

theorem own : ownKnob Tryd.prog.godebug = none := by kernel_rfl
theorem gHeads : Tryd.prog.globalNamed "recto/utf.heads" = some 0 := by kernel_rfl
theorem gEnds : Tryd.prog.globalNamed "recto/utf.ends" = some 1 := by kernel_rfl
theorem gHeadsType : (Tryd.prog.globals[0]?).map (·.type) = some 88 := by kernel_rfl
theorem gEndsType : (Tryd.prog.globals[1]?).map (·.type) = some 88 := by kernel_rfl
theorem cellsArr : Tryd.prog.cellsOf 88 = 5 := by kernel_rfl
theorem cellsInt : Tryd.prog.cellsOf 3 = 1 := by kernel_rfl

/-- What the row's list gives: the two tables' cells. -/
theorem heads {W : World} (h : laidMetH Tryd.prog Rows.penTagsRow.laid W) : Lib.TabIs Tryd.prog W "recto/utf.heads" .i64 [0, 0, 192, 224, 240] :=
  Lib.tabIs_of_head (rest := [("recto/utf.ends", Rows.laid_recto_utf_ends)]) gHeads gHeadsType Tryd.underlying88 Tryd.underlying3 cellsInt cellsArr h
theorem ends {W : World} (h : laidMetH Tryd.prog Rows.penTagsRow.laid W) : Lib.TabIs Tryd.prog W "recto/utf.ends" .i64 [0, 128, 2048, 65536, 1114112] := by
  have h0 : laidMet Tryd.prog [("recto/utf.heads", Rows.laid_recto_utf_heads), ("recto/utf.ends", Rows.laid_recto_utf_ends)] W := h
  obtain ⟨ps, ⟨g1, t1, cs1, f1, p1, q1, _, _, _, _, hrest, rfl⟩, hnd, hcell⟩ := h0
  have h1 : laidMet Tryd.prog [("recto/utf.ends", Rows.laid_recto_utf_ends)] W :=
    ⟨q1, hrest, (List.nodup_append.1 hnd).2.1, fun b off hm => hcell b off (List.mem_append_right _ hm)⟩
  exact Lib.tabIs_of_head (rest := []) gEnds gEndsType Tryd.underlying88 Tryd.underlying3 cellsInt cellsArr h1
theorem tabs {W : World} (h : laidMetH Tryd.prog Rows.penTagsRow.laid W) : Tabs W :=
  ⟨(heads h).cell gHeads 1 (by decide), (heads h).cell gHeads 2 (by decide), (heads h).cell gHeads 3 (by decide), (heads h).cell gHeads 4 (by decide),
   (ends h).cell gEnds 1 (by decide), (ends h).cell gEnds 2 (by decide), (ends h).cell gEnds 3 (by decide), (ends h).cell gEnds 4 (by decide)⟩

theorem mx {W : World} (h : W.ShapedOpen Tryd.prog) : Mx W :=
  Go.Proofs.cell_of_shapedOpen_int (zero := #[.int .i64 0]) (t := 3) h (of_decide_eq_true (by kernel_rfl)) (by kernel_rfl) rfl (by kernel_rfl) (by kernel_rfl) Tryd.underlying3
theorem laidOut : laidOutB Tryd.prog = true := by kernel_rfl

set_option maxRecDepth 100000 in
theorem contract (H : Type) (enc : TypeId × Value → H) (W : World) (base : Nat) (args : Array Value) (ds gs : List (DataW H)) (before : List MemPlace)
    (hval : ∀ (j : Nat) t v, Tryd.f3.params[j]? = some t → args[j]? = some v → Value.okWide Tryd.prog W .any base t v)
    (hW : DataW.Whole enc Tryd.prog Tryd.f3.params.toList Rows.penTagsSpec.vars false W args.toList ds gs before) (hL : laidMetH Tryd.prog Rows.penTagsRow.laid W) (hSO : W.ShapedOpen Tryd.prog) :
    Calls Tryd.prog 3 args W fun e W' => ∃ v, e = .returned v ∧ Rows.penTagsSpec.post enc Tryd.prog Tryd.f3 false true false false W args v W' := by
  have hW' := hW
  obtain ⟨p, q, hA0, hV, rfl, hfz, hnd⟩ := hW
  have hA : DataW.TrodAll enc Tryd.prog W 0 (fun _ => true) true Tryd.f3.params.toList args.toList ds p := hA0
  rw [Tryd.params3] at hA hval
  obtain ⟨v0, vs0, d0, ds0, p0, q0, hargs, rfl, rfl, h0, r0⟩ := trodAll_cons hA
  obtain ⟨v1, vs1, d1, ds1, p1, q1, rfl, rfl, rfl, h1, r1⟩ := trodAll_cons r0
  obtain ⟨rfl, rfl, rfl⟩ := trodAll_nil r1
  obtain rfl : args = #[v0, v1] := by cases args; simp_all
  obtain ⟨rfl, rfl⟩ := trodVars_none hV
  obtain ⟨a0, rfl, rfl, rfl, w0⟩ := open_string Tryd.underlying9 (hval 0 9 v0 rfl rfl) h0
  have hlt : ∀ x ∈ p1, x.block < W.heap.size := fun x hx => hW'.lt x (by simp [hx])
  obtain ⟨qa, len, cap, rfl⟩ := okWide_slice Tryd.underlying22 (hval 1 22 v1 rfl rfl)
  obtain ⟨ats, rfl, hsl, hwf⟩ := open_attrs h1
  clear hA0
  refine (penTags_walk a0 qa ats cap W (tabs hL) (mx hSO) hsl hwf w0).mono fun e W' ⟨he, bel⟩ => ?_
  subst he
  exact ⟨_, rfl, _, _, _, [], _, [], hW', trodAll_mk1 (shut_bool Tryd.underlying4 _), (trodAll_cons_mk (shut_string Tryd.underlying9 w0) (trodAll_cons_mk (Below.trod laidOut (by kernel_rfl) (of_decide_eq_true (by kernel_rfl)) h1 bel hlt) trodAll_mk0)), rfl, bel.frame _, fun h => by cases h⟩

/-- What the tables' initialisers lay. -/
def lay0 : Obj → Obj
  | .cells _ t frozen => .cells #[.int .i64 0, .int .i64 0, .int .i64 192, .int .i64 224, .int .i64 240] t frozen
  | o => o
def lay1 : Obj → Obj
  | .cells _ t frozen => .cells #[.int .i64 0, .int .i64 128, .int .i64 2048, .int .i64 65536, .int .i64 1114112] t frozen
  | o => o
theorem laid_met (os : Os) : laidMet Tryd.prog Rows.penTagsRow.laid (({ World.holding Tryd.prog os ⟨#[], #[], []⟩ with heap := ((World.holding Tryd.prog os ⟨#[], #[], []⟩).heap.modify 0 lay0).modify 1 lay1 } : World).forCall (fun _ _ => 0) ⟨#[], #[.string ⟨#[]⟩, .slice none 0 0], []⟩).memory :=
  laidMet_of_run' 8 (by kernel_rfl) (by kernel_rfl)
theorem reads (os : Os) {H : Type} (enc : TypeId × Value → H) : ∃ places, DataW.whole enc Tryd.prog (({ World.holding Tryd.prog os ⟨#[], #[], []⟩ with heap := ((World.holding Tryd.prog os ⟨#[], #[], []⟩).heap.modify 0 lay0).modify 1 lay1 } : World).forCall (fun _ _ => 0) ⟨#[], #[.string ⟨#[]⟩, .slice none 0 0], []⟩).memory Tryd.f3.params.toList Rows.penTagsSpec.vars false #[Value.string ⟨#[]⟩, Value.slice none 0 0].toList 8 = some ([.lit (.string []), .nil], [], places) :=
  ⟨[], by kernel_rfl⟩

set_option maxRecDepth 100000 in
theorem lifted (os : Os) (started : os.Started) (H : Type) (enc : TypeId × Value → H) (F : Stop.Interp) :
    ReturnsInHanded {} Tryd.checked os 3 .any ((OpenSpec.ofChange Rows.penTagsSpec).preRow enc Tryd.prog Tryd.f3 Rows.penTagsRow.domain false Rows.penTagsRow.laid) (((OpenSpec.ofChange Rows.penTagsSpec).at F).post enc Tryd.prog Tryd.f3 false true false false) := by
  obtain ⟨places, hx⟩ := reads os enc
  refine returnsInHanded_of_row (C := Tryd.checked) (s := OpenSpec.ofChange Rows.penTagsSpec) own started (by kernel_rfl) Tryd.func3
    (witness_row_at (enc := enc) (C := Tryd.checked) false ({ World.holding Tryd.prog os ⟨#[], #[], []⟩ with heap := ((World.holding Tryd.prog os ⟨#[], #[], []⟩).heap.modify 0 lay0).modify 1 lay1 } : World) #[.string ⟨#[]⟩, .slice none 0 0] rfl (by kernel_rfl) (by kernel_rfl) (by kernel_rfl)
      (OpenSpec.preRow_of_cond 8 hx (by kernel_rfl) (fun k hk => by cases hk) (by kernel_rfl) (laid_met os))) ?_
  intro W base args ds gs before hval hW _ _ _ hL hSO _
  exact contract H enc W base args ds gs before hval hW hL hSO

theorem said : Rows.PenTagsSaid :=
  OpenClaim.holds_of_cond 3 Tryd.f3 rfl rfl rfl rfl rfl rfl rfl ⟨rfl, rfl, rfl, rfl, rfl⟩ rfl rfl rfl rfl rfl (by kernel_rfl) Tryd.func3 (by kernel_rfl)
    (of_decide_eq_true (by kernel_rfl)) (by unfold Func.isWrapper; first | (rw [if_pos (by decide +kernel)]; kernel_rfl) | (rw [if_neg (by decide +kernel)]; exact ⟨rfl, rfl⟩))
    (fun os started H enc _ F => by rw [OpenClaim.pre_eq_preRow]; exact lifted os started H enc F)

theorem plain (f : FuncId) (fn : Func) (hf : Tryd.pinned.checked.prog.funcNamed "recto/rectolaw06.PenTags" = some f) (hfn : Tryd.pinned.checked.prog.funcs[f]? = some fn) :
    false = Tryd.pinned.checked.prog.looks [] ∧ ∀ (j : Nat) t, fn.params[j]? = some t → Tryd.pinned.checked.prog.wantsStandIn t = false := by
  obtain rfl : f = 3 := Option.some.inj ((show Tryd.prog.funcNamed "recto/rectolaw06.PenTags" = some 3 by kernel_rfl).symm.trans hf) |>.symm
  obtain rfl : fn = Tryd.f3 := (Option.some.inj (Tryd.func3.symm.trans hfn)).symm
  refine ⟨by kernel_rfl, fun j t ht => ?_⟩
  rw [Tryd.params3] at ht
  have hm := Array.mem_of_getElem? ht
  simp at hm
  rcases hm with rfl | rfl
  · exact (show Tryd.prog.wantsStandIn 9 = false by kernel_rfl)
  · exact (show Tryd.prog.wantsStandIn 22 = false by kernel_rfl)

theorem card : Rows.PenTagsCardSaid :=
  Claim7.holds_tied_plain_at .later [] _ _ _ _ said (fun _ h => by cases h) (by kernel_rfl) (fun _ h => by cases h) penTags_row_tie rfl ⟨rfl, rfl⟩ (by kernel_rfl) rfl plain (by kernel_rfl)
end Go.Proofs.YtmiehnknnkcdlacDoor.tagsF

namespace Go.Proofs.YtmiehnknnkcdlacDoor
theorem penTags_card : Rows.PenTagsCardSaid := tagsF.card
end Go.Proofs.YtmiehnknnkcdlacDoor
