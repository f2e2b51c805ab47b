/-
  What 'pen.allRight' and 'pen.hasTwice' do.
-/
import Derived.Test.YtmiehnknnkcdlacDoorPCh
import Derived.Maps.OwnSet
import Derived.Maps.Views
namespace Go.Proofs.YtmiehnknnkcdlacDoor
open Go.RowKit Go.Maps Go.WideMaps
set_option linter.unusedVariables false

/-- Attributes that lie in memory, one behind the other. -/
def an (ats : List (ByteArray × ByteArray)) (k : Nat) : ByteArray := (ats.getD k (ByteArray.empty, ByteArray.empty)).1
def av (ats : List (ByteArray × ByteArray)) (k : Nat) : ByteArray := (ats.getD k (ByteArray.empty, ByteArray.empty)).2
def Cells2 (g o : Nat) (ats : List (ByteArray × ByteArray)) (w : World) : Prop :=
  ∀ k, k < ats.length → w.cell? ⟨g, o + k * 2, none⟩ = some (.string (an ats k)) ∧ w.cell? ⟨g, o + k * 2 + 1, none⟩ = some (.string (av ats k))
theorem Cells2.below {g o : Nat} {ats : List (ByteArray × ByteArray)} {w w' : World} (h : Cells2 g o ats w) (hb : Below w.heap.size w w') : Cells2 g o ats w' :=
  fun k hk => ⟨cell_later hb (h k hk).1, cell_later hb (h k hk).2⟩
/-- How long they may be. -/
def Fits (ats : List (ByteArray × ByteArray)) : Prop := ats.length ≤ 1000 ∧ ∀ k, k < ats.length → (an ats k).size ≤ 10000 ∧ (av ats k).size ≤ 10000
def rightAt (ats : List (ByteArray × ByteArray)) (k : Nat) : Bool := nameB (an ats k).data.toList && goodB (av ats k).data.toList
def rightF (ats : List (ByteArray × ByteArray)) : Nat → Bool
  | 0 => true
  | k + 1 => rightF ats k && rightAt ats k
def rightAs (ats : List (ByteArray × ByteArray)) : Bool := rightF ats ats.length
theorem rightF_no (ats : List (ByteArray × ByteArray)) {k : Nat} (h : rightAt ats k = false) : ∀ n, k < n → rightF ats n = false
  | 0, hn => by omega
  | n + 1, hn => by
    rw [rightF]
    by_cases e : k = n
    · subst e; rw [h]; simp
    · rw [rightF_no ats h n (by omega)]; rfl

set_option maxHeartbeats 2000000 in
theorem allRight_any (ats : List (ByteArray × ByteArray)) (g o cap : Nat) (w : World) (ht : Tabs w) (hc : Cells2 g o ats w) (hf : Fits ats) :
    Calls Tryd.prog 26 #[.slice (some ⟨g, o, none⟩) ats.length cap] w fun e w' => e = .returned (.bool (rightAs ats)) ∧ Below w.heap.size w w' := by
  have HT := hide ht
  have HC := hide hc
  have HF := hide hf
  have hlen : ats.length ≤ 1000 := hf.1
  have NO := hide (fun k h hk => rightF_no ats (k := k) h ats.length hk)
  clear ht hc hf
  go_enter Tryd.func26, Tryd.ntmps26
  go_wp2
  go_loopw [7] (fun i wr => ∃ k : Nat, k ≤ ats.length ∧ i = .int .i64 k ∧ rightF ats k = true ∧ Below w.heap.size w wr) (fun i _ => ats.length - (intOf i).toNat)
  case atStart => exact ⟨0, Nat.zero_le _, rfl, rfl, Below.refl _ _⟩
  case round =>
    obtain ⟨k, hk, rfl, hr, hbw⟩ := hrel
    have HR := hide hr
    have hzw := hbw.size
    clear hr
    by_cases hp : k < ats.length
    · have hpi : (k : Int) < (ats.length : Int) := by omega
      obtain ⟨c1, c2⟩ := (unhide HC).below hbw k hp
      have CN := hide (fun w => pname_any (an ats k) w (by have := (unhide HF).2 k hp; omega))
      have CG := hide (fun w h => pgood_any (av ats k) w h (by have := (unhide HF).2 k hp; omega))
      have hra : rightAt ats k = (nameB (an ats k).data.toList && goodB (av ats k).data.toList) := rfl
      have NK := hide (fun h => unhide NO k h hp)
      have HRA := hide hra
      clear hra
      generalize nameB (an ats k).data.toList = nb at *
      generalize goodB (av ats k).data.toList = gb at *
      generalize an ats k = a1 at *
      generalize av ats k = a2 at *
      have hbA : Below wr.heap.size wr (wr.alloc (.cells #[.string a1, .string a2] 47)) := (Below.refl _ _).alloc (Nat.le_refl _) _
      have hbA' := tr2 hbw hbA
      have f1 : (wr.alloc (.cells #[.string a1, .string a2] 47)).cell? ⟨wr.heap.size, 1, none⟩ = some (.string a2) := World.cell?_alloc_at _ _ _ _ rfl
      have F1 := hide f1
      clear f1
      cases nb with
      | false =>
        rw [Bool.false_and] at HRA
        have HV := hide (unhide NK (unhide HRA))
        go_wp2_with fail
        refine (unhide CN _).mono ?_
        rintro e w2 ⟨rfl, hb2⟩
        go_wp2
        go_ret
        exact ⟨by unfold rightAs; rw [unhide HV]; rfl, tr2 hbA' hb2⟩
      | true =>
        rw [Bool.true_and] at HRA
        cases gb with
        | false =>
          have HV := hide (unhide NK (unhide HRA))
          go_wp2_with fail
          refine (unhide CN _).mono ?_
          rintro e w2 ⟨rfl, hb2⟩
          have f1 := cell_later hb2 (unhide F1)
          have hb12 := tr2 hbA' hb2
          go_wp2_with fail
          refine (unhide CG _ ((unhide HT).below hb12)).mono ?_
          rintro e w3 ⟨rfl, hb3⟩
          go_wp2
          go_ret
          exact ⟨by unfold rightAs; rw [unhide HV]; rfl, tr2 hb12 hb3⟩
        | true =>
          go_wp2_with fail
          refine (unhide CN _).mono ?_
          rintro e w2 ⟨rfl, hb2⟩
          have f1 := cell_later hb2 (unhide F1)
          have hb12 := tr2 hbA' hb2
          go_wp2_with fail
          refine (unhide CG _ ((unhide HT).below hb12)).mono ?_
          rintro e w3 ⟨rfl, hb3⟩
          have hb13 := tr2 hb12 hb3
          go_wp2
          go_roundw
          case rel => exact ⟨k + 1, by omega, by go_num, by rw [rightF, unhide HR, unhide HRA]; rfl, hb13⟩
          case measure => simp [intOf]; omega
    · have hke : k = ats.length := by omega
      have hv : rightAs ats = true := by unfold rightAs; rw [← hke]; exact unhide HR
      have HV := hide hv
      clear hv
      go_wp2
      go_ret
      exact ⟨by rw [unhide HV]; rfl, hbw⟩

/-! ### whether two have one name -/
def keyA (ats : List (ByteArray × ByteArray)) (k : Nat) : Lit := .string (an ats k).data.toList
def putA {H : Type} (ats : List (ByteArray × ByteArray)) : Nat → DataW H
  | 0 => .map []
  | k + 1 => (putA ats k).put (keyA ats k) (.lit (.int .i64 k))
def diffN (ats : List (ByteArray × ByteArray)) : Nat := Maps.size (putA (H := Unit) ats ats.length)
theorem law9 : Keyed Tryd.prog 9 := string_keyed Tryd.underlying9
theorem keyA_ok {ats : List (ByteArray × ByteArray)} (hf : Fits ats) {k : Nat} (hk : k < ats.length) : keyOf Tryd.prog 9 (.string (an ats k)) = some (keyA ats k) := by
  refine keyOf_string_mk Tryd.underlying9 ?_
  have := (hf.2 k hk).1
  unfold maxLen; omega

set_option maxHeartbeats 2000000 in
set_option maxRecDepth 100000 in
theorem hasTwice_any (ats : List (ByteArray × ByteArray)) (g o cap : Nat) (w : World) (hc : Cells2 g o ats w) (hf : Fits ats) :
    Calls Tryd.prog 27 #[.slice (some ⟨g, o, none⟩) ats.length cap] w fun e w' => e = .returned (.bool (decide (diffN ats < ats.length))) ∧ Below w.heap.size w w' := by
  have hmm := @run_makeMap Tryd.prog
  have HC := hide hc
  have HF := hide hf
  have hlen : ats.length ≤ 1000 := hf.1
  clear hc hf
  go_enter Tryd.func27, Tryd.ntmps27
  go_wp2
  go_loopw [9] (fun i wr => ∃ k : Nat, k ≤ ats.length ∧ i = .int .i64 k ∧ wr.ownsMap Tryd.prog 9 (plainElem Tryd.prog 3) w.heap.size k (putA (H := Unit) ats k) ∧ Below w.heap.size w wr) (fun i _ => ats.length - (intOf i).toNat)
  case atStart => exact ⟨0, Nat.zero_le _, rfl, World.ownsMap_made _ _ _ _, (Below.refl _ _).alloc (Nat.le_refl _) _⟩
  case round =>
    obtain ⟨k, hk, rfl, hown, hbw⟩ := hrel
    have hzw := hbw.size
    by_cases hp : k < ats.length
    · have hpi : (k : Int) < (ats.length : Int) := by omega
      obtain ⟨c1, c2⟩ := (unhide HC).below hbw k hp
      have hkey := keyA_ok (unhide HF) hp
      generalize an ats k = a1 at *
      generalize av ats k = a2 at *
      have hownA := hown.alloc (.cells #[.string a1, .string a2] 47)
      go_wp2_with (first
        | (at_mapUpdate; refine wpList_mapUpdate_own _ rfl _ _ _ 69 rfl 9 3 law9 Tryd.underlying69 (plainElem (H := Unit) Tryd.prog 3) w.heap.size k _ rfl hownA (by unfold maxLen; omega) _ _ _ rfl rfl hkey _ [] (plainElem_int Tryd.underlying3 (WalkArith.wf_i64 (by omega))) ?_; intro w1 hown1 hgrow1)
        | go_in)
      have hbA : Below w.heap.size w (wr.alloc (.cells #[.string a1, .string a2] 47)) := hbw.alloc hbw.size _
      have hbG := hbA.grown hgrow1 hbA.size (fun j hj => by cases hj; exact Nat.le_refl _)
      go_wp2
      go_roundw
      case rel => exact ⟨k + 1, by omega, by go_num, hown1, hbG⟩
      case measure => simp [intOf]; omega
    · have hke : k = ats.length := by omega
      subst hke
      go_wp2_with (first
        | (at_len; refine wpList_len_own _ rfl _ 69 rfl 9 3 Tryd.underlying69 _ w.heap.size ats.length _ rfl hown ?_)
        | go_in)
      go_ret
      exact ⟨rfl, hbw⟩
end Go.Proofs.YtmiehnknnkcdlacDoor
