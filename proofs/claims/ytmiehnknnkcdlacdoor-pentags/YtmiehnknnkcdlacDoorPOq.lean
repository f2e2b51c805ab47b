/-
  What 'pen.Open' does: a tag's text, or why it has none.
-/
import Derived.Test.YtmiehnknnkcdlacDoorPOp
import Derived.Test.YtmiehnknnkcdlacDoorEBk
import Derived.Deep.RegionWith
namespace Go.Proofs.YtmiehnknnkcdlacDoor
open Go.RowKit
set_option linter.unusedVariables false

def attB (n v : List UInt8) : List UInt8 := [32] ++ (n ++ ([61, 34] ++ (escL true v ++ [34])))
def attL (ats : List (ByteArray × ByteArray)) : Nat → List UInt8
  | 0 => []
  | k + 1 => attL ats k ++ attB (an ats k).data.toList (av ats k).data.toList
def openL (n : List UInt8) (ats : List (ByteArray × ByteArray)) : List UInt8 := [60] ++ (n ++ (attL ats ats.length ++ [62]))
/-- What is wrong with a tag; 0: nothing. -/
def wrongN (n : List UInt8) (ats : List (ByteArray × ByteArray)) : Int :=
  if (nameB n && rightAs ats) = false then 4 else if diffN ats < ats.length then 8 else if 12 < ats.length then 2 else 0
def openV (n : List UInt8) (ats : List (ByteArray × ByteArray)) : Value := .tuple #[.string (if wrongN n ats = 0 then bs (openL n ats) else ⟨#[]⟩), .int .i64 (wrongN n ats)]
theorem att_bs (a e : ByteArray) : (⟨#[32]⟩ : ByteArray) ++ a ++ ⟨#[61, 34]⟩ ++ e ++ ⟨#[34]⟩ = bs ([32] ++ (a.data.toList ++ ([61, 34] ++ (e.data.toList ++ [34])))) := by
  have h1 : (⟨#[32]⟩ : ByteArray) = bs [32] := rfl
  have h2 : (⟨#[61, 34]⟩ : ByteArray) = bs [61, 34] := rfl
  have h3 : (⟨#[34]⟩ : ByteArray) = bs [34] := rfl
  rw [h1, h2, h3, bs_add, bs_bs, bs_add, bs_bs]; simp

set_option maxHeartbeats 4000000 in
theorem popen_ok (n : ByteArray) (ats : List (ByteArray × ByteArray)) (g o cap : Nat) (w : World) (ht : Tabs w) (hc : Cells2 g o ats w) (hf : Fits ats) (hn : n.size ≤ 10000)
    (h1 : nameB n.data.toList = true) (h2 : rightAs ats = true) (h3 : ¬ diffN ats < ats.length) (h4 : ¬ 12 < ats.length) :
    Calls Tryd.prog 10 #[.string n, .slice (some ⟨g, o, none⟩) ats.length cap] w fun e w' => e = .returned (.tuple #[.string (bs (openL n.data.toList ats)), .int .i64 0]) ∧ Below w.heap.size w w' := by
  have HT := hide ht
  have HC := hide hc
  have HF := hide hf
  have hlen : ats.length ≤ 12 := by omega
  have CN := hide (fun w => pname_any n w (by omega))
  have CR := hide (fun w ht hc => allRight_any ats g o cap w ht hc hf)
  have CT := hide (fun w hc => hasTwice_any ats g o cap w hc hf)
  rw [h1] at CN
  rw [h2] at CR
  rw [decide_eq_false h3] at CT
  have h4i : ¬ (12 : Int) < (ats.length : Int) := by omega
  clear ht hc hf h1 h2 h3 h4
  go_enter Tryd.func10, Tryd.ntmps10
  go_wp2_with fail
  refine (unhide CN _).mono ?_
  rintro e w1 ⟨rfl, hb1⟩
  go_wp2_with fail
  refine (unhide CR _ ((unhide HT).below hb1) ((unhide HC).below hb1)).mono ?_
  rintro e w2 ⟨rfl, hb2⟩
  have hb12 := tr2 hb1 hb2
  go_wp2_with fail
  refine (unhide CT _ ((unhide HC).below hb12)).mono ?_
  rintro e w3 ⟨rfl, hb3⟩
  have hb13 := tr2 hb12 hb3
  have hbB : Below w.heap.size w (w3.alloc (.cells #[.pointer none, .slice none 0 0] 51)) := tr2 hb13 ((Below.refl _ _).alloc (Nat.le_refl _) _)
  have BN := bld_new w3
  have hz3 := hb13.size
  clear hb1 hb2 hb12 hb3
  have hsz1 : (⟨#[60]⟩ ++ n : ByteArray).size = n.size + 1 := by rw [ByteArray.size_append]; show 1 + _ = _; omega
  have hdt1 : (⟨#[60]⟩ ++ n : ByteArray).data.toList = [60] ++ n.data.toList := by simp
  go_wp2_with fail
  refine (writeString_any _ _ _ _ _ BN (by rw [hsz1]; simp; omega) (by simp)).mono ?_
  rintro e w4 ⟨rfl, B4, hb4⟩
  rw [hdt1] at B4
  simp only [List.nil_append] at B4
  have hbW : Below w.heap.size w w4 := hbB.trans (hb4.mono (by omega))
  have hbz4 : w3.heap.size ≤ w4.heap.size := by have := hb4.size; simp at this; omega
  generalize w3.heap.size = b at *
  have HBZ4 := hide hbz4
  clear hbz4
  have HBW := hide hbW
  have HB4 := hide B4
  have HZ3 := hide hz3
  clear hbW B4 hb4 hbB BN hb13 hsz1 hdt1
  go_wp2
  go_loopw [27] (fun i wr => ∃ k : Nat, k ≤ ats.length ∧ i = .int .i64 k ∧ Bld b b ([60] ++ n.data.toList ++ attL ats k) wr ∧ (attL ats k).length ≤ 80000 * k ∧ Below w.heap.size w wr ∧ b ≤ wr.heap.size) (fun i _ => ats.length - (intOf i).toNat)
  case atStart => exact ⟨0, Nat.zero_le _, rfl, by rw [attL, List.append_nil]; exact unhide HB4, by simp [attL], unhide HBW, unhide HBZ4⟩
  case round =>
    obtain ⟨k, hk, rfl, hB, hal, hbw, hbz⟩ := hrel
    have hzw := hbw.size
    by_cases hp : k < ats.length
    · have hpi : (k : Int) < (ats.length : Int) := by omega
      obtain ⟨c1, c2⟩ := (unhide HC).below hbw k hp
      have hft := (unhide HF).2 k hp
      have CE := hide (fun w h => escape_any (av ats k) true w h (by omega))
      have hel := esc_len true (av ats k).data.toList false
      rw [data_len] at hel
      have hatt : attL ats (k + 1) = attL ats k ++ attB (an ats k).data.toList (av ats k).data.toList := rfl
      have hab : ∀ E, E = bs (escL true (av ats k).data.toList) → (⟨#[32]⟩ ++ an ats k ++ ⟨#[61, 34]⟩ ++ E ++ ⟨#[34]⟩ : ByteArray) = bs (attB (an ats k).data.toList (av ats k).data.toList) := fun E hE => by
        rw [att_bs, hE, bs_toList]; rfl
      have habz : (attB (an ats k).data.toList (av ats k).data.toList).length ≤ 80000 := by
        unfold attB
        have : (escL true (av ats k).data.toList).length ≤ 6 * (av ats k).size := hel
        simp; omega
      have hab' := hab _ rfl
      have HATT := hide hatt
      have esz : (bs (escL true (av ats k).data.toList)).size ≤ 60000 := by
        rw [bs_size]
        have : (escL true (av ats k).data.toList).length ≤ 6 * (av ats k).size := hel
        omega
      clear hab hatt hel
      generalize attB (an ats k).data.toList (av ats k).data.toList = ab at *
      generalize bs (escL true (av ats k).data.toList) = E at *
      generalize an ats k = a1 at *
      generalize av ats k = a2 at *
      have hbA : Below wr.heap.size wr (wr.alloc (.cells #[.string a1, .string a2] 47)) := (Below.refl _ _).alloc (Nat.le_refl _) _
      have hbX := tr2 hbw hbA
      have BX := bld_below hB hbA
      have k0 : (wr.alloc (.cells #[.string a1, .string a2] 47)).cell? ⟨wr.heap.size, 0, none⟩ = some (.string a1) := World.cell?_alloc_at _ _ _ _ rfl
      have k1 : (wr.alloc (.cells #[.string a1, .string a2] 47)).cell? ⟨wr.heap.size, 1, none⟩ = some (.string a2) := World.cell?_alloc_at _ _ _ _ rfl
      have hzX := hbA.size
      have hsz : (⟨#[32]⟩ ++ a1 ++ ⟨#[61, 34]⟩ ++ E ++ ⟨#[34]⟩ : ByteArray).size ≤ 80000 := by rw [hab', bs_size]; exact habz
      have hsz2 : (bs ab).size ≤ 80000 := by rw [bs_size]; exact habz
      have hl1 : ([60] ++ n.data.toList ++ attL ats k).length + (bs ab).size ≤ 140737488355328 := by
        rw [List.length_append, List.length_append, data_len]; simp; omega
      have HB := hide hB
      clear hB
      go_wp2_with fail
      generalize wr.alloc (.cells #[.string a1, .string a2] 47) = wx at *
      generalize wr.heap.size = ga at *
      have TX := hide (((unhide HT).below hbX).below (Below.drew (Below.refl _ wx)))
      have hb0X : Below wx.heap.size wx wx.drew := Below.drew (Below.refl _ wx)
      have BXd := bld_below BX hb0X
      have hbXd := tr2 hbX hb0X
      have hbzX : b ≤ wx.heap.size := by omega
      go_region_with (first
        | (go_at_call 29; refine (unhide CE _ (unhide TX)).mono ?_; rintro e1 w5 ⟨rfl, hb5⟩; have d0 := cell_later hb5 k0; have d1 := cell_later hb5 k1; have B5 := bld_below BXd hb5; have hbz5 : b ≤ w5.heap.size := (by have := hb5.size; simp at this; omega); have hb05 := tr2 hbXd hb5)
        | (go_at_call 28; refine (writeString_any _ _ _ _ _ B5 hl1 hbz5).mono ?_; rintro e1 w6 ⟨rfl, B6, hb6⟩))
      all_goals
        rw [bs_toList] at B6
        have hb06 := hb05.trans (hb6.mono (unhide HZ3))
        have hbz6 : b ≤ w6.heap.size := by have := hb6.size; omega
        go_wp2
        go_roundw
        case rel => exact ⟨k + 1, by omega, by go_num, by rw [unhide HATT, ← List.append_assoc]; exact B6, by rw [unhide HATT, List.length_append]; omega, hb06, hbz6⟩
        case measure => simp [intOf]; omega
    · have hke : k = ats.length := by omega
      have hl1 : ([60] ++ n.data.toList ++ attL ats k).length + (⟨#[62]⟩ : ByteArray).size ≤ 140737488355328 := by
        rw [List.length_append, List.length_append, data_len]
        have : (⟨#[62]⟩ : ByteArray).size = 1 := rfl
        rw [this]; simp; omega
      subst hke
      go_wp2_with fail
      refine (writeString_any _ _ _ _ _ hB hl1 hbz).mono ?_
      rintro e1 w5 ⟨rfl, B5, hb5⟩
      have hb05 := hbw.trans (hb5.mono (unhide HZ3))
      go_wp2_with fail
      refine (string_any _ _ _ _ B5 (by simp)).mono ?_
      rintro e1 w6 ⟨rfl, hb6⟩
      have hb06 := hb05.trans (hb6.mono (unhide HZ3))
      go_wp2
      go_ret2
      exact ⟨rfl, hb06⟩
end Go.Proofs.YtmiehnknnkcdlacDoor
