/-
  For every name, all attributes and every text behind them the law PenTagsBack answers true: a tag that was written is read as just that tag, with its attributes, whatever is behind it; the four tables of the packages utf and refs start as the program's text lays them (the card ties them); and each argument reads as it did.
-/
import Derived.Test.YtakjlolmmoladabDoorPenTagsBackMg1
import Derived.Test.YtakjlolmmoladabDoorAv
import Derived.Maps.OwnSet
import Derived.Maps.Views
import Derived.Test.YtakjlolmmoladabDoorUByt
import Derived.Test.YtakjlolmmoladabDoorBd
import Derived.Test.YtakjlolmmoladabDoorEAl
import Derived.Deep.RegionWith
import Derived.Test.YtakjlolmmoladabDoorTLb
import Derived.Test.YtakjlolmmoladabDoorTNc
import Derived.Test.YtakjlolmmoladabDoorTNx
import Derived.BigQuiet
import Derived.Deep.SlicePairs
import Derived.Carry
import Derived.OpenShut
import Derived.Test.YtakjlolmmoladabDoorEPl
import Derived.Lib.LaidU8
import Derived.ChangeArms
import Derived.Test.YtakjlolmmoladabDoorCards
import Derived.Test.YtakjlolmmoladabDoorTie
import Derived.ProofKit
import Derived.ShutString
import Derived.ChangeOld
import Derived.Below
import Derived.Deep.DeepHandedRow
import Derived.Lib.LaidTab

/-
  What 'pen.allRight' and 'pen.hasTwice' do.
-/
namespace Go.Proofs.YtakjlolmmoladabDoor
open Go.RowKit Go.Maps Go.WideMaps
set_option linter.unusedVariables false

/-- How long they may be. -/
def Fits (ats : List (ByteArray × ByteArray)) : Prop := ats.length ≤ 1000 ∧ ∀ k, k < ats.length → (an ats k).size ≤ 10000 ∧ (av ats k).size ≤ 10000
def rightAt (ats : List (ByteArray × ByteArray)) (k : Nat) : Bool := nameB (an ats k).data.toList && goodB (av ats k).data.toList
def rightF (ats : List (ByteArray × ByteArray)) : Nat → Bool
  | 0 => true
  | k + 1 => rightF ats k && rightAt ats k
def rightAs (ats : List (ByteArray × ByteArray)) : Bool := rightF ats ats.length
theorem rightF_no (ats : List (ByteArray × ByteArray)) {k : Nat} (h : rightAt ats k = false) : ∀ n, k < n → rightF ats n = false
  | 0, hn => by omega
  | n + 1, hn => by
    rw [rightF]
    by_cases e : k = n
    · subst e; rw [h]; simp
    · rw [rightF_no ats h n (by omega)]; rfl

set_option maxHeartbeats 2000000 in
theorem allRight_any (ats : List (ByteArray × ByteArray)) (g o cap : Nat) (w : World) (ht : Tabs w) (hc : Cells2 g o ats w) (hf : Fits ats) :
    Calls Tryd.prog 26 #[.slice (some ⟨g, o, none⟩) ats.length cap] w fun e w' => e = .returned (.bool (rightAs ats)) ∧ Below w.heap.size w w' := by
  have HT := hide ht
  have HC := hide hc
  have HF := hide hf
  have hlen : ats.length ≤ 1000 := hf.1
  have NO := hide (fun k h hk => rightF_no ats (k := k) h ats.length hk)
  clear ht hc hf
  go_enter Tryd.func26, Tryd.ntmps26
  go_wp2
  go_loopw [7] (fun i wr => ∃ k : Nat, k ≤ ats.length ∧ i = .int .i64 k ∧ rightF ats k = true ∧ Below w.heap.size w wr) (fun i _ => ats.length - (intOf i).toNat)
  case atStart => exact ⟨0, Nat.zero_le _, rfl, rfl, Below.refl _ _⟩
  case round =>
    obtain ⟨k, hk, rfl, hr, hbw⟩ := hrel
    have HR := hide hr
    have hzw := hbw.size
    clear hr
    by_cases hp : k < ats.length
    · have hpi : (k : Int) < (ats.length : Int) := by omega
      obtain ⟨c1, c2⟩ := (unhide HC).below hbw k hp
      have CN := hide (fun w => pname_any (an ats k) w (by have := (unhide HF).2 k hp; omega))
      have CG := hide (fun w h => pgood_any (av ats k) w h (by have := (unhide HF).2 k hp; omega))
      have hra : rightAt ats k = (nameB (an ats k).data.toList && goodB (av ats k).data.toList) := rfl
      have NK := hide (fun h => unhide NO k h hp)
      have HRA := hide hra
      clear hra
      generalize nameB (an ats k).data.toList = nb at *
      generalize goodB (av ats k).data.toList = gb at *
      generalize an ats k = a1 at *
      generalize av ats k = a2 at *
      have hbA : Below wr.heap.size wr (wr.alloc (.cells #[.string a1, .string a2] 47)) := (Below.refl _ _).alloc (Nat.le_refl _) _
      have hbA' := tr2 hbw hbA
      have f1 : (wr.alloc (.cells #[.string a1, .string a2] 47)).cell? ⟨wr.heap.size, 1, none⟩ = some (.string a2) := World.cell?_alloc_at _ _ _ _ rfl
      have F1 := hide f1
      clear f1
      cases nb with
      | false =>
        rw [Bool.false_and] at HRA
        have HV := hide (unhide NK (unhide HRA))
        go_wp2_with fail
        refine (unhide CN _).mono ?_
        rintro e w2 ⟨rfl, hb2⟩
        go_wp2
        go_ret
        exact ⟨by unfold rightAs; rw [unhide HV]; rfl, tr2 hbA' hb2⟩
      | true =>
        rw [Bool.true_and] at HRA
        cases gb with
        | false =>
          have HV := hide (unhide NK (unhide HRA))
          go_wp2_with fail
          refine (unhide CN _).mono ?_
          rintro e w2 ⟨rfl, hb2⟩
          have f1 := cell_later hb2 (unhide F1)
          have hb12 := tr2 hbA' hb2
          go_wp2_with fail
          refine (unhide CG _ ((unhide HT).below hb12)).mono ?_
          rintro e w3 ⟨rfl, hb3⟩
          go_wp2
          go_ret
          exact ⟨by unfold rightAs; rw [unhide HV]; rfl, tr2 hb12 hb3⟩
        | true =>
          go_wp2_with fail
          refine (unhide CN _).mono ?_
          rintro e w2 ⟨rfl, hb2⟩
          have f1 := cell_later hb2 (unhide F1)
          have hb12 := tr2 hbA' hb2
          go_wp2_with fail
          refine (unhide CG _ ((unhide HT).below hb12)).mono ?_
          rintro e w3 ⟨rfl, hb3⟩
          have hb13 := tr2 hb12 hb3
          go_wp2
          go_roundw
          case rel => exact ⟨k + 1, by omega, by go_num, by rw [rightF, unhide HR, unhide HRA]; rfl, hb13⟩
          case measure => simp [intOf]; omega
    · have hke : k = ats.length := by omega
      have hv : rightAs ats = true := by unfold rightAs; rw [← hke]; exact unhide HR
      have HV := hide hv
      clear hv
      go_wp2
      go_ret
      exact ⟨by rw [unhide HV]; rfl, hbw⟩

/-! ### whether two have one name -/
def keyA (ats : List (ByteArray × ByteArray)) (k : Nat) : Lit := .string (an ats k).data.toList
def putA {H : Type} (ats : List (ByteArray × ByteArray)) : Nat → DataW H
  | 0 => .map []
  | k + 1 => (putA ats k).put (keyA ats k) (.lit (.int .i64 k))
def diffN (ats : List (ByteArray × ByteArray)) : Nat := Maps.size (putA (H := Unit) ats ats.length)
theorem keyA_ok {ats : List (ByteArray × ByteArray)} (hf : Fits ats) {k : Nat} (hk : k < ats.length) : keyOf Tryd.prog 9 (.string (an ats k)) = some (keyA ats k) := by
  refine keyOf_string_mk Tryd.underlying9 ?_
  have := (hf.2 k hk).1
  unfold maxLen; omega

set_option maxHeartbeats 2000000 in
set_option maxRecDepth 100000 in
theorem hasTwice_any (ats : List (ByteArray × ByteArray)) (g o cap : Nat) (w : World) (hc : Cells2 g o ats w) (hf : Fits ats) :
    Calls Tryd.prog 27 #[.slice (some ⟨g, o, none⟩) ats.length cap] w fun e w' => e = .returned (.bool (decide (diffN ats < ats.length))) ∧ Below w.heap.size w w' := by
  have hmm := @run_makeMap Tryd.prog
  have HC := hide hc
  have HF := hide hf
  have hlen : ats.length ≤ 1000 := hf.1
  clear hc hf
  go_enter Tryd.func27, Tryd.ntmps27
  go_wp2
  go_loopw [9] (fun i wr => ∃ k : Nat, k ≤ ats.length ∧ i = .int .i64 k ∧ wr.ownsMap Tryd.prog 9 (plainElem Tryd.prog 3) w.heap.size k (putA (H := Unit) ats k) ∧ Below w.heap.size w wr) (fun i _ => ats.length - (intOf i).toNat)
  case atStart => exact ⟨0, Nat.zero_le _, rfl, World.ownsMap_made _ _ _ _, (Below.refl _ _).alloc (Nat.le_refl _) _⟩
  case round =>
    obtain ⟨k, hk, rfl, hown, hbw⟩ := hrel
    have hzw := hbw.size
    by_cases hp : k < ats.length
    · have hpi : (k : Int) < (ats.length : Int) := by omega
      obtain ⟨c1, c2⟩ := (unhide HC).below hbw k hp
      have hkey := keyA_ok (unhide HF) hp
      generalize an ats k = a1 at *
      generalize av ats k = a2 at *
      have hownA := hown.alloc (.cells #[.string a1, .string a2] 47)
      go_wp2_with (first
        | (at_mapUpdate; refine wpList_mapUpdate_own _ rfl _ _ _ 69 rfl 9 3 law9 Tryd.underlying69 (plainElem (H := Unit) Tryd.prog 3) w.heap.size k _ rfl hownA (by unfold maxLen; omega) _ _ _ rfl rfl hkey _ [] (plainElem_int Tryd.underlying3 (WalkArith.wf_i64 (by omega))) ?_; intro w1 hown1 hgrow1)
        | go_in)
      have hbA : Below w.heap.size w (wr.alloc (.cells #[.string a1, .string a2] 47)) := hbw.alloc hbw.size _
      have hbG := hbA.grown hgrow1 hbA.size (fun j hj => by cases hj; exact Nat.le_refl _)
      go_wp2
      go_roundw
      case rel => exact ⟨k + 1, by omega, by go_num, hown1, hbG⟩
      case measure => simp [intOf]; omega
    · have hke : k = ats.length := by omega
      subst hke
      go_wp2_with (first
        | (at_len; refine wpList_len_own _ rfl _ 69 rfl 9 3 Tryd.underlying69 _ w.heap.size ats.length _ rfl hown ?_)
        | go_in)
      go_ret
      exact ⟨rfl, hbw⟩
end Go.Proofs.YtakjlolmmoladabDoor

/-
  What 'utf.Clean' does: of every text that isn't too long, it cleaned.
-/
namespace Go.Proofs.YtakjlolmmoladabDoor
open Go.RowKit
set_option linter.unusedVariables false

end Go.Proofs.YtakjlolmmoladabDoor

/-
  The law RefsPlain walked: a text without & is itself, cleaned; and what stands ahead of a text stays ahead of it.
-/
namespace Go.Proofs.YtakjlolmmoladabDoor
open Go.RowKit
set_option linter.unusedVariables false

theorem ssame (x : ByteArray) : (x.toList == x.toList) = true := by simp
theorem at_plain {l : List UInt8} (v : Bool) (h : ¬ dgt l 0 = 38) : atL l v = (ub (step l).1, ((step l).2.1 : Int)) := by
  rw [atL]; unfold atWith; rw [if_pos h]
def noAmp (l : List UInt8) : Prop := ∀ k, k < l.length → ¬ dgt l k = 38
theorem noAmp_drop {l : List UInt8} (h : noAmp l) (n : Nat) : noAmp (l.drop n) := by
  intro k hk
  rw [List.length_drop] at hk
  rw [dgt_drop]; exact h (n + k) (by omega)
theorem all_plain (v : Bool) : ∀ (f : Nat) (l : List UInt8), l.length ≤ f → noAmp l → allL v l = cleanL l
  | 0, l, h, _ => by
    have : l = [] := List.eq_nil_of_length_eq_zero (by omega)
    subst this; rfl
  | f + 1, l, h, hn => by
    by_cases e : l = []
    · subst e; rfl
    · have hl : 0 < l.length := List.length_pos_iff.2 e
      have hok := step_ok e
      rw [allL_cons v e, cleanL_cons e, at_plain v (hn 0 hl)]
      simp only [Int.toNat_natCast]
      rw [all_plain v f _ (by rw [List.length_drop]; omega) (noAmp_drop hn _)]
theorem dgt_app (a b : List UInt8) (k : Nat) (h : k < a.length) : dgt (a ++ b) k = dgt a k := by
  unfold dgt; rw [List.getD, List.getD, List.getElem?_append_left h]
theorem all_ahead (v : Bool) (t : List UInt8) : ∀ (f : Nat) (l : List UInt8), l.length ≤ f → noAmp l → rightB l = true → allL v (l ++ t) = l ++ allL v t
  | 0, l, h, _, _ => by
    have : l = [] := List.eq_nil_of_length_eq_zero (by omega)
    subst this; rfl
  | f + 1, l, h, hn, hr => by
    by_cases e : l = []
    · subst e; rfl
    · have hl : 0 < l.length := List.length_pos_iff.2 e
      have hok := step_ok e
      rw [rightB_cons e, Bool.and_eq_true] at hr
      have htk := step_take e hr.1
      have hst : step (l ++ t) = ((step l).1, (step l).2.1, true) := by
        have : l ++ t = ub (step l).1 ++ (l.drop (step l).2.1 ++ t) := by
          rw [← htk.1, ← List.append_assoc, List.take_append_drop]
        rw [this, step_ub _ _ hok.2.2.2, htk.2]
      have hne : l ++ t ≠ [] := by simp [e]
      have hdrop : (l ++ t).drop (step l).2.1 = l.drop (step l).2.1 ++ t := by
        rw [List.drop_append_of_le_length (by omega)]
      rw [allL_cons v hne, at_plain v (by rw [dgt_app _ _ _ hl]; exact hn 0 hl), hst]
      simp only [Int.toNat_natCast]
      rw [hdrop, all_ahead v t f _ (by rw [List.length_drop]; omega) (noAmp_drop hn _) hr.2, ← List.append_assoc, ← htk.1, List.take_append_drop]
theorem allL_len (v : Bool) : ∀ (f : Nat) (l : List UInt8), l.length ≤ f → (allL v l).length ≤ 4 * l.length
  | 0, l, h => by
    have : l = [] := List.eq_nil_of_length_eq_zero (by omega)
    subst this; simp [allL_nil]
  | f + 1, l, h => by
    by_cases e : l = []
    · subst e; simp [allL_nil]
    · have hb := at_bd v e
      have hl : 0 < l.length := List.length_pos_iff.2 e
      have ih := allL_len v f (l.drop (atL l v).2.toNat) (by rw [List.length_drop]; omega)
      rw [allL_cons v e, List.length_append]
      rw [List.length_drop] at ih
      omega
theorem amp_cases (l : List UInt8) : (∃ k, k < l.length ∧ dgt l k = 38 ∧ ∀ j, j < k → ¬ dgt l j = 38) ∨ noAmp l := by
  have : ∀ n, n ≤ l.length → (∃ k, k < n ∧ dgt l k = 38 ∧ ∀ j, j < k → ¬ dgt l j = 38) ∨ ∀ k, k < n → ¬ dgt l k = 38 := by
    intro n
    induction n with
    | zero => intro _; exact .inr (fun k hk => by omega)
    | succ n ih =>
      intro hn
      rcases ih (by omega) with ⟨k, h1, h2⟩ | h
      · exact .inl ⟨k, by omega, h2⟩
      · by_cases e : dgt l n = 38
        · exact .inl ⟨n, by omega, e, h⟩
        · refine .inr (fun k hk => ?_)
          by_cases hkn : k = n
          · rw [hkn]; exact e
          · exact h k (by omega)
  exact this l.length (Nat.le_refl _)

end Go.Proofs.YtakjlolmmoladabDoor

/-
  What was escaped is, all of it, what it was, cleaned: of plain lists of bytes.
-/
namespace Go.Proofs.YtakjlolmmoladabDoor
open Go.RowKit
set_option linter.unusedVariables false

/-! ### the five references, whatever stands behind them -/
theorem at_amp (v : Bool) (t : List UInt8) : atL (ampL ++ t) v = ([38], 5) := by cases v <;> kernel_rfl
theorem at_ltr (v : Bool) (t : List UInt8) : atL (ltL ++ t) v = ([60], 4) := by cases v <;> kernel_rfl
theorem at_gtr (v : Bool) (t : List UInt8) : atL (gtL ++ t) v = ([62], 4) := by cases v <;> kernel_rfl
theorem at_quot (v : Bool) (t : List UInt8) : atL (quotL ++ t) v = ([34], 6) := by cases v <;> kernel_rfl
theorem at_nbsp (v : Bool) (t : List UInt8) : atL (nbspL ++ t) v = ([194, 160], 6) := by cases v <;> kernel_rfl

theorem all_of {v : Bool} {a x t : List UInt8} {n : Nat} (h : atL (a ++ t) v = (x, (n : Int))) (hn : a.length = n) (h0 : a ≠ []) : allL v (a ++ t) = x ++ allL v t := by
  rw [allL_cons v (by simp [h0]), h]
  simp only [Int.toNat_natCast]
  rw [← hn, List.drop_left]

/-! ### a byte that begins no character begins none ahead of what was escaped -/
theorem cand_congr {l m : List UInt8} (h0 : dgt l 0 = dgt m 0) (h1 : tl l 1 = tl m 1 ∧ (tl l 1 = true → dgt l 1 = dgt m 1)) (h2 : tl l 1 = true → tl l 2 = tl m 2 ∧ (tl l 2 = true → dgt l 2 = dgt m 2))
    (h3 : tl l 1 = true → tl l 2 = true → tl l 3 = tl m 3 ∧ (tl l 3 = true → dgt l 3 = dgt m 3)) : cand l = cand m := by
  unfold cand
  rw [← h0]
  by_cases g1 : dgt l 0 < 128
  · rw [if_pos g1, if_pos g1]
  rw [if_neg g1, if_neg g1]
  by_cases g2 : dgt l 0 < 192
  · rw [if_pos g2, if_pos g2]
  rw [if_neg g2, if_neg g2]
  cases t1 : tl l 1 with
  | false =>
    have e1 : tl m 1 = false := by rw [← h1.1, t1]
    simp [e1]
  | true =>
    have e1 : tl m 1 = true := by rw [← h1.1, t1]
    have d1 := h1.2 t1
    have q2 := h2 t1
    cases t2 : tl l 2 with
    | false =>
      have e2 : tl m 2 = false := by rw [← q2.1, t2]
      simp [e1, e2, lo, d1]
    | true =>
      have e2 : tl m 2 = true := by rw [← q2.1, t2]
      have d2 := q2.2 t2
      have q3 := h3 t1 t2
      cases t3 : tl l 3 with
      | false =>
        have e3 : tl m 3 = false := by rw [← q3.1, t3]
        simp [e1, e2, e3, lo, d1, d2]
      | true =>
        have e3 : tl m 3 = true := by rw [← q3.1, t3]
        have d3 := q3.2 t3
        simp [e1, e2, e3, lo, d1, d2, d3]
theorem step_congr {l m : List UInt8} (h : cand l = cand m) : step l = step m := by
  unfold step dec; rw [h]

theorem tl_cons (c : UInt8) (l : List UInt8) (k : Nat) : tl (c :: l) (k + 1) = tl l k := by
  unfold tl; rw [dgt_succ]; simp
/-- Bytes that go on stay; what is no such byte stays none. -/
theorem esc_goes (v : Bool) (m : List UInt8) : tl m 0 = tl (escL v m) 0 ∧ (tl m 0 = true → dgt m 0 = dgt (escL v m) 0 ∧ ∃ c, m = c :: m.drop 1 ∧ escL v m = c :: escL v (m.drop 1)) := by
  cases m with
  | nil => exact ⟨rfl, fun h => by simp [tl] at h⟩
  | cons c r =>
    have hk : 0 < (c :: r).length := by simp
    by_cases g0 : c.toNat = 38
    · have e := esc_38 (v := v) hk g0
      simp only [List.drop_zero] at e
      refine ⟨?_, fun h => by simp [tl, dgt_cons, g0] at h⟩
      rw [e]; simp [tl, dgt_cons, g0, ampL]
    by_cases g1 : c.toNat = 60
    · have e := esc_60 (v := v) hk g1
      simp only [List.drop_zero] at e
      refine ⟨?_, fun h => by simp [tl, dgt_cons, g1] at h⟩
      rw [e]; simp [tl, dgt_cons, g1, ltL]
    by_cases g2 : c.toNat = 62
    · have e := esc_62 (v := v) hk g2
      simp only [List.drop_zero] at e
      refine ⟨?_, fun h => by simp [tl, dgt_cons, g2] at h⟩
      rw [e]; simp [tl, dgt_cons, g2, gtL]
    by_cases g3 : c.toNat = 34
    · have e := esc_34 (v := v) hk g3
      simp only [List.drop_zero] at e
      refine ⟨?_, fun h => by simp [tl, dgt_cons, g3] at h⟩
      rw [e]; cases v <;> simp [tl, dgt_cons, g3, quotL]
    by_cases g4 : c.toNat = 194 ∧ atB (c :: r) 1 = 160
    · have e := esc_160 (v := v) (k := 0) (l := c :: r) (at_lt g4.2) g4.1 g4.2
      simp only [List.drop_zero] at e
      refine ⟨?_, fun h => by simp [tl, dgt_cons, g4.1] at h⟩
      rw [e]; simp [tl, dgt_cons, g4.1, nbspL]
    · have e := esc_other (v := v) hk g0 g1 g2 g3 g4
      simp only [List.drop_zero, dgt_cons, byt_self] at e
      refine ⟨?_, fun h => ⟨?_, c, rfl, ?_⟩⟩
      · rw [e]; simp [tl, dgt_cons]
      · rw [e]; rfl
      · rw [e]
theorem step_esc (v : Bool) (c : UInt8) (m : List UInt8) : step (c :: m) = step (c :: escL v m) := by
  apply step_congr
  have a1 := esc_goes v m
  refine cand_congr rfl ?_ ?_ ?_
  · rw [tl_cons, tl_cons, dgt_succ, dgt_succ]; exact ⟨a1.1, fun h => (a1.2 h).1⟩
  · rw [tl_cons, tl_cons, tl_cons, dgt_succ, dgt_succ]
    intro h
    obtain ⟨_, d, hm, he⟩ := a1.2 h
    have a2 := esc_goes v (m.drop 1)
    rw [he]
    generalize m.drop 1 = r at *
    rw [hm, tl_cons, tl_cons, dgt_succ, dgt_succ]; exact ⟨a2.1, fun h => (a2.2 h).1⟩
  · rw [tl_cons, tl_cons, tl_cons, tl_cons, dgt_succ, dgt_succ]
    intro h h2
    obtain ⟨_, d, hm, he⟩ := a1.2 h
    have a2 := esc_goes v (m.drop 1)
    rw [he]
    generalize m.drop 1 = r at *
    rw [hm, tl_cons] at h2
    rw [hm, tl_cons, tl_cons, dgt_succ, dgt_succ]
    obtain ⟨_, d2, hm2, he2⟩ := a2.2 h2
    have a3 := esc_goes v (r.drop 1)
    rw [he2]
    generalize r.drop 1 = q at *
    rw [hm2, tl_cons, tl_cons, dgt_succ, dgt_succ]; exact ⟨a3.1, fun h => (a3.2 h).1⟩

/-! ### all of it -/
theorem esc_char (v : Bool) (c : Int) (r : List UInt8) (hc : isC c = true) (hf : forN c v = []) : escL v (ub c ++ r) = ub c ++ escL v r := by
  have hr := isC_true hc
  have hne : ub c ++ r ≠ [] := ub_ne c r
  have hn : c ≠ 38 ∧ c ≠ 160 ∧ c ≠ 60 ∧ c ≠ 62 ∧ ¬ (c = 34 ∧ v = true) := by
    refine ⟨fun h => ?_, fun h => ?_, fun h => ?_, fun h => ?_, fun h => ?_⟩
    · rw [h] at hf; cases v <;> cases hf
    · rw [h] at hf; cases v <;> cases hf
    · rw [h] at hf; cases v <;> cases hf
    · rw [h] at hf; cases v <;> cases hf
    · rw [h.1, h.2] at hf; cases hf
  by_cases hlow : c < 128
  · have e : ub c = [byt c] := by rw [ub, ubI_1 hlow]; rfl
    rw [e]
    have d0 : dgt ([byt c] ++ r) 0 = c.toNat := byt_n c (by omega) (by omega)
    by_cases h34 : c = 34
    · have hv : v = false := by cases v with | false => rfl | true => exact absurd ⟨h34, rfl⟩ hn.2.2.2.2
      subst hv
      have := esc_34 (v := false) (k := 0) (l := [byt c] ++ r) (by simp) (by rw [d0]; omega)
      simp only [List.drop_zero] at this
      rw [this]; subst h34; rfl
    · have := esc_other (v := v) (k := 0) (l := [byt c] ++ r) (by simp) (by rw [d0]; omega) (by rw [d0]; omega) (by rw [d0]; omega) (by rw [d0]; omega) (by rw [d0]; omega)
      simp only [List.drop_zero] at this
      rw [this, d0]
      have : ((c.toNat : Nat) : Int) = c := by omega
      rw [this]; rfl
  · have hcu := cand_ub c r (by omega) (by omega)
    have hsz := sz_cases c
    have hlen : (ub c).length = sz c := ub_len c
    have hrun := esc_run v (ub c ++ r) (sz c) 0 (by rw [List.length_append]; omega) (fun j hj => ?_)
    · simp only [List.drop_zero, Nat.zero_add] at hrun
      rw [hrun, ← hlen, List.take_left, List.drop_left]
    · rw [Nat.zero_add, atB_dgt]
      rcases hsz with ⟨h, e⟩ | ⟨hl, h, e⟩ | ⟨hl, h, e⟩ | ⟨h, e⟩
      · omega
      · rw [ub, ubI_2 hl h]
        simp only [List.map_cons, List.map_nil, List.cons_append, List.nil_append]
        have : j = 0 ∨ j = 1 := by omega
        rcases this with rfl | rfl
        · rw [dgt_cons, dgt_succ, dgt_cons, byt_n _ (by omega) (by omega), byt_n _ (by omega) (by omega)]
          omega
        · rw [dgt_succ, dgt_cons, byt_n _ (by omega) (by omega)]
          omega
      · rw [ub, ubI_3 hl h]
        simp only [List.map_cons, List.map_nil, List.cons_append, List.nil_append]
        have : j = 0 ∨ j = 1 ∨ j = 2 := by omega
        rcases this with rfl | rfl | rfl
        · rw [dgt_cons, byt_n _ (by omega) (by omega)]
          omega
        · rw [dgt_succ, dgt_cons, byt_n _ (by omega) (by omega)]
          omega
        · rw [dgt_succ, dgt_succ, dgt_cons, byt_n _ (by omega) (by omega)]
          omega
      · rw [ub, ubI_4 h]
        simp only [List.map_cons, List.map_nil, List.cons_append, List.nil_append]
        have : j = 0 ∨ j = 1 ∨ j = 2 ∨ j = 3 := by omega
        rcases this with rfl | rfl | rfl | rfl
        · rw [dgt_cons, byt_n _ (by omega) (by omega)]
          omega
        · rw [dgt_succ, dgt_cons, byt_n _ (by omega) (by omega)]
          omega
        · rw [dgt_succ, dgt_succ, dgt_cons, byt_n _ (by omega) (by omega)]
          omega
        · rw [dgt_succ, dgt_succ, dgt_succ, dgt_cons, byt_n _ (by omega) (by omega)]
          omega

theorem all_char (v : Bool) (c : Int) (t : List UInt8) (hc : isC c = true) (h38 : c ≠ 38) : allL v (ub c ++ t) = ub c ++ allL v t := by
  have hr := isC_true hc
  have hst := step_ub c t hc
  have h0 : ¬ dgt (ub c ++ t) 0 = 38 := by
    intro h
    have h1 := cand_1 (l := ub c ++ t) (by omega)
    rw [cand_ub c t (by omega) (by omega), h] at h1
    simp only [Option.some.injEq, Prod.mk.injEq] at h1
    exact h38 (by have := h1.1; omega)
  rw [allL_cons v (ub_ne c t), at_plain v h0, hst]
  simp only [Int.toNat_natCast]
  rw [← ub_len, List.drop_left]

theorem all_esc (v : Bool) : ∀ (f : Nat) (l : List UInt8), l.length ≤ f → allL v (escL v l) = cleanL l
  | 0, l, h => by
    have : l = [] := List.eq_nil_of_length_eq_zero (by omega)
    subst this; rfl
  | f + 1, l, h => by
    by_cases e : l = []
    · subst e; rfl
    have hl : 0 < l.length := List.length_pos_iff.2 e
    have hok := step_ok e
    rw [cleanL_cons e]
    have ih := all_esc v f (l.drop (step l).2.1) (by rw [List.length_drop]; omega)
    rw [← ih]
    cases hr : (step l).2.2 with
    | true =>
      have htk := step_take e hr
      have hc := hok.2.2.2
      have hsp : l = ub (step l).1 ++ l.drop (step l).2.1 := by rw [← htk.1, List.take_append_drop]
      generalize (step l).1 = c at *
      generalize (step l).2.1 = n at *
      generalize l.drop n = r at *
      rw [hsp]
      by_cases c38 : c = 38
      · subst c38
        have := esc_38 (v := v) (k := 0) (l := ub 38 ++ r) (by have := ub_ne 38 r; exact List.length_pos_iff.2 this) rfl
        simp only [List.drop_zero, Nat.zero_add] at this
        rw [this]; exact all_of (at_amp v _) rfl (by simp [ampL])
      by_cases c60 : c = 60
      · subst c60
        have := esc_60 (v := v) (k := 0) (l := ub 60 ++ r) (by have := ub_ne 60 r; exact List.length_pos_iff.2 this) rfl
        simp only [List.drop_zero, Nat.zero_add] at this
        rw [this]; exact all_of (at_ltr v _) rfl (by simp [ltL])
      by_cases c62 : c = 62
      · subst c62
        have := esc_62 (v := v) (k := 0) (l := ub 62 ++ r) (by have := ub_ne 62 r; exact List.length_pos_iff.2 this) rfl
        simp only [List.drop_zero, Nat.zero_add] at this
        rw [this]; exact all_of (at_gtr v _) rfl (by simp [gtL])
      by_cases c160 : c = 160
      · subst c160
        have := esc_160 (v := v) (k := 0) (l := ub 160 ++ r) (by show 1 < (194 :: 160 :: r).length; simp) rfl rfl
        simp only [List.drop_zero, Nat.zero_add] at this
        rw [this]; exact all_of (at_nbsp v _) rfl (by simp [nbspL])
      by_cases c34 : c = 34 ∧ v = true
      · obtain ⟨c34, hv⟩ := c34
        subst c34; subst hv
        have := esc_34 (v := true) (k := 0) (l := ub 34 ++ r) (by have := ub_ne 34 r; exact List.length_pos_iff.2 this) rfl
        simp only [List.drop_zero, Nat.zero_add] at this
        rw [this]; exact all_of (at_quot true _) rfl (by simp [quotL])
      have hf : forN c v = [] := by
        unfold forN
        rw [if_neg c38, if_neg c160, if_neg c60, if_neg c62, if_neg c34]
      rw [esc_char v c r hc hf, all_char v c _ hc c38]
    | false =>
      have hno := step_no hr
      obtain ⟨c, hc, hcn⟩ := drop_at l 0 hl
      rw [List.drop_zero, Nat.zero_add] at hc
      have hhigh : 128 ≤ dgt l 0 := by
        rcases Nat.lt_or_ge (dgt l 0) 128 with h1 | h1
        · have h2 := cand_1 h1
          have hcs : isC (dgt l 0 : Int) = true ∧ sz (dgt l 0 : Int) = 1 := by
            have : ∀ k : Nat, k < 128 → isC (k : Int) = true ∧ sz (k : Int) = 1 := by decide
            exact this _ h1
          have h3 := dec_yes h2 hcs.1 hcs.2
          simp only [step, h3] at hr; cases hr
        · exact h1
      have hnot : ¬ (dgt l 0 = 194 ∧ atB l 1 = 160) := by
        rintro ⟨q1, q2⟩
        have hlt := at_lt q2
        rw [atB_dgt] at q2
        have ht : tl l 1 = true := by rw [tl_iff]; exact ⟨hlt, by omega, by omega⟩
        have h2 := cand_2 (l := l) (by omega) (by omega)
        rw [if_pos ht, lo, q1, q2] at h2
        have h3 := dec_yes h2 (by decide) (by decide)
        simp only [step, h3] at hr; cases hr
      have heo := esc_other (v := v) (k := 0) (l := l) hl (by omega) (by omega) (by omega) (by omega) hnot
      rw [List.drop_zero, Nat.zero_add, ← hcn, byt_self] at heo
      have hst := step_esc v c (l.drop 1)
      rw [← hc] at hst
      rw [hno.1, hno.2, heo, allL_cons v (by simp), at_plain v (by rw [dgt_cons]; omega), ← hst, hno.1, hno.2]
      rfl

/-- What was escaped has neither < nor >, and in values no quotes. -/
def safeB (v : Bool) (c : UInt8) : Bool := !(decide (c.toNat = 60) || decide (c.toNat = 62) || (v && decide (c.toNat = 34)))
theorem esc_safe (v : Bool) : ∀ (l : List UInt8) (b : Bool), (escS v b l).all (safeB v) = true
  | [], b => by cases b <;> rfl
  | c :: l, true => by rw [escS]; exact esc_safe v l false
  | c :: l, false => by
    rw [escS]
    have i1 := esc_safe v l false
    have i2 := esc_safe v l true
    by_cases g0 : c.toNat = 38
    · rw [if_pos g0, List.all_append, i1]; cases v <;> rfl
    rw [if_neg g0]
    by_cases g1 : c.toNat = 60
    · rw [if_pos g1, List.all_append, i1]; cases v <;> rfl
    rw [if_neg g1]
    by_cases g2 : c.toNat = 62
    · rw [if_pos g2, List.all_append, i1]; cases v <;> rfl
    rw [if_neg g2]
    by_cases g3 : c.toNat = 34
    · rw [if_pos g3, List.all_append, i1]; cases v <;> rfl
    rw [if_neg g3]
    by_cases g4 : c.toNat = 194 ∧ hd160 l = true
    · rw [if_pos g4, List.all_append, i2]; cases v <;> rfl
    · rw [if_neg g4, List.all_cons, i1]
      simp [safeB, g1, g2, g3]
theorem esc_safe_at (v : Bool) (l : List UInt8) (k : Nat) (h : k < (escL v l).length) : ¬ dgt (escL v l) k = 60 ∧ ¬ dgt (escL v l) k = 62 ∧ (v = true → ¬ dgt (escL v l) k = 34) := by
  have hs := esc_safe v l false
  rw [List.all_eq_true] at hs
  have := hs _ (List.getElem_mem h)
  have e : dgt (escL v l) k = ((escL v l)[k]).toNat := by unfold dgt; rw [List.getD, List.getElem?_eq_getElem h]; rfl
  rw [e]
  unfold safeB at this
  simp at this
  exact ⟨this.1.1, this.1.2, fun hv => this.2.resolve_left (fun h => by rw [hv] at h; cases h)⟩
theorem esc_len (v : Bool) : ∀ (l : List UInt8) (b : Bool), (escS v b l).length ≤ 6 * l.length
  | [], b => by cases b <;> simp [escS]
  | c :: l, true => by rw [escS]; have := esc_len v l false; simp; omega
  | c :: l, false => by
    rw [escS]
    have i1 := esc_len v l false
    have i2 := esc_len v l true
    repeat' split
    all_goals simp [ampL, ltL, gtL, quotL, nbspL]
    all_goals omega
end Go.Proofs.YtakjlolmmoladabDoor

/-
  What 'pen.Open' does: a tag's text, or why it has none.
-/
namespace Go.Proofs.YtakjlolmmoladabDoor
open Go.RowKit
set_option linter.unusedVariables false

def attB (n v : List UInt8) : List UInt8 := [32] ++ (n ++ ([61, 34] ++ (escL true v ++ [34])))
def attL (ats : List (ByteArray × ByteArray)) : Nat → List UInt8
  | 0 => []
  | k + 1 => attL ats k ++ attB (an ats k).data.toList (av ats k).data.toList
def openL (n : List UInt8) (ats : List (ByteArray × ByteArray)) : List UInt8 := [60] ++ (n ++ (attL ats ats.length ++ [62]))
/-- What is wrong with a tag; 0: nothing. -/
def wrongN (n : List UInt8) (ats : List (ByteArray × ByteArray)) : Int :=
  if (nameB n && rightAs ats) = false then 4 else if diffN ats < ats.length then 8 else if 12 < ats.length then 2 else 0
def openV (n : List UInt8) (ats : List (ByteArray × ByteArray)) : Value := .tuple #[.string (if wrongN n ats = 0 then bs (openL n ats) else ⟨#[]⟩), .int .i64 (wrongN n ats)]
theorem att_bs (a e : ByteArray) : (⟨#[32]⟩ : ByteArray) ++ a ++ ⟨#[61, 34]⟩ ++ e ++ ⟨#[34]⟩ = bs ([32] ++ (a.data.toList ++ ([61, 34] ++ (e.data.toList ++ [34])))) := by
  have h1 : (⟨#[32]⟩ : ByteArray) = bs [32] := rfl
  have h2 : (⟨#[61, 34]⟩ : ByteArray) = bs [61, 34] := rfl
  have h3 : (⟨#[34]⟩ : ByteArray) = bs [34] := rfl
  rw [h1, h2, h3, bs_add, bs_bs, bs_add, bs_bs]; simp

set_option maxHeartbeats 4000000 in
theorem popen_ok (n : ByteArray) (ats : List (ByteArray × ByteArray)) (g o cap : Nat) (w : World) (ht : Tabs w) (hc : Cells2 g o ats w) (hf : Fits ats) (hn : n.size ≤ 10000)
    (h1 : nameB n.data.toList = true) (h2 : rightAs ats = true) (h3 : ¬ diffN ats < ats.length) (h4 : ¬ 12 < ats.length) :
    Calls Tryd.prog 10 #[.string n, .slice (some ⟨g, o, none⟩) ats.length cap] w fun e w' => e = .returned (.tuple #[.string (bs (openL n.data.toList ats)), .int .i64 0]) ∧ Below w.heap.size w w' := by
  have HT := hide ht
  have HC := hide hc
  have HF := hide hf
  have hlen : ats.length ≤ 12 := by omega
  have CN := hide (fun w => pname_any n w (by omega))
  have CR := hide (fun w ht hc => allRight_any ats g o cap w ht hc hf)
  have CT := hide (fun w hc => hasTwice_any ats g o cap w hc hf)
  rw [h1] at CN
  rw [h2] at CR
  rw [decide_eq_false h3] at CT
  have h4i : ¬ (12 : Int) < (ats.length : Int) := by omega
  clear ht hc hf h1 h2 h3 h4
  go_enter Tryd.func10, Tryd.ntmps10
  go_wp2_with fail
  refine (unhide CN _).mono ?_
  rintro e w1 ⟨rfl, hb1⟩
  go_wp2_with fail
  refine (unhide CR _ ((unhide HT).below hb1) ((unhide HC).below hb1)).mono ?_
  rintro e w2 ⟨rfl, hb2⟩
  have hb12 := tr2 hb1 hb2
  go_wp2_with fail
  refine (unhide CT _ ((unhide HC).below hb12)).mono ?_
  rintro e w3 ⟨rfl, hb3⟩
  have hb13 := tr2 hb12 hb3
  have hbB : Below w.heap.size w (w3.alloc (.cells #[.pointer none, .slice none 0 0] 51)) := tr2 hb13 ((Below.refl _ _).alloc (Nat.le_refl _) _)
  have BN := bld_new w3
  have hz3 := hb13.size
  clear hb1 hb2 hb12 hb3
  have hsz1 : (⟨#[60]⟩ ++ n : ByteArray).size = n.size + 1 := by rw [ByteArray.size_append]; show 1 + _ = _; omega
  have hdt1 : (⟨#[60]⟩ ++ n : ByteArray).data.toList = [60] ++ n.data.toList := by simp
  go_wp2_with fail
  refine (writeString_any _ _ _ _ _ BN (by rw [hsz1]; simp; omega) (by simp)).mono ?_
  rintro e w4 ⟨rfl, B4, hb4⟩
  rw [hdt1] at B4
  simp only [List.nil_append] at B4
  have hbW : Below w.heap.size w w4 := hbB.trans (hb4.mono (by omega))
  have hbz4 : w3.heap.size ≤ w4.heap.size := by have := hb4.size; simp at this; omega
  generalize w3.heap.size = b at *
  have HBZ4 := hide hbz4
  clear hbz4
  have HBW := hide hbW
  have HB4 := hide B4
  have HZ3 := hide hz3
  clear hbW B4 hb4 hbB BN hb13 hsz1 hdt1
  go_wp2
  go_loopw [27] (fun i wr => ∃ k : Nat, k ≤ ats.length ∧ i = .int .i64 k ∧ Bld b b ([60] ++ n.data.toList ++ attL ats k) wr ∧ (attL ats k).length ≤ 80000 * k ∧ Below w.heap.size w wr ∧ b ≤ wr.heap.size) (fun i _ => ats.length - (intOf i).toNat)
  case atStart => exact ⟨0, Nat.zero_le _, rfl, by rw [attL, List.append_nil]; exact unhide HB4, by simp [attL], unhide HBW, unhide HBZ4⟩
  case round =>
    obtain ⟨k, hk, rfl, hB, hal, hbw, hbz⟩ := hrel
    have hzw := hbw.size
    by_cases hp : k < ats.length
    · have hpi : (k : Int) < (ats.length : Int) := by omega
      obtain ⟨c1, c2⟩ := (unhide HC).below hbw k hp
      have hft := (unhide HF).2 k hp
      have CE := hide (fun w h => escape_any (av ats k) true w h (by omega))
      have hel := esc_len true (av ats k).data.toList false
      rw [data_len] at hel
      have hatt : attL ats (k + 1) = attL ats k ++ attB (an ats k).data.toList (av ats k).data.toList := rfl
      have hab : ∀ E, E = bs (escL true (av ats k).data.toList) → (⟨#[32]⟩ ++ an ats k ++ ⟨#[61, 34]⟩ ++ E ++ ⟨#[34]⟩ : ByteArray) = bs (attB (an ats k).data.toList (av ats k).data.toList) := fun E hE => by
        rw [att_bs, hE, bs_toList]; rfl
      have habz : (attB (an ats k).data.toList (av ats k).data.toList).length ≤ 80000 := by
        unfold attB
        have : (escL true (av ats k).data.toList).length ≤ 6 * (av ats k).size := hel
        simp; omega
      have hab' := hab _ rfl
      have HATT := hide hatt
      have esz : (bs (escL true (av ats k).data.toList)).size ≤ 60000 := by
        rw [bs_size]
        have : (escL true (av ats k).data.toList).length ≤ 6 * (av ats k).size := hel
        omega
      clear hab hatt hel
      generalize attB (an ats k).data.toList (av ats k).data.toList = ab at *
      generalize bs (escL true (av ats k).data.toList) = E at *
      generalize an ats k = a1 at *
      generalize av ats k = a2 at *
      have hbA : Below wr.heap.size wr (wr.alloc (.cells #[.string a1, .string a2] 47)) := (Below.refl _ _).alloc (Nat.le_refl _) _
      have hbX := tr2 hbw hbA
      have BX := bld_below hB hbA
      have k0 : (wr.alloc (.cells #[.string a1, .string a2] 47)).cell? ⟨wr.heap.size, 0, none⟩ = some (.string a1) := World.cell?_alloc_at _ _ _ _ rfl
      have k1 : (wr.alloc (.cells #[.string a1, .string a2] 47)).cell? ⟨wr.heap.size, 1, none⟩ = some (.string a2) := World.cell?_alloc_at _ _ _ _ rfl
      have hzX := hbA.size
      have hsz : (⟨#[32]⟩ ++ a1 ++ ⟨#[61, 34]⟩ ++ E ++ ⟨#[34]⟩ : ByteArray).size ≤ 80000 := by rw [hab', bs_size]; exact habz
      have hsz2 : (bs ab).size ≤ 80000 := by rw [bs_size]; exact habz
      have hl1 : ([60] ++ n.data.toList ++ attL ats k).length + (bs ab).size ≤ 140737488355328 := by
        rw [List.length_append, List.length_append, data_len]; simp; omega
      have HB := hide hB
      clear hB
      go_wp2_with fail
      generalize wr.alloc (.cells #[.string a1, .string a2] 47) = wx at *
      generalize wr.heap.size = ga at *
      have TX := hide (((unhide HT).below hbX).below (Below.drew (Below.refl _ wx)))
      have hb0X : Below wx.heap.size wx wx.drew := Below.drew (Below.refl _ wx)
      have BXd := bld_below BX hb0X
      have hbXd := tr2 hbX hb0X
      have hbzX : b ≤ wx.heap.size := by omega
      go_region_with (first
        | (go_at_call 29; refine (unhide CE _ (unhide TX)).mono ?_; rintro e1 w5 ⟨rfl, hb5⟩; have d0 := cell_later hb5 k0; have d1 := cell_later hb5 k1; have B5 := bld_below BXd hb5; have hbz5 : b ≤ w5.heap.size := (by have := hb5.size; simp at this; omega); have hb05 := tr2 hbXd hb5)
        | (go_at_call 28; refine (writeString_any _ _ _ _ _ B5 hl1 hbz5).mono ?_; rintro e1 w6 ⟨rfl, B6, hb6⟩))
      all_goals
        rw [bs_toList] at B6
        have hb06 := hb05.trans (hb6.mono (unhide HZ3))
        have hbz6 : b ≤ w6.heap.size := by have := hb6.size; omega
        go_wp2
        go_roundw
        case rel => exact ⟨k + 1, by omega, by go_num, by rw [unhide HATT, ← List.append_assoc]; exact B6, by rw [unhide HATT, List.length_append]; omega, hb06, hbz6⟩
        case measure => simp [intOf]; omega
    · have hke : k = ats.length := by omega
      have hl1 : ([60] ++ n.data.toList ++ attL ats k).length + (⟨#[62]⟩ : ByteArray).size ≤ 140737488355328 := by
        rw [List.length_append, List.length_append, data_len]
        have : (⟨#[62]⟩ : ByteArray).size = 1 := rfl
        rw [this]; simp; omega
      subst hke
      go_wp2_with fail
      refine (writeString_any _ _ _ _ _ hB hl1 hbz).mono ?_
      rintro e1 w5 ⟨rfl, B5, hb5⟩
      have hb05 := hbw.trans (hb5.mono (unhide HZ3))
      go_wp2_with fail
      refine (string_any _ _ _ _ B5 (by simp)).mono ?_
      rintro e1 w6 ⟨rfl, hb6⟩
      have hb06 := hb05.trans (hb6.mono (unhide HZ3))
      go_wp2
      go_ret2
      exact ⟨rfl, hb06⟩
end Go.Proofs.YtakjlolmmoladabDoor

/-
  What 'pen.Note' does, and the reference's: a comment's text, or that there is none.
-/
namespace Go.Proofs.YtakjlolmmoladabDoor
open Go.RowKit
set_option linter.unusedVariables false

/-- Does a text stand at a place? -/
def at6 (l x : List UInt8) (i : Int) : Bool := decide (0 ≤ i ∧ (x.length : Int) ≤ (l.length : Int) - i) && x.isPrefixOf (l.drop i.toNat)
theorem at6_short {l x : List UInt8} {i : Int} (h : ¬ (0 ≤ i ∧ (x.length : Int) ≤ (l.length : Int) - i)) : at6 l x i = false := by
  unfold at6; rw [decide_eq_false h]; rfl
theorem at6_long {l x : List UInt8} {i : Int} (h : 0 ≤ i ∧ (x.length : Int) ≤ (l.length : Int) - i) : at6 l x i = x.isPrefixOf (l.drop i.toNat) := by
  unfold at6; rw [decide_eq_true h]; rfl
set_option maxHeartbeats 1000000 in
theorem at6_any (s x : ByteArray) (i : Int) (w : World) (hs : s.size ≤ 100000) (hx : x.size ≤ 100000) (hi : -100 ≤ i) (hi2 : i ≤ 200000) :
    Calls Tryd.prog 43 #[.string s, .int .i64 i, .string x] w fun e w' => e = .returned (.bool (at6 s.data.toList x.data.toList i)) ∧ w' = w := by
  by_cases h0 : 0 ≤ i
  · obtain ⟨k, rfl⟩ : ∃ k : Nat, i = (k : Int) := ⟨i.toNat, by omega⟩
    by_cases h1 : (x.size : Int) ≤ (s.size : Int) - (k : Int)
    · have hp := Lib.occ_of_piece s x k (by omega)
      have hv : at6 s.data.toList x.data.toList (k : Int) = ((s.extract k (k + x.size)).toList == x.toList) := by
        rw [at6_long (by rw [data_len, data_len]; omega), ← hp, Int.toNat_natCast]; rfl
      rw [hv]
      have h2 : (k : Int) + (x.size : Int) ≤ (s.size : Int) := by omega
      clear hp hv
      generalize hb : ((s.extract k (k + x.size)).toList == x.toList) = b at *
      go_enter Tryd.func43, Tryd.ntmps43
      go_wp2
      go_ret
      exact ⟨rfl, rfl⟩
    · rw [at6_short (by rw [data_len, data_len]; omega)]
      have h1' : decide ((x.size : Int) ≤ (s.size : Int) - (k : Int)) = false := decide_eq_false h1
      clear h1
      go_enter Tryd.func43, Tryd.ntmps43
      go_wp2
      go_ret
      exact ⟨rfl, rfl⟩
  · have hv : at6 s.data.toList x.data.toList i = false := at6_short (by omega)
    rw [hv]
    have h0' : decide (0 ≤ i) = false := decide_eq_false h0
    clear h0
    go_enter Tryd.func43, Tryd.ntmps43
    go_wp2
    go_ret
    exact ⟨rfl, rfl⟩

set_option maxHeartbeats 1000000 in
theorem has6_any (s x : ByteArray) (w : World) (hs : s.size ≤ 100000) (hx : x.size ≤ 100000) (hx1 : 1 ≤ x.size) :
    Calls Tryd.prog 46 #[.string s, .string x] w fun e w' => e = .returned (.bool (Lib.contains s.data.toList x.data.toList)) ∧ w' = w := by
  go_enter Tryd.func46, Tryd.ntmps46
  go_wp2
  go_loopw [5] (fun i wr => ∃ k : Nat, k ≤ s.size ∧ i = .int .i64 k ∧ (∀ j, j < k → Lib.occAt s.data.toList x.data.toList j = false) ∧ wr = w) (fun i _ => s.size - (intOf i).toNat)
  case atStart => exact ⟨0, Nat.zero_le _, rfl, fun j hj => by omega, rfl⟩
  case round =>
    obtain ⟨k, hk, rfl, hno, rfl⟩ := hrel
    have HNO := hide hno
    clear hno
    by_cases hp : k < s.size
    · have hpi : (k : Int) < (s.size : Int) := by omega
      have C := hide (fun w => at6_any s x (k : Int) w hs hx (by omega) (by omega))
      have ha : at6 s.data.toList x.data.toList (k : Int) = Lib.occAt s.data.toList x.data.toList k := by
        by_cases hr : (x.size : Int) ≤ (s.size : Int) - (k : Int)
        · rw [at6_long (by rw [data_len, data_len]; omega), Int.toNat_natCast]; rfl
        · rw [at6_short (by rw [data_len, data_len]; omega)]
          cases e : Lib.occAt s.data.toList x.data.toList k with
          | false => rfl
          | true =>
            rcases Lib.occAt_room e with h | h
            · rw [data_len, data_len] at h; omega
            · have := congrArg List.length h; rw [data_len] at this; simp only [List.length_nil] at this; omega
      rw [ha] at C
      clear ha
      cases ho : Lib.occAt s.data.toList x.data.toList k with
      | true =>
        rw [ho] at C
        have hc : Lib.contains s.data.toList x.data.toList = true := by
          unfold Lib.contains; rw [Lib.index_first (by rw [data_len]; omega) ho (unhide HNO)]; exact decide_eq_true (by omega)
        have HC := hide hc
        clear hc ho
        go_wp2_with (go_at_call 43; refine (unhide C _).mono ?_; rintro e1 w1 ⟨rfl, rfl⟩)
        go_ret
        exact ⟨by rw [unhide HC]; rfl, rfl⟩
      | false =>
        rw [ho] at C
        have HO := hide ho
        clear ho
        go_wp2_with (go_at_call 43; refine (unhide C _).mono ?_; rintro e1 w1 ⟨rfl, rfl⟩)
        go_roundw
        case rel => exact ⟨k + 1, by omega, by go_num, fun j hj => by
          by_cases hjk : j = k
          · rw [hjk]; exact unhide HO
          · exact unhide HNO j (by omega), by first | exact rfl | trivial⟩
        case measure => simp [intOf]; omega
    · have hc : Lib.contains s.data.toList x.data.toList = false := by
        unfold Lib.contains
        rw [Lib.index_none (fun j hj => ?_)]
        · rfl
        · by_cases hjk : j < k
          · exact unhide HNO j hjk
          · rw [data_len] at hj
            cases e : Lib.occAt s.data.toList x.data.toList j with
            | false => rfl
            | true =>
              rcases Lib.occAt_room e with h | h
              · rw [data_len, data_len] at h; omega
              · have := congrArg List.length h; rw [data_len] at this; simp only [List.length_nil] at this; omega
      have HC := hide hc
      clear hc
      go_wp2
      go_ret
      exact ⟨by rw [unhide HC]; rfl, rfl⟩

theorem suffix_at (l p : List UInt8) : at6 l p ((l.length : Int) - (p.length : Int)) = Lib.hasSuffix l p := by
  unfold Lib.hasSuffix
  by_cases h : p.length ≤ l.length
  · rw [at6_long (by omega), show ((l.length : Int) - (p.length : Int)).toNat = l.length - p.length by omega]
    rw [Bool.eq_iff_iff, List.isPrefixOf_iff_prefix, List.isSuffixOf_iff_suffix]
    constructor
    · intro hp
      have e : p = l.drop (l.length - p.length) := List.IsPrefix.eq_of_length hp (by rw [List.length_drop]; omega)
      have : l.drop (l.length - p.length) <:+ l := List.drop_suffix _ _
      rw [← e] at this; exact this
    · intro hs
      have e := List.suffix_iff_eq_drop.1 hs
      rw [← e]; exact List.prefix_refl _
  · rw [at6_short (by omega)]
    cases e : p.isSuffixOf l with
    | false => rfl
    | true => have := (List.isSuffixOf_iff_suffix.1 e).length_le; omega
theorem prefix_at (l p : List UInt8) : at6 l p 0 = p.isPrefixOf l := by
  by_cases h : p.length ≤ l.length
  · rw [at6_long (by omega)]; rfl
  · rw [at6_short (by omega)]
    cases e : p.isPrefixOf l with
    | false => rfl
    | true => have := (List.isPrefixOf_iff_prefix.1 e).length_le; omega

def early (l : List UInt8) : Bool := [62].isPrefixOf l || ([45, 62].isPrefixOf l || (Lib.hasSuffix l [45] || (Lib.hasSuffix l [45, 45, 33] || (Lib.contains l [45, 45, 62] || Lib.contains l [45, 45, 33, 62]))))
def noteB (l : List UInt8) : Bool := goodB l && !early l
def noteL (l : List UInt8) : List UInt8 := [60, 33, 45, 45] ++ (l ++ [45, 45, 62])
theorem note_bs (s : ByteArray) : (⟨#[60, 33, 45, 45]⟩ : ByteArray) ++ s ++ ⟨#[45, 45, 62]⟩ = bs (noteL s.data.toList) := by
  have h1 : (⟨#[60, 33, 45, 45]⟩ : ByteArray) = bs [60, 33, 45, 45] := rfl
  have h2 : (⟨#[45, 45, 62]⟩ : ByteArray) = bs [45, 45, 62] := rfl
  rw [h1, h2, bs_add, bs_bs]; unfold noteL; simp

set_option maxHeartbeats 2000000 in
theorem early_any (s : ByteArray) (w : World) (hm : Mx w) (hs : s.size ≤ 100000) :
    Calls Tryd.prog 45 #[.string s] w fun e w' => e = .returned (.bool (early s.data.toList)) ∧ w' = w := by
  have HM := hide hm
  have C1 : Hid (∀ w, Calls Tryd.prog 59 #[.string s, .string ⟨#[62]⟩] w fun e w' => e = .returned (.bool ([62].isPrefixOf s.data.toList)) ∧ w' = w) := fun w => prefix_any s [62] w
  have C2 : Hid (∀ w, Calls Tryd.prog 59 #[.string s, .string ⟨#[45, 62]⟩] w fun e w' => e = .returned (.bool ([45, 62].isPrefixOf s.data.toList)) ∧ w' = w) := fun w => prefix_any s [45, 62] w
  have C3 : Hid (∀ w, Calls Tryd.prog 60 #[.string s, .string ⟨#[45]⟩] w fun e w' => e = .returned (.bool (Lib.hasSuffix s.data.toList [45])) ∧ w' = w) := fun w => suffix_any s [45] w hs
  have C4 : Hid (∀ w, Calls Tryd.prog 60 #[.string s, .string ⟨#[45, 45, 33]⟩] w fun e w' => e = .returned (.bool (Lib.hasSuffix s.data.toList [45, 45, 33])) ∧ w' = w) := fun w => suffix_any s [45, 45, 33] w hs
  have C5 : Hid (∀ w, Mx w → Calls Tryd.prog 61 #[.string s, .string ⟨#[45, 45, 62]⟩] w fun e w' => e = .returned (.bool (Lib.contains s.data.toList [45, 45, 62])) ∧ w' = w) := fun w h => contains_any s [45, 45, 62] w h hs
  have C6 : Hid (∀ w, Mx w → Calls Tryd.prog 61 #[.string s, .string ⟨#[45, 45, 33, 62]⟩] w fun e w' => e = .returned (.bool (Lib.contains s.data.toList [45, 45, 33, 62])) ∧ w' = w) := fun w h => contains_any s [45, 45, 33, 62] w h hs
  unfold early
  generalize [62].isPrefixOf s.data.toList = b1 at *
  generalize [45, 62].isPrefixOf s.data.toList = b2 at *
  generalize Lib.hasSuffix s.data.toList [45] = b3 at *
  generalize Lib.hasSuffix s.data.toList [45, 45, 33] = b4 at *
  generalize Lib.contains s.data.toList [45, 45, 62] = b5 at *
  generalize Lib.contains s.data.toList [45, 45, 33, 62] = b6 at *
  clear hm
  cases b1 with
  | true =>
    rw [Bool.true_or]
    go_enter Tryd.func45, Tryd.ntmps45
    go_wp2_with fail
    refine (unhide C1 _).mono ?_
    rintro e w1 ⟨rfl, rfl⟩
    go_wp2
    go_ret
    exact ⟨rfl, rfl⟩
  | false =>
    rw [Bool.false_or]
    cases b2 with
    | true =>
      rw [Bool.true_or]
      go_enter Tryd.func45, Tryd.ntmps45
      go_wp2_with fail
      refine (unhide C1 _).mono ?_
      rintro e w1 ⟨rfl, rfl⟩
      go_wp2_with fail
      refine (unhide C2 _).mono ?_
      rintro e w2 ⟨rfl, rfl⟩
      go_wp2
      go_ret
      exact ⟨rfl, rfl⟩
    | false =>
      rw [Bool.false_or]
      cases b3 with
      | true =>
        rw [Bool.true_or]
        go_enter Tryd.func45, Tryd.ntmps45
        go_wp2_with fail
        refine (unhide C1 _).mono ?_
        rintro e w1 ⟨rfl, rfl⟩
        go_wp2_with fail
        refine (unhide C2 _).mono ?_
        rintro e w2 ⟨rfl, rfl⟩
        go_wp2_with fail
        refine (unhide C3 _).mono ?_
        rintro e w3 ⟨rfl, rfl⟩
        go_wp2
        go_ret
        exact ⟨rfl, rfl⟩
      | false =>
        rw [Bool.false_or]
        cases b4 with
        | true =>
          rw [Bool.true_or]
          go_enter Tryd.func45, Tryd.ntmps45
          go_wp2_with fail
          refine (unhide C1 _).mono ?_
          rintro e w1 ⟨rfl, rfl⟩
          go_wp2_with fail
          refine (unhide C2 _).mono ?_
          rintro e w2 ⟨rfl, rfl⟩
          go_wp2_with fail
          refine (unhide C3 _).mono ?_
          rintro e w3 ⟨rfl, rfl⟩
          go_wp2_with fail
          refine (unhide C4 _).mono ?_
          rintro e w4 ⟨rfl, rfl⟩
          go_wp2
          go_ret
          exact ⟨rfl, rfl⟩
        | false =>
          rw [Bool.false_or]
          cases b5 with
          | true =>
            rw [Bool.true_or]
            go_enter Tryd.func45, Tryd.ntmps45
            go_wp2_with fail
            refine (unhide C1 _).mono ?_
            rintro e w1 ⟨rfl, rfl⟩
            go_wp2_with fail
            refine (unhide C2 _).mono ?_
            rintro e w2 ⟨rfl, rfl⟩
            go_wp2_with fail
            refine (unhide C3 _).mono ?_
            rintro e w3 ⟨rfl, rfl⟩
            go_wp2_with fail
            refine (unhide C4 _).mono ?_
            rintro e w4 ⟨rfl, rfl⟩
            go_wp2_with fail
            refine (unhide C5 _ (unhide HM)).mono ?_
            rintro e w5 ⟨rfl, rfl⟩
            go_wp2
            go_ret
            exact ⟨rfl, rfl⟩
          | false =>
            rw [Bool.false_or]
            go_enter Tryd.func45, Tryd.ntmps45
            go_wp2_with fail
            refine (unhide C1 _).mono ?_
            rintro e w1 ⟨rfl, rfl⟩
            go_wp2_with fail
            refine (unhide C2 _).mono ?_
            rintro e w2 ⟨rfl, rfl⟩
            go_wp2_with fail
            refine (unhide C3 _).mono ?_
            rintro e w3 ⟨rfl, rfl⟩
            go_wp2_with fail
            refine (unhide C4 _).mono ?_
            rintro e w4 ⟨rfl, rfl⟩
            go_wp2_with fail
            refine (unhide C5 _ (unhide HM)).mono ?_
            rintro e w5 ⟨rfl, rfl⟩
            go_wp2_with fail
            refine (unhide C6 _ (unhide HM)).mono ?_
            rintro e w6 ⟨rfl, rfl⟩
            go_wp2
            go_ret
            exact ⟨rfl, rfl⟩

set_option maxHeartbeats 1000000 in
theorem pnote_any (s : ByteArray) (w : World) (ht : Tabs w) (hm : Mx w) (hs : s.size ≤ 100000) :
    Calls Tryd.prog 22 #[.string s] w fun e w' => e = .returned (toldV (noteB s.data.toList) (bs (noteL s.data.toList))) ∧ Below w.heap.size w w' := by
  have HT := hide ht
  have HM := hide hm
  have CG := hide (fun w h => pgood_any s w h (by omega))
  have CE := hide (fun w h => early_any s w h hs)
  have hnl := note_bs s
  generalize bs (noteL s.data.toList) = y at *
  unfold toldV noteB
  generalize goodB s.data.toList = gb at *
  generalize early s.data.toList = eb at *
  clear ht hm
  cases gb with
  | false =>
    rw [Bool.false_and, if_neg (by decide), if_neg (by decide)]
    go_enter Tryd.func22, Tryd.ntmps22
    go_wp2_with fail
    refine (unhide CG _ (unhide HT)).mono ?_
    rintro e w1 ⟨rfl, hb1⟩
    go_wp2
    go_ret2
    exact ⟨rfl, hb1⟩
  | true =>
    rw [Bool.true_and]
    cases eb with
    | true =>
      rw [if_neg (by decide), if_neg (by decide)]
      go_enter Tryd.func22, Tryd.ntmps22
      go_wp2_with fail
      refine (unhide CG _ (unhide HT)).mono ?_
      rintro e w1 ⟨rfl, hb1⟩
      go_wp2_with fail
      refine (unhide CE _ ((unhide HM).below hb1)).mono ?_
      rintro e w2 ⟨rfl, rfl⟩
      go_wp2
      go_ret2
      exact ⟨rfl, hb1⟩
    | false =>
      rw [if_pos (by decide), if_pos (by decide)]
      go_enter Tryd.func22, Tryd.ntmps22
      go_wp2_with fail
      refine (unhide CG _ (unhide HT)).mono ?_
      rintro e w1 ⟨rfl, hb1⟩
      go_wp2_with fail
      refine (unhide CE _ ((unhide HM).below hb1)).mono ?_
      rintro e w2 ⟨rfl, rfl⟩
      go_wp2
      go_ret2
      exact ⟨rfl, hb1⟩

theorem early_ref (l : List UInt8) : early l = (at6 l [62] 0 || (at6 l [45, 62] 0 || (Lib.contains l [45, 45, 62] || (Lib.contains l [45, 45, 33, 62] || (at6 l [45] ((l.length : Int) - 1) || at6 l [45, 45, 33] ((l.length : Int) - 3)))))) := by
  have e1 := suffix_at l [45]
  have e2 := suffix_at l [45, 45, 33]
  have e3 : at6 l [45] ((l.length : Int) - 1) = Lib.hasSuffix l [45] := e1
  have e4 : at6 l [45, 45, 33] ((l.length : Int) - 3) = Lib.hasSuffix l [45, 45, 33] := e2
  rw [prefix_at, prefix_at, e3, e4]
  unfold early
  cases [62].isPrefixOf l <;> cases [45, 62].isPrefixOf l <;> cases Lib.hasSuffix l [45] <;> cases Lib.hasSuffix l [45, 45, 33] <;> cases Lib.contains l [45, 45, 62] <;> cases Lib.contains l [45, 45, 33, 62] <;> rfl

set_option maxHeartbeats 4000000 in
theorem rnote6_any (s : ByteArray) (w : World) (hs : s.size ≤ 100000) :
    Calls Tryd.prog 23 #[.string s] w fun e w' => e = .returned (toldV (noteB s.data.toList) (bs (noteL s.data.toList))) ∧ Below w.heap.size w w' := by
  have CG := hide (fun w => rgood6_any s w hs)
  have C1 : Hid (∀ w, Calls Tryd.prog 43 #[.string s, .int .i64 0, .string ⟨#[62]⟩] w fun e w' => e = .returned (.bool (at6 s.data.toList [62] 0)) ∧ w' = w) := fun w => at6_any s ⟨#[62]⟩ 0 w hs (by decide) (by omega) (by omega)
  have C2 : Hid (∀ w, Calls Tryd.prog 43 #[.string s, .int .i64 0, .string ⟨#[45, 62]⟩] w fun e w' => e = .returned (.bool (at6 s.data.toList [45, 62] 0)) ∧ w' = w) := fun w => at6_any s ⟨#[45, 62]⟩ 0 w hs (by decide) (by omega) (by omega)
  have C3 : Hid (∀ w, Calls Tryd.prog 46 #[.string s, .string ⟨#[45, 45, 62]⟩] w fun e w' => e = .returned (.bool (Lib.contains s.data.toList [45, 45, 62])) ∧ w' = w) := fun w => has6_any s ⟨#[45, 45, 62]⟩ w hs (by decide) (by decide)
  have C4 : Hid (∀ w, Calls Tryd.prog 46 #[.string s, .string ⟨#[45, 45, 33, 62]⟩] w fun e w' => e = .returned (.bool (Lib.contains s.data.toList [45, 45, 33, 62])) ∧ w' = w) := fun w => has6_any s ⟨#[45, 45, 33, 62]⟩ w hs (by decide) (by decide)
  have C5 : Hid (∀ w, Calls Tryd.prog 43 #[.string s, .int .i64 ((s.size : Int) - 1), .string ⟨#[45]⟩] w fun e w' => e = .returned (.bool (at6 s.data.toList [45] ((s.size : Int) - 1))) ∧ w' = w) := fun w => at6_any s ⟨#[45]⟩ _ w hs (by decide) (by omega) (by omega)
  have C6 : Hid (∀ w, Calls Tryd.prog 43 #[.string s, .int .i64 ((s.size : Int) - 3), .string ⟨#[45, 45, 33]⟩] w fun e w' => e = .returned (.bool (at6 s.data.toList [45, 45, 33] ((s.size : Int) - 3))) ∧ w' = w) := fun w => at6_any s ⟨#[45, 45, 33]⟩ _ w hs (by decide) (by omega) (by omega)
  have hnl := note_bs s
  generalize bs (noteL s.data.toList) = y at *
  unfold toldV noteB
  rw [early_ref, data_len]
  generalize goodB s.data.toList = gb at *
  generalize at6 s.data.toList [62] 0 = b1 at *
  generalize at6 s.data.toList [45, 62] 0 = b2 at *
  generalize Lib.contains s.data.toList [45, 45, 62] = b3 at *
  generalize Lib.contains s.data.toList [45, 45, 33, 62] = b4 at *
  generalize at6 s.data.toList [45] ((s.size : Int) - 1) = b5 at *
  generalize at6 s.data.toList [45, 45, 33] ((s.size : Int) - 3) = b6 at *
  cases gb with
  | false =>
    rw [Bool.false_and, if_neg (by decide), if_neg (by decide)]
    go_enter Tryd.func23, Tryd.ntmps23
    go_wp2_with fail
    refine (unhide CG _).mono ?_
    rintro e w1 ⟨rfl, hb1⟩
    go_wp2
    go_ret2
    exact ⟨rfl, hb1⟩
  | true =>
    rw [Bool.true_and]
    cases b1 with
    | true =>
      rw [Bool.true_or]
      rw [if_neg (by decide), if_neg (by decide)]
      go_enter Tryd.func23, Tryd.ntmps23
      go_wp2_with fail
      refine (unhide CG _).mono ?_
      rintro e v1 ⟨rfl, hb1⟩
      go_wp2_with fail
      refine (unhide C1 _).mono ?_
      rintro e w1 ⟨rfl, rfl⟩
      go_wp2
      go_ret2
      exact ⟨rfl, hb1⟩
    | false =>
      rw [Bool.false_or]
      cases b2 with
      | true =>
        rw [Bool.true_or]
        rw [if_neg (by decide), if_neg (by decide)]
        go_enter Tryd.func23, Tryd.ntmps23
        go_wp2_with fail
        refine (unhide CG _).mono ?_
        rintro e v1 ⟨rfl, hb1⟩
        go_wp2_with fail
        refine (unhide C1 _).mono ?_
        rintro e w1 ⟨rfl, rfl⟩
        go_wp2_with fail
        refine (unhide C2 _).mono ?_
        rintro e w2 ⟨rfl, rfl⟩
        go_wp2
        go_ret2
        exact ⟨rfl, hb1⟩
      | false =>
        rw [Bool.false_or]
        cases b3 with
        | true =>
          rw [Bool.true_or]
          rw [if_neg (by decide), if_neg (by decide)]
          go_enter Tryd.func23, Tryd.ntmps23
          go_wp2_with fail
          refine (unhide CG _).mono ?_
          rintro e v1 ⟨rfl, hb1⟩
          go_wp2_with fail
          refine (unhide C1 _).mono ?_
          rintro e w1 ⟨rfl, rfl⟩
          go_wp2_with fail
          refine (unhide C2 _).mono ?_
          rintro e w2 ⟨rfl, rfl⟩
          go_wp2_with fail
          refine (unhide C3 _).mono ?_
          rintro e w3 ⟨rfl, rfl⟩
          go_wp2
          go_ret2
          exact ⟨rfl, hb1⟩
        | false =>
          rw [Bool.false_or]
          cases b4 with
          | true =>
            rw [Bool.true_or]
            rw [if_neg (by decide), if_neg (by decide)]
            go_enter Tryd.func23, Tryd.ntmps23
            go_wp2_with fail
            refine (unhide CG _).mono ?_
            rintro e v1 ⟨rfl, hb1⟩
            go_wp2_with fail
            refine (unhide C1 _).mono ?_
            rintro e w1 ⟨rfl, rfl⟩
            go_wp2_with fail
            refine (unhide C2 _).mono ?_
            rintro e w2 ⟨rfl, rfl⟩
            go_wp2_with fail
            refine (unhide C3 _).mono ?_
            rintro e w3 ⟨rfl, rfl⟩
            go_wp2_with fail
            refine (unhide C4 _).mono ?_
            rintro e w4 ⟨rfl, rfl⟩
            go_wp2
            go_ret2
            exact ⟨rfl, hb1⟩
          | false =>
            rw [Bool.false_or]
            cases b5 with
            | true =>
              rw [Bool.true_or]
              rw [if_neg (by decide), if_neg (by decide)]
              go_enter Tryd.func23, Tryd.ntmps23
              go_wp2_with fail
              refine (unhide CG _).mono ?_
              rintro e v1 ⟨rfl, hb1⟩
              go_wp2_with fail
              refine (unhide C1 _).mono ?_
              rintro e w1 ⟨rfl, rfl⟩
              go_wp2_with fail
              refine (unhide C2 _).mono ?_
              rintro e w2 ⟨rfl, rfl⟩
              go_wp2_with fail
              refine (unhide C3 _).mono ?_
              rintro e w3 ⟨rfl, rfl⟩
              go_wp2_with fail
              refine (unhide C4 _).mono ?_
              rintro e w4 ⟨rfl, rfl⟩
              go_wp2_with fail
              refine (unhide C5 _).mono ?_
              rintro e w5 ⟨rfl, rfl⟩
              go_wp2
              go_ret2
              exact ⟨rfl, hb1⟩
            | false =>
              rw [Bool.false_or]
              cases b6 with
              | true =>
                rw [if_neg (by decide), if_neg (by decide)]
                go_enter Tryd.func23, Tryd.ntmps23
                go_wp2_with fail
                refine (unhide CG _).mono ?_
                rintro e v1 ⟨rfl, hb1⟩
                go_wp2_with fail
                refine (unhide C1 _).mono ?_
                rintro e w1 ⟨rfl, rfl⟩
                go_wp2_with fail
                refine (unhide C2 _).mono ?_
                rintro e w2 ⟨rfl, rfl⟩
                go_wp2_with fail
                refine (unhide C3 _).mono ?_
                rintro e w3 ⟨rfl, rfl⟩
                go_wp2_with fail
                refine (unhide C4 _).mono ?_
                rintro e w4 ⟨rfl, rfl⟩
                go_wp2_with fail
                refine (unhide C5 _).mono ?_
                rintro e w5 ⟨rfl, rfl⟩
                go_wp2_with fail
                refine (unhide C6 _).mono ?_
                rintro e w6 ⟨rfl, rfl⟩
                go_wp2
                go_ret2
                exact ⟨rfl, hb1⟩
              | false =>
                rw [if_pos (by decide), if_pos (by decide)]
                go_enter Tryd.func23, Tryd.ntmps23
                go_wp2_with fail
                refine (unhide CG _).mono ?_
                rintro e v1 ⟨rfl, hb1⟩
                go_wp2_with fail
                refine (unhide C1 _).mono ?_
                rintro e w1 ⟨rfl, rfl⟩
                go_wp2_with fail
                refine (unhide C2 _).mono ?_
                rintro e w2 ⟨rfl, rfl⟩
                go_wp2_with fail
                refine (unhide C3 _).mono ?_
                rintro e w3 ⟨rfl, rfl⟩
                go_wp2_with fail
                refine (unhide C4 _).mono ?_
                rintro e w4 ⟨rfl, rfl⟩
                go_wp2_with fail
                refine (unhide C5 _).mono ?_
                rintro e w5 ⟨rfl, rfl⟩
                go_wp2_with fail
                refine (unhide C6 _).mono ?_
                rintro e w6 ⟨rfl, rfl⟩
                go_wp2
                go_ret2
                exact ⟨rfl, hb1⟩
end Go.Proofs.YtakjlolmmoladabDoor

/-
  The small case that each law of layer 6 asks: a tag with an attribute.
-/
namespace Go.Proofs.YtakjlolmmoladabDoor
open Go.RowKit
set_option linter.unusedVariables false

def hrefL : List (ByteArray × ByteArray) := [(⟨#[104, 114, 101, 102]⟩, ⟨#[120, 34, 121]⟩)]
theorem href_cells (w : World) : Cells2 w.heap.size 0 hrefL (w.alloc (.cells #[.string ⟨#[104, 114, 101, 102]⟩, .string ⟨#[120, 34, 121]⟩] 47)) := by
  intro k hk
  have : k = 0 := by simp [hrefL] at hk; exact hk
  subst this
  exact ⟨World.cell?_alloc_at _ _ _ _ rfl, World.cell?_alloc_at _ _ _ _ rfl⟩
theorem href_fits : Fits hrefL := by
  refine ⟨by decide, fun k hk => ?_⟩
  have : k = 0 := by simp [hrefL] at hk; exact hk
  subst this
  exact ⟨by decide, by decide⟩
theorem href_right : rightAs hrefL = true := by kernel_rfl
theorem href_one : ¬ diffN hrefL < hrefL.length := by
  have : diffN hrefL = 1 := by kernel_rfl
  rw [this]; decide

def Link : Prop := ∀ w, Tabs w → Mx w → Calls Tryd.prog 9 #[] w fun e w' => e = .returned (.bool true) ∧ Below w.heap.size w w'
set_option maxHeartbeats 2000000 in
set_option maxRecDepth 100000 in
theorem link_any : Link := by
  intro w ht hm
  have HT := hide ht
  have HM := hide hm
  have C1 : Hid (∀ w', Tabs w' → Cells2 w.heap.size 0 hrefL w' → Calls Tryd.prog 10 #[.string ⟨#[97]⟩, .slice (some ⟨w.heap.size, 0, none⟩) 1 1] w' fun e w'' => e = .returned (.tuple #[.string ⟨#[60, 97, 32, 104, 114, 101, 102, 61, 34, 120, 38, 113, 117, 111, 116, 59, 121, 34, 62]⟩, .int .i64 0]) ∧ Below w'.heap.size w' w'') :=
    fun w' h1 h2 => popen_ok ⟨#[97]⟩ hrefL w.heap.size 0 1 w' h1 h2 href_fits (by decide) (by kernel_rfl) href_right href_one (by decide)
  have C2 : Hid (∀ w, Tabs w → Mx w → Calls Tryd.prog 22 #[.string ⟨#[97, 45, 45]⟩] w fun e w' => e = .returned (.tuple #[.string ⟨#[]⟩, .int .i64 4]) ∧ Below w.heap.size w w') := fun w h1 h2 => by
    have := pnote_any ⟨#[97, 45, 45]⟩ w h1 h2 (by decide)
    have e : noteB (⟨#[97, 45, 45]⟩ : ByteArray).data.toList = false := by kernel_rfl
    rw [e] at this; exact this
  have C3 : Hid (∀ w, Tabs w → Mx w → Calls Tryd.prog 22 #[.string ⟨#[98]⟩] w fun e w' => e = .returned (.tuple #[.string ⟨#[60, 33, 45, 45, 98, 45, 45, 62]⟩, .int .i64 0]) ∧ Below w.heap.size w w') := fun w h1 h2 => by
    have := pnote_any ⟨#[98]⟩ w h1 h2 (by decide)
    have e : noteB (⟨#[98]⟩ : ByteArray).data.toList = true := by kernel_rfl
    rw [e] at this; exact this
  have C4 : Hid (∀ w, Calls Tryd.prog 14 #[.string ⟨#[104, 49]⟩] w fun e w' => e = .returned (.bool true) ∧ Below w.heap.size w w') := fun w => by
    have := pname_any ⟨#[104, 49]⟩ w (by decide)
    have e : nameB (⟨#[104, 49]⟩ : ByteArray).data.toList = true := by kernel_rfl
    rw [e] at this; exact this
  have C5 : Hid (∀ w, Tabs w → Calls Tryd.prog 16 #[.string ⟨#[195, 169]⟩] w fun e w' => e = .returned (.bool true) ∧ Below w.heap.size w w') := fun w h => by
    have := pgood_any ⟨#[195, 169]⟩ w h (by decide)
    have e : goodB (⟨#[195, 169]⟩ : ByteArray).data.toList = true := by kernel_rfl
    rw [e] at this; exact this
  have HR := hide (href_cells w)
  have hb0 : Below w.heap.size w (w.alloc (.cells #[.string ⟨#[104, 114, 101, 102]⟩, .string ⟨#[120, 34, 121]⟩] 47)) := (Below.refl _ _).alloc (Nat.le_refl _) _
  clear ht hm
  go_enter Tryd.func9, Tryd.ntmps9
  go_wp2_with fail
  refine (unhide C1 _ ((unhide HT).below hb0) (unhide HR)).mono ?_
  rintro e w1 ⟨rfl, hb1⟩
  have hb01 := tr2 hb0 hb1
  go_wp2_with fail
  refine (unhide C2 _ ((unhide HT).below hb01) ((unhide HM).below hb01)).mono ?_
  rintro e w2 ⟨rfl, hb2⟩
  have hb02 := tr2 hb01 hb2
  go_wp2_with fail
  refine (unhide C3 _ ((unhide HT).below hb02) ((unhide HM).below hb02)).mono ?_
  rintro e w3 ⟨rfl, hb3⟩
  have hb03 := tr2 hb02 hb3
  go_wp2_with fail
  refine (unhide C4 _).mono ?_
  rintro e w4 ⟨rfl, hb4⟩
  have hb04 := tr2 hb03 hb4
  go_wp2_with fail
  refine (unhide C5 _ ((unhide HT).below hb04)).mono ?_
  rintro e w5 ⟨rfl, hb5⟩
  go_wp2
  go_ret
  exact ⟨rfl, tr2 hb04 hb5⟩
end Go.Proofs.YtakjlolmmoladabDoor

/-
  The law PenCharsBack walked: characters that were written are read as just those, if a tag, or nothing, is behind them.
-/
namespace Go.Proofs.YtakjlolmmoladabDoor
open Go.RowKit
set_option linter.unusedVariables false

theorem esc_ne {l : List UInt8} (v : Bool) (h : l ≠ []) : escL v l ≠ [] := by
  intro e
  have := all_esc v l.length l (Nat.le_refl _)
  rw [e, allL_nil, cleanL_cons h] at this
  exact ub_ne _ _ this.symm
theorem dgt_app2 (a b : List UInt8) (k : Nat) : dgt (a ++ b) (a.length + k) = dgt b k := by
  unfold dgt; rw [List.getD, List.getD, List.getElem?_append_right (by omega), Nat.add_sub_cancel_left]
/-- Up to the end of what was escaped no < stands. -/
theorem esc_low {l C : List UInt8} {j : Nat} (h : j < (escL false l).length) : ¬ dgt (escL false l ++ C) j = 60 := by
  rw [dgt_app _ _ _ h]; exact (esc_safe_at false l j h).1
theorem low_name {l : List UInt8} (h : nameB l = true) : lowL l = l := by
  unfold nameB at h
  rw [Bool.and_eq_true, Bool.and_eq_true] at h
  have ha := List.all_eq_true.1 h.2.2
  unfold lowL
  have : l.map lowB = l.map id := List.map_congr_left (fun c hc => by
    have hk := ha c hc
    show lowB c = c
    unfold lowB
    have hu : upN c.toNat = false := by
      apply upN_no
      intro hu
      unfold okN smN dgN at hk
      simp at hk
      omega
    rw [hu]; rfl)
  rw [this, List.map_id]
theorem name_pos {l : List UInt8} (h : nameB l = true) : 0 < l.length ∧ l.length ≤ 24 := by
  unfold nameB at h
  rw [Bool.and_eq_true] at h
  exact of_decide_eq_true h.1
theorem seek_esc {l C : List UInt8} {X : ByteArray} (hX : X.data.toList = escL false l ++ C) (hC : C = [] ∨ beginsB C = true) : seekN (begP X) X.size 0 = (escL false l).length := by
  have hz : X.size = (escL false l).length + C.length := by rw [← data_len, hX, List.length_append]
  refine seek_to (begP X) X.size (escL false l).length (by omega) (fun h => ?_) (escL false l).length 0 (by omega) (fun j _ hj => ?_)
  · unfold begP
    rw [hX, List.drop_left]
    rcases hC with hC | hC
    · rw [hC] at hz; simp at hz; omega
    · exact hC
  · unfold begP
    rw [hX]
    exact begins_no (fun h => by rw [dgt_drop, Nat.add_zero] at h; exact esc_low hj h.2)
theorem begin_esc {l C : List UInt8} {X : ByteArray} (hX : X.data.toList = escL false l ++ C) (hl : l ≠ []) : begP X 0 = false := by
  unfold begP
  rw [hX, List.drop_zero]
  exact begins_no (fun h => esc_low (List.length_pos_iff.2 (esc_ne false hl)) h.2)
theorem begins_close {n : List UInt8} (h : nameB n = true) : beginsB (closeL n) = true := by
  have := name_pos h
  rw [begins_is ⟨by unfold closeL; simp <;> omega, rfl⟩]
  have e : dgt (closeL n) 1 = 47 := rfl
  have e2 : 2 < (closeL n).length := by unfold closeL; simp <;> omega
  rw [e, decide_eq_true (show (47 : Nat) = 47 ∧ 2 < (closeL n).length from ⟨rfl, e2⟩)]
  simp
theorem last_close {n : List UInt8} (h : nameB n = true) : lastB (closeL n) n = true := by
  have hp := name_pos h
  unfold lastB
  have e1 : [60, 47].isPrefixOf (closeL n) = true := rfl
  have e2 : n ≠ [] ∧ n.length + 2 < (closeL n).length := ⟨List.length_pos_iff.1 hp.1, by unfold closeL; simp <;> omega⟩
  have e3 : dgt (closeL n) (2 + n.length) = 62 := by
    have : closeL n = ([60, 47] ++ n) ++ [62] := by unfold closeL; simp
    rw [this, show 2 + n.length = ([60, 47] ++ n).length + 0 by simp; omega, dgt_app2]; rfl
  have e4 : ((closeL n).drop 2).take n.length = n := by unfold closeL; simp
  rw [e1, decide_eq_true e2, e3, e4, low_name h]
  simp [enB]
theorem seek_last {l n : List UInt8} {X N : ByteArray} (hX : X.data.toList = escL false l ++ closeL n) (hN : N.data.toList = n) (hn : nameB n = true) : seekN (lastP X N) X.size 0 = (escL false l).length := by
  have hz : X.size = (escL false l).length + (closeL n).length := by rw [← data_len, hX, List.length_append]
  refine seek_to (lastP X N) X.size (escL false l).length (by omega) (fun h => ?_) (escL false l).length 0 (by omega) (fun j _ hj => ?_)
  · unfold lastP
    rw [hX, List.drop_left, hN]; exact last_close hn
  · unfold lastP lastB
    have : [60, 47].isPrefixOf (X.data.toList.drop j) = false := by
      cases e : [60, 47].isPrefixOf (X.data.toList.drop j) with
      | false => rfl
      | true =>
        exfalso
        obtain ⟨t, ht⟩ := List.isPrefixOf_iff_prefix.1 e
        have h0 : dgt (X.data.toList.drop j) 0 = 60 := by rw [← ht]; rfl
        rw [dgt_drop, Nat.add_zero, hX] at h0
        exact esc_low hj h0
    rw [this]; rfl
/-- What stands up to there is, all of it, the text. -/
theorem all_there {s : ByteArray} {C : List UInt8} {X : ByteArray} (hX : X.data.toList = escL false s.data.toList ++ C) (hg : goodB s.data.toList = true) : bs (allL false ((X.data.toList.drop 0).take ((escL false s.data.toList).length - 0))) = s := by
  unfold goodB at hg
  rw [Bool.and_eq_true] at hg
  rw [List.drop_zero, hX, Nat.sub_zero, List.take_left, all_esc false _ _ (Nat.le_refl _), clean_right _ _ (Nat.le_refl _) hg.1, bs_self]

set_option maxHeartbeats 4000000 in
theorem penCharsBack_main (s n x c : ByteArray) (w : World) (ht : Tab4 w) (hm : Mx w) (hs : s.size ≤ 1500) (hn : n.size ≤ 200) (hx : x.size ≤ 10000) (hc : c.size ≤ 10000)
    (A1 : Hid (∀ w, Tab4 w → Calls Tryd.prog 18 #[.string s] w fun e w' => e = .returned (.tuple #[.string x, .int .i64 0]) ∧ Below w.heap.size w w'))
    (A2 : Hid (∀ w, Calls Tryd.prog 12 #[.string n] w fun e w' => e = .returned (.tuple #[.string c, .int .i64 0]) ∧ Below w.heap.size w w'))
    (A3 : Hid (∀ w, Tab4 w → Calls Tryd.prog 24 #[.string (x ++ c), .int .i64 0, .agg #[.int .i64 0, .string ⟨#[]⟩, .bool false]] w fun e w' => e = .returned (.tuple #[.agg #[.int .i64 3, .string ⟨#[]⟩, .slice none 0 0, .bool false, .string s], .int .i64 (x.size : Int)]) ∧ Below w.heap.size w w'))
    (A4 : Hid (∀ w, Tab4 w → Calls Tryd.prog 24 #[.string x, .int .i64 0, .agg #[.int .i64 0, .string ⟨#[]⟩, .bool false]] w fun e w' => e = .returned (.tuple #[.agg #[.int .i64 3, .string ⟨#[]⟩, .slice none 0 0, .bool false, .string s], .int .i64 (x.size : Int)]) ∧ Below w.heap.size w w'))
    (A5 : Hid (∀ w, Tab4 w → Calls Tryd.prog 24 #[.string (x ++ c), .int .i64 0, .agg #[.int .i64 1, .string n, .bool false]] w fun e w' => e = .returned (.tuple #[.agg #[.int .i64 3, .string ⟨#[]⟩, .slice none 0 0, .bool false, .string s], .int .i64 (x.size : Int)]) ∧ Below w.heap.size w w')) :
    Calls Tryd.prog 6 #[.string s, .string n] w fun e w' => e = .returned (.bool true) ∧ Below w.heap.size w w' := by
  have HT := hide ht
  have HM := hide hm
  have E := hide link_any
  have hi : ¬ (1500 : Int) < (s.size : Int) := by omega
  have hi2 : ¬ (200 : Int) < (n.size : Int) := by omega
  have qs : (s.toList == s.toList) = true := by simp
  have qx : ((x.size : Int) == (x.size : Int)) = true := by simp
  clear ht hm
  go_enter Tryd.func6, Tryd.ntmps6
  go_wp2_with fail
  refine (unhide A1 _ (unhide HT)).mono ?_
  rintro e w1 ⟨rfl, hb1⟩
  go_wp2_with fail
  refine (unhide A2 _).mono ?_
  rintro e w2 ⟨rfl, hb2⟩
  have hb02 := tr2 hb1 hb2
  go_wp2_with fail
  refine (unhide A3 _ ((unhide HT).below hb02)).mono ?_
  rintro e w3 ⟨rfl, hb3⟩
  have hb03 := tr2 hb02 hb3
  have hbT : Below w3.heap.size w3 (w3.alloc (.cells #[.int .i64 3, .string ⟨#[]⟩, .slice none 0 0, .bool false, .string s] 38)) := (Below.refl _ _).alloc (Nat.le_refl _) _
  have t0 : (w3.alloc (.cells #[.int .i64 3, .string ⟨#[]⟩, .slice none 0 0, .bool false, .string s] 38)).cell? ⟨w3.heap.size, 0, none⟩ = some (.int .i64 3) := World.cell?_alloc_at _ _ _ _ rfl
  have t4 : (w3.alloc (.cells #[.int .i64 3, .string ⟨#[]⟩, .slice none 0 0, .bool false, .string s] 38)).cell? ⟨w3.heap.size, 4, none⟩ = some (.string s) := World.cell?_alloc_at _ _ _ _ rfl
  have T0 := hide t0
  have T4 := hide t4
  clear t0 t4
  have hbT' := tr2 hb03 hbT
  go_wp2_with fail
  refine (unhide A4 _ ((unhide HT).below hbT')).mono ?_
  rintro e w4 ⟨rfl, hb4⟩
  have hb04 := tr2 hbT' hb4
  have T0 := hide (cell_later hb4 (unhide T0))
  have T4 := hide (cell_later hb4 (unhide T4))
  have hbU : Below w4.heap.size w4 (w4.alloc (.cells #[.int .i64 3, .string ⟨#[]⟩, .slice none 0 0, .bool false, .string s] 38)) := (Below.refl _ _).alloc (Nat.le_refl _) _
  have u4 : (w4.alloc (.cells #[.int .i64 3, .string ⟨#[]⟩, .slice none 0 0, .bool false, .string s] 38)).cell? ⟨w4.heap.size, 4, none⟩ = some (.string s) := World.cell?_alloc_at _ _ _ _ rfl
  have U4 := hide u4
  clear u4
  have hbU' := tr2 hb04 hbU
  have hz34 : w3.heap.size < w4.heap.size := by have := hb4.size; simp at this; omega
  go_wp2_with fail
  refine (unhide A5 _ ((unhide HT).below hbU')).mono ?_
  rintro e w5 ⟨rfl, hb5⟩
  have hb05 := tr2 hbU' hb5
  have t0 := cell_later hb5 (cell_later hbU (unhide T0))
  have t4 := cell_later hb5 (cell_later hbU (unhide T4))
  have u4 := cell_later hb5 (unhide U4)
  have hbV : Below w5.heap.size w5 (w5.alloc (.cells #[.int .i64 3, .string ⟨#[]⟩, .slice none 0 0, .bool false, .string s] 38)) := (Below.refl _ _).alloc (Nat.le_refl _) _
  have hbV' := tr2 hb05 hbV
  have hz45 : w4.heap.size < w5.heap.size := by have := hb5.size; simp at this; omega
  have hz35 : w3.heap.size < w5.heap.size := by omega
  go_wp2_with fail
  refine (unhide E _ ((unhide HT).below hbV').1 ((unhide HM).below hbV')).mono ?_
  rintro e w6 ⟨rfl, hb6⟩
  go_wp2
  go_ret
  exact ⟨rfl, tr2 hbV' hb6⟩

theorem penCharsBack_walk (s n : ByteArray) (w : World) (ht : Tab4 w) (hm : Mx w) (hs : s.size ≤ 9223372036854775807) (hn : n.size ≤ 9223372036854775807) :
    Calls Tryd.prog 6 #[.string s, .string n] w fun e w' => e = .returned (.bool true) ∧ Below w.heap.size w w' := by
  have HT := hide ht
  have HM := hide hm
  have E := hide link_any
  by_cases h1 : 1500 < s.size
  · have hi : (1500 : Int) < (s.size : Int) := by omega
    clear ht hm
    go_enter Tryd.func6, Tryd.ntmps6
    go_wp2_with fail
    refine (unhide E _ (unhide HT).1 (unhide HM)).mono ?_
    rintro e w2 ⟨rfl, hb2⟩
    go_wp2
    go_ret
    exact ⟨rfl, hb2⟩
  have hi : ¬ (1500 : Int) < (s.size : Int) := by omega
  by_cases h2 : 200 < n.size
  · have hi2 : (200 : Int) < (n.size : Int) := by omega
    clear ht hm
    go_enter Tryd.func6, Tryd.ntmps6
    go_wp2_with fail
    refine (unhide E _ (unhide HT).1 (unhide HM)).mono ?_
    rintro e w2 ⟨rfl, hb2⟩
    go_wp2
    go_ret
    exact ⟨rfl, hb2⟩
  have hi2 : ¬ (200 : Int) < (n.size : Int) := by omega
  have C1 := hide (fun w (h : Tab4 w) => pchars_any s w h.1 (by omega))
  have C2 := hide (fun w => pclose_any n w (by omega))
  cases hcb : charsB s.data.toList with
  | false =>
    rw [hcb] at C1
    have e1 : toldV false (bs (escL false s.data.toList)) = .tuple #[.string ⟨#[]⟩, .int .i64 4] := rfl
    rw [e1] at C1
    have hv : ∃ y k, toldV (nameB n.data.toList) (bs (closeL n.data.toList)) = .tuple #[.string y, .int .i64 k] := ⟨_, _, rfl⟩
    obtain ⟨y, k, e2⟩ := hv
    rw [e2] at C2
    clear e1 e2 hcb ht hm
    go_enter Tryd.func6, Tryd.ntmps6
    go_wp2_with fail
    refine (unhide C1 _ (unhide HT)).mono ?_
    rintro e w1 ⟨rfl, hb1⟩
    go_wp2_with fail
    refine (unhide C2 _).mono ?_
    rintro e w2 ⟨rfl, hb2⟩
    have hb02 := tr2 hb1 hb2
    go_wp2_with fail
    refine (unhide E _ ((unhide HT).below hb02).1 ((unhide HM).below hb02)).mono ?_
    rintro e w3 ⟨rfl, hb3⟩
    go_wp2
    go_ret
    exact ⟨rfl, tr2 hb02 hb3⟩
  | true =>
    rw [hcb] at C1
    have e1 : toldV true (bs (escL false s.data.toList)) = .tuple #[.string (bs (escL false s.data.toList)), .int .i64 0] := rfl
    rw [e1] at C1
    cases hnb : nameB n.data.toList with
    | false =>
      rw [hnb] at C2
      have e2 : toldV false (bs (closeL n.data.toList)) = .tuple #[.string ⟨#[]⟩, .int .i64 4] := rfl
      rw [e2] at C2
      generalize bs (escL false s.data.toList) = x at *
      clear e1 e2 hcb hnb ht hm
      go_enter Tryd.func6, Tryd.ntmps6
      go_wp2_with fail
      refine (unhide C1 _ (unhide HT)).mono ?_
      rintro e w1 ⟨rfl, hb1⟩
      go_wp2_with fail
      refine (unhide C2 _).mono ?_
      rintro e w2 ⟨rfl, hb2⟩
      have hb02 := tr2 hb1 hb2
      go_wp2_with fail
      refine (unhide E _ ((unhide HT).below hb02).1 ((unhide HM).below hb02)).mono ?_
      rintro e w3 ⟨rfl, hb3⟩
      go_wp2
      go_ret
      exact ⟨rfl, tr2 hb02 hb3⟩
    | true =>
      rw [hnb] at C2
      have e2 : toldV true (bs (closeL n.data.toList)) = .tuple #[.string (bs (closeL n.data.toList)), .int .i64 0] := rfl
      rw [e2] at C2
      have hl : s.data.toList ≠ [] := by intro e; rw [charsB_no e] at hcb; cases hcb
      have hg : goodB s.data.toList = true := by rw [charsB_ok hl] at hcb; exact hcb
      have hel := esc_len false s.data.toList false
      have hel' : (escL false s.data.toList).length ≤ 6 * s.size := by rw [data_len] at hel; exact hel
      have hxz : (bs (escL false s.data.toList)).size = (escL false s.data.toList).length := bs_size _
      have hx0 : 0 < (escL false s.data.toList).length := List.length_pos_iff.2 (esc_ne false hl)
      have hcz : (bs (closeL n.data.toList)).size = n.size + 3 := by rw [bs_size]; unfold closeL; simp
      have hX1 : (bs (escL false s.data.toList) ++ bs (closeL n.data.toList)).data.toList = escL false s.data.toList ++ closeL n.data.toList := by rw [bs_bs, bs_toList]
      have hX2 : (bs (escL false s.data.toList)).data.toList = escL false s.data.toList ++ [] := by rw [bs_toList, List.append_nil]
      have hz1 : (bs (escL false s.data.toList) ++ bs (closeL n.data.toList)).size = (escL false s.data.toList).length + (n.size + 3) := by rw [ByteArray.size_append, hxz, hcz]
      have k1 := seek_esc hX1 (.inr (begins_close hnb))
      have k2 := seek_esc hX2 (.inl rfl)
      have k3 := seek_last hX1 rfl hnb
      refine penCharsBack_main s n (bs (escL false s.data.toList)) (bs (closeL n.data.toList)) w ht hm (by omega) (by omega) (by omega) (by omega) C1 C2 (hide fun w h => ?_) (hide fun w h => ?_) (hide fun w h => ?_)
      · have hd := fun w h => data_chars (bs (escL false s.data.toList) ++ bs (closeL n.data.toList)) 0 false w h (by omega) (by omega) (begin_esc hX1 hl)
        rw [k1, all_there hX1 hg] at hd
        rw [hxz]
        exact next_data _ 0 w h s _ (by omega) (by omega) (hide hd)
      · have hd := fun w h => data_chars (bs (escL false s.data.toList)) 0 false w h (by omega) (by omega) (begin_esc hX2 hl)
        rw [k2, all_there hX2 hg] at hd
        rw [hxz]
        exact next_data _ 0 w h s _ (by omega) (by omega) (hide hd)
      · have hd := fun w h => enc_chars (bs (escL false s.data.toList) ++ bs (closeL n.data.toList)) n 0 1 false w h (by omega) (by omega) (by omega) rfl (by rw [k3]; omega)
        rw [k3, all_there hX1 hg] at hd
        rw [hxz]
        exact next_title _ n 0 w h s _ (by omega) (by omega) (hide hd)
end Go.Proofs.YtakjlolmmoladabDoor

/-
  Two attributes have one name just where the map of names has fewer entries than there are attributes.
-/
namespace Go.Proofs.YtakjlolmmoladabDoor
open Go.RowKit Go.Maps Go.WideMaps
set_option linter.unusedVariables false

/-- Is the name at a place one of the first k ones? -/
def seenF (ats : List (ByteArray × ByteArray)) (i : Nat) : Nat → Bool
  | 0 => false
  | k + 1 => seenF ats i k || decide (an ats k = an ats i)
/-- Of the first n names, are two the same? -/
def dupF (ats : List (ByteArray × ByteArray)) : Nat → Bool
  | 0 => false
  | n + 1 => dupF ats n || seenF ats n n
theorem keyA_lit (ats : List (ByteArray × ByteArray)) (k : Nat) : WideAt.IsKeyLit (keyA ats k) := isKey _
theorem keyA_eq {ats : List (ByteArray × ByteArray)} {k i : Nat} : keyA ats k = keyA ats i ↔ an ats k = an ats i := by
  unfold keyA
  constructor
  · intro h
    have : (an ats k).data.toList = (an ats i).data.toList := by simpa using h
    rw [← bs_self (an ats k), this, bs_self]
  · intro h; rw [h]
theorem put_tidy {H : Type} (ats : List (ByteArray × ByteArray)) : ∀ k, Tidy (putA (H := H) ats k)
  | 0 => tidy_empty
  | k + 1 => (put_tidy ats k).put (isKey _) _
theorem put_has {H : Type} (ats : List (ByteArray × ByteArray)) (i : Nat) : ∀ k, has (putA (H := H) ats k) (keyA ats i) = seenF ats i k
  | 0 => rfl
  | k + 1 => by
    rw [putA, seenF]
    by_cases e : an ats k = an ats i
    · rw [← keyA_eq.2 e, has_put_same (put_tidy ats k).isMap (keyA_lit ats k), decide_eq_true e]; simp
    · rw [has_put_other (fun h => e (keyA_eq.1 h.symm)), put_has ats i k, decide_eq_false e]; simp
theorem put_size (ats : List (ByteArray × ByteArray)) : ∀ k, Maps.size (putA (H := Unit) ats k) ≤ k ∧ (dupF ats k = true ↔ Maps.size (putA (H := Unit) ats k) < k)
  | 0 => ⟨Nat.le_refl _, by constructor
                            · intro h; cases h
                            · intro h; omega⟩
  | k + 1 => by
    have ih := put_size ats k
    rw [putA, size_put (put_tidy ats k), put_has, dupF]
    cases hs : seenF ats k k with
    | true => simp; omega
    | false =>
      simp only [Bool.or_false]
      refine ⟨by simp; omega, ?_⟩
      rw [ih.2]; simp
theorem diff_dup (ats : List (ByteArray × ByteArray)) : dupF ats ats.length = decide (diffN ats < ats.length) := by
  have := (put_size ats ats.length).2
  unfold diffN
  rw [Bool.eq_iff_iff, this, decide_eq_true_eq]
theorem dup_more {ats : List (ByteArray × ByteArray)} {i : Nat} (h : seenF ats i i = true) : ∀ n, i < n → dupF ats n = true
  | 0, hn => by omega
  | n + 1, hn => by
    rw [dupF]
    by_cases e : i = n
    · subst e; rw [h]; simp
    · rw [dup_more h n (by omega)]; rfl
theorem seen_more {ats : List (ByteArray × ByteArray)} {i k : Nat} (h : an ats k = an ats i) : ∀ n, k < n → seenF ats i n = true
  | 0, hn => by omega
  | n + 1, hn => by
    rw [seenF]
    by_cases e : k = n
    · subst e; rw [decide_eq_true h]; simp
    · rw [seen_more h n (by omega)]; rfl
end Go.Proofs.YtakjlolmmoladabDoor

/-
  What the reference's Wrong, Plain and Open of layer 6 do.
-/
namespace Go.Proofs.YtakjlolmmoladabDoor
open Go.RowKit
set_option linter.unusedVariables false

theorem wrong_1 {n : List UInt8} {ats : List (ByteArray × ByteArray)} (h : nameB n = false) : wrongN n ats = 4 := by unfold wrongN; rw [h]; rfl
theorem wrong_2 {n : List UInt8} {ats : List (ByteArray × ByteArray)} (h : rightAs ats = false) : wrongN n ats = 4 := by unfold wrongN; rw [h, Bool.and_false]; rfl
theorem wrong_3 {n : List UInt8} {ats : List (ByteArray × ByteArray)} (h1 : nameB n = true) (h2 : rightAs ats = true) (h3 : dupF ats ats.length = true) : wrongN n ats = 8 := by
  rw [diff_dup] at h3
  unfold wrongN; rw [h1, h2, if_neg (by decide), if_pos (of_decide_eq_true h3)]
theorem wrong_4 {n : List UInt8} {ats : List (ByteArray × ByteArray)} (h1 : nameB n = true) (h2 : rightAs ats = true) (h3 : dupF ats ats.length = false) (h4 : 12 < ats.length) : wrongN n ats = 2 := by
  rw [diff_dup] at h3
  unfold wrongN; rw [h1, h2, if_neg (by decide), if_neg (of_decide_eq_false h3), if_pos h4]
theorem wrong_0 {n : List UInt8} {ats : List (ByteArray × ByteArray)} (h1 : nameB n = true) (h2 : rightAs ats = true) (h3 : dupF ats ats.length = false) (h4 : ¬ 12 < ats.length) : wrongN n ats = 0 := by
  rw [diff_dup] at h3
  unfold wrongN; rw [h1, h2, if_neg (by decide), if_neg (of_decide_eq_false h3), if_neg h4]

set_option maxHeartbeats 8000000 in
set_option maxRecDepth 100000 in
theorem rwrong_any (n : ByteArray) (ats : List (ByteArray × ByteArray)) (g o cap : Nat) (w : World) (hc : Cells2 g o ats w) (hf : Fits ats) (hn : n.size ≤ 10000) :
    Calls Tryd.prog 31 #[.string n, .slice (some ⟨g, o, none⟩) ats.length cap] w fun e w' => e = .returned (.int .i64 (wrongN n.data.toList ats)) ∧ Below w.heap.size w w' := by
  have HC := hide hc
  have HF := hide hf
  have hlen : ats.length ≤ 1000 := hf.1
  have CN := hide (fun w => rname6_any n w (by omega))
  have W1 := hide (@wrong_1 n.data.toList ats)
  have W2 := hide (@wrong_2 n.data.toList ats)
  have W3 := hide (@wrong_3 n.data.toList ats)
  have W4 := hide (@wrong_4 n.data.toList ats)
  have W0 := hide (@wrong_0 n.data.toList ats)
  have NO := hide (fun k h hk => rightF_no ats (k := k) h ats.length hk)
  clear hc hf
  generalize wrongN n.data.toList ats = wn at *
  cases hnb : nameB n.data.toList with
  | false =>
    rw [hnb] at CN
    have HV := hide (unhide W1 hnb)
    clear hnb
    go_enter Tryd.func31, Tryd.ntmps31
    go_wp2_with fail
    refine (unhide CN _).mono ?_
    rintro e w1 ⟨rfl, rfl⟩
    go_wp2
    go_ret
    exact ⟨by rw [unhide HV]; rfl, Below.refl _ _⟩
  | true =>
    rw [hnb] at CN
    have HNB := hide hnb
    clear hnb W1
    go_enter Tryd.func31, Tryd.ntmps31
    go_wp2_with fail
    refine (unhide CN _).mono ?_
    rintro e w1 ⟨rfl, hw1⟩
    obtain rfl : w = w1 := hw1.symm
    go_wp2
    go_loopw [16] (fun i wr => ∃ k : Nat, k ≤ ats.length ∧ i = .int .i64 k ∧ rightF ats k = true ∧ Below w.heap.size w wr) (fun i _ => ats.length - (intOf i).toNat)
    case atStart => exact ⟨0, Nat.zero_le _, rfl, rfl, Below.refl _ _⟩
    case round =>
      obtain ⟨k, hk, rfl, hr, hbw⟩ := hrel
      have HR := hide hr
      have hzw := hbw.size
      clear hr
      by_cases hp : k < ats.length
      · have hpi : (k : Int) < (ats.length : Int) := by omega
        obtain ⟨c1, c2⟩ := (unhide HC).below hbw k hp
        have CM := hide (fun w => rname6_any (an ats k) w (by have := (unhide HF).2 k hp; omega))
        have CG := hide (fun w => rgood6_any (av ats k) w (by have := (unhide HF).2 k hp; omega))
        have hra : rightAt ats k = (nameB (an ats k).data.toList && goodB (av ats k).data.toList) := rfl
        have NK := hide (fun h => unhide NO k h hp)
        have HRA := hide hra
        clear hra
        generalize nameB (an ats k).data.toList = nb at *
        generalize goodB (av ats k).data.toList = gb at *
        generalize an ats k = a1 at *
        generalize av ats k = a2 at *
        have hbA : Below wr.heap.size wr (wr.alloc (.cells #[.string a1, .string a2] 47)) := (Below.refl _ _).alloc (Nat.le_refl _) _
        have hbA' := tr2 hbw hbA
        cases nb with
        | false =>
          rw [Bool.false_and] at HRA
          have HV := hide (unhide W2 (unhide NK (unhide HRA)))
          go_wp2_with fail
          refine (unhide CM _).mono ?_
          rintro e w2 ⟨rfl, rfl⟩
          go_wp2
          go_ret
          exact ⟨by rw [unhide HV]; rfl, hbA'⟩
        | true =>
          rw [Bool.true_and] at HRA
          cases gb with
          | false =>
            have HV := hide (unhide W2 (unhide NK (unhide HRA)))
            go_wp2_with fail
            refine (unhide CM _).mono ?_
            rintro e w2 ⟨rfl, rfl⟩
            go_wp2_with fail
            refine (unhide CG _).mono ?_
            rintro e w3 ⟨rfl, hb3⟩
            go_wp2
            go_ret
            exact ⟨by rw [unhide HV]; rfl, tr2 hbA' hb3⟩
          | true =>
            go_wp2_with fail
            refine (unhide CM _).mono ?_
            rintro e w2 ⟨rfl, rfl⟩
            go_wp2_with fail
            refine (unhide CG _).mono ?_
            rintro e w3 ⟨rfl, hb3⟩
            have hb13 := tr2 hbA' hb3
            go_wp2
            go_roundw
            case rel => exact ⟨k + 1, by omega, by go_num, by rw [rightF, unhide HR, unhide HRA]; rfl, hb13⟩
            case measure => simp [intOf]; omega
      · have hke : k = ats.length := by omega
        have hrt : rightAs ats = true := by unfold rightAs; rw [← hke]; exact unhide HR
        have HRT := hide hrt
        have HBW := hide hbw
        clear hrt HR NO W2 hbw
        go_wp2
        go_loopw [33] (fun i wx => ∃ m : Nat, m ≤ ats.length ∧ i = .int .i64 m ∧ dupF ats m = false ∧ Below w.heap.size w wx) (fun i _ => ats.length - (intOf i).toNat)
        case atStart => exact ⟨0, Nat.zero_le _, rfl, rfl, unhide HBW⟩
        case round =>
          obtain ⟨m, hm, rfl, hd, hbx⟩ := hrel
          have HD := hide hd
          have hzx := hbx.size
          clear hd
          by_cases hq : m < ats.length
          · have hqi : (m : Int) < (ats.length : Int) := by omega
            obtain ⟨c1, c2⟩ := (unhide HC).below hbx m hq
            have hdm := @dup_more ats m
            have hsn := fun k h => @seen_more ats m k h
            have hdF : dupF ats (m + 1) = (dupF ats m || seenF ats m m) := rfl
            obtain ⟨a1, ha1⟩ : ∃ a, an ats m = a := ⟨_, rfl⟩
            obtain ⟨a2, ha2⟩ : ∃ a, av ats m = a := ⟨_, rfl⟩
            rw [ha1] at c1
            rw [ha2] at c2
            have HA1 := hide ha1
            have HDM := hide hdm
            have HSN := hide hsn
            have HDF := hide hdF
            clear ha1 ha2 hdm hsn hdF
            have hbA : Below wr.heap.size wr (wr.alloc (.cells #[.string a1, .string a2] 47)) := (Below.refl _ _).alloc (Nat.le_refl _) _
            have hbA' := tr2 hbx hbA
            have k0 : (wr.alloc (.cells #[.string a1, .string a2] 47)).cell? ⟨wr.heap.size, 0, none⟩ = some (.string a1) := World.cell?_alloc_at _ _ _ _ rfl
            have K0 := hide k0
            have HBA := hide hbA'
            clear k0 hbA' hbA
            go_wp2
            generalize wr.alloc (.cells #[.string a1, .string a2] 47) = wy at *
            generalize wr.heap.size = ga at *
            go_loopw [40] (fun j wz => ∃ q : Nat, q ≤ ats.length ∧ j = .int .i64 q ∧ (q ≤ m → seenF ats m q = false) ∧ (m < q → seenF ats m m = false) ∧ Below wy.heap.size wy wz) (fun j _ => ats.length - (intOf j).toNat)
            case atStart => exact ⟨0, Nat.zero_le _, rfl, fun _ => rfl, fun h => by omega, Below.refl _ _⟩
            case round =>
              obtain ⟨q, hq2, rfl, hs1, hs2, hbz⟩ := hrel
              have HS1 := hide hs1
              have HS2 := hide hs2
              have hzz := hbz.size
              have hb0z := tr2 (unhide HBA) hbz
              clear hs1 hs2
              by_cases hq3 : q < ats.length
              · have hq3i : (q : Int) < (ats.length : Int) := by omega
                obtain ⟨d1, d2⟩ := (unhide HC).below hb0z q hq3
                have k0 := cell_later hbz (unhide K0)
                have hsF : seenF ats m (q + 1) = (seenF ats m q || decide (an ats q = an ats m)) := rfl
                have hbB : Below wr.heap.size wr (wr.alloc (.cells #[.string (an ats q), .string (av ats q)] 47)) := (Below.refl _ _).alloc (Nat.le_refl _) _
                have hgz : ga < wr.heap.size := by
                  rcases Nat.lt_or_ge ga wr.heap.size with h | h
                  · exact h
                  · exfalso
                    unfold World.cell? at k0
                    rw [Array.getElem?_eq_none h] at k0; simp at k0
                by_cases hqm : q < m
                · have hqmi : (q : Int) < (m : Int) := by omega
                  by_cases heq : an ats q = an ats m
                  · have hv := unhide W3 (unhide HNB) (unhide HRT) (unhide HDM (unhide HSN q heq m hqm) ats.length hq)
                    have HV := hide hv
                    have hee : a1 = an ats q := (heq.trans (unhide HA1)).symm
                    have hb2 := beq_yes hee
                    clear hv heq hee hsF
                    generalize an ats q = b1 at *
                    generalize av ats q = b2 at *
                    go_wp2
                    go_ret
                    exact ⟨by rw [unhide HV]; rfl, tr2 hb0z hbB⟩
                  · have hne : ¬ an ats q = a1 := fun h => heq (h.trans (unhide HA1).symm)
                    have hne' : ¬ a1 = an ats q := fun h => hne h.symm
                    have hb2 := beq_no hne'
                    have hsf2 : seenF ats m (q + 1) = false := by rw [hsF, unhide HS1 (by omega), decide_eq_false heq]; rfl
                    have HSF := hide hsf2
                    clear hsF hsf2 heq hne hne'
                    generalize an ats q = b1 at *
                    generalize av ats q = b2 at *
                    go_wp2
                    go_roundw
                    case rel => exact ⟨q + 1, by omega, by go_num, fun _ => unhide HSF, fun h => by omega, tr2 hbz hbB⟩
                    case measure => simp [intOf]; omega
                · have hqmi : decide ((q : Int) < (m : Int)) = false := decide_eq_false (by omega)
                  have hsm : seenF ats m m = false := by
                    by_cases e : q = m
                    · have := unhide HS1 (by omega); rw [e] at this; exact this
                    · exact unhide HS2 (by omega)
                  have HSM := hide hsm
                  clear hsm hsF
                  generalize an ats q = b1 at *
                  generalize av ats q = b2 at *
                  go_wp2
                  go_roundw
                  case rel => exact ⟨q + 1, by omega, by go_num, fun h => by omega, fun _ => unhide HSM, tr2 hbz hbB⟩
                  case measure => simp [intOf]; omega
              · have hdn : dupF ats (m + 1) = false := by rw [unhide HDF, unhide HD, unhide HS2 (by omega)]; rfl
                have HDN := hide hdn
                clear hdn
                go_wp2
                go_roundw
                case rel => exact ⟨m + 1, by omega, by go_num, unhide HDN, hb0z⟩
                case measure => simp [intOf]; omega
          · have hme : m = ats.length := by omega
            have hdl : dupF ats ats.length = false := by rw [← hme]; exact unhide HD
            by_cases h12 : 12 < ats.length
            · have hi : (12 : Int) < (ats.length : Int) := by omega
              have HV := hide (unhide W4 (unhide HNB) (unhide HRT) hdl h12)
              clear hdl
              go_wp2
              go_ret
              exact ⟨by rw [unhide HV]; rfl, hbx⟩
            · have hi : ¬ (12 : Int) < (ats.length : Int) := by omega
              have HV := hide (unhide W0 (unhide HNB) (unhide HRT) hdl h12)
              clear hdl
              go_wp2
              go_ret
              exact ⟨by rw [unhide HV]; rfl, hbx⟩

set_option maxHeartbeats 8000000 in
set_option maxRecDepth 100000 in
theorem rplain_any (n : ByteArray) (ats : List (ByteArray × ByteArray)) (g o cap : Nat) (w : World) (hc : Cells2 g o ats w) (hf : Fits ats) (hn : n.size ≤ 10000) :
    Calls Tryd.prog 32 #[.string n, .slice (some ⟨g, o, none⟩) ats.length cap] w fun e w' => e = .returned (.string (bs (openL n.data.toList ats))) ∧ Below w.heap.size w w' := by
  have HC := hide hc
  have HF := hide hf
  have hlen : ats.length ≤ 1000 := hf.1
  have h60 : (⟨#[60]⟩ : ByteArray) ++ n = bs ([60] ++ n.data.toList) := by
    have : (⟨#[60]⟩ : ByteArray) = bs [60] := rfl
    rw [this, bs_add]
  clear hc hf
  go_enter Tryd.func32, Tryd.ntmps32
  go_wp2
  go_loopw [5, 12] (fun x i wr => ∃ k : Nat, k ≤ ats.length ∧ i = .int .i64 k ∧ x = .string (bs ([60] ++ n.data.toList ++ attL ats k)) ∧ (attL ats k).length ≤ 80000 * k ∧ Below w.heap.size w wr) (fun _ i _ => ats.length - (intOf i).toNat)
  case atStart => exact ⟨0, Nat.zero_le _, rfl, by rw [attL, List.append_nil]; rfl, by simp [attL], Below.refl _ _⟩
  case round =>
    obtain ⟨k, hk, rfl, rfl, hal, hbw⟩ := hrel
    have hzw := hbw.size
    have hxz : (bs ([60] ++ n.data.toList ++ attL ats k)).size ≤ 80010001 := by
      rw [bs_size, List.length_append, List.length_append, data_len]; simp; omega
    by_cases hp : k < ats.length
    · have hpi : (k : Int) < (ats.length : Int) := by omega
      obtain ⟨c1, c2⟩ := (unhide HC).below hbw k hp
      have hft := (unhide HF).2 k hp
      have CE := hide (fun w => rescape_any (av ats k) true w (by omega))
      have hel := esc_len true (av ats k).data.toList false
      rw [data_len] at hel
      have hab : ∀ X : ByteArray, X ++ ⟨#[32]⟩ ++ an ats k ++ ⟨#[61, 34]⟩ ++ bs (escL true (av ats k).data.toList) ++ ⟨#[34]⟩ = X ++ bs (attB (an ats k).data.toList (av ats k).data.toList) := fun X => by
        have := att_bs (an ats k) (bs (escL true (av ats k).data.toList))
        rw [bs_toList] at this
        unfold attB
        rw [← this]
        simp only [ByteArray.append_assoc]
      have habz : (attB (an ats k).data.toList (av ats k).data.toList).length ≤ 80000 := by
        unfold attB
        have : (escL true (av ats k).data.toList).length ≤ 6 * (av ats k).size := hel
        simp; omega
      have esz : (bs (escL true (av ats k).data.toList)).size ≤ 60000 := by
        rw [bs_size]
        have : (escL true (av ats k).data.toList).length ≤ 6 * (av ats k).size := hel
        omega
      have hatt : bs ([60] ++ n.data.toList ++ attL ats (k + 1)) = bs ([60] ++ n.data.toList ++ attL ats k) ++ bs (attB (an ats k).data.toList (av ats k).data.toList) := by
        rw [bs_bs, attL, List.append_assoc, List.append_assoc, List.append_assoc]
      have hatl : (attL ats (k + 1)).length ≤ 80000 * (k + 1) := by rw [attL, List.length_append]; omega
      have HAB := hide (hab (bs ([60] ++ n.data.toList ++ attL ats k)))
      have HATT := hide hatt
      have HATL := hide hatl
      clear hab hatt hatl hel
      generalize attB (an ats k).data.toList (av ats k).data.toList = ab at *
      generalize bs (escL true (av ats k).data.toList) = E at *
      generalize an ats k = a1 at *
      generalize av ats k = a2 at *
      generalize hX : bs ([60] ++ n.data.toList ++ attL ats k) = X at *
      clear hX
      have hbA : Below wr.heap.size wr (wr.alloc (.cells #[.string a1, .string a2] 47)) := (Below.refl _ _).alloc (Nat.le_refl _) _
      have hbA' := tr2 hbw hbA
      go_wp2_with fail
      go_quiet ((go_at_call 40; exact Calls.quiet_of_same (unhide CE _)))
      go_wp2
      go_roundw
      case rel => exact ⟨k + 1, by omega, by go_num, by rw [unhide HATT, ← unhide HAB], unhide HATL, _root_.Go.below_drewN hbA' _⟩
      case measure => simp [intOf]; omega
    · have hke : k = ats.length := by omega
      subst hke
      have hol : bs ([60] ++ n.data.toList ++ attL ats ats.length) ++ ⟨#[62]⟩ = bs (openL n.data.toList ats) := by
        have : (⟨#[62]⟩ : ByteArray) = bs [62] := rfl
        rw [this, bs_bs]; unfold openL; simp
      have HOL := hide hol
      clear hol
      generalize hX : bs ([60] ++ n.data.toList ++ attL ats ats.length) = X at *
      clear hX
      go_wp2
      go_ret
      exact ⟨by rw [← unhide HOL]; rfl, hbw⟩

theorem openV_0 {n : List UInt8} {ats : List (ByteArray × ByteArray)} (h : wrongN n ats = 0) : openV n ats = .tuple #[.string (bs (openL n ats)), .int .i64 0] := by unfold openV; rw [h]; rfl
theorem openV_1 {n : List UInt8} {ats : List (ByteArray × ByteArray)} (h : ¬ wrongN n ats = 0) : openV n ats = .tuple #[.string ⟨#[]⟩, .int .i64 (wrongN n ats)] := by unfold openV; rw [if_neg h]
set_option maxHeartbeats 2000000 in
theorem ropen_any (n : ByteArray) (ats : List (ByteArray × ByteArray)) (g o cap : Nat) (w : World) (hc : Cells2 g o ats w) (hf : Fits ats) (hn : n.size ≤ 10000) :
    Calls Tryd.prog 11 #[.string n, .slice (some ⟨g, o, none⟩) ats.length cap] w fun e w' => e = .returned (openV n.data.toList ats) ∧ Below w.heap.size w w' := by
  have HC := hide hc
  have CW := hide (rwrong_any n ats g o cap w hc hf hn)
  have CP := hide (fun w h => rplain_any n ats g o cap w h hf hn)
  by_cases h0 : wrongN n.data.toList ats = 0
  · rw [openV_0 h0]
    rw [h0] at CW
    generalize bs (openL n.data.toList ats) = y at *
    clear hc hf h0
    go_enter Tryd.func11, Tryd.ntmps11
    go_wp2_with fail
    refine (unhide CW).mono ?_
    rintro e w1 ⟨rfl, hb1⟩
    go_wp2_with fail
    refine (unhide CP _ ((unhide HC).below hb1)).mono ?_
    rintro e w2 ⟨rfl, hb2⟩
    go_wp2
    go_ret2
    exact ⟨rfl, tr2 hb1 hb2⟩
  · rw [openV_1 h0]
    generalize wrongN n.data.toList ats = wn at *
    have hne : (wn == 0) = false := beq_eq_false_iff_ne.2 h0
    have hne' : (wn != 0) = true := by simpa using h0
    clear hc hf h0
    go_enter Tryd.func11, Tryd.ntmps11
    go_wp2_with fail
    refine (unhide CW).mono ?_
    rintro e w1 ⟨rfl, hb1⟩
    go_wp2
    go_ret2
    exact ⟨rfl, hb1⟩
end Go.Proofs.YtakjlolmmoladabDoor

/-
  What 'pen.Open' tells where something is wrong, and on the whole.
-/
namespace Go.Proofs.YtakjlolmmoladabDoor
open Go.RowKit
set_option linter.unusedVariables false

set_option maxHeartbeats 4000000 in
theorem popen_any (n : ByteArray) (ats : List (ByteArray × ByteArray)) (g o cap : Nat) (w : World) (ht : Tabs w) (hc : Cells2 g o ats w) (hf : Fits ats) (hn : n.size ≤ 10000) :
    Calls Tryd.prog 10 #[.string n, .slice (some ⟨g, o, none⟩) ats.length cap] w fun e w' => e = .returned (openV n.data.toList ats) ∧ Below w.heap.size w w' := by
  have HT := hide ht
  have HC := hide hc
  have CN := hide (fun w => pname_any n w (by omega))
  have CR := hide (fun w ht hc => allRight_any ats g o cap w ht hc hf)
  have CT := hide (fun w hc => hasTwice_any ats g o cap w hc hf)
  cases h1 : nameB n.data.toList with
  | false =>
    have hw := wrong_1 (ats := ats) h1
    rw [openV_1 (by rw [hw]; decide), hw]
    rw [h1] at CN
    clear ht hc hf h1 hw
    go_enter Tryd.func10, Tryd.ntmps10
    go_wp2_with fail
    refine (unhide CN _).mono ?_
    rintro e w1 ⟨rfl, hb1⟩
    go_wp2
    go_ret2
    exact ⟨rfl, hb1⟩
  | true =>
    cases h2 : rightAs ats with
    | false =>
      have hw := wrong_2 (n := n.data.toList) h2
      rw [openV_1 (by rw [hw]; decide), hw]
      rw [h1] at CN
      rw [h2] at CR
      clear ht hc hf h1 h2 hw
      go_enter Tryd.func10, Tryd.ntmps10
      go_wp2_with fail
      refine (unhide CN _).mono ?_
      rintro e w1 ⟨rfl, hb1⟩
      go_wp2_with fail
      refine (unhide CR _ ((unhide HT).below hb1) ((unhide HC).below hb1)).mono ?_
      rintro e w2 ⟨rfl, hb2⟩
      go_wp2
      go_ret2
      exact ⟨rfl, tr2 hb1 hb2⟩
    | true =>
      by_cases h3 : diffN ats < ats.length
      · have hw := wrong_3 h1 h2 (by rw [diff_dup]; exact decide_eq_true h3)
        rw [openV_1 (by rw [hw]; decide), hw]
        rw [h1] at CN
        rw [h2] at CR
        rw [decide_eq_true h3] at CT
        clear ht hc hf h1 h2 h3 hw
        go_enter Tryd.func10, Tryd.ntmps10
        go_wp2_with fail
        refine (unhide CN _).mono ?_
        rintro e w1 ⟨rfl, hb1⟩
        go_wp2_with fail
        refine (unhide CR _ ((unhide HT).below hb1) ((unhide HC).below hb1)).mono ?_
        rintro e w2 ⟨rfl, hb2⟩
        have hb12 := tr2 hb1 hb2
        go_wp2_with fail
        refine (unhide CT _ ((unhide HC).below hb12)).mono ?_
        rintro e w3 ⟨rfl, hb3⟩
        go_wp2
        go_ret2
        exact ⟨rfl, tr2 hb12 hb3⟩
      · have hd : dupF ats ats.length = false := by rw [diff_dup]; exact decide_eq_false h3
        by_cases h4 : 12 < ats.length
        · have hw := wrong_4 h1 h2 hd h4
          rw [openV_1 (by rw [hw]; decide), hw]
          rw [h1] at CN
          rw [h2] at CR
          rw [decide_eq_false h3] at CT
          have h4i : (12 : Int) < (ats.length : Int) := by omega
          clear ht hc hf h1 h2 h3 hw hd h4
          go_enter Tryd.func10, Tryd.ntmps10
          go_wp2_with fail
          refine (unhide CN _).mono ?_
          rintro e w1 ⟨rfl, hb1⟩
          go_wp2_with fail
          refine (unhide CR _ ((unhide HT).below hb1) ((unhide HC).below hb1)).mono ?_
          rintro e w2 ⟨rfl, hb2⟩
          have hb12 := tr2 hb1 hb2
          go_wp2_with fail
          refine (unhide CT _ ((unhide HC).below hb12)).mono ?_
          rintro e w3 ⟨rfl, hb3⟩
          go_wp2
          go_ret2
          exact ⟨rfl, tr2 hb12 hb3⟩
        · rw [openV_0 (wrong_0 h1 h2 hd h4)]
          exact popen_ok n ats g o cap w ht hc hf hn h1 h2 h3 h4
end Go.Proofs.YtakjlolmmoladabDoor

/-
  'pen.Open' and the reference's where there are no attributes at all, wherever the slice may point to.
-/
namespace Go.Proofs.YtakjlolmmoladabDoor
open Go.RowKit
set_option linter.unusedVariables false

set_option maxHeartbeats 2000000 in
theorem allRight_nil (q : Option Addr) (cap : Nat) (w : World) :
    Calls Tryd.prog 26 #[.slice q 0 cap] w fun e w' => e = .returned (.bool true) ∧ w' = w := by
  go_enter Tryd.func26, Tryd.ntmps26
  go_wp2
  refine wp_loop_rounds 1 ?_
  rw [rounds_succ]; go_wp2
  go_ret
  exact ⟨rfl, rfl⟩
set_option maxHeartbeats 2000000 in
set_option maxRecDepth 100000 in
theorem hasTwice_nil (q : Option Addr) (cap : Nat) (w : World) :
    Calls Tryd.prog 27 #[.slice q 0 cap] w fun e w' => e = .returned (.bool false) ∧ Below w.heap.size w w' := by
  have hmm := @run_makeMap Tryd.prog
  go_enter Tryd.func27, Tryd.ntmps27
  go_wp2
  refine wp_loop_rounds 1 ?_
  rw [rounds_succ]
  have hown := World.ownsMap_made w Tryd.prog 9 (plainElem (H := Unit) Tryd.prog 3)
  go_wp2_with (first
    | (at_len; refine wpList_len_own _ rfl _ 69 rfl 9 3 Tryd.underlying69 _ w.heap.size 0 _ rfl hown ?_)
    | go_in)
  go_ret
  exact ⟨rfl, (Below.refl _ _).alloc (Nat.le_refl _) _⟩

theorem right_nil : rightAs [] = true := rfl
theorem dup_nil : dupF [] ([] : List (ByteArray × ByteArray)).length = false := rfl
set_option maxHeartbeats 4000000 in
theorem popen_nil (n : ByteArray) (q : Option Addr) (cap : Nat) (w : World) (hn : n.size ≤ 10000) :
    Calls Tryd.prog 10 #[.string n, .slice q 0 cap] w fun e w' => e = .returned (openV n.data.toList []) ∧ Below w.heap.size w w' := by
  have CN := hide (fun w => pname_any n w (by omega))
  have CR := hide (allRight_nil q cap)
  have CT := hide (hasTwice_nil q cap)
  cases h1 : nameB n.data.toList with
  | false =>
    have hw := wrong_1 (ats := []) h1
    rw [openV_1 (by rw [hw]; decide), hw]
    rw [h1] at CN
    clear h1 hw
    go_enter Tryd.func10, Tryd.ntmps10
    go_wp2_with fail
    refine (unhide CN _).mono ?_
    rintro e w1 ⟨rfl, hb1⟩
    go_wp2
    go_ret2
    exact ⟨rfl, hb1⟩
  | true =>
    rw [openV_0 (wrong_0 h1 right_nil dup_nil (by decide))]
    rw [h1] at CN
    have hol : openL n.data.toList [] = [60] ++ n.data.toList ++ [62] := by simp [openL, attL]
    rw [hol]
    clear h1 hol
    go_enter Tryd.func10, Tryd.ntmps10
    go_wp2_with fail
    refine (unhide CN _).mono ?_
    rintro e w1 ⟨rfl, hb1⟩
    go_wp2_with fail
    refine (unhide CR _).mono ?_
    rintro e w2 ⟨rfl, hw2⟩
    obtain rfl : w1 = w2 := hw2.symm
    go_wp2_with fail
    refine (unhide CT _).mono ?_
    rintro e w3 ⟨rfl, hb3⟩
    have hb13 := tr2 hb1 hb3
    have hbB : Below w.heap.size w (w3.alloc (.cells #[.pointer none, .slice none 0 0] 51)) := tr2 hb13 ((Below.refl _ _).alloc (Nat.le_refl _) _)
    have BN := bld_new w3
    have hz3 := hb13.size
    have hsz1 : (⟨#[60]⟩ ++ n : ByteArray).size = n.size + 1 := by rw [ByteArray.size_append]; show 1 + _ = _; omega
    have hdt1 : (⟨#[60]⟩ ++ n : ByteArray).data.toList = [60] ++ n.data.toList := by simp
    go_wp2_with fail
    refine (writeString_any _ _ _ _ _ BN (by rw [hsz1]; simp; omega) (by simp)).mono ?_
    rintro e w4 ⟨rfl, B4, hb4⟩
    rw [hdt1] at B4
    simp only [List.nil_append] at B4
    have hbW : Below w.heap.size w w4 := hbB.trans (hb4.mono (by omega))
    have hbz4 : w3.heap.size ≤ w4.heap.size := by have := hb4.size; simp at this; omega
    generalize w3.heap.size = b at *
    clear hb4 hbB BN hb13 hsz1 hdt1
    go_wp2
    refine wp_loop_rounds 1 ?_
    rw [rounds_succ]
    have hl1 : ([60] ++ n.data.toList).length + (⟨#[62]⟩ : ByteArray).size ≤ 140737488355328 := by
      rw [List.length_append, data_len]
      have : (⟨#[62]⟩ : ByteArray).size = 1 := rfl
      rw [this]; simp; omega
    go_wp2_with fail
    refine (writeString_any _ _ _ _ _ B4 hl1 hbz4).mono ?_
    rintro e1 w5 ⟨rfl, B5, hb5⟩
    have hb05 := hbW.trans (hb5.mono hz3)
    go_wp2_with fail
    refine (string_any _ _ _ _ B5 (by simp)).mono ?_
    rintro e1 w6 ⟨rfl, hb6⟩
    have hb06 := hb05.trans (hb6.mono hz3)
    go_wp2
    go_ret2
    exact ⟨rfl, hb06⟩

set_option maxHeartbeats 4000000 in
theorem rwrong_nil (n : ByteArray) (q : Option Addr) (cap : Nat) (w : World) (hn : n.size ≤ 10000) :
    Calls Tryd.prog 31 #[.string n, .slice q 0 cap] w fun e w' => e = .returned (.int .i64 (wrongN n.data.toList [])) ∧ w' = w := by
  have CN := hide (fun w => rname6_any n w (by omega))
  cases h1 : nameB n.data.toList with
  | false =>
    rw [wrong_1 (ats := []) h1]
    rw [h1] at CN
    clear h1
    go_enter Tryd.func31, Tryd.ntmps31
    go_wp2_with fail
    refine (unhide CN _).mono ?_
    rintro e w1 ⟨rfl, rfl⟩
    go_wp2
    go_ret
    exact ⟨rfl, rfl⟩
  | true =>
    rw [wrong_0 h1 right_nil dup_nil (by decide)]
    rw [h1] at CN
    clear h1
    go_enter Tryd.func31, Tryd.ntmps31
    go_wp2_with fail
    refine (unhide CN _).mono ?_
    rintro e w1 ⟨rfl, hw1⟩
    obtain rfl : w = w1 := hw1.symm
    go_wp2
    refine wp_loop_rounds 1 ?_
    rw [rounds_succ]; go_wp2
    refine wp_loop_rounds 1 ?_
    rw [rounds_succ]; go_wp2
    go_ret
    exact ⟨rfl, rfl⟩
set_option maxHeartbeats 4000000 in
theorem rplain_nil (n : ByteArray) (q : Option Addr) (cap : Nat) (w : World) (hn : n.size ≤ 10000) :
    Calls Tryd.prog 32 #[.string n, .slice q 0 cap] w fun e w' => e = .returned (.string (bs (openL n.data.toList []))) ∧ w' = w := by
  have hol : bs (openL n.data.toList []) = ⟨#[60]⟩ ++ n ++ ⟨#[62]⟩ := by
    have h1 : (⟨#[60]⟩ : ByteArray) = bs [60] := rfl
    have h2 : (⟨#[62]⟩ : ByteArray) = bs [62] := rfl
    rw [h1, h2, bs_add, bs_bs]; simp [openL, attL]
  rw [hol]
  clear hol
  go_enter Tryd.func32, Tryd.ntmps32
  go_wp2
  refine wp_loop_rounds 1 ?_
  rw [rounds_succ]; go_wp2
  go_ret
  exact ⟨rfl, rfl⟩
set_option maxHeartbeats 2000000 in
theorem ropen_nil (n : ByteArray) (q : Option Addr) (cap : Nat) (w : World) (hn : n.size ≤ 10000) :
    Calls Tryd.prog 11 #[.string n, .slice q 0 cap] w fun e w' => e = .returned (openV n.data.toList []) ∧ Below w.heap.size w w' := by
  have CW := hide (rwrong_nil n q cap w hn)
  have CP := hide (fun w => rplain_nil n q cap w hn)
  by_cases h0 : wrongN n.data.toList [] = 0
  · rw [openV_0 h0]
    rw [h0] at CW
    generalize bs (openL n.data.toList []) = y at *
    clear h0
    go_enter Tryd.func11, Tryd.ntmps11
    go_wp2_with fail
    refine (unhide CW).mono ?_
    rintro e w1 ⟨rfl, hw1⟩
    obtain rfl : w = w1 := hw1.symm
    go_wp2_with fail
    refine (unhide CP _).mono ?_
    rintro e w2 ⟨rfl, hw2⟩
    obtain rfl : w = w2 := hw2.symm
    go_wp2
    go_ret2
    exact ⟨rfl, Below.refl _ _⟩
  · rw [openV_1 h0]
    generalize wrongN n.data.toList [] = wn at *
    have hne : (wn == 0) = false := beq_eq_false_iff_ne.2 h0
    have hne' : (wn != 0) = true := by simpa using h0
    clear h0
    go_enter Tryd.func11, Tryd.ntmps11
    go_wp2_with fail
    refine (unhide CW).mono ?_
    rintro e w1 ⟨rfl, hw1⟩
    obtain rfl : w = w1 := hw1.symm
    go_wp2
    go_ret2
    exact ⟨rfl, Below.refl _ _⟩
end Go.Proofs.YtakjlolmmoladabDoor

/-
  What the law's 'long' of layer 6 tells.
-/
namespace Go.Proofs.YtakjlolmmoladabDoor
open Go.RowKit
set_option linter.unusedVariables false

def Wfs (ats : List (ByteArray × ByteArray)) : Prop := ats.length ≤ 9223372036854775807 ∧ ∀ k, k < ats.length → (an ats k).size ≤ 9223372036854775807 ∧ (av ats k).size ≤ 9223372036854775807
def LongSaid (ats : List (ByteArray × ByteArray)) (w : World) (e : Ending) (w' : World) : Prop := ∃ b, e = .returned (.bool b) ∧ (b = false → Fits ats) ∧ Below w.heap.size w w'
theorem fits_nil : Fits [] := ⟨by decide, fun k hk => by simp at hk⟩

set_option maxHeartbeats 2000000 in
theorem long_nil (q : Option Addr) (cap : Nat) (w : World) :
    Calls Tryd.prog 8 #[.slice q 0 cap] w fun e w' => e = .returned (.bool false) ∧ w' = w := by
  go_enter Tryd.func8, Tryd.ntmps8
  go_wp2
  refine wp_loop_rounds 1 ?_
  rw [rounds_succ]; go_wp2
  go_ret
  exact ⟨rfl, rfl⟩

set_option maxHeartbeats 2000000 in
theorem long_some (ats : List (ByteArray × ByteArray)) (g o cap : Nat) (w : World) (hc : Cells2 g o ats w) (hf : Wfs ats) :
    Calls Tryd.prog 8 #[.slice (some ⟨g, o, none⟩) ats.length cap] w (LongSaid ats w) := by
  have HC := hide hc
  have HF := hide hf
  have hlen := hf.1
  clear hc hf
  by_cases h40 : 40 < ats.length
  · have hi : (40 : Int) < (ats.length : Int) := by omega
    go_enter Tryd.func8, Tryd.ntmps8
    go_wp2
    go_ret
    exact ⟨true, rfl, fun h => (by cases h), Below.refl _ _⟩
  have hi : ¬ (40 : Int) < (ats.length : Int) := by omega
  go_enter Tryd.func8, Tryd.ntmps8
  go_wp2
  go_loopw [10] (fun i wr => ∃ k : Nat, k ≤ ats.length ∧ i = .int .i64 k ∧ (∀ j, j < k → (an ats j).size ≤ 10000 ∧ (av ats j).size ≤ 10000) ∧ Below w.heap.size w wr) (fun i _ => ats.length - (intOf i).toNat)
  case atStart => exact ⟨0, Nat.zero_le _, rfl, fun j hj => by omega, Below.refl _ _⟩
  case round =>
    obtain ⟨k, hk, rfl, hr, hbw⟩ := hrel
    have HR := hide hr
    have hzw := hbw.size
    clear hr
    by_cases hp : k < ats.length
    · have hpi : (k : Int) < (ats.length : Int) := by omega
      obtain ⟨c1, c2⟩ := (unhide HC).below hbw k hp
      obtain ⟨z1, z2⟩ := (unhide HF).2 k hp
      have hst : (an ats k).size ≤ 10000 → (av ats k).size ≤ 10000 → ∀ j, j < k + 1 → (an ats j).size ≤ 10000 ∧ (av ats j).size ≤ 10000 := fun h1 h2 j hj => by
        by_cases e : j = k
        · subst e; exact ⟨h1, h2⟩
        · exact unhide HR j (by omega)
      have HST := hide hst
      clear hst
      generalize an ats k = a1 at *
      generalize av ats k = a2 at *
      have hbA : Below wr.heap.size wr (wr.alloc (.cells #[.string a1, .string a2] 47)) := (Below.refl _ _).alloc (Nat.le_refl _) _
      have hbA' := tr2 hbw hbA
      by_cases h1 : 200 < a1.size
      · have h1i : (200 : Int) < (a1.size : Int) := by omega
        go_wp2
        go_ret
        exact ⟨true, rfl, fun h => (by cases h), hbA'⟩
      · have h1i : ¬ (200 : Int) < (a1.size : Int) := by omega
        by_cases h2 : 1000 < a2.size
        · have h2i : (1000 : Int) < (a2.size : Int) := by omega
          go_wp2
          go_ret
          exact ⟨true, rfl, fun h => (by cases h), hbA'⟩
        · have h2i : ¬ (1000 : Int) < (a2.size : Int) := by omega
          have HN := hide (unhide HST (by omega) (by omega))
          go_wp2
          go_roundw
          case rel => exact ⟨k + 1, by omega, by go_num, unhide HN, hbA'⟩
          case measure => simp [intOf]; omega
    · have hke : k = ats.length := by omega
      have hv : Fits ats := ⟨by omega, by rw [← hke]; exact unhide HR⟩
      have HV := hide hv
      clear hv
      go_wp2
      go_ret
      exact ⟨false, rfl, fun _ => unhide HV, hbw⟩
theorem long_any (q : Option Addr) (ats : List (ByteArray × ByteArray)) (cap : Nat) (w : World) (hs : Sl q ats w) (hf : Wfs ats) :
    Calls Tryd.prog 8 #[.slice q ats.length cap] w (LongSaid ats w) := by
  rcases hs with rfl | ⟨g, o, rfl, hc⟩
  · refine (long_nil q cap w).mono ?_
    rintro e w' ⟨rfl, rfl⟩
    exact ⟨false, rfl, fun _ => fits_nil, Below.refl _ _⟩
  · exact long_some ats g o cap w hc hf
theorem popen_all (n : ByteArray) (q : Option Addr) (ats : List (ByteArray × ByteArray)) (cap : Nat) (w : World) (ht : Tabs w) (hs : Sl q ats w) (hf : Fits ats) (hn : n.size ≤ 10000) :
    Calls Tryd.prog 10 #[.string n, .slice q ats.length cap] w fun e w' => e = .returned (openV n.data.toList ats) ∧ Below w.heap.size w w' := by
  rcases hs with rfl | ⟨g, o, rfl, hc⟩
  · exact popen_nil n q cap w hn
  · exact popen_any n ats g o cap w ht hc hf hn
theorem ropen_all (n : ByteArray) (q : Option Addr) (ats : List (ByteArray × ByteArray)) (cap : Nat) (w : World) (hs : Sl q ats w) (hf : Fits ats) (hn : n.size ≤ 10000) :
    Calls Tryd.prog 11 #[.string n, .slice q ats.length cap] w fun e w' => e = .returned (openV n.data.toList ats) ∧ Below w.heap.size w w' := by
  rcases hs with rfl | ⟨g, o, rfl, hc⟩
  · exact ropen_nil n q cap w hn
  · exact ropen_any n ats g o cap w hc hf hn
end Go.Proofs.YtakjlolmmoladabDoor

/-
  A tag that was written is read as just that tag: told plainly.
-/
namespace Go.Proofs.YtakjlolmmoladabDoor
open Go.RowKit
set_option linter.unusedVariables false

theorem ok_in {l : List UInt8} (h : allN okN l = true) {j : Nat} (hj : j < l.length) : okN (dgt l j) = true := by
  have := List.all_eq_true.1 h (l[j]) (List.getElem_mem hj)
  unfold dgt; rw [List.getD, List.getElem?_eq_getElem hj]; exact this
theorem ok_plain (b : Nat) (h : okN b = true) : enB b = false ∧ eaB b = false ∧ ¬ b = 47 ∧ spN b = false ∧ ¬ b = 62 := by
  unfold okN smN dgN at h
  simp only [Bool.or_eq_true, decide_eq_true_eq] at h
  have hs : spN b = false := spN_no (by omega)
  have h47 : ¬ b = 47 := by omega
  have h62 : ¬ b = 62 := by omega
  have h61 : ¬ b = 61 := by omega
  have hen : enB b = false := by unfold enB; rw [decide_eq_false h47, decide_eq_false h62, hs]; rfl
  exact ⟨hen, by unfold eaB; rw [decide_eq_false h61, hen]; rfl, h47, hs, h62⟩
theorem name_parts {l : List UInt8} (h : nameB l = true) : 0 < l.length ∧ smN (dgt l 0) = true ∧ allN okN l = true := by
  unfold nameB at h
  rw [Bool.and_eq_true, Bool.and_eq_true] at h
  exact ⟨(of_decide_eq_true h.1).1, h.2.1, h.2.2⟩
theorem dgt_mid (P X Y : List UInt8) (j : Nat) (h : j < X.length) : dgt (P ++ (X ++ Y)) (P.length + j) = dgt X j := by
  rw [dgt_app2, dgt_app _ _ _ h]
theorem drop_app (P X : List UInt8) : (P ++ X).drop P.length = X := List.drop_left
theorem drop_more (P X Y : List UInt8) : (P ++ (X ++ Y)).drop (P.length + X.length) = Y := by
  rw [← List.drop_drop, List.drop_left, List.drop_left]

/-- What stands up to the first quote. -/
theorem cut_quote (E R : List UInt8) (h : ∀ j, j < E.length → ¬ dgt E j = 34) : Lib.cut (E ++ (34 :: R)) [34] = (E, R, true) := by
  have hi : Lib.index (E ++ (34 :: R)) [34] = (E.length : Int) := by
    refine Lib.index_first (by simp) ?_ (fun j hj => ?_)
    · unfold Lib.occAt; rw [List.drop_left]; simp [List.isPrefixOf]
    · unfold Lib.occAt
      cases hp : [34].isPrefixOf ((E ++ (34 :: R)).drop j) with
      | false => rfl
      | true =>
        exfalso
        obtain ⟨t, ht⟩ := List.isPrefixOf_iff_prefix.1 hp
        have h0 : dgt ((E ++ (34 :: R)).drop j) 0 = 34 := by rw [← ht]; rfl
        rw [dgt_drop, Nat.add_zero, dgt_app _ _ _ hj] at h0
        exact h j hj h0
  unfold Lib.cut
  rw [hi, if_pos (by omega), Int.toNat_natCast, List.take_left]
  have : (E ++ (34 :: R)).drop (E.length + ([34] : List UInt8).length) = R := by
    rw [← List.drop_drop, List.drop_left]; rfl
  rw [this]

/-- An attribute that was written, wherever it stands. -/
theorem attr_back {S : ByteArray} {P R : List UInt8} {a v : ByteArray} (hS : S.data.toList = P ++ (a.data.toList ++ ([61, 34] ++ (escL true v.data.toList ++ (34 :: R))))) (ha : nameB a.data.toList = true) (hv : goodB v.data.toList = true) :
    naN S P.length = a ∧ aqV S P.length = v ∧ aqB S P.length = P.length + a.size + 2 + (escL true v.data.toList).length + 1 := by
  obtain ⟨hl, hsm, hok⟩ := name_parts ha
  have hz : S.size = P.length + a.size + 2 + (escL true v.data.toList).length + 1 + R.length := by
    rw [← data_len S, hS]; simp; omega
  rw [data_len] at hl
  -- where the name ends
  have d61 : dgt S.data.toList (P.length + a.size) = 61 := by
    rw [hS, ← data_len a]
    have : P ++ (a.data.toList ++ ([61, 34] ++ (escL true v.data.toList ++ (34 :: R)))) = (P ++ a.data.toList) ++ ([61, 34] ++ (escL true v.data.toList ++ (34 :: R))) := by simp
    rw [this, show P.length + a.data.toList.length = (P ++ a.data.toList).length + 0 by simp, dgt_app2]; rfl
  have eE : naE S P.length = P.length + a.size := by
    unfold naE
    refine seek_to (eaP S) S.size (P.length + a.size) (by omega) (fun _ => ?_) (a.size - 1) (P.length + 1) (by omega) (fun j h1 hj => ?_)
    · unfold eaP; rw [d61]; rfl
    · obtain ⟨q, rfl⟩ : ∃ q, j = P.length + q := ⟨j - P.length, by omega⟩
      unfold eaP
      rw [hS, dgt_mid _ _ _ _ (by rw [data_len]; omega)]
      exact (ok_plain _ (ok_in hok (by rw [data_len]; omega))).2.1
  have eN : naN S P.length = a := by
    unfold naN
    rw [eE, show P.length + a.size - P.length = a.data.toList.length by rw [data_len]; omega, hS, List.drop_left, List.take_left, low_name ha, bs_self]
  have eB : naB S P.length = P.length + a.size := by
    unfold naB
    rw [eE]
    refine seek_hit (nsP S) ?_
    unfold nsP; rw [d61]; rfl
  have dr1 : S.data.toList.drop (P.length + a.size) = [61, 34] ++ (escL true v.data.toList ++ (34 :: R)) := by
    rw [hS, ← data_len a, drop_more]
  have hE : aqE S P.length = true := by
    unfold aqE; rw [eB, dr1]; rfl
  have d34 : dgt S.data.toList (P.length + a.size + 1) = 34 := by
    have := dgt_drop S.data.toList (P.length + a.size) 1
    rw [dr1] at this
    rw [← this]; rfl
  have eV : naV S P.length = P.length + a.size + 1 := by
    unfold naV
    rw [eB]
    refine seek_hit (nsP S) ?_
    unfold nsP; rw [d34]; rfl
  have dr2 : S.data.toList.drop (P.length + a.size + 1) = 34 :: (escL true v.data.toList ++ (34 :: R)) := by
    rw [← List.drop_drop, dr1]; rfl
  have dr3 : S.data.toList.drop (P.length + a.size + 1 + 1) = escL true v.data.toList ++ (34 :: R) := by
    rw [← List.drop_drop, dr2]; rfl
  have hp : [34].isPrefixOf (S.data.toList.drop (P.length + a.size + 1)) = true := by rw [dr2]; simp [List.isPrefixOf]
  have hcut := cut_quote (escL true v.data.toList) R (fun j hj => (esc_safe_at true v.data.toList j hj).2.2 rfl)
  have hL : cutL S (P.length + a.size + 1 + 1) [34] = escL true v.data.toList := by unfold cutL; rw [dr3, hcut]
  refine ⟨eN, ?_, ?_⟩
  · unfold aqV
    rw [if_pos hE, eV]
    have : valS S (P.length + a.size + 1) = bs (escL true v.data.toList) := by unfold valS; rw [if_pos hp, hL]
    rw [this, bs_toList, all_esc true _ _ (Nat.le_refl _)]
    unfold goodB at hv
    rw [Bool.and_eq_true] at hv
    rw [clean_right _ _ (Nat.le_refl _) hv.1, bs_self]
  · unfold aqB
    rw [if_pos hE, eV]
    have : valE S (P.length + a.size + 1) = cutE S (P.length + a.size + 1 + 1) [34] := by unfold valE; rw [if_pos hp]
    rw [this]
    unfold cutE
    rw [hL, dr3, hcut, if_pos rfl]
    simp

/-! ### a tag with its attributes -/
theorem attL_split (ats : List (ByteArray × ByteArray)) (k : Nat) : ∀ m, k < m → ∃ t, attL ats m = attL ats k ++ (attB (an ats k).data.toList (av ats k).data.toList ++ t)
  | 0, h => by omega
  | m + 1, h => by
    by_cases e : k = m
    · subst e; exact ⟨[], by rw [attL, List.append_nil]⟩
    · obtain ⟨t, ht⟩ := attL_split ats k m (by omega)
      exact ⟨t ++ attB (an ats m).data.toList (av ats m).data.toList, by rw [attL, ht]; simp⟩
theorem an_at {ats : List (ByteArray × ByteArray)} {k : Nat} (h : k < ats.length) : ats[k]? = some (an ats k, av ats k) := by
  rw [List.getElem?_eq_getElem h, an, av, List.getD, List.getElem?_eq_getElem h]; rfl
theorem take_one {ats : List (ByteArray × ByteArray)} {k : Nat} (h : k < ats.length) : ats.take (k + 1) = ats.take k ++ [(an ats k, av ats k)] := by
  rw [List.take_add_one, an_at h]; rfl
theorem right_at {ats : List (ByteArray × ByteArray)} (h : rightAs ats = true) {k : Nat} (hk : k < ats.length) : nameB (an ats k).data.toList = true ∧ goodB (av ats k).data.toList = true := by
  cases hr : rightAt ats k with
  | false => unfold rightAs at h; rw [rightF_no ats hr _ hk] at h; cases h
  | true => unfold rightAt at hr; rw [Bool.and_eq_true] at hr; exact hr
theorem new_at {ats : List (ByteArray × ByteArray)} (h : dupF ats ats.length = false) {k : Nat} (hk : k < ats.length) : hasN (ats.take k) (an ats k) = false := by
  cases hh : hasN (ats.take k) (an ats k) with
  | false => rfl
  | true =>
    exfalso
    obtain ⟨a, ha, e⟩ := List.any_eq_true.1 hh
    have e := of_decide_eq_true e
    obtain ⟨j, hj⟩ := List.mem_iff_getElem?.1 ha
    rw [List.getElem?_take] at hj
    split at hj
    · rename_i hlt
      rw [an_at (by omega)] at hj
      have : a.1 = an ats j := by rw [← Option.some.inj hj]
      have hs := seen_more (ats := ats) (i := k) (k := j) (by rw [← this, e]) k hlt
      rw [dup_more hs ats.length hk] at h
      cases h
    · cases hj
def posA (n : List UInt8) (ats : List (ByteArray × ByteArray)) (k : Nat) : Nat := 1 + n.length + (attL ats k).length
theorem parts_back {S : ByteArray} {n B : List UInt8} {ats : List (ByteArray × ByteArray)} (hS : S.data.toList = openL n ats ++ B) (hr : rightAs ats = true) (hd : dupF ats ats.length = false) :
    ∀ (d k : Nat), k + d = ats.length → ∀ fuel, S.size < posA n ats k + fuel → partsF S fuel (posA n ats k) (ats.take k) false = (posA n ats ats.length, ats, false) := by
  have hz : S.size = posA n ats ats.length + 1 + B.length := by
    rw [← data_len S, hS]; unfold openL posA; simp; omega
  intro d
  induction d with
  | zero =>
    intro k hk fuel hf
    obtain rfl : k = ats.length := by omega
    obtain ⟨f, rfl⟩ : ∃ f, fuel = f + 1 := ⟨fuel - 1, by omega⟩
    have h62 : dgt S.data.toList (posA n ats ats.length) = 62 := by
      have : openL n ats ++ B = ([60] ++ n ++ attL ats ats.length) ++ (62 :: B) := by unfold openL; simp
      rw [hS, this, show posA n ats ats.length = ([60] ++ n ++ attL ats ats.length).length + 0 by unfold posA; simp; omega, dgt_app2]; rfl
    rw [parts_gt (by omega) h62, List.take_length]
  | succ d ih =>
    intro k hk fuel hf
    have hkl : k < ats.length := by omega
    obtain ⟨t, ht⟩ := attL_split ats k ats.length hkl
    obtain ⟨hna, hgv⟩ := right_at hr hkl
    have hnp := name_parts hna
    have hlen : posA n ats (k + 1) = posA n ats k + 1 + (an ats k).size + 2 + (escL true (av ats k).data.toList).length + 1 := by
      unfold posA; rw [attL]; unfold attB; simp; omega
    have hle : posA n ats (k + 1) ≤ posA n ats ats.length := by
      unfold posA; rw [ht, attL]; simp
    have hL : S.data.toList = ([60] ++ n ++ attL ats k ++ [32]) ++ ((an ats k).data.toList ++ ([61, 34] ++ (escL true (av ats k).data.toList ++ (34 :: (t ++ (62 :: B)))))) := by
      rw [hS]; unfold openL; rw [ht]; unfold attB; simp
    have hPl : ([60] ++ n ++ attL ats k ++ [32]).length = posA n ats k + 1 := by unfold posA; simp; omega
    have h32 : dgt S.data.toList (posA n ats k) = 32 := by
      have : ([60] ++ n ++ attL ats k ++ [32]) ++ ((an ats k).data.toList ++ ([61, 34] ++ (escL true (av ats k).data.toList ++ (34 :: (t ++ (62 :: B)))))) = ([60] ++ n ++ attL ats k) ++ (32 :: ((an ats k).data.toList ++ ([61, 34] ++ (escL true (av ats k).data.toList ++ (34 :: (t ++ (62 :: B))))))) := by simp
      rw [hL, this, show posA n ats k = ([60] ++ n ++ attL ats k).length + 0 by unfold posA; simp; omega, dgt_app2]; rfl
    obtain ⟨f, rfl⟩ : ∃ f, fuel = f + 1 + 1 := ⟨fuel - 2, by omega⟩
    rw [parts_space (by omega) (by rw [h32]; decide) (by rw [h32]; decide)]
    have hb := attr_back hL hna hgv
    rw [hPl] at hb
    obtain ⟨b1, b2, b3⟩ := hb
    have h0 : dgt S.data.toList (posA n ats k + 1) = dgt (an ats k).data.toList 0 := by
      rw [hL, show posA n ats k + 1 = ([60] ++ n ++ attL ats k ++ [32]).length + 0 by rw [hPl], dgt_mid _ _ _ _ hnp.1]
    have hpl := ok_plain _ (ok_in hnp.2.2 hnp.1)
    rw [parts_new (by omega) (by rw [h0]; exact hpl.2.2.1) (by rw [h0]; exact hpl.2.2.2.1) (by rw [h0]; exact hpl.2.2.2.2) (by rw [b1]; exact new_at hd hkl), b1, b2, b3]
    have he : posA n ats k + 1 + (an ats k).size + 2 + (escL true (av ats k).data.toList).length + 1 = posA n ats (k + 1) := hlen.symm
    rw [he, ← take_one hkl]
    exact ih (k + 1) (by omega) f (by omega)

theorem open_back {S n : ByteArray} {B : List UInt8} {ats : List (ByteArray × ByteArray)} (hS : S.data.toList = openL n.data.toList ats ++ B) (hw : wrongN n.data.toList ats = 0) :
    nextT S ⟨#[]⟩ 0 false 0 = ((1, n, ats, false, ⟨#[]⟩), (openL n.data.toList ats).length) := by
  unfold wrongN at hw
  split at hw
  · cases hw
  rename_i h1
  split at hw
  · cases hw
  rename_i h2
  have h1 : (nameB n.data.toList && rightAs ats) = true := by simpa using h1
  rw [Bool.and_eq_true] at h1
  obtain ⟨hn, hr⟩ := h1
  have hd : dupF ats ats.length = false := by rw [diff_dup]; exact decide_eq_false h2
  obtain ⟨hl, hsm, hok⟩ := name_parts hn
  have hz : S.size = posA n.data.toList ats ats.length + 1 + B.length := by
    rw [← data_len S, hS]; unfold openL posA; simp; omega
  have hp0 : posA n.data.toList ats 0 = 1 + n.size := by unfold posA; rw [attL, data_len]; rfl
  have hpm : posA n.data.toList ats 0 ≤ posA n.data.toList ats ats.length := by unfold posA; rw [attL]; simp
  have hL : S.data.toList = [60] ++ (n.data.toList ++ (attL ats ats.length ++ (62 :: B))) := by rw [hS]; unfold openL; simp
  have d0 : dgt S.data.toList 0 = 60 := by rw [hL]; rfl
  have dn : ∀ j, j < n.size → dgt S.data.toList (1 + j) = dgt n.data.toList j := fun j hj => by
    rw [hL]; exact dgt_mid [60] n.data.toList _ j (by rw [data_len]; exact hj)
  rw [data_len] at hl
  have d1 : dgt S.data.toList 1 = dgt n.data.toList 0 := dn 0 hl
  have hs1 := of_decide_eq_true hsm
  have hlt : ltN (dgt S.data.toList 1) = true := by
    rw [d1]; unfold ltN; simp; omega
  have hbeg : begP S 0 = true := by
    unfold begP beginsB
    rw [List.drop_zero, decide_eq_true ⟨by rw [data_len]; omega, d0⟩, hlt]; simp
  have dz : enB (dgt S.data.toList (1 + n.size)) = true := by
    have : dgt S.data.toList (1 + n.size) = dgt (attL ats ats.length ++ (62 :: B)) 0 := by
      rw [hL, ← data_len n]
      have : [60] ++ (n.data.toList ++ (attL ats ats.length ++ (62 :: B))) = ([60] ++ n.data.toList) ++ (attL ats ats.length ++ (62 :: B)) := by simp
      rw [this, show 1 + n.data.toList.length = ([60] ++ n.data.toList).length + 0 by simp; omega, dgt_app2]
    rw [this]
    cases hm : ats.length with
    | zero => rfl
    | succ m =>
      obtain ⟨t, ht⟩ := attL_split ats 0 (m + 1) (by omega)
      rw [ht, attL]; rfl
  have n47 : ¬ dgt S.data.toList (0 + 1) = 47 := by rw [d1]; omega
  have eg : tagG S 0 = 1 := if_neg n47
  have ez : tagZ S 0 = 1 + n.size := by
    unfold tagZ
    rw [eg]
    refine seek_to (enP S) S.size (1 + n.size) (by omega) (fun _ => dz) n.size 1 rfl (fun j h1 hj => ?_)
    obtain ⟨q, rfl⟩ : ∃ q, j = 1 + q := ⟨j - 1, by omega⟩
    unfold enP
    rw [dn q (by omega)]
    exact (ok_plain _ (ok_in hok (by rw [data_len]; omega))).1
  have en : tagN S 0 = n := by
    unfold tagN
    rw [eg, ez, hL, show 1 + n.size - 1 = n.data.toList.length by rw [data_len]; omega]
    have : ([60] ++ (n.data.toList ++ (attL ats ats.length ++ (62 :: B)))).drop 1 = n.data.toList ++ (attL ats ats.length ++ (62 :: B)) := rfl
    rw [this, List.take_left, low_name hn, bs_self]
  have er : tagR S 0 = (posA n.data.toList ats ats.length, ats, false) := by
    unfold tagR
    rw [ez, ← hp0]
    exact parts_back hS hr hd ats.length 0 (by omega) _ (by omega)
  have et : tagT S 0 = (1, n, ats, false, ⟨#[]⟩) := by
    unfold tagT
    rw [er, if_pos (by show posA n.data.toList ats ats.length < S.size; omega), if_neg n47, en]
  have ee : tagE S 0 = (openL n.data.toList ats).length := by
    unfold tagE
    rw [er, if_pos (by show posA n.data.toList ats ats.length < S.size; omega)]
    show posA n.data.toList ats ats.length + 1 = _
    unfold openL posA; simp; omega
  have n33 : ¬ dgt S.data.toList (0 + 1) = 33 := by rw [d1]; omega
  have n63 : ¬ dgt S.data.toList (0 + 1) = 63 := by rw [d1]; omega
  have em : markT S 0 false = (1, n, ats, false, ⟨#[]⟩) := by
    unfold markT
    rw [if_neg n33, if_neg n63, if_neg (fun h => n47 h.1), if_neg (fun h => n47 h.1), et]
  have eme : markE S 0 false = (openL n.data.toList ats).length := by
    unfold markE
    rw [if_neg n33, if_neg n63, if_neg (fun h => n47 h.1), if_neg (fun h => n47 h.1), ee]
  unfold nextT
  rw [if_neg (by omega), if_neg (by decide)]
  show dataF S false (S.size - 0 + 1) 0 = _
  rw [dataF_mark (by omega) hbeg (by rw [em]; exact (by decide : ¬ (1 : Int) = 0)), em, eme]

theorem close_back {S n : ByteArray} {B : List UInt8} (hS : S.data.toList = closeL n.data.toList ++ B) (hn : nameB n.data.toList = true) :
    nextT S ⟨#[]⟩ 0 false 0 = ((2, n, [], false, ⟨#[]⟩), (closeL n.data.toList).length) := by
  obtain ⟨hl, hsm, hok⟩ := name_parts hn
  rw [data_len] at hl
  have hL : S.data.toList = [60, 47] ++ (n.data.toList ++ (62 :: B)) := by rw [hS]; unfold closeL; simp
  have hz : S.size = n.size + 3 + B.length := by rw [← data_len S, hL]; simp; omega
  have d0 : dgt S.data.toList 0 = 60 := by rw [hL]; rfl
  have d1 : dgt S.data.toList 1 = 47 := by rw [hL]; rfl
  have dn : ∀ j, j < n.size → dgt S.data.toList (2 + j) = dgt n.data.toList j := fun j hj => by
    rw [hL]; exact dgt_mid [60, 47] n.data.toList _ j (by rw [data_len]; exact hj)
  have d2 : dgt S.data.toList 2 = dgt n.data.toList 0 := dn 0 hl
  have hs1 := of_decide_eq_true hsm
  have hlt : ltN (dgt S.data.toList (0 + 2)) = true := by
    rw [Nat.zero_add, d2]; unfold ltN; simp; omega
  have hbeg : begP S 0 = true := by
    unfold begP beginsB
    rw [List.drop_zero, decide_eq_true ⟨by rw [data_len]; omega, d0⟩, d1]
    have : decide ((47 : Nat) = 47 ∧ 2 < S.data.toList.length) = true := decide_eq_true ⟨rfl, by rw [data_len]; omega⟩
    rw [this]; simp
  have dz : dgt S.data.toList (2 + n.size) = 62 := by
    have : [60, 47] ++ (n.data.toList ++ (62 :: B)) = ([60, 47] ++ n.data.toList) ++ (62 :: B) := by simp
    rw [hL, this, ← data_len n, show 2 + n.data.toList.length = ([60, 47] ++ n.data.toList).length + 0 by simp; omega, dgt_app2]; rfl
  have eg : tagG S 0 = 2 := if_pos d1
  have ez : tagZ S 0 = 2 + n.size := by
    unfold tagZ
    rw [eg]
    refine seek_to (enP S) S.size (2 + n.size) (by omega) (fun _ => by unfold enP; rw [dz]; rfl) n.size 2 rfl (fun j h1 hj => ?_)
    obtain ⟨q, rfl⟩ : ∃ q, j = 2 + q := ⟨j - 2, by omega⟩
    unfold enP
    rw [dn q (by omega)]
    exact (ok_plain _ (ok_in hok (by rw [data_len]; omega))).1
  have en : tagN S 0 = n := by
    unfold tagN
    rw [eg, ez, hL, show 2 + n.size - 2 = n.data.toList.length by rw [data_len]; omega]
    have : ([60, 47] ++ (n.data.toList ++ (62 :: B))).drop 2 = n.data.toList ++ (62 :: B) := rfl
    rw [this, List.take_left, low_name hn, bs_self]
  have er : tagR S 0 = (2 + n.size, [], false) := by
    unfold tagR
    rw [ez]
    exact parts_gt (by omega) dz
  have et : tagT S 0 = (2, n, [], false, ⟨#[]⟩) := by
    unfold tagT
    rw [er, if_pos (by show 2 + n.size < S.size; omega), if_pos d1, en]
  have ee : tagE S 0 = (closeL n.data.toList).length := by
    unfold tagE
    rw [er, if_pos (by show 2 + n.size < S.size; omega)]
    show 2 + n.size + 1 = _
    unfold closeL; simp; omega
  have n33 : ¬ dgt S.data.toList (0 + 1) = 33 := by rw [d1]; decide
  have n63 : ¬ dgt S.data.toList (0 + 1) = 63 := by rw [d1]; decide
  have n62 : ¬ (dgt S.data.toList (0 + 1) = 47 ∧ dgt S.data.toList (0 + 2) = 62) := fun h => by have := h.2; rw [Nat.zero_add, d2] at this; omega
  have nlt : ¬ (dgt S.data.toList (0 + 1) = 47 ∧ ltN (dgt S.data.toList (0 + 2)) = false) := fun h => by have := h.2; rw [hlt] at this; cases this
  have em : markT S 0 false = (2, n, [], false, ⟨#[]⟩) := by
    unfold markT
    rw [if_neg n33, if_neg n63, if_neg n62, if_neg nlt, et]
  have eme : markE S 0 false = (closeL n.data.toList).length := by
    unfold markE
    rw [if_neg n33, if_neg n63, if_neg n62, if_neg nlt, ee]
  unfold nextT
  rw [if_neg (by omega), if_neg (by decide)]
  show dataF S false (S.size - 0 + 1) 0 = _
  rw [dataF_mark (by omega) hbeg (by rw [em]; exact (by decide : ¬ (2 : Int) = 0)), em, eme]
end Go.Proofs.YtakjlolmmoladabDoor

/-
  What 'rectoplain.Attrs' does: of every two lists of attributes, whether they are equal; it only reads.
-/
namespace Go.Proofs.YtakjlolmmoladabDoor
open Go.RowKit
set_option linter.unusedVariables false

def sameA (a b : List (ByteArray × ByteArray)) : Bool := decide (a = b)
theorem attrs_a0 (a b : Option Addr) (ca lb cb : Nat) (w : World) (hb : lb ≤ 9223372036854775807) :
    Calls Tryd.prog 25 #[.slice a 0 ca, .slice b lb cb] w fun e w' => e = .returned (.bool (((0 : Int) == (lb : Int)))) ∧ Below w.heap.size w w' := by
  go_enter Tryd.func25, Tryd.ntmps25
  go_wp2
  refine wp_loop_rounds 1 ?_
  rw [rounds_succ]; go_wp2
  go_ret
  exact ⟨rfl, Below.refl _ _⟩

set_option maxHeartbeats 400000 in
theorem attrs_b0 (x : Nat) (xo la ca : Nat) (b : Option Addr) (cb : Nat) (w : World) (h0 : 0 < la) (ha : la ≤ 9223372036854775807) :
    Calls Tryd.prog 25 #[.slice (some ⟨x, xo, none⟩) la ca, .slice b 0 cb] w fun e w' => e = .returned (.bool false) ∧ Below w.heap.size w w' := by
  have h1 : (0 : Int) < (la : Int) := by omega
  go_enter Tryd.func25, Tryd.ntmps25
  go_wp2
  refine wp_loop_rounds 1 ?_
  rw [rounds_succ]; go_wp2
  go_quiet (fail)
  go_wp2
  go_ret
  exact ⟨rfl, below_draws _ _⟩

theorem same_ats (a b : List (ByteArray × ByteArray)) (hl : a.length = b.length) (h : ∀ i, i < a.length → an a i = an b i ∧ av a i = av b i) : a = b := by
  apply List.ext_getElem hl
  intro i h1 h2
  obtain ⟨e1, e2⟩ := h i h1
  unfold an at e1
  unfold av at e2
  rw [List.getD, List.getD, List.getElem?_eq_getElem h1, List.getElem?_eq_getElem h2] at e1 e2
  exact Prod.ext e1 e2

set_option maxHeartbeats 2000000 in
theorem attrs_loop (x xo ca y yo cb : Nat) (ta tb : List (ByteArray × ByteArray)) (la lb : Nat) (w : World) (hla : Hid (ta.length = la)) (hlb : Hid (tb.length = lb)) (h0 : 0 < la) (h0b : 0 < lb) (ha : la ≤ 1000000000) (hb : lb ≤ 1000000000)
    (hx : Cells2 x xo ta w) (hy : Cells2 y yo tb w) :
    Calls Tryd.prog 25 #[.slice (some ⟨x, xo, none⟩) la ca, .slice (some ⟨y, yo, none⟩) lb cb] w fun e w' => e = .returned (.bool (sameA ta tb)) ∧ Below w.heap.size w w' := by
  have HX := hide hx
  have HY := hide hy
  clear hx hy
  go_enter Tryd.func25, Tryd.ntmps25
  go_wp2
  go_loopw [8] (fun i wr => ∃ k : Nat, k ≤ la ∧ i = .int .i64 k ∧ Below w.heap.size w wr ∧ (∀ j, j < k → j < lb ∧ an ta j = an tb j ∧ av ta j = av tb j)) (fun i _ => la - (intOf i).toNat)
  case atStart => exact ⟨0, Nat.zero_le _, rfl, Below.refl _ _, fun j h => by omega⟩
  case round =>
    obtain ⟨k, hk, rfl, hbw, hall⟩ := hrel
    have HA := hide hall
    have HB := hide hbw
    clear hall
    by_cases hlt : k < la
    · have hlti : (k : Int) < (la : Int) := by omega
      by_cases hkb : k < lb
      · have hkbi : (k : Int) < (lb : Int) := by omega
        have hg : decide ((lb : Int) ≤ (k : Int)) = false := by simp; omega
        obtain ⟨c1, c2⟩ := (unhide HX).below hbw k (by rw [unhide hla]; exact hlt)
        obtain ⟨c3, c4⟩ := (unhide HY).below hbw k (by rw [unhide hlb]; exact hkb)
        generalize hp1 : an ta k = p1 at *
        generalize hp2 : av ta k = p2 at *
        generalize hq1 : an tb k = q1 at *
        generalize hq2 : av tb k = q2 at *
        have HP := hide (And.intro hp1 (And.intro hp2 (And.intro hq1 hq2)))
        clear hp1 hp2 hq1 hq2 hbw
        by_cases e1 : p1 = q1
        · have f1 := beq_yes e1
          by_cases e2 : p2 = q2
          · have f2 := beq_yes e2
            have HE := hide (And.intro e1 e2)
            clear e1 e2
            go_wp2
            go_quiet (fail)
            go_wp2
            refine ⟨⟨k + 1, by omega, by go_num, _root_.Go.below_drewN (unhide HB) _, fun j hj => ?_⟩, by simp [intOf]; omega⟩
            by_cases hjk : j = k
            · subst hjk
              obtain ⟨r1, r2, r3, r4⟩ := unhide HP
              exact ⟨hkb, by rw [r1, r3]; exact (unhide HE).1, by rw [r2, r4]; exact (unhide HE).2⟩
            · exact unhide HA j (by omega)
          · have f2 := beq_no e2
            have HS : Hid (sameA ta tb = false) := hide (decide_eq_false fun h => e2 (by obtain ⟨r1, r2, r3, r4⟩ := unhide HP; rw [← r2, ← r4, h]))
            clear e1 e2
            go_wp2
            go_quiet (fail)
            go_wp2
            go_ret
            exact ⟨by rw [unhide HS]; rfl, _root_.Go.below_drewN (unhide HB) _⟩
        · have f1 := beq_no e1
          have HS : Hid (sameA ta tb = false) := hide (decide_eq_false fun h => e1 (by obtain ⟨r1, r2, r3, r4⟩ := unhide HP; rw [← r1, ← r3, h]))
          clear e1
          go_wp2
          go_quiet (fail)
          go_wp2
          go_ret
          exact ⟨by rw [unhide HS]; rfl, _root_.Go.below_drewN (unhide HB) _⟩
      · have hg : decide ((lb : Int) ≤ (k : Int)) = true := by simp; omega
        have HS : Hid (sameA ta tb = false) := hide (decide_eq_false (by intro e; have := congrArg List.length e; rw [unhide hla, unhide hlb] at this; omega))
        clear hbw
        go_wp2
        go_quiet (fail)
        go_wp2
        go_ret
        exact ⟨by rw [unhide HS]; rfl, _root_.Go.below_drewN (unhide HB) _⟩
    · have hs : sameA ta tb = ((la : Int) == (lb : Int)) := by
        by_cases e : la = lb
        · rw [sameA, decide_eq_true (same_ats ta tb (by rw [unhide hla, unhide hlb]; exact e) (fun i hi => (unhide HA i (by rw [unhide hla] at hi; omega)).2))]
          simp [e]
        · rw [sameA, decide_eq_false (by intro e'; have := congrArg List.length e'; rw [unhide hla, unhide hlb] at this; exact e this)]
          symm; apply beq_eq_false_iff_ne.2; omega
      have HS := hide hs
      clear hs
      go_wp2
      go_ret
      exact ⟨by rw [unhide HS]; rfl, hbw⟩

theorem attrs_any (qa qb : Option Addr) (ca cb : Nat) (ta tb : List (ByteArray × ByteArray)) (w : World) (ha : Sl qa ta w) (hb : Sl qb tb w) (la : ta.length ≤ 1000000000) (lb : tb.length ≤ 1000000000) :
    Calls Tryd.prog 25 #[.slice qa ta.length ca, .slice qb tb.length cb] w fun e w' => e = .returned (.bool (sameA ta tb)) ∧ Below w.heap.size w w' := by
  rcases ha with rfl | ⟨x, xo, rfl, hx⟩
  · have : sameA [] tb = ((0 : Int) == (tb.length : Int)) := by
      cases tb with
      | nil => rfl
      | cons a l => rw [sameA, decide_eq_false (by simp)]; symm; apply beq_eq_false_iff_ne.2; simp; omega
    rw [this]
    exact attrs_a0 qa qb ca tb.length cb w (by omega)
  · by_cases h0 : ta.length = 0
    · have e0 : ta = [] := List.eq_nil_of_length_eq_zero h0
      subst e0
      have : sameA [] tb = ((0 : Int) == (tb.length : Int)) := by
        cases tb with
        | nil => rfl
        | cons a l => rw [sameA, decide_eq_false (by simp)]; symm; apply beq_eq_false_iff_ne.2; simp; omega
      rw [this]
      exact attrs_a0 _ qb ca tb.length cb w (by omega)
    rcases hb with rfl | ⟨y, yo, rfl, hy⟩
    · rw [sameA, decide_eq_false (by intro e; rw [e] at h0; exact h0 rfl)]
      exact attrs_b0 x xo _ ca qb cb w (by omega) (by omega)
    · by_cases h1 : tb.length = 0
      · rw [sameA, decide_eq_false (by intro e; rw [e] at h0; exact h0 h1), h1]
        exact attrs_b0 x xo _ ca _ cb w (by omega) (by omega)
      · exact attrs_loop x xo ca y yo cb ta tb _ _ w (hide rfl) (hide rfl) (by omega) (by omega) la lb hx hy
end Go.Proofs.YtakjlolmmoladabDoor

/-
  The statement PenTagsBack, walked: a tag that was written is read as just that tag.
-/
namespace Go.Proofs.YtakjlolmmoladabDoor
open Go.RowKit
set_option linter.unusedVariables false

def Short (ats : List (ByteArray × ByteArray)) : Prop := ats.length ≤ 40 ∧ ∀ j, j < ats.length → (an ats j).size ≤ 200 ∧ (av ats j).size ≤ 1000
theorem short_nil : Short [] := ⟨by decide, fun k hk => by simp at hk⟩
theorem Short.fits {ats : List (ByteArray × ByteArray)} (h : Short ats) : Fits ats := ⟨by have := h.1; omega, fun k hk => by have := h.2 k hk; omega⟩
def LongSharp (ats : List (ByteArray × ByteArray)) (w : World) (e : Ending) (w' : World) : Prop := ∃ b, e = .returned (.bool b) ∧ (b = false → Short ats) ∧ Below w.heap.size w w'

set_option maxHeartbeats 2000000 in
theorem longS_some (ats : List (ByteArray × ByteArray)) (g o cap : Nat) (w : World) (hc : Cells2 g o ats w) (hf : Wfs ats) :
    Calls Tryd.prog 8 #[.slice (some ⟨g, o, none⟩) ats.length cap] w (LongSharp ats w) := by
  have HC := hide hc
  have HF := hide hf
  have hlen := hf.1
  clear hc hf
  by_cases h40 : 40 < ats.length
  · have hi : (40 : Int) < (ats.length : Int) := by omega
    go_enter Tryd.func8, Tryd.ntmps8
    go_wp2
    go_ret
    exact ⟨true, rfl, fun h => (by cases h), Below.refl _ _⟩
  have hi : ¬ (40 : Int) < (ats.length : Int) := by omega
  go_enter Tryd.func8, Tryd.ntmps8
  go_wp2
  go_loopw [10] (fun i wr => ∃ k : Nat, k ≤ ats.length ∧ i = .int .i64 k ∧ (∀ j, j < k → (an ats j).size ≤ 200 ∧ (av ats j).size ≤ 1000) ∧ Below w.heap.size w wr) (fun i _ => ats.length - (intOf i).toNat)
  case atStart => exact ⟨0, Nat.zero_le _, rfl, fun j hj => by omega, Below.refl _ _⟩
  case round =>
    obtain ⟨k, hk, rfl, hr, hbw⟩ := hrel
    have HR := hide hr
    have hzw := hbw.size
    clear hr
    by_cases hp : k < ats.length
    · have hpi : (k : Int) < (ats.length : Int) := by omega
      obtain ⟨c1, c2⟩ := (unhide HC).below hbw k hp
      obtain ⟨z1, z2⟩ := (unhide HF).2 k hp
      have hst : (an ats k).size ≤ 200 → (av ats k).size ≤ 1000 → ∀ j, j < k + 1 → (an ats j).size ≤ 200 ∧ (av ats j).size ≤ 1000 := fun h1 h2 j hj => by
        by_cases e : j = k
        · subst e; exact ⟨h1, h2⟩
        · exact unhide HR j (by omega)
      have HST := hide hst
      clear hst
      generalize an ats k = a1 at *
      generalize av ats k = a2 at *
      have hbA : Below wr.heap.size wr (wr.alloc (.cells #[.string a1, .string a2] 47)) := (Below.refl _ _).alloc (Nat.le_refl _) _
      have hbA' := tr2 hbw hbA
      by_cases h1 : 200 < a1.size
      · have h1i : (200 : Int) < (a1.size : Int) := by omega
        go_wp2
        go_ret
        exact ⟨true, rfl, fun h => (by cases h), hbA'⟩
      · have h1i : ¬ (200 : Int) < (a1.size : Int) := by omega
        by_cases h2 : 1000 < a2.size
        · have h2i : (1000 : Int) < (a2.size : Int) := by omega
          go_wp2
          go_ret
          exact ⟨true, rfl, fun h => (by cases h), hbA'⟩
        · have h2i : ¬ (1000 : Int) < (a2.size : Int) := by omega
          have HN := hide (unhide HST (by omega) (by omega))
          go_wp2
          go_roundw
          case rel => exact ⟨k + 1, by omega, by go_num, unhide HN, hbA'⟩
          case measure => simp [intOf]; omega
    · have hke : k = ats.length := by omega
      have hv : Short ats := ⟨by omega, by rw [← hke]; exact unhide HR⟩
      have HV := hide hv
      clear hv
      go_wp2
      go_ret
      exact ⟨false, rfl, fun _ => unhide HV, hbw⟩
theorem longS_any (q : Option Addr) (ats : List (ByteArray × ByteArray)) (cap : Nat) (w : World) (hs : Sl q ats w) (hf : Wfs ats) :
    Calls Tryd.prog 8 #[.slice q ats.length cap] w (LongSharp ats w) := by
  rcases hs with rfl | ⟨g, o, rfl, hc⟩
  · refine (long_nil q cap w).mono ?_
    rintro e w' ⟨rfl, rfl⟩
    exact ⟨false, rfl, fun _ => short_nil, Below.refl _ _⟩
  · exact longS_some ats g o cap w hc hf

theorem attL_le {ats : List (ByteArray × ByteArray)} (h : Short ats) : ∀ k, k ≤ ats.length → (attL ats k).length ≤ k * 6300
  | 0, _ => by simp [attL]
  | k + 1, hk => by
    have ih := attL_le h k (by omega)
    have hs := h.2 k (by omega)
    have he := esc_len true (av ats k).data.toList false
    have he' : (escL true (av ats k).data.toList).length ≤ 6 * (av ats k).size := by rw [← data_len]; exact he
    rw [attL]; unfold attB
    simp only [List.length_append, List.length_cons, List.length_nil, data_len]
    omega
theorem openL_le {n : ByteArray} {ats : List (ByteArray × ByteArray)} (h : Short ats) (hm : ats.length ≤ 12) : (openL n.data.toList ats).length ≤ n.size + 76000 := by
  have := attL_le h ats.length (Nat.le_refl _)
  unfold openL
  simp only [List.length_append, List.length_cons, List.length_nil, data_len]
  omega
theorem wrong_few {n : List UInt8} {ats : List (ByteArray × ByteArray)} (h : wrongN n ats = 0) : ats.length ≤ 12 ∧ nameB n = true := by
  unfold wrongN at h
  split at h
  · cases h
  rename_i h1
  split at h
  · cases h
  split at h
  · cases h
  have h1 : (nameB n && rightAs ats) = true := by simpa using h1
  rw [Bool.and_eq_true] at h1
  exact ⟨by omega, h1.1⟩
theorem wrongN_range (n : List UInt8) (ats : List (ByteArray × ByteArray)) : wrongN n ats = 0 ∨ wrongN n ats = 2 ∨ wrongN n ats = 4 ∨ wrongN n ats = 8 := by
  unfold wrongN
  split
  · exact Or.inr (Or.inr (Or.inl rfl))
  · split
    · exact Or.inr (Or.inr (Or.inr rfl))
    · split
      · exact Or.inr (Or.inl rfl)
      · exact Or.inl rfl

set_option maxHeartbeats 8000000 in
set_option maxRecDepth 100000 in
theorem penTagsBack_walk (n : ByteArray) (q : Option Addr) (ats : List (ByteArray × ByteArray)) (cap : Nat) (b : ByteArray) (w : World) (ht : Tab4 w) (hm : Mx w) (hs : Sl q ats w) (hf : Wfs ats) (hn : n.size ≤ 9223372036854775807) (hb : b.size ≤ 9223372036854775807) :
    Calls Tryd.prog 5 #[.string n, .slice q ats.length cap, .string b] w fun e w' => e = .returned (.bool true) ∧ Below w.heap.size w w' := by
  have HT := hide ht
  have HM := hide hm
  have HS := hide hs
  have E := hide link_any
  have CL := hide (longS_any q ats cap w hs hf)
  clear ht hm hs hf
  go_enter Tryd.func5, Tryd.ntmps5
  go_wp2_with fail
  refine (unhide CL).mono ?_
  rintro e w1 ⟨lb, rfl, hfit, hb1⟩
  have HFT := hide hfit
  clear hfit
  cases lb with
  | true =>
    go_wp2_with fail
    refine (unhide E _ ((unhide HT).below hb1).1 ((unhide HM).below hb1)).mono ?_
    rintro e w2 ⟨rfl, hb2⟩
    go_wp2
    go_ret
    exact ⟨rfl, tr2 hb1 hb2⟩
  | false =>
    by_cases h1 : 1000 < n.size
    · have hi : (1000 : Int) < (n.size : Int) := by omega
      go_wp2_with fail
      refine (unhide E _ ((unhide HT).below hb1).1 ((unhide HM).below hb1)).mono ?_
      rintro e w2 ⟨rfl, hb2⟩
      go_wp2
      go_ret
      exact ⟨rfl, tr2 hb1 hb2⟩
    have hi : decide ((1000 : Int) < (n.size : Int)) = false := decide_eq_false (by omega)
    by_cases h2 : 1000 < b.size
    · have hj : (1000 : Int) < (b.size : Int) := by omega
      go_wp2_with fail
      refine (unhide E _ ((unhide HT).below hb1).1 ((unhide HM).below hb1)).mono ?_
      rintro e w2 ⟨rfl, hb2⟩
      go_wp2
      go_ret
      exact ⟨rfl, tr2 hb1 hb2⟩
    have hj : decide ((1000 : Int) < (b.size : Int)) = false := decide_eq_false (by omega)
    have hsh : Short ats := unhide HFT rfl
    have C1 := hide (fun w h1 h2 => popen_all n q ats cap w h1 h2 hsh.fits (by omega))
    have C3 := hide (fun w => pclose_any n w (by omega))
    have hcz : (bs (closeL n.data.toList)).size = n.size + 3 := by rw [bs_size]; unfold closeL; simp
    have N2' : nameB n.data.toList = true → Hid (∀ w, Tab4 w → Mx w → Calls Tryd.prog 24 #[.string (bs (closeL n.data.toList) ++ b), .int .i64 0, .agg #[.int .i64 0, .string ⟨#[]⟩, .bool false]] w (Told w (2, n, [], false, ⟨#[]⟩) (bs (closeL n.data.toList)).size)) := fun hnb w ht hm => by
      have hS : (bs (closeL n.data.toList) ++ b).data.toList = closeL n.data.toList ++ b.data.toList := by rw [add_bs, bs_toList, bs_toList]
      have := next_any (bs (closeL n.data.toList) ++ b) ⟨#[]⟩ 0 false 0 w ht hm (by rw [ByteArray.size_append, hcz]; omega) (by decide)
      rw [close_back hS hnb] at this
      rw [bs_size]; exact this
    by_cases hw : wrongN n.data.toList ats = 0
    · obtain ⟨hm12, hnb⟩ := wrong_few hw
      have eo : openV n.data.toList ats = .tuple #[.string (bs (openL n.data.toList ats)), .int .i64 0] := by unfold openV; rw [hw, if_pos rfl]
      have ec : toldV (nameB n.data.toList) (bs (closeL n.data.toList)) = .tuple #[.string (bs (closeL n.data.toList)), .int .i64 0] := by rw [hnb]; rfl
      rw [eo] at C1
      rw [ec] at C3
      have N2 := N2' hnb
      have hoz := openL_le (n := n) hsh hm12
      have hyz : (bs (openL n.data.toList ats)).size ≤ 80000 := by rw [bs_size]; omega
      have hzz : (bs (closeL n.data.toList)).size ≤ 2000 := by omega
      have N1 : Hid (∀ w, Tab4 w → Mx w → Calls Tryd.prog 24 #[.string (bs (openL n.data.toList ats) ++ b), .int .i64 0, .agg #[.int .i64 0, .string ⟨#[]⟩, .bool false]] w (Told w (1, n, ats, false, ⟨#[]⟩) (bs (openL n.data.toList ats)).size)) := fun w ht hm => by
        have hS : (bs (openL n.data.toList ats) ++ b).data.toList = openL n.data.toList ats ++ b.data.toList := by rw [add_bs, bs_toList, bs_toList]
        have := next_any (bs (openL n.data.toList ats) ++ b) ⟨#[]⟩ 0 false 0 w ht hm (by rw [ByteArray.size_append, bs_size]; omega) (by decide)
        rw [open_back hS hw] at this
        rw [bs_size]; exact this
      have CA := hide (fun qa ca w ha hb => attrs_any qa q ca cap ats ats w ha hb (by omega) (by omega))
      have hsa : sameA ats ats = true := decide_eq_true rfl
      rw [hsa] at CA
      have q0 := beq_yes (rfl : n = n)
      generalize bs (openL n.data.toList ats) = y at *
      generalize bs (closeL n.data.toList) = z at *
      have q1 : ((y.size : Int) == (y.size : Int)) = true := by simp
      have q2 : ((z.size : Int) == (z.size : Int)) = true := by simp
      clear eo ec hw hnb hoz N2' HFT CL hsa
      go_wp2_with fail
      refine (unhide C1 _ (((unhide HT).below hb1).1) ((unhide HS).below hb1)).mono ?_
      rintro e w2 ⟨rfl, hb2⟩
      have hb02 := tr2 hb1 hb2
      go_wp2_with fail
      refine (unhide C3 _).mono ?_
      rintro e w3 ⟨rfl, hb3⟩
      have hb03 := tr2 hb02 hb3
      go_wp2_with fail
      refine (unhide N1 _ ((unhide HT).below hb03) ((unhide HM).below hb03)).mono ?_
      rintro e w4 ⟨q4, c4, rfl, hsl4, hb4⟩
      have hb04 := tr2 hb03 hb4
      have hbG := hb04.alloc hb04.size (Obj.cells #[.int .i64 1, .string n, .slice q4 ats.length c4, .bool false, .string ⟨#[]⟩] 38)
      have hA4 : Sl q4 ats (w4.alloc (Obj.cells #[.int .i64 1, .string n, .slice q4 ats.length c4, .bool false, .string ⟨#[]⟩] 38)) := by
        have : Sl q4 ats w4 := hsl4.imp id fun ⟨g, e1, _, e3⟩ => ⟨g, 0, e1, e3⟩
        exact this.below ((Below.refl _ _).alloc (Nat.le_refl _) _)
      have HA4 := hide hA4
      clear hsl4 hA4 hb1 hb2 hb3 hb4 hb02 hb03 hb04
      go_wp2_with fail
      refine (unhide CA _ _ _ (unhide HA4) ((unhide HS).below hbG)).mono ?_
      rintro e w5 ⟨rfl, hb5⟩
      have hb05 := tr2 hbG hb5
      go_wp2_with fail
      refine (unhide N2 _ ((unhide HT).below hb05) ((unhide HM).below hb05)).mono ?_
      rintro e wc ⟨qc, cc, rfl, _, hbc⟩
      have hbd := tr2 hb05 hbc
      have hbe := hbd.alloc hbd.size (Obj.cells #[.int .i64 2, .string n, .slice qc 0 cc, .bool false, .string ⟨#[]⟩] 38)
      go_wp2_with fail
      refine (unhide E _ (((unhide HT).below hbe).1) ((unhide HM).below hbe)).mono ?_
      rintro e wl ⟨rfl, hbl⟩
      go_wp2
      go_ret
      exact ⟨rfl, tr2 hbe hbl⟩
    · have nw : (wrongN n.data.toList ats == 0) = false := beq_eq_false_iff_ne.2 hw
      obtain ⟨y, eo⟩ : ∃ y, openV n.data.toList ats = .tuple #[.string y, .int .i64 (wrongN n.data.toList ats)] := ⟨_, rfl⟩
      rw [eo] at C1
      generalize wrongN n.data.toList ats = cc at *
      cases hnb : nameB n.data.toList with
      | true =>
        have ec : toldV (nameB n.data.toList) (bs (closeL n.data.toList)) = .tuple #[.string (bs (closeL n.data.toList)), .int .i64 0] := by rw [hnb]; rfl
        rw [ec] at C3
        have N2 := N2' hnb
        have q0 := beq_yes (rfl : n = n)
        have hzz : (bs (closeL n.data.toList)).size ≤ 2000 := by omega
        generalize bs (closeL n.data.toList) = z at *
        have q2 : ((z.size : Int) == (z.size : Int)) = true := by simp
        clear eo ec hw hnb N2' HFT CL
        go_wp2_with fail
        refine (unhide C1 _ (((unhide HT).below hb1).1) ((unhide HS).below hb1)).mono ?_
        rintro e w2 ⟨rfl, hb2⟩
        have hb02 := tr2 hb1 hb2
        go_wp2_with fail
        refine (unhide C3 _).mono ?_
        rintro e w3 ⟨rfl, hb3⟩
        have hb05 := tr2 hb02 hb3
        clear hb1 hb2 hb3 hb02
        go_wp2_with fail
        refine (unhide N2 _ ((unhide HT).below hb05) ((unhide HM).below hb05)).mono ?_
        rintro e wc ⟨qc, cc, rfl, _, hbc⟩
        have hbd := tr2 hb05 hbc
        have hbe := hbd.alloc hbd.size (Obj.cells #[.int .i64 2, .string n, .slice qc 0 cc, .bool false, .string ⟨#[]⟩] 38)
        go_wp2_with fail
        refine (unhide E _ (((unhide HT).below hbe).1) ((unhide HM).below hbe)).mono ?_
        rintro e wl ⟨rfl, hbl⟩
        go_wp2
        go_ret
        exact ⟨rfl, tr2 hbe hbl⟩
      | false =>
        have ec : toldV (nameB n.data.toList) (bs (closeL n.data.toList)) = .tuple #[.string ⟨#[]⟩, .int .i64 4] := by rw [hnb]; rfl
        rw [ec] at C3
        clear eo ec hw hnb N2' HFT CL
        go_wp2_with fail
        refine (unhide C1 _ (((unhide HT).below hb1).1) ((unhide HS).below hb1)).mono ?_
        rintro e w2 ⟨rfl, hb2⟩
        have hb02 := tr2 hb1 hb2
        go_wp2_with fail
        refine (unhide C3 _).mono ?_
        rintro e w3 ⟨rfl, hb3⟩
        have hb05 := tr2 hb02 hb3
        go_wp2_with fail
        refine (unhide E _ (((unhide HT).below hb05).1) ((unhide HM).below hb05)).mono ?_
        rintro e wl ⟨rfl, hbl⟩
        go_wp2
        go_ret
        exact ⟨rfl, tr2 hb05 hbl⟩
end Go.Proofs.YtakjlolmmoladabDoor

/-
  An argument of type []api.Attr opened: the attributes behind it.
-/
namespace Go.Proofs.YtakjlolmmoladabDoor
open Go.RowKit Go.Deep Go.WideShapes Go.ChangeShapes
set_option linter.unusedVariables false

theorem attr_cells : Tryd.prog.cellsOf 47 = 2 := by kernel_rfl
theorem str_cells : Tryd.prog.cellsOf 9 = 1 := by kernel_rfl
def strOf : Value → ByteArray
  | .string s => s
  | _ => ByteArray.empty
def mkAts (V0 V1 : Nat → Value) (len : Nat) : List (ByteArray × ByteArray) := (List.range len).map fun i => (strOf (V0 i), strOf (V1 i))
theorem mkAts_len (V0 V1 : Nat → Value) (len : Nat) : (mkAts V0 V1 len).length = len := by simp [mkAts]
theorem mkAts_an {V0 V1 : Nat → Value} {len k : Nat} (h : k < len) : an (mkAts V0 V1 len) k = strOf (V0 k) := by simp [an, mkAts, List.getD, h]
theorem mkAts_av {V0 V1 : Nat → Value} {len k : Nat} (h : k < len) : av (mkAts V0 V1 len) k = strOf (V1 k) := by simp [av, mkAts, List.getD, h]

theorem open_attrs {H : Type} {enc : TypeId × Value → H} {W : World} {qa : Option Addr} {len cap : Nat} {d : DataW H} {ps : List MemPlace}
    (h : DataW.Trod enc Tryd.prog W 0 (fun _ => true) true 22 (.slice qa len cap) d ps) :
    ∃ ats : List (ByteArray × ByteArray), ats.length = len ∧ Sl qa ats W ∧ Wfs ats := by
  obtain ⟨n, t0⟩ := h
  rcases open_slice_pairs Tryd.underlying22 Tryd.underlying47 attr_cells rfl rfl str_cells str_cells t0 with ⟨hc, hx⟩ | ⟨a, len', cap', m, k, V0, V1, D0, D1, P0, P1, hc, _, hl, hm, hmm, hx, hall⟩
  · simp only [Value.cells, List.cons.injEq, and_true, Value.slice.injEq] at hc
    obtain ⟨rfl, rfl, rfl⟩ := hc
    exact ⟨[], rfl, Or.inl rfl, by decide, fun k hk => by simp at hk⟩
  · simp only [Value.cells, List.cons.injEq, and_true, Value.slice.injEq] at hc
    obtain ⟨rfl, rfl, rfl⟩ := hc
    simp only [if_true] at hmm
    subst hmm
    have hs0 : ∀ i, i < m → V0 i = .string (strOf (V0 i)) ∧ (strOf (V0 i)).size ≤ maxLen := fun i hi => by
      obtain ⟨s, h1, h2, h3⟩ := DataW.trod_string Tryd.underlying9 (hall i hi).2.2.1
      simp only [List.cons.injEq, and_true] at h1
      rw [h1]; exact ⟨rfl, h3⟩
    have hs1 : ∀ i, i < m → V1 i = .string (strOf (V1 i)) ∧ (strOf (V1 i)).size ≤ maxLen := fun i hi => by
      obtain ⟨s, h1, h2, h3⟩ := DataW.trod_string Tryd.underlying9 (hall i hi).2.2.2
      simp only [List.cons.injEq, and_true] at h1
      rw [h1]; exact ⟨rfl, h3⟩
    refine ⟨mkAts V0 V1 len, mkAts_len _ _ _, ?_, ?_, ?_⟩
    · by_cases h0 : len = 0
      · subst h0; exact Or.inl rfl
      · obtain ⟨sb, so, spot⟩ := a
        have hspot : spot = none := by simpa [Addr.add] using World.cell?_spot (hall 0 (by omega)).1
        subst hspot
        refine Or.inr ⟨sb, so, rfl, fun k hk => ?_⟩
        rw [mkAts_len] at hk
        rw [mkAts_an hk, mkAts_av hk]
        have e0 := (hall k (by omega)).1
        have e1 := (hall k (by omega)).2.1
        rw [(hs0 k (by omega)).1] at e0
        rw [(hs1 k (by omega)).1] at e1
        rw [add_plain] at e0 e1
        exact ⟨e0, by rw [Nat.add_assoc]; exact e1⟩
    · rw [mkAts_len]; unfold maxLen at hm; omega
    · intro k hk
      rw [mkAts_len] at hk
      rw [mkAts_an hk, mkAts_av hk]
      have := (hs0 k (by omega)).2
      have := (hs1 k (by omega)).2
      unfold maxLen at *
      omega
end Go.Proofs.YtakjlolmmoladabDoor

/-
  From the rows' list of package variables to what the walks ask: the cells of the four tables.
-/
namespace Go.Proofs.YtakjlolmmoladabDoor
open Go.RowKit Go.Lib
set_option linter.unusedVariables false

theorem tab_of_reads {P : Program} {W : World} {name : String} {k : IntKind} {zs : List Int} {g : Nat} {t e : TypeId} {n : Nat}
    (hg : P.globalNamed name = some g) (hty : (P.globals[g]?).map (·.type) = some t) (ht : P.underlying t = some (.array n e)) (he : P.underlying e = some (.int k)) (hce : P.cellsOf e = 1) (hct : P.cellsOf t = n)
    (h : VarReads P W name (tabData k zs)) : TabIs P W name k zs := by
  obtain ⟨g', t', cs, fuel, p, hg', ht', hvar, hd⟩ := h
  obtain rfl := Option.some.inj (hg.symm.trans hg')
  obtain rfl := Option.some.inj (hty.symm.trans ht')
  unfold TabIs
  rw [hvar, ← cells_of_tab ht he hce hct hd]

def nmData : DataW Unit := .agg (nmT.map fun x => .agg [.lit (.string x.1), .lit (.int .i64 x.2.1), .lit (.bool x.2.2)])
theorem nm_at (k : Nat) (h : k < 28) : (nmT.map fun x => (DataW.agg [.lit (.string x.1), .lit (.int .i64 x.2.1), .lit (.bool x.2.2)] : DataW Unit))[k]? = some (.agg [.lit (.string (nmName k)), .lit (.int .i64 (nmChar k)), .lit (.bool (nmBare k))]) := by
  have hl : k < nmT.length := h
  rw [List.getElem?_map, List.getElem?_eq_getElem hl]
  unfold nmName nmChar nmBare
  rw [List.getD, List.getElem?_eq_getElem hl]; rfl

theorem Tryd.gNames : Tryd.prog.globalNamed "recto/refs.names" = some 4 := by kernel_rfl
theorem Tryd.gOlds : Tryd.prog.globalNamed "recto/refs.olds" = some 3 := by kernel_rfl
theorem Tryd.gHeads : Tryd.prog.globalNamed "recto/utf.heads" = some 0 := by kernel_rfl
theorem Tryd.gEnds : Tryd.prog.globalNamed "recto/utf.ends" = some 1 := by kernel_rfl
theorem Tryd.tNames : (Tryd.prog.globals[4]?).map (·.type) = some 110 := by kernel_rfl
theorem Tryd.tOlds : (Tryd.prog.globals[3]?).map (·.type) = some 106 := by kernel_rfl
theorem Tryd.tHeads : (Tryd.prog.globals[0]?).map (·.type) = some 88 := by kernel_rfl
theorem Tryd.tEnds : (Tryd.prog.globals[1]?).map (·.type) = some 88 := by kernel_rfl
theorem Tryd.cArr5 : Tryd.prog.cellsOf 88 = 5 := by kernel_rfl
theorem Tryd.cArr32 : Tryd.prog.cellsOf 106 = 32 := by kernel_rfl
theorem Tryd.cInt : Tryd.prog.cellsOf 3 = 1 := by kernel_rfl
theorem Tryd.cStr : Tryd.prog.cellsOf 9 = 1 := by kernel_rfl
theorem Tryd.cBool : Tryd.prog.cellsOf 4 = 1 := by kernel_rfl
theorem Tryd.cNamed : Tryd.prog.cellsOf 109 = 3 := by kernel_rfl

theorem one_of_take {cs : List Value} {a b o : Nat} {v : Value} (hb : o < b) (h : (((cs.drop a).take b).drop o).take 1 = [v]) : cs[a + o]? = some v := by
  have h0 := congrArg (fun l => l[0]?) h
  simp only [List.getElem?_cons_zero] at h0
  rw [List.getElem?_take, if_pos (by omega), List.getElem?_drop, List.getElem?_take, if_pos (by omega), List.getElem?_drop] at h0
  simpa using h0

theorem nTab_of {w : World} (h : VarReads Tryd.prog w "recto/refs.names" nmData) : NTab w := by
  obtain ⟨g', t', cs, fuel, p, hg', ht', hvar, hd⟩ := h
  obtain rfl := Option.some.inj (Tryd.gNames.symm.trans hg')
  obtain rfl := Option.some.inj (Tryd.tNames.symm.trans ht')
  intro k hk
  obtain ⟨fuel', d, q, h1, h2⟩ := array_elem Tryd.underlying110 hd k hk
  rw [nm_at k hk] at h1
  obtain rfl := Option.some.inj h1
  rw [Tryd.cNamed] at h2
  obtain ⟨xs, n, _, hx, _, hxl, hf⟩ := DataW.trod_struct Tryd.underlying109 h2
  have hx1 : xs.map (·.1) = [.lit (.string (nmName k)), .lit (.int .i64 (nmChar k)), .lit (.bool (nmBare k))] := by
    have := congrArg Prod.fst hx
    simpa using this.symm
  have f0 := hf 0 _ rfl
  have f1 := hf 1 _ rfl
  have f2 := hf 2 _ rfl
  have x0 : ∀ (i : Nat) (d : DataW Unit), (xs.map (·.1))[i]? = some d → ∃ b : DataW Unit × List MemPlace, xs[i]? = some b ∧ b.1 = d := by
    intro i d h
    rw [List.getElem?_map] at h
    obtain ⟨b, hb, he⟩ := Option.map_eq_some_iff.1 h
    exact ⟨b, hb, he⟩
  obtain ⟨b0, e0, g0⟩ := x0 0 _ (by rw [hx1]; rfl)
  obtain ⟨b1, e1, g1⟩ := x0 1 _ (by rw [hx1]; rfl)
  obtain ⟨b2, e2, g2⟩ := x0 2 _ (by rw [hx1]; rfl)
  rw [e0] at f0
  rw [e1] at f1
  rw [e2] at f2
  obtain ⟨s, c0, y0, _⟩ := DataW.trod_string Tryd.underlying9 f0
  obtain ⟨z, c1, y1, _⟩ := DataW.trod_int Tryd.underlying3 f1
  obtain ⟨b, c2, y2⟩ := DataW.trod_bool Tryd.underlying4 f2
  subst y0; subst y2
  have hs : s = bs (nmName k) := by
    have : s.data.toList = nmName k := by simpa using g0
    rw [← this, bs_self]
  have hb : b = nmBare k := by simpa using g2
  have hz : z = nmChar k := by rw [y1] at g1; simpa using g1
  subst hs; subst hb; subst hz
  have v := World.var?_cell Tryd.gNames hvar
  have c0' : (((cs.toList.drop (k * 3)).take 3).drop 0).take (Tryd.prog.cellsOf 9) = [.string (bs (nmName k))] := c0
  have c1' : (((cs.toList.drop (k * 3)).take 3).drop 1).take (Tryd.prog.cellsOf 3) = [.int .i64 (nmChar k)] := c1
  have c2' : (((cs.toList.drop (k * 3)).take 3).drop 2).take (Tryd.prog.cellsOf 4) = [.bool (nmBare k)] := c2
  rw [Tryd.cStr] at c0'
  rw [Tryd.cInt] at c1'
  rw [Tryd.cBool] at c2'
  have r0 := one_of_take (a := k * 3) (b := 3) (o := 0) (by decide) c0'
  have r1 := one_of_take (a := k * 3) (b := 3) (o := 1) (by decide) c1'
  have r2 := one_of_take (a := k * 3) (b := 3) (o := 2) (by decide) c2'
  refine ⟨?_, ?_, ?_⟩
  · rw [v]; simpa using r0
  · rw [v]; simpa using r1
  · rw [v]; simpa using r2

theorem tab4_of {w : World} (h : laidMet Tryd.prog [("recto/utf.heads", Rows.laid_recto_utf_heads), ("recto/utf.ends", Rows.laid_recto_utf_ends), ("recto/refs.names", Rows.laid_recto_refs_names), ("recto/refs.olds", Rows.laid_recto_refs_olds)] w) : Tab4 w := by
  have h1 : TabIs Tryd.prog w "recto/utf.heads" .i64 [0, 0, 192, 224, 240] := tab_of_reads Tryd.gHeads Tryd.tHeads Tryd.underlying88 Tryd.underlying3 Tryd.cInt Tryd.cArr5 (laidMet.reads h (List.mem_cons_self ..))
  have h2 : TabIs Tryd.prog w "recto/utf.ends" .i64 [0, 128, 2048, 65536, 1114112] := tab_of_reads Tryd.gEnds Tryd.tEnds Tryd.underlying88 Tryd.underlying3 Tryd.cInt Tryd.cArr5 (laidMet.reads h (List.mem_cons_of_mem _ (List.mem_cons_self ..)))
  have h3 : NTab w := nTab_of (laidMet.reads h (List.mem_cons_of_mem _ (List.mem_cons_of_mem _ (List.mem_cons_self ..))))
  have h4 : TabIs Tryd.prog w "recto/refs.olds" .i64 oldT := tab_of_reads Tryd.gOlds Tryd.tOlds Tryd.underlying106 Tryd.underlying3 Tryd.cInt Tryd.cArr32 (laidMet.reads h (List.mem_cons_of_mem _ (List.mem_cons_of_mem _ (List.mem_cons_of_mem _ (List.mem_cons_self ..)))))
  refine ⟨⟨h1.cell Tryd.gHeads 1 (by decide), h1.cell Tryd.gHeads 2 (by decide), h1.cell Tryd.gHeads 3 (by decide), h1.cell Tryd.gHeads 4 (by decide), h2.cell Tryd.gEnds 1 (by decide), h2.cell Tryd.gEnds 2 (by decide), h2.cell Tryd.gEnds 3 (by decide), h2.cell Tryd.gEnds 4 (by decide)⟩, h3, fun k hk => h4.cell Tryd.gOlds k hk⟩
end Go.Proofs.YtakjlolmmoladabDoor

namespace Go.Proofs.YtakjlolmmoladabDoor.tagsbackF
open Go.ChangeShapes Go.WideShapes Go.ChangeAt Go.RowKit
open Go.ChangeMaps (open_string shut_string)
set_option linter.unusedVariables false

theorem own : ownKnob Tryd.prog.godebug = none := by kernel_rfl
theorem tabs {W : World} (h : laidMetH Tryd.prog Rows.penTagsBackRow.laid W) : Tab4 W := tab4_of h

theorem mx {W : World} (h : W.ShapedOpen Tryd.prog) : Mx W :=
  Go.Proofs.cell_of_shapedOpen_int (zero := #[.int .i64 0]) (t := 3) h (of_decide_eq_true (by kernel_rfl)) (by kernel_rfl) rfl (by kernel_rfl) (by kernel_rfl) Tryd.underlying3
theorem laidOut : laidOutB Tryd.prog = true := by kernel_rfl

set_option maxRecDepth 100000 in
theorem contract (H : Type) (enc : TypeId × Value → H) (W : World) (base : Nat) (args : Array Value) (ds gs : List (DataW H)) (before : List MemPlace)
    (hval : ∀ (j : Nat) t v, Tryd.f5.params[j]? = some t → args[j]? = some v → Value.okWide Tryd.prog W .any base t v)
    (hW : DataW.Whole enc Tryd.prog Tryd.f5.params.toList Rows.penTagsBackSpec.vars false W args.toList ds gs before) (hL : laidMetH Tryd.prog Rows.penTagsBackRow.laid W) (hSO : W.ShapedOpen Tryd.prog) :
    Calls Tryd.prog 5 args W fun e W' => ∃ v, e = .returned v ∧ Rows.penTagsBackSpec.post enc Tryd.prog Tryd.f5 false true false false W args v W' := by
  have hW' := hW
  obtain ⟨p, q, hA0, hV, rfl, hfz, hnd⟩ := hW
  have hA : DataW.TrodAll enc Tryd.prog W 0 (fun _ => true) true Tryd.f5.params.toList args.toList ds p := hA0
  rw [Tryd.params5] at hA hval
  obtain ⟨v0, vs0, d0, ds0, p0, q0, hargs, rfl, rfl, h0, r0⟩ := trodAll_cons hA
  obtain ⟨v1, vs1, d1, ds1, p1, q1, rfl, rfl, rfl, h1, r1⟩ := trodAll_cons r0
  obtain ⟨v2, vs2, d2, ds2, p2, q2, rfl, rfl, rfl, h2, r2⟩ := trodAll_cons r1
  obtain ⟨rfl, rfl, rfl⟩ := trodAll_nil r2
  obtain rfl : args = #[v0, v1, v2] := by cases args; simp_all
  obtain ⟨rfl, rfl⟩ := trodVars_none hV
  obtain ⟨a0, rfl, rfl, rfl, w0⟩ := open_string Tryd.underlying9 (hval 0 9 v0 rfl rfl) h0
  have hlt : ∀ x ∈ p1, x.block < W.heap.size := fun x hx => hW'.lt x (by simp [hx])
  obtain ⟨qa, len, cap, rfl⟩ := okWide_slice Tryd.underlying22 (hval 1 22 v1 rfl rfl)
  obtain ⟨ats, rfl, hsl, hwf⟩ := open_attrs h1
  obtain ⟨a2, rfl, rfl, rfl, w2⟩ := open_string Tryd.underlying9 (hval 2 9 v2 rfl rfl) h2
  clear hA0
  refine (penTagsBack_walk a0 qa ats cap a2 W (tabs hL) (mx hSO) hsl hwf w0 w2).mono fun e W' ⟨he, bel⟩ => ?_
  subst he
  exact ⟨_, rfl, _, _, _, [], _, [], hW', trodAll_mk1 (shut_bool Tryd.underlying4 _), (trodAll_cons_mk (shut_string Tryd.underlying9 w0) (trodAll_cons_mk (Below.trod laidOut (by kernel_rfl) (of_decide_eq_true (by kernel_rfl)) h1 bel hlt) (trodAll_cons_mk (shut_string Tryd.underlying9 w2) trodAll_mk0))), rfl, bel.frame _, fun h => by cases h⟩

/-- What the tables' initialisers lay. -/
def lay0 : Obj → Obj
  | .cells _ t frozen => .cells #[.int .i64 0, .int .i64 0, .int .i64 192, .int .i64 224, .int .i64 240] t frozen
  | o => o
def layN : Obj → Obj
  | .cells _ t frozen => .cells #[.string ⟨#[97, 109, 112]⟩, .int .i64 38, .bool true, .string ⟨#[108, 116]⟩, .int .i64 60, .bool true, .string ⟨#[103, 116]⟩, .int .i64 62, .bool true, .string ⟨#[113, 117, 111, 116]⟩, .int .i64 34, .bool true, .string ⟨#[110, 98, 115, 112]⟩, .int .i64 160, .bool true, .string ⟨#[99, 111, 112, 121]⟩, .int .i64 169, .bool true, .string ⟨#[114, 101, 103]⟩, .int .i64 174, .bool true, .string ⟨#[110, 111, 116]⟩, .int .i64 172, .bool true, .string ⟨#[110, 111, 116, 105, 110]⟩, .int .i64 8713, .bool false, .string ⟨#[116, 105, 109, 101, 115]⟩, .int .i64 215, .bool true, .string ⟨#[112, 97, 114, 97]⟩, .int .i64 182, .bool true, .string ⟨#[115, 101, 99, 116]⟩, .int .i64 167, .bool true, .string ⟨#[101, 97, 99, 117, 116, 101]⟩, .int .i64 233, .bool true, .string ⟨#[69, 97, 99, 117, 116, 101]⟩, .int .i64 201, .bool true, .string ⟨#[97, 117, 109, 108]⟩, .int .i64 228, .bool true, .string ⟨#[65, 117, 109, 108]⟩, .int .i64 196, .bool true, .string ⟨#[115, 122, 108, 105, 103]⟩, .int .i64 223, .bool true, .string ⟨#[101, 117, 114, 111]⟩, .int .i64 8364, .bool false, .string ⟨#[104, 101, 108, 108, 105, 112]⟩, .int .i64 8230, .bool false, .string ⟨#[109, 100, 97, 115, 104]⟩, .int .i64 8212, .bool false, .string ⟨#[110, 100, 97, 115, 104]⟩, .int .i64 8211, .bool false, .string ⟨#[97, 108, 112, 104, 97]⟩, .int .i64 945, .bool false, .string ⟨#[98, 101, 116, 97]⟩, .int .i64 946, .bool false, .string ⟨#[114, 97, 114, 114]⟩, .int .i64 8594, .bool false, .string ⟨#[108, 97, 114, 114]⟩, .int .i64 8592, .bool false, .string ⟨#[97, 112, 111, 115]⟩, .int .i64 39, .bool false, .string ⟨#[121, 101, 110]⟩, .int .i64 165, .bool true, .string ⟨#[109, 105, 99, 114, 111]⟩, .int .i64 181, .bool true] t frozen
  | o => o
def layO : Obj → Obj
  | .cells _ t frozen => .cells #[.int .i64 8364, .int .i64 0, .int .i64 8218, .int .i64 402, .int .i64 8222, .int .i64 8230, .int .i64 8224, .int .i64 8225, .int .i64 710, .int .i64 8240, .int .i64 352, .int .i64 8249, .int .i64 338, .int .i64 0, .int .i64 381, .int .i64 0, .int .i64 0, .int .i64 8216, .int .i64 8217, .int .i64 8220, .int .i64 8221, .int .i64 8226, .int .i64 8211, .int .i64 8212, .int .i64 732, .int .i64 8482, .int .i64 353, .int .i64 8250, .int .i64 339, .int .i64 0, .int .i64 382, .int .i64 376] t frozen
  | o => o
def lay1 : Obj → Obj
  | .cells _ t frozen => .cells #[.int .i64 0, .int .i64 128, .int .i64 2048, .int .i64 65536, .int .i64 1114112] t frozen
  | o => o
theorem laid_met (os : Os) : laidMet Tryd.prog Rows.penTagsBackRow.laid (({ World.holding Tryd.prog os ⟨#[], #[], []⟩ with heap := ((((World.holding Tryd.prog os ⟨#[], #[], []⟩).heap.modify 4 layN).modify 3 layO).modify 0 lay0).modify 1 lay1 } : World).forCall (fun _ _ => 0) ⟨#[], #[.string ⟨#[]⟩, .slice none 0 0, .string ⟨#[]⟩], []⟩).memory :=
  laidMet_of_run' 8 (by kernel_rfl) (by kernel_rfl)
theorem reads (os : Os) {H : Type} (enc : TypeId × Value → H) : ∃ places, DataW.whole enc Tryd.prog (({ World.holding Tryd.prog os ⟨#[], #[], []⟩ with heap := ((((World.holding Tryd.prog os ⟨#[], #[], []⟩).heap.modify 4 layN).modify 3 layO).modify 0 lay0).modify 1 lay1 } : World).forCall (fun _ _ => 0) ⟨#[], #[.string ⟨#[]⟩, .slice none 0 0, .string ⟨#[]⟩], []⟩).memory Tryd.f5.params.toList Rows.penTagsBackSpec.vars false #[Value.string ⟨#[]⟩, Value.slice none 0 0, Value.string ⟨#[]⟩].toList 8 = some ([.lit (.string []), .nil, .lit (.string [])], [], places) :=
  ⟨[], by kernel_rfl⟩

set_option maxRecDepth 100000 in
theorem lifted (os : Os) (started : os.Started) (H : Type) (enc : TypeId × Value → H) (F : Stop.Interp) :
    ReturnsInHanded {} Tryd.checked os 5 .any ((OpenSpec.ofChange Rows.penTagsBackSpec).preRow enc Tryd.prog Tryd.f5 Rows.penTagsBackRow.domain false Rows.penTagsBackRow.laid) (((OpenSpec.ofChange Rows.penTagsBackSpec).at F).post enc Tryd.prog Tryd.f5 false true false false) := by
  obtain ⟨places, hx⟩ := reads os enc
  refine returnsInHanded_of_row (C := Tryd.checked) (s := OpenSpec.ofChange Rows.penTagsBackSpec) own started (by kernel_rfl) Tryd.func5
    (witness_row_at (enc := enc) (C := Tryd.checked) false ({ World.holding Tryd.prog os ⟨#[], #[], []⟩ with heap := ((((World.holding Tryd.prog os ⟨#[], #[], []⟩).heap.modify 4 layN).modify 3 layO).modify 0 lay0).modify 1 lay1 } : World) #[.string ⟨#[]⟩, .slice none 0 0, .string ⟨#[]⟩] rfl (by kernel_rfl) (by kernel_rfl) (by kernel_rfl)
      (OpenSpec.preRow_of_cond 8 hx (by kernel_rfl) (fun k hk => by cases hk) (by kernel_rfl) (laid_met os))) ?_
  intro W base args ds gs before hval hW _ _ _ hL hSO _
  exact contract H enc W base args ds gs before hval hW hL hSO

theorem said : Rows.PenTagsBackSaid :=
  OpenClaim.holds_of_cond 5 Tryd.f5 rfl rfl rfl rfl rfl rfl rfl ⟨rfl, rfl, rfl, rfl, rfl⟩ rfl rfl rfl rfl rfl (by kernel_rfl) Tryd.func5 (by kernel_rfl)
    (of_decide_eq_true (by kernel_rfl)) (by unfold Func.isWrapper; first | (rw [if_pos (by decide +kernel)]; kernel_rfl) | (rw [if_neg (by decide +kernel)]; exact ⟨rfl, rfl⟩))
    (fun os started H enc _ F => by rw [OpenClaim.pre_eq_preRow]; exact lifted os started H enc F)

theorem plain (f : FuncId) (fn : Func) (hf : Tryd.pinned.checked.prog.funcNamed "recto/rectolaw06.PenTagsBack" = some f) (hfn : Tryd.pinned.checked.prog.funcs[f]? = some fn) :
    false = Tryd.pinned.checked.prog.looks [] ∧ ∀ (j : Nat) t, fn.params[j]? = some t → Tryd.pinned.checked.prog.wantsStandIn t = false := by
  obtain rfl : f = 5 := Option.some.inj ((show Tryd.prog.funcNamed "recto/rectolaw06.PenTagsBack" = some 5 by kernel_rfl).symm.trans hf) |>.symm
  obtain rfl : fn = Tryd.f5 := (Option.some.inj (Tryd.func5.symm.trans hfn)).symm
  refine ⟨by kernel_rfl, fun j t ht => ?_⟩
  rw [Tryd.params5] at ht
  have hm := Array.mem_of_getElem? ht
  simp at hm
  rcases hm with rfl | rfl | rfl
  · exact (show Tryd.prog.wantsStandIn 9 = false by kernel_rfl)
  · exact (show Tryd.prog.wantsStandIn 22 = false by kernel_rfl)
  · exact (show Tryd.prog.wantsStandIn 9 = false by kernel_rfl)

theorem card : Rows.PenTagsBackCardSaid :=
  Claim7.holds_tied_plain_at .later [] _ _ _ _ said (fun _ h => by cases h) (by kernel_rfl) (fun _ h => by cases h) penTagsBack_row_tie rfl ⟨rfl, rfl⟩ (by kernel_rfl) rfl plain (by kernel_rfl)
end Go.Proofs.YtakjlolmmoladabDoor.tagsbackF

namespace Go.Proofs.YtakjlolmmoladabDoor
theorem penTagsBack_card : Rows.PenTagsBackCardSaid := tagsbackF.card
end Go.Proofs.YtakjlolmmoladabDoor
