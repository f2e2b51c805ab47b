/-
  Alike is an equivalence; the last part of a list; never more than three that are alike.
-/
import Derived.Test.YtabajhbghjfhoaaBTm
import Derived.Test.YtabajhbghjfhoaaLAc
namespace Go.Proofs.Ytabajhbghjfhoaa
open Go.RowKit
set_option linter.unusedVariables false
set_option linter.unusedSimpArgs false

def da (ats : List (ByteArray × ByteArray)) : List (List UInt8 × List UInt8) := ats.map fun x => (x.1.data.toList, x.2.data.toList)
theorem da_len (ats : List (ByteArray × ByteArray)) : (da ats).length = ats.length := by simp [da]
theorem da_at (ats : List (ByteArray × ByteArray)) (k : Nat) (h : k < ats.length) : (da ats)[k]? = some ((an ats k).data.toList, (av ats k).data.toList) := by
  simp [da, an, av, List.getD, h]
theorem timesN_count (ats : List (ByteArray × ByteArray)) (a b : ByteArray) : ∀ k, k ≤ ats.length → timesN ats a b k = ((da ats).take k).count (a.data.toList, b.data.toList)
  | 0, _ => by simp [timesN]
  | k + 1, h => by
    rw [show timesN ats a b (k + 1) = timesN ats a b k + (if eqA (an ats k) (av ats k) a b then 1 else 0) from rfl, timesN_count ats a b k (by omega), List.take_add_one, da_at ats k (by omega), List.count_append]
    congr 1
    simp only [Option.toList_some, List.count_singleton]
    unfold eqA
    by_cases h1 : (an ats k).data.toList = a.data.toList <;> by_cases h2 : (av ats k).data.toList = b.data.toList <;> simp [h1, h2]
theorem timesN_all (ats : List (ByteArray × ByteArray)) (a b : ByteArray) : timesN ats a b ats.length = (da ats).count (a.data.toList, b.data.toList) := by
  rw [timesN_count ats a b _ (Nat.le_refl _), List.take_of_length_le (by rw [da_len]; exact Nat.le_refl _)]
theorem onceK_iff (ax ay : List (ByteArray × ByteArray)) (n : Nat) : ∀ k, onceK ax ay n k = true ↔ ∀ j, j < k → timesN ax (an ax j) (av ax j) n = 1 ∧ timesN ay (an ax j) (av ax j) n = 1
  | 0 => by simp [onceK]
  | k + 1 => by
    rw [show onceK ax ay n (k + 1) = (onceK ax ay n k && (timesN ax (an ax k) (av ax k) n == 1 && timesN ay (an ax k) (av ax k) n == 1)) from rfl, Bool.and_eq_true, onceK_iff ax ay n k, Bool.and_eq_true, beq_iff_eq, beq_iff_eq]
    constructor
    · rintro ⟨h1, h2⟩ j hj
      by_cases he : j = k
      · rw [he]; exact h2
      · exact h1 j (by omega)
    · intro h
      exact ⟨fun j hj => h j (by omega), h k (by omega)⟩
/-- What alike says. -/
def AlikeP (xn : ByteArray) (ax : List (ByteArray × ByteArray)) (yn : ByteArray) (ay : List (ByteArray × ByteArray)) : Prop :=
  xn.toList = yn.toList ∧ (da ax).length = (da ay).length ∧ ∀ e ∈ da ax, (da ax).count e = 1 ∧ (da ay).count e = 1
theorem alikeB_iff (xn yn : ByteArray) (ax ay : List (ByteArray × ByteArray)) : alikeB xn ax yn ay = true ↔ AlikeP xn ax yn ay := by
  unfold alikeB AlikeP
  rw [Bool.and_eq_true, Bool.and_eq_true, beq_iff_eq, beq_iff_eq, da_len, da_len, onceK_iff]
  refine and_congr Iff.rfl (and_congr_right fun hl => ?_)
  constructor
  · intro h e he
    obtain ⟨k, hk, hke⟩ := List.getElem_of_mem he
    rw [da_len] at hk
    have h3 := da_at ax k hk
    rw [List.getElem?_eq_getElem (by rw [da_len]; exact hk), hke] at h3
    injection h3 with h3
    obtain ⟨h1, h2⟩ := h k hk
    rw [timesN_all] at h1
    rw [hl, timesN_all] at h2
    rw [h3]
    exact ⟨h1, h2⟩
  · intro h k hk
    have h3 : ((an ax k).data.toList, (av ax k).data.toList) ∈ da ax := List.mem_of_getElem? (da_at ax k hk)
    obtain ⟨h1, h2⟩ := h _ h3
    rw [timesN_all]
    refine ⟨h1, ?_⟩
    rw [hl, timesN_all]
    exact h2
theorem pigeon : ∀ (A B : List (List UInt8 × List UInt8)), (∀ e ∈ A, A.count e = 1) → (∀ e ∈ A, e ∈ B) → B.length ≤ A.length → ∀ e ∈ B, e ∈ A
  | [], B, _, _, hl, e, he => by
    have : B = [] := List.eq_nil_of_length_eq_zero (by simpa using hl)
    rw [this] at he; cases he
  | x :: A, B, hc, hs, hl, e, he => by
    have hx : x ∈ B := hs x (by simp)
    have hxA : x ∉ A := by
      intro h
      have h1 := hc x (by simp)
      rw [List.count_cons_self] at h1
      have := List.count_pos_iff.2 h
      omega
    by_cases hex : e = x
    · rw [hex]; simp
    · have he2 : e ∈ B.erase x := (List.mem_erase_of_ne hex).2 he
      have := pigeon A (B.erase x) (fun a ha => by
        have h1 := hc a (by simp [ha])
        have hne : x ≠ a := fun h => hxA (h ▸ ha)
        rw [List.count_cons_of_ne hne] at h1
        exact h1) (fun a ha => by
        have hne : a ≠ x := fun h => hxA (h ▸ ha)
        exact (List.mem_erase_of_ne hne).2 (hs a (by simp [ha]))) (by
        have := List.length_erase_of_mem hx
        simp only [List.length_cons] at hl
        omega) e he2
      simp [this]
theorem AlikeP.counts {xn yn : ByteArray} {ax ay : List (ByteArray × ByteArray)} (h : AlikeP xn ax yn ay) (e : List UInt8 × List UInt8) : (da ax).count e = (da ay).count e := by
  obtain ⟨_, hl, hc⟩ := h
  by_cases he : e ∈ da ax
  · rw [(hc e he).1, (hc e he).2]
  · have hB : e ∉ da ay := fun hb => he (pigeon (da ax) (da ay) (fun a ha => (hc a ha).1) (fun a ha => by
      have := (hc a ha).2
      exact List.count_pos_iff.1 (by omega)) (by omega) e hb)
    rw [List.count_eq_zero.2 he, List.count_eq_zero.2 hB]
theorem AlikeP.symm {xn yn : ByteArray} {ax ay : List (ByteArray × ByteArray)} (h : AlikeP xn ax yn ay) : AlikeP yn ay xn ax := by
  have hcn := h.counts
  obtain ⟨h1, hl, hc⟩ := h
  refine ⟨h1.symm, hl.symm, fun e he => ?_⟩
  have hp := List.count_pos_iff.2 he
  have hx : e ∈ da ax := List.count_pos_iff.1 (by rw [hcn e]; exact hp)
  obtain ⟨a, b⟩ := hc e hx
  exact ⟨b, a⟩
theorem AlikeP.trans {xn yn zn : ByteArray} {ax ay az : List (ByteArray × ByteArray)} (h : AlikeP xn ax yn ay) (h' : AlikeP yn ay zn az) : AlikeP xn ax zn az := by
  have hcn := h.counts
  have hcn' := h'.counts
  obtain ⟨h1, hl, hc⟩ := h
  obtain ⟨h1', hl', hc'⟩ := h'
  refine ⟨h1.trans h1', hl.trans hl', fun e he => ⟨(hc e he).1, ?_⟩⟩
  rw [← hcn' e]
  exact (hc e he).2
/-- Are two entries alike? -/
def al (x y : PEnt) : Bool := alikeB x.nm x.ats y.nm y.ats
theorem al_symm (x y : PEnt) : al x y = al y x := by
  unfold al
  cases h : alikeB x.nm x.ats y.nm y.ats with
  | true => exact ((alikeB_iff _ _ _ _).2 ((alikeB_iff _ _ _ _).1 h).symm).symm
  | false =>
    cases h2 : alikeB y.nm y.ats x.nm x.ats with
    | false => rfl
    | true =>
      have := (alikeB_iff _ _ _ _).2 ((alikeB_iff _ _ _ _).1 h2).symm
      rw [h] at this; cases this
theorem al_eq {x y : PEnt} (h : al y x = true) (e : PEnt) : al y e = al x e := by
  have hxy : al x y = true := by rw [al_symm]; exact h
  unfold al at *
  cases h1 : alikeB x.nm x.ats e.nm e.ats with
  | true => exact (alikeB_iff _ _ _ _).2 (((alikeB_iff _ _ _ _).1 h).trans ((alikeB_iff _ _ _ _).1 h1))
  | false =>
    cases h2 : alikeB y.nm y.ats e.nm e.ats with
    | false => rfl
    | true =>
      have := (alikeB_iff _ _ _ _).2 (((alikeB_iff _ _ _ _).1 hxy).trans ((alikeB_iff _ _ _ _).1 h2))
      rw [h1] at this; cases this
end Go.Proofs.Ytabajhbghjfhoaa
