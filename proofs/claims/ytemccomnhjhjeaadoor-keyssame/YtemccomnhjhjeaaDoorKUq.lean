/-
  Keys and labels are one just if the nodes are: plain facts.
-/
import Derived.Test.YtemccomnhjhjeaaDoorKWk
namespace Go.Proofs.YtemccomnhjhjeaaDoor
open Go.RowKit
set_option linter.unusedVariables false
set_option linter.unusedSimpArgs false

/-- What digits tell. -/
def valD (l : List UInt8) : Nat := l.foldl (fun a c => a * 10 + (c.toNat - 48)) 0
theorem valD_app (l : List UInt8) (c : UInt8) : valD (l ++ [c]) = valD l * 10 + (c.toNat - 48) := by simp [valD, List.foldl_append]
theorem dig_nat (k : Nat) (h : k < 10) : (UInt8.ofNat (48 + k)).toNat = 48 + k := by
  rw [UInt8.toNat_ofNat']; omega
theorem valD_dec : ∀ (m u : Nat), u ≤ m → valD (Lib.decDigits u) = u ∧ ∀ c ∈ Lib.decDigits u, 48 ≤ c.toNat ∧ c.toNat ≤ 57
  | m, u, hm => by
    unfold Lib.decDigits
    by_cases h : u < 10
    · rw [dif_pos h]
      refine ⟨?_, fun c hc => ?_⟩
      · show 0 * 10 + ((UInt8.ofNat (48 + u)).toNat - 48) = u
        rw [dig_nat u h]; omega
      · rw [List.mem_singleton] at hc
        rw [hc, dig_nat u h]; omega
    · rw [dif_neg h]
      match m, hm with
      | 0, hm => omega
      | m + 1, hm =>
        obtain ⟨h1, h2⟩ := valD_dec m (u / 10) (by omega)
        refine ⟨?_, fun c hc => ?_⟩
        · rw [valD_app, h1, dig_nat _ (by omega)]; omega
        · rcases List.mem_append.1 hc with hc | hc
          · exact h2 c hc
          · rw [List.mem_singleton] at hc
            rw [hc, dig_nat _ (by omega)]; omega
theorem itoB_ch (n : Int) : ∀ c ∈ itoB n, c.toNat = 45 ∨ (48 ≤ c.toNat ∧ c.toNat ≤ 57) := by
  intro c hc
  unfold itoB Lib.itoa at hc
  split at hc
  · rcases List.mem_cons.1 hc with rfl | hc
    · left; rfl
    · right; exact (valD_dec _ _ (Nat.le_refl _)).2 c hc
  · right; exact (valD_dec _ _ (Nat.le_refl _)).2 c hc
theorem itoB_inj {a b : Int} (h : itoB a = itoB b) : a = b := by
  have hd : ∀ u v : Nat, 45 :: Lib.decDigits u ≠ Lib.decDigits v := fun u v e => by
    have := (valD_dec v v (Nat.le_refl _)).2 45 (by rw [← e]; exact List.mem_cons_self ..)
    have h45 : (45 : UInt8).toNat = 45 := rfl
    omega
  have hi : ∀ u v : Nat, Lib.decDigits u = Lib.decDigits v → u = v := fun u v e => by
    rw [← (valD_dec u u (Nat.le_refl _)).1, ← (valD_dec v v (Nat.le_refl _)).1, e]
  unfold itoB Lib.itoa at h
  by_cases ha : a < 0
  · by_cases hb : b < 0
    · rw [if_pos ha, if_pos hb] at h
      injection h with _ h
      have := hi _ _ h
      omega
    · rw [if_pos ha, if_neg hb] at h; exact absurd h (hd _ _)
  · by_cases hb : b < 0
    · rw [if_neg ha, if_pos hb] at h; exact absurd h.symm (hd _ _)
    · rw [if_neg ha, if_neg hb] at h
      have := hi _ _ h
      omega
theorem split_32 : ∀ (x y r s : List UInt8), (∀ c ∈ x, c ≠ 32) → (∀ c ∈ y, c ≠ 32) → x ++ (32 :: r) = y ++ (32 :: s) → x = y ∧ r = s
  | [], [], r, s, hx, hy, h => by simp at h; exact ⟨rfl, h⟩
  | [], b :: y, r, s, hx, hy, h => by
    simp at h
    exact absurd h.1.symm (hy b (List.mem_cons_self ..))
  | a :: x, [], r, s, hx, hy, h => by
    simp at h
    exact absurd h.1 (hx a (List.mem_cons_self ..))
  | a :: x, b :: y, r, s, hx, hy, h => by
    simp only [List.cons_append, List.cons.injEq] at h
    obtain ⟨h1, h2⟩ := split_32 x y r s (fun c hc => hx c (List.mem_cons_of_mem _ hc)) (fun c hc => hy c (List.mem_cons_of_mem _ hc)) h.2
    exact ⟨by rw [h.1, h1], h2⟩
theorem numB_uniq {a b : Int} {r s : List UInt8} (h : numB a ++ r = numB b ++ s) : a = b ∧ r = s := by
  unfold numB at h
  rw [List.append_assoc, List.append_assoc] at h
  have hn : ∀ n : Int, ∀ c ∈ itoB n, c ≠ 32 := fun n c hc e => by
    have := itoB_ch n c hc
    have h32 : (32 : UInt8).toNat = 32 := rfl
    rw [e] at this
    omega
  obtain ⟨h1, h2⟩ := split_32 _ _ r s (hn a) (hn b) h
  exact ⟨itoB_inj h1, h2⟩
theorem textB_uniq {x y : ByteArray} {r s : List UInt8} (h : textB x ++ r = textB y ++ s) : x = y ∧ r = s := by
  unfold textB at h
  rw [List.append_assoc, List.append_assoc] at h
  obtain ⟨h1, h2⟩ := numB_uniq h
  have hl : x.data.toList.length = y.data.toList.length := by
    rw [Array.length_toList, Array.length_toList]
    have : (x.size : Int) = (y.size : Int) := h1
    show x.size = y.size
    omega
  obtain ⟨h3, h4⟩ := List.append_inj h2 hl
  refine ⟨?_, h4⟩
  obtain ⟨dx⟩ := x
  obtain ⟨dy⟩ := y
  have : dx = dy := Array.ext' h3
  rw [this]
theorem labelB_uniq {k sp k' sp' : Int} {n n' : ByteArray} {r s : List UInt8} (h : labelB k sp n ++ r = labelB k' sp' n' ++ s) : k = k' ∧ sp = sp' ∧ n = n' ∧ r = s := by
  unfold labelB at h
  simp only [List.append_assoc] at h
  obtain ⟨h1, h⟩ := numB_uniq h
  obtain ⟨h2, h⟩ := numB_uniq h
  obtain ⟨h3, h⟩ := textB_uniq h
  exact ⟨h1, h2, h3, h⟩
theorem atsB_uniq : ∀ (a b : List (ByteArray × ByteArray)), a.length = b.length → ∀ r s : List UInt8, atsB a ++ r = atsB b ++ s → a = b ∧ r = s
  | [], [], hl, r, s, h => ⟨rfl, h⟩
  | [], b :: y, hl, r, s, h => by simp at hl
  | a :: x, [], hl, r, s, h => by simp at hl
  | a :: x, b :: y, hl, r, s, h => by
    unfold atsB at h
    simp only [List.append_assoc] at h
    obtain ⟨h1, h⟩ := textB_uniq h
    obtain ⟨h2, h⟩ := textB_uniq h
    obtain ⟨h3, h4⟩ := atsB_uniq x y (by simpa using hl) r s h
    exact ⟨by rw [h3, Prod.ext h1 h2], h4⟩
theorem keyF_uniq : ∀ (f g : Forest), f.len = g.len → ∀ r s : List UInt8, keyF f ++ r = keyF g ++ s → f = g ∧ r = s
  | .nil, .nil, hl, r, s, h => ⟨rfl, h⟩
  | .nil, .cons _ _ _ _ _ _ _, hl, r, s, h => by simp [Forest.len] at hl
  | .cons _ _ _ _ _ _ _, .nil, hl, r, s, h => by simp [Forest.len] at hl
  | .cons k sp n ats tx kids rest, .cons k' sp' n' ats' tx' kids' rest', hl, r, s, h => by
    unfold keyF nodeB at h
    simp only [List.append_assoc] at h
    obtain ⟨h1, h2, h3, h⟩ := labelB_uniq h
    obtain ⟨h4, h⟩ := textB_uniq h
    obtain ⟨h5, h⟩ := numB_uniq h
    obtain ⟨h6, h⟩ := atsB_uniq ats ats' (by omega) _ _ h
    obtain ⟨h7, h⟩ := numB_uniq h
    obtain ⟨h8, h⟩ := keyF_uniq kids kids' (by omega) _ _ h
    obtain ⟨h9, h⟩ := keyF_uniq rest rest' (by simp [Forest.len] at hl; exact hl) _ _ h
    exact ⟨by rw [h1, h2, h3, h4, h6, h8, h9], h⟩
/-- Two nodes have one key just if they are the same. -/
theorem key_one (k sp : Int) (n : ByteArray) (ats : List (ByteArray × ByteArray)) (tx : ByteArray) (kids : Forest) (k' sp' : Int) (n' : ByteArray) (ats' : List (ByteArray × ByteArray)) (tx' : ByteArray) (kids' : Forest) :
    keyF (.cons k sp n ats tx kids .nil) = keyF (.cons k' sp' n' ats' tx' kids' .nil) ↔ Forest.cons k sp n ats tx kids .nil = Forest.cons k' sp' n' ats' tx' kids' .nil :=
  ⟨fun h => (keyF_uniq (.cons k sp n ats tx kids .nil) (.cons k' sp' n' ats' tx' kids' .nil) rfl [] [] (by rw [h])).1, fun h => by rw [h]⟩
theorem label_one (k sp : Int) (n : ByteArray) (k' sp' : Int) (n' : ByteArray) : labelB k sp n = labelB k' sp' n' ↔ k = k' ∧ sp = sp' ∧ n = n' :=
  ⟨fun h => by
    obtain ⟨h1, h2, h3, _⟩ := labelB_uniq (k := k) (sp := sp) (n := n) (k' := k') (sp' := sp') (n' := n') (r := []) (s := []) (by rw [h])
    exact ⟨h1, h2, h3⟩, fun ⟨h1, h2, h3⟩ => by rw [h1, h2, h3]⟩
end Go.Proofs.YtemccomnhjhjeaaDoor
