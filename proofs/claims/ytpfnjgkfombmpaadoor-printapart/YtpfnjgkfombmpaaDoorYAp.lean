/-
  'tree.apart'.
-/
import Derived.Test.YtpfnjgkfombmpaaDoorYRl
namespace Go.Proofs.YtpfnjgkfombmpaaDoor
open Go.RowKit
set_option linter.unusedVariables false

def Forest.kind0 : Forest → Int
  | .nil => 0
  | .cons k _ _ _ _ _ _ => k
def apartB : Forest → Bool
  | .nil => true
  | .cons k _ _ _ _ _ r => !(k == 2 && r.kind0 == 2) && apartB r
theorem apart_short (f : Forest) (h : f.len ≤ 1) : apartB f = true := by
  cases f with
  | nil => rfl
  | cons k sp n ats tx kids r =>
    cases r with
    | nil => show (!(k == 2 && (0 : Int) == 2) && true) = true; simp
    | cons _ _ _ _ _ _ r => simp [Forest.len] at h
theorem apart_none (q : Option Addr) (cap : Nat) (w : World) : Calls Tryd.prog 82 #[.slice q 0 cap] w fun e w' => e = .returned (.bool true) ∧ w' = w := by
  go_enter Tryd.func82, Tryd.ntmps82
  go_wp2
  refine wp_loop_rounds 1 ?_
  rw [rounds_succ]; go_wp2
  go_ret
  exact ⟨rfl, rfl⟩
set_option maxHeartbeats 4000000 in
theorem apart_some (f : Forest) (g o cap : Nat) (w : World) (hl : Lies f g o w) (hc : f.count ≤ 1000000) :
    Calls Tryd.prog 82 #[.slice (some ⟨g, o, none⟩) f.len cap] w fun e w' => e = .returned (.bool (apartB f)) ∧ w' = w := by
  have HL := hide hl
  have hlc := f.len_count
  clear hl
  go_enter Tryd.func82, Tryd.ntmps82
  go_wp2
  go_loopw [3] (fun b wr => ∃ j : Nat, j ≤ f.len ∧ b = .int .i64 ((j : Int) + 1) ∧ apartB (f.drop j) = apartB f ∧ wr = w) (fun b _ => f.len + 1 - (intOf b).toNat)
  case atStart => exact ⟨0, Nat.zero_le _, rfl, by rw [Forest.drop_zero], rfl⟩
  case round =>
    obtain ⟨j, hj, rfl, hap, hw⟩ := hrel
    subst hw
    by_cases hp : j + 1 < f.len
    · have hpi : (j : Int) + 1 < (f.len : Int) := by omega
      have hpj : (j : Int) < (f.len : Int) := by omega
      have hj1 : (j : Int) + 1 ≤ 1000000 := by omega
      obtain ⟨k, sp, n, ats, tx, kids, hd⟩ := f.drop_cons j (by omega)
      obtain ⟨k2, sp2, n2, ats2, tx2, kids2, hd2⟩ := f.drop_cons (j + 1) hp
      have h1 := (unhide HL).drop j
      have h2 := (unhide HL).drop (j + 1)
      rw [hd] at h1 hap
      rw [hd2] at h2
      have c1 := h1.1.1
      have c2 := h2.1.1
      have hap' : (!(k == 2 && k2 == 2) && apartB (f.drop (j + 1))) = apartB f := by
        rw [← hap]
        show _ = (!(k == 2 && (f.drop (j + 1)).kind0 == 2) && apartB (f.drop (j + 1)))
        rw [hd2]; rfl
      clear hap hd hd2 h1 h2 hp
      by_cases e1 : k = 2
      · by_cases e2 : k2 = 2
        · subst e1 e2
          have HS : Hid (false = apartB f) := hide hap'
          clear hap'
          go_wp2
          go_ret
          exact ⟨by rw [← unhide HS]; rfl, rfl⟩
        · subst e1
          have HS : Hid (apartB (f.drop (j + 1)) = apartB f) := hide (by rw [← hap', beq_eq_false_iff_ne.2 e2]; simp)
          have e3 : (k2 == 2) = false := beq_eq_false_iff_ne.2 e2
          clear hap' e2
          go_wp2
          go_roundw
          case rel => exact ⟨j + 1, by omega, by go_num, unhide HS, by first | rfl | trivial⟩
          case measure => simp [intOf]; omega
      · have HS : Hid (apartB (f.drop (j + 1)) = apartB f) := hide (by rw [← hap', beq_eq_false_iff_ne.2 e1]; simp)
        clear hap'
        go_wp2
        go_roundw
        case rel => exact ⟨j + 1, by omega, by go_num, unhide HS, by first | rfl | trivial⟩
        case measure => simp [intOf]; omega
    · have hpi : ¬ (j : Int) + 1 < (f.len : Int) := by omega
      have HS : Hid (true = apartB f) := hide (by rw [← hap]; exact (apart_short _ (by rw [Forest.drop_len]; omega)).symm)
      clear hp hap
      go_wp2
      go_ret
      exact ⟨by rw [← unhide HS]; rfl, rfl⟩
theorem apart_any (f : Forest) (q : Option Addr) (cap : Nat) (w : World) (h : Fo q f w) (hc : f.count ≤ 1000000) : Calls Tryd.prog 82 #[.slice q f.len cap] w fun e w' => e = .returned (.bool (apartB f)) ∧ w' = w := by
  rcases h with rfl | ⟨g, o, rfl, hl⟩
  · exact apart_none q cap w
  · exact apart_some f g o cap w hl hc
end Go.Proofs.YtpfnjgkfombmpaaDoor
