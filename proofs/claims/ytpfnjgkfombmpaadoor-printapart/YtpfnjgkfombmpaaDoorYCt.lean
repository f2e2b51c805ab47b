/-
  The reference's Right and Check at any nodes; the two Checks are one.
-/
import Derived.Test.YtpfnjgkfombmpaaDoorYRr
namespace Go.Proofs.YtpfnjgkfombmpaaDoor
open Go.RowKit
set_option linter.unusedVariables false
set_option linter.unusedSimpArgs false

theorem SmF.drop : ∀ (j : Nat) (f : Forest), SmF f → SmF (f.drop j)
  | 0, f, h => by rw [Forest.drop_zero]; exact h
  | j + 1, .nil, h => by rw [Forest.drop_nil]; trivial
  | j + 1, .cons _ _ _ _ _ _ r, h => SmF.drop j r h.2.2
theorem rright_any : ∀ (m : Nat) (f : Forest), f.count ≤ m → m ≤ 1000000 → SmF f → ∀ (q : Option Addr) (cap : Nat) (w : World), Fo q f w → Calls Tryd.prog 52 #[.slice q f.len cap] w fun e w' => e = .returned (.bool (rightN f)) ∧ Below w.heap.size w w'
  | m, f, hm, hM, hs, q, cap, w, h => by
    rcases h with rfl | ⟨g, o, rfl, hl⟩
    · exact rright_none q cap w
    · refine rright_some f g o cap w (rightN f) rfl hl (by omega) hs (hide fun j k sp n ats tx kids hd q cap w hf => ?_)
      have h1 : (f.drop j).count ≤ f.count := f.count_drop j
      have h3 := SmF.drop j f hs
      rw [hd] at h1 h3
      have h2 : 1 + kids.count + (f.drop (j + 1)).count ≤ f.count := h1
      match m, hm with
      | 0, hm => omega
      | m + 1, hm => exact rright_any m kids (by omega) (by omega) h3.2.1 q cap w hf
def rcheckN (f : Forest) : Int := if 300 < f.count ∨ 40 < f.depth then 2 else if rightN f = true then 0 else 4
set_option maxHeartbeats 2000000 in
theorem rcheck_any (f : Forest) (q : Option Addr) (cap : Nat) (w : World) (hf : Fo q f w) (hs : SmF f) (hc : f.count ≤ 1000000) :
    Calls Tryd.prog 26 #[.slice q f.len cap] w fun e w' => e = .returned (.int .i64 (rcheckN f)) ∧ Below w.heap.size w w' := by
  have CC := hide (rcount_any f.count f (Nat.le_refl _) hc q cap w hf)
  have CD := hide (fun W (hW : Below w.heap.size w W) => rdepth_any f.count f (Nat.le_refl _) hc q cap W (hf.below hW))
  have CR := hide (fun W (hW : Below w.heap.size w W) => rright_any f.count f (Nat.le_refl _) hc hs q cap W (hf.below hW))
  unfold rcheckN
  generalize f.count = c at *
  generalize f.depth = d at *
  generalize rightN f = r at *
  clear hf hs
  by_cases h1 : 300 < c
  · have h1i : (300 : Int) < (c : Int) := by omega
    rw [if_pos (Or.inl h1)]
    go_enter Tryd.func26, Tryd.ntmps26
    go_wp2_with fail
    refine (unhide CC).mono ?_
    rintro e w1 ⟨rfl, hb⟩
    go_wp2
    go_ret
    exact ⟨rfl, hb⟩
  have h1i : ¬ (300 : Int) < (c : Int) := by omega
  have h1d : decide ((300 : Int) < (c : Int)) = false := decide_eq_false h1i
  by_cases h2 : 40 < d
  · have h2i : (40 : Int) < (d : Int) := by omega
    rw [if_pos (Or.inr h2)]
    go_enter Tryd.func26, Tryd.ntmps26
    go_wp2_with fail
    refine (unhide CC).mono ?_
    rintro e w1 ⟨rfl, hb⟩
    have CD1 := hide (unhide CD w1 hb)
    have HB := hide hb
    clear hb
    go_wp2_with fail
    refine (unhide CD1).mono ?_
    rintro e w2 ⟨rfl, hb2⟩
    go_wp2
    go_ret
    exact ⟨rfl, tr2 (unhide HB) hb2⟩
  have h2i : ¬ (40 : Int) < (d : Int) := by omega
  rw [if_neg (by omega)]
  cases r with
  | true =>
    rw [if_pos rfl]
    go_enter Tryd.func26, Tryd.ntmps26
    go_wp2_with fail
    refine (unhide CC).mono ?_
    rintro e w1 ⟨rfl, hb⟩
    have CD1 := hide (unhide CD w1 hb)
    have HB := hide hb
    clear hb
    go_wp2_with fail
    refine (unhide CD1).mono ?_
    rintro e w2 ⟨rfl, hb2⟩
    have HB2 := hide (tr2 (unhide HB) hb2)
    have CR2 := hide (unhide CR w2 (unhide HB2))
    clear hb2
    go_wp2_with fail
    refine (unhide CR2).mono ?_
    rintro e w3 ⟨rfl, hb3⟩
    go_wp2
    go_ret
    exact ⟨rfl, tr2 (unhide HB2) hb3⟩
  | false =>
    rw [if_neg (by simp)]
    go_enter Tryd.func26, Tryd.ntmps26
    go_wp2_with fail
    refine (unhide CC).mono ?_
    rintro e w1 ⟨rfl, hb⟩
    have CD1 := hide (unhide CD w1 hb)
    have HB := hide hb
    clear hb
    go_wp2_with fail
    refine (unhide CD1).mono ?_
    rintro e w2 ⟨rfl, hb2⟩
    have HB2 := hide (tr2 (unhide HB) hb2)
    have CR2 := hide (unhide CR w2 (unhide HB2))
    clear hb2
    go_wp2_with fail
    refine (unhide CR2).mono ?_
    rintro e w3 ⟨rfl, hb3⟩
    go_wp2
    go_ret
    exact ⟨rfl, tr2 (unhide HB2) hb3⟩
/-! ### they are one -/
def itB (it : Item) : Bool := raB it.k it.sp it.n it.ats it.tx it.kids.len && apartB it.kids
theorem tell_ck : ∀ (l : List Item) (b : Bool), tell ckStep b l = (b && l.all itB)
  | [], b => by simp [tell]
  | it :: l, b => by
    have hs : ckStep b it = (b && itB it, b && itB it) := rfl
    rw [tell, hs]
    cases h : (b && itB it) with
    | true =>
      rw [if_pos rfl, tell_ck l true]
      simp at h
      simp [h.1, h.2]
    | false =>
      rw [if_neg (by simp)]
      simp only [List.all_cons]
      rw [← Bool.and_assoc, h]; simp
theorem ra_leaf {k sp : Int} {n : ByteArray} {ats : List (ByteArray × ByteArray)} {tx : ByteArray} {kl : Nat} (hk : leafB k = true) (h : raB k sp n ats tx kl = true) : kl = 0 := by
  unfold leafB at hk
  simp at hk
  rcases hk with rfl | rfl
  · rw [ra_two] at h; simp at h; exact h.2.2.2.2.2
  · rw [ra_three] at h; simp at h; exact h.2.2.2.2
theorem items_all : ∀ (f : Forest) (d : Nat), (items f d).all itB = allB f
  | .nil, d => rfl
  | .cons k sp n ats tx kids rest, d => by
    have ih1 := items_all kids (d + 1)
    have ih2 := items_all rest d
    rw [items, List.all_cons, List.all_append, ih1, ih2, allB]
    show (raB k sp n ats tx kids.len && apartB kids && (allB kids && allB rest)) = _
    cases hr : raB k sp n ats tx kids.len with
    | false => simp
    | true =>
      cases hl : leafB k with
      | true =>
        have h0 := ra_leaf hl hr
        have hn : kids = .nil := by cases kids with | nil => rfl | cons _ _ _ _ _ _ r => simp [Forest.len] at h0
        subst hn
        simp [apartB, allB]
      | false =>
        simp only [Bool.true_and, Bool.false_or]
        cases apartB kids <;> simp
theorem check_is (f : Forest) : checkN f = rcheckN f := by
  unfold checkN rcheckN
  rw [greatB_is, tell_ck, items_all]
  by_cases h : 300 < f.count ∨ 40 < f.depth
  · rw [if_pos h, if_pos (by simpa using h)]
  · rw [if_neg h, if_neg (by simpa using h)]
    rfl
end Go.Proofs.YtpfnjgkfombmpaaDoor
