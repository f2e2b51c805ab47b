/-
  What 'utf.First' does, told by the plain function: of every text.
-/
import Derived.Test.YtekkgmgdihlefabDoorUf
namespace Go.Proofs.YtekkgmgdihlefabDoor
open Go.RowKit
set_option linter.unusedVariables false

/-- The first character of bytes that are there: which, of how many bytes, and whether it is one. -/
def step (l : List UInt8) : Int × Nat × Bool :=
  match dec l with
  | none => (65533, 1, false)
  | some (c, n) => (c, n, true)
def firstV (l : List UInt8) : Value := .tuple #[.int .i64 (step l).1, .int .i64 ((step l).2.1 : Int)]
theorem firstV_none {l : List UInt8} (h : dec l = none) : firstV l = bad := by simp only [firstV, step, h]; rfl
theorem firstV_some {l : List UInt8} {c : Int} {n : Nat} (h : dec l = some (c, n)) : firstV l = .tuple #[.int .i64 c, .int .i64 (n : Int)] := by simp only [firstV, step, h]

theorem charIs (c : Int) (t : Bool) (h : isC c = t) : CharIs c t := by
  intro w; have := isChar_any c w; rw [h] at this; exact this
theorem sizeIs (c : Int) (k : Nat) (h : isC c = true) (hk : sz c = k) : SizeIs c k := by
  intro w ht
  have hr := isC_true h
  have := size_any c w (by omega) (by omega) ht
  rw [hk] at this; exact this
theorem toldIs (b n : Nat) (hb : b < 256) (h : tld b = n) : ToldIs b n := by
  intro w ht; have := told_any b w hb ht; rw [h] at this; exact this

theorem cand_1 {l : List UInt8} (h : dgt l 0 < 128) : cand l = some ((dgt l 0 : Int), 1) := by rw [cand, if_pos h]
theorem cand_0 {l : List UInt8} (h0 : 128 ≤ dgt l 0) (h : dgt l 0 < 192) : cand l = none := by rw [cand, if_neg (by omega), if_pos h]
theorem cand_2 {l : List UInt8} (h0 : 192 ≤ dgt l 0) (h : dgt l 0 < 224) : cand l = if tl l 1 = true then some (64 * ((dgt l 0 : Int) - 192) + lo l 1, 2) else none := by
  rw [cand, if_neg (by omega), if_neg (by omega), if_pos h]
theorem cand_3 {l : List UInt8} (h0 : 224 ≤ dgt l 0) (h : dgt l 0 < 240) : cand l = if tl l 1 = true ∧ tl l 2 = true then some (4096 * ((dgt l 0 : Int) - 224) + 64 * lo l 1 + lo l 2, 3) else none := by
  rw [cand, if_neg (by omega), if_neg (by omega), if_neg (by omega), if_pos h]
theorem cand_4 {l : List UInt8} (h0 : 240 ≤ dgt l 0) (h : dgt l 0 < 248) : cand l = if tl l 1 = true ∧ tl l 2 = true ∧ tl l 3 = true then some (262144 * ((dgt l 0 : Int) - 240) + 4096 * lo l 1 + 64 * lo l 2 + lo l 3, 4) else none := by
  rw [cand, if_neg (by omega), if_neg (by omega), if_neg (by omega), if_neg (by omega), if_pos h]
theorem cand_5 {l : List UInt8} (h0 : 248 ≤ dgt l 0) : cand l = none := by
  rw [cand, if_neg (by omega), if_neg (by omega), if_neg (by omega), if_neg (by omega), if_neg (by omega)]
theorem dec_none {l : List UInt8} (h : cand l = none) : dec l = none := by simp only [dec, h]
theorem dec_cand {l : List UInt8} {c : Int} {n : Nat} (h : cand l = some (c, n)) : dec l = if isC c = true ∧ sz c = n then some (c, n) else none := by simp only [dec, h]
theorem dec_not {l : List UInt8} {c : Int} {n : Nat} (h : cand l = some (c, n)) (h2 : isC c = false) : dec l = none := by rw [dec_cand h, if_neg (by rw [h2]; simp)]
theorem dec_other {l : List UInt8} {c : Int} {n : Nat} (h : cand l = some (c, n)) (h2 : ¬ sz c = n) : dec l = none := by rw [dec_cand h, if_neg (fun x => h2 x.2)]
theorem dec_yes {l : List UInt8} {c : Int} {n : Nat} (h : cand l = some (c, n)) (h2 : isC c = true) (h3 : sz c = n) : dec l = some (c, n) := by rw [dec_cand h, if_pos ⟨h2, h3⟩]

theorem first_any (s : ByteArray) (w : World) (ht : Tabs w) (hs : s.size ≤ 9223372036854775807) (h0 : 0 < s.size) :
    Calls Tryd.prog 11 #[.string s] w fun e w' => e = .returned (firstV s.data.toList) ∧ Below w.heap.size w w' := by
  have hl := data_len s
  have e := dgt_at s
  have b0 := dgt_lt s.data.toList 0
  have b1 := dgt_lt s.data.toList 1
  have b2 := dgt_lt s.data.toList 2
  have b3 := dgt_lt s.data.toList 3
  have tn : ∀ i, ¬ (i < s.size ∧ 128 ≤ dgt s.data.toList i ∧ dgt s.data.toList i ≤ 191) → ¬ tl s.data.toList i = true := by
    intro i h h2; exact h (by rw [← hl]; exact (tl_iff _ _).1 h2)
  have ty : ∀ i, i < s.size → 128 ≤ dgt s.data.toList i → dgt s.data.toList i ≤ 191 → tl s.data.toList i = true := by
    intro i h1 h2 h3; exact (tl_iff _ _).2 ⟨by rw [hl]; exact h1, h2, h3⟩
  by_cases g4 : 240 ≤ dgt s.data.toList 0
  · have T := toldIs _ 4 b0 (if_pos g4)
    have none4 : ∀ i, (i = 1 ∨ i = 2 ∨ i = 3) → ¬ tl s.data.toList i = true → dec s.data.toList = none := by
      intro i hi h
      by_cases g5 : dgt s.data.toList 0 < 248
      · refine dec_none ?_
        rw [cand_4 g4 g5, if_neg]
        rintro ⟨h1, h2, h3⟩
        rcases hi with rfl | rfl | rfl
        · exact h h1
        · exact h h2
        · exact h h3
      · exact dec_none (cand_5 (by omega))
    by_cases z : s.size < 4
    · rw [firstV_none (none4 3 (by omega) (tn 3 (by omega)))]
      exact first_4_short s _ w ht hs h0 z T (e 0 h0) g4 b0
    by_cases x1 : dgt s.data.toList 1 < 128
    · rw [firstV_none (none4 1 (by omega) (tn 1 (by omega)))]
      exact first_4_low1 s _ _ w ht hs (by omega) T (e 0 _) (e 1 _) g4 b0 x1
    by_cases y1 : 192 ≤ dgt s.data.toList 1
    · rw [firstV_none (none4 1 (by omega) (tn 1 (by omega)))]
      exact first_4_high1 s _ _ w ht hs (by omega) T (e 0 _) (e 1 _) g4 b0 y1 b1
    by_cases x2 : dgt s.data.toList 2 < 128
    · rw [firstV_none (none4 2 (by omega) (tn 2 (by omega)))]
      exact first_4_low2 s _ _ _ w ht hs (by omega) T (e 0 _) (e 1 _) (e 2 _) g4 b0 (by omega) (by omega) x2
    by_cases y2 : 192 ≤ dgt s.data.toList 2
    · rw [firstV_none (none4 2 (by omega) (tn 2 (by omega)))]
      exact first_4_high2 s _ _ _ w ht hs (by omega) T (e 0 _) (e 1 _) (e 2 _) g4 b0 (by omega) (by omega) y2 b2
    by_cases x3 : dgt s.data.toList 3 < 128
    · rw [firstV_none (none4 3 (by omega) (tn 3 (by omega)))]
      exact first_4_low3 s _ _ _ _ w ht hs (by omega) T (e 0 _) (e 1 _) (e 2 _) (e 3 _) g4 b0 (by omega) (by omega) (by omega) (by omega) x3
    by_cases y3 : 192 ≤ dgt s.data.toList 3
    · rw [firstV_none (none4 3 (by omega) (tn 3 (by omega)))]
      exact first_4_high3 s _ _ _ _ w ht hs (by omega) T (e 0 _) (e 1 _) (e 2 _) (e 3 _) g4 b0 (by omega) (by omega) (by omega) (by omega) y3 b3
    by_cases g5 : dgt s.data.toList 0 < 248
    · have hc := cand_4 g4 g5
      rw [if_pos ⟨ty 1 (by omega) (by omega) (by omega), ty 2 (by omega) (by omega) (by omega), ty 3 (by omega) (by omega) (by omega)⟩] at hc
      have ee : 262144 * ((dgt s.data.toList 0 : Int) - 240) + 4096 * lo s.data.toList 1 + 64 * lo s.data.toList 2 + lo s.data.toList 3 = (((((dgt s.data.toList 0 : Int) - 240) * 64 + ((dgt s.data.toList 1 : Int) - 128)) * 64 + ((dgt s.data.toList 2 : Int) - 128)) * 64 + ((dgt s.data.toList 3 : Int) - 128)) := by
        simp only [lo]; omega
      rw [ee] at hc
      cases hi : isC (((((dgt s.data.toList 0 : Int) - 240) * 64 + ((dgt s.data.toList 1 : Int) - 128)) * 64 + ((dgt s.data.toList 2 : Int) - 128)) * 64 + ((dgt s.data.toList 3 : Int) - 128)) with
      | false =>
        rw [firstV_none (dec_not hc hi)]
        exact first_4_none s _ _ _ _ w ht hs (by omega) T (e 0 _) (e 1 _) (e 2 _) (e 3 _) g4 b0 (by omega) (by omega) (by omega) (by omega) (by omega) (by omega) (charIs _ _ hi)
      | true =>
        by_cases hz : sz (((((dgt s.data.toList 0 : Int) - 240) * 64 + ((dgt s.data.toList 1 : Int) - 128)) * 64 + ((dgt s.data.toList 2 : Int) - 128)) * 64 + ((dgt s.data.toList 3 : Int) - 128)) = 4
        · rw [firstV_some (dec_yes hc hi hz)]
          exact first_4_ok s _ _ _ _ w ht hs (by omega) T (e 0 _) (e 1 _) (e 2 _) (e 3 _) g4 b0 (by omega) (by omega) (by omega) (by omega) (by omega) (by omega) (charIs _ _ hi) (sizeIs _ _ hi hz)
        · rw [firstV_none (dec_other hc hz)]
          exact first_4_other s _ _ _ _ w ht hs (by omega) T (e 0 _) (e 1 _) (e 2 _) (e 3 _) g4 b0 (by omega) (by omega) (by omega) (by omega) (by omega) (by omega) (charIs _ _ hi) _ (sizeIs _ _ hi rfl) (by rw [bne_iff_ne]; omega)
    · rw [firstV_none (dec_none (cand_5 (by omega)))]
      exact first_4_none s _ _ _ _ w ht hs (by omega) T (e 0 _) (e 1 _) (e 2 _) (e 3 _) g4 b0 (by omega) (by omega) (by omega) (by omega) (by omega) (by omega) (charIs _ _ (isC_no (by omega)))
  by_cases g3 : 224 ≤ dgt s.data.toList 0
  · have T := toldIs _ 3 b0 (by rw [tld, if_neg g4, if_pos g3])
    have u0 : dgt s.data.toList 0 < 240 := by omega
    have none3 : ∀ i, (i = 1 ∨ i = 2) → ¬ tl s.data.toList i = true → dec s.data.toList = none := by
      intro i hi h
      refine dec_none ?_
      rw [cand_3 g3 u0, if_neg]
      rintro ⟨h1, h2⟩
      rcases hi with rfl | rfl
      · exact h h1
      · exact h h2
    by_cases z : s.size < 3
    · rw [firstV_none (none3 2 (by omega) (tn 2 (by omega)))]
      exact first_3_short s _ w ht hs h0 z T (e 0 h0) g3 u0
    by_cases x1 : dgt s.data.toList 1 < 128
    · rw [firstV_none (none3 1 (by omega) (tn 1 (by omega)))]
      exact first_3_low1 s _ _ w ht hs (by omega) T (e 0 _) (e 1 _) g3 u0 x1
    by_cases y1 : 192 ≤ dgt s.data.toList 1
    · rw [firstV_none (none3 1 (by omega) (tn 1 (by omega)))]
      exact first_3_high1 s _ _ w ht hs (by omega) T (e 0 _) (e 1 _) g3 u0 y1 b1
    by_cases x2 : dgt s.data.toList 2 < 128
    · rw [firstV_none (none3 2 (by omega) (tn 2 (by omega)))]
      exact first_3_low2 s _ _ _ w ht hs (by omega) T (e 0 _) (e 1 _) (e 2 _) g3 u0 (by omega) (by omega) x2
    by_cases y2 : 192 ≤ dgt s.data.toList 2
    · rw [firstV_none (none3 2 (by omega) (tn 2 (by omega)))]
      exact first_3_high2 s _ _ _ w ht hs (by omega) T (e 0 _) (e 1 _) (e 2 _) g3 u0 (by omega) (by omega) y2 b2
    have hc := cand_3 g3 u0
    rw [if_pos ⟨ty 1 (by omega) (by omega) (by omega), ty 2 (by omega) (by omega) (by omega)⟩] at hc
    have ee : 4096 * ((dgt s.data.toList 0 : Int) - 224) + 64 * lo s.data.toList 1 + lo s.data.toList 2 = ((((dgt s.data.toList 0 : Int) - 224) * 64 + ((dgt s.data.toList 1 : Int) - 128)) * 64 + ((dgt s.data.toList 2 : Int) - 128)) := by
      simp only [lo]; omega
    rw [ee] at hc
    cases hi : isC ((((dgt s.data.toList 0 : Int) - 224) * 64 + ((dgt s.data.toList 1 : Int) - 128)) * 64 + ((dgt s.data.toList 2 : Int) - 128)) with
    | false =>
      rw [firstV_none (dec_not hc hi)]
      exact first_3_none s _ _ _ w ht hs (by omega) T (e 0 _) (e 1 _) (e 2 _) g3 u0 (by omega) (by omega) (by omega) (by omega) (charIs _ _ hi)
    | true =>
      by_cases hz : sz ((((dgt s.data.toList 0 : Int) - 224) * 64 + ((dgt s.data.toList 1 : Int) - 128)) * 64 + ((dgt s.data.toList 2 : Int) - 128)) = 3
      · rw [firstV_some (dec_yes hc hi hz)]
        exact first_3_ok s _ _ _ w ht hs (by omega) T (e 0 _) (e 1 _) (e 2 _) g3 u0 (by omega) (by omega) (by omega) (by omega) (charIs _ _ hi) (sizeIs _ _ hi hz)
      · rw [firstV_none (dec_other hc hz)]
        exact first_3_other s _ _ _ w ht hs (by omega) T (e 0 _) (e 1 _) (e 2 _) g3 u0 (by omega) (by omega) (by omega) (by omega) (charIs _ _ hi) _ (sizeIs _ _ hi rfl) (by rw [bne_iff_ne]; omega)
  by_cases g2 : 192 ≤ dgt s.data.toList 0
  · have T := toldIs _ 2 b0 (by rw [tld, if_neg g4, if_neg g3, if_pos g2])
    have u0 : dgt s.data.toList 0 < 224 := by omega
    have none2 : ¬ tl s.data.toList 1 = true → dec s.data.toList = none := by
      intro h
      exact dec_none (by rw [cand_2 g2 u0, if_neg h])
    by_cases z : s.size < 2
    · rw [firstV_none (none2 (tn 1 (by omega)))]
      exact first_2_short s _ w ht hs h0 z T (e 0 h0) g2 u0
    by_cases x1 : dgt s.data.toList 1 < 128
    · rw [firstV_none (none2 (tn 1 (by omega)))]
      exact first_2_low1 s _ _ w ht hs (by omega) T (e 0 _) (e 1 _) g2 u0 x1
    by_cases y1 : 192 ≤ dgt s.data.toList 1
    · rw [firstV_none (none2 (tn 1 (by omega)))]
      exact first_2_high1 s _ _ w ht hs (by omega) T (e 0 _) (e 1 _) g2 u0 y1 b1
    have hc := cand_2 g2 u0
    rw [if_pos (ty 1 (by omega) (by omega) (by omega))] at hc
    have ee : 64 * ((dgt s.data.toList 0 : Int) - 192) + lo s.data.toList 1 = (((dgt s.data.toList 0 : Int) - 192) * 64 + ((dgt s.data.toList 1 : Int) - 128)) := by
      simp only [lo]; omega
    rw [ee] at hc
    cases hi : isC (((dgt s.data.toList 0 : Int) - 192) * 64 + ((dgt s.data.toList 1 : Int) - 128)) with
    | false =>
      rw [firstV_none (dec_not hc hi)]
      exact first_2_none s _ _ w ht hs (by omega) T (e 0 _) (e 1 _) g2 u0 (by omega) (by omega) (charIs _ _ hi)
    | true =>
      by_cases hz : sz (((dgt s.data.toList 0 : Int) - 192) * 64 + ((dgt s.data.toList 1 : Int) - 128)) = 2
      · rw [firstV_some (dec_yes hc hi hz)]
        exact first_2_ok s _ _ w ht hs (by omega) T (e 0 _) (e 1 _) g2 u0 (by omega) (by omega) (charIs _ _ hi) (sizeIs _ _ hi hz)
      · rw [firstV_none (dec_other hc hz)]
        exact first_2_other s _ _ w ht hs (by omega) T (e 0 _) (e 1 _) g2 u0 (by omega) (by omega) (charIs _ _ hi) _ (sizeIs _ _ hi rfl) (by rw [bne_iff_ne]; omega)
  · have T := toldIs _ 1 b0 (by rw [tld, if_neg g4, if_neg g3, if_neg g2])
    have u0 : dgt s.data.toList 0 < 192 := by omega
    have hi : isC (dgt s.data.toList 0 : Int) = true := isC_mk (by omega)
    by_cases g1 : dgt s.data.toList 0 < 128
    · have hz : sz (dgt s.data.toList 0 : Int) = 1 := sz_1 (by omega)
      rw [firstV_some (dec_yes (cand_1 g1) hi hz)]
      exact first_1_ok s _ w ht hs h0 T (e 0 _) u0 (charIs _ _ hi) (sizeIs _ _ hi hz)
    · rw [firstV_none (dec_none (cand_0 (by omega) u0))]
      have hz : sz (dgt s.data.toList 0 : Int) = 2 := sz_2 (by omega) (by omega)
      exact first_1_other s _ w ht hs h0 T (e 0 _) u0 (charIs _ _ hi) _ (sizeIs _ _ hi hz) (by decide)
end Go.Proofs.YtekkgmgdihlefabDoor
