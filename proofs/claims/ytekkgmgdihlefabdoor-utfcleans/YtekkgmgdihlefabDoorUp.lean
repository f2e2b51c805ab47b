/-
  Plain laws on characters and their bytes: which numbers are characters, their bytes, and the character with which bytes begin. No Go in sight.
-/
import Derived.Test.YtekkgmgdihlefabDoorBase
namespace Go.Proofs.YtekkgmgdihlefabDoor
set_option linter.unusedVariables false

def isC (c : Int) : Bool := decide (0 ≤ c ∧ c ≤ 1114111 ∧ (c < 55296 ∨ 57343 < c))
theorem isC_true {c : Int} (h : isC c = true) : 0 ≤ c ∧ c ≤ 1114111 ∧ (c < 55296 ∨ 57343 < c) := by simpa [isC] using h
theorem isC_mk {c : Int} (h : 0 ≤ c ∧ c ≤ 1114111 ∧ (c < 55296 ∨ 57343 < c)) : isC c = true := by simpa [isC] using h
theorem isC_no {c : Int} (h : ¬ (0 ≤ c ∧ c ≤ 1114111 ∧ (c < 55296 ∨ 57343 < c))) : isC c = false := by simpa [isC] using h
theorem isC_false {c : Int} (h : isC c = false) : ¬ (0 ≤ c ∧ c ≤ 1114111 ∧ (c < 55296 ∨ 57343 < c)) := by simpa [isC] using h

def sz (c : Int) : Nat := if c < 128 then 1 else if c < 2048 then 2 else if c < 65536 then 3 else 4
def ubI (c : Int) : List Int :=
  if c < 128 then [c] else if c < 2048 then [192 + c / 64, 128 + c % 64] else if c < 65536 then [224 + c / 4096, 128 + c / 64 % 64, 128 + c % 64]
  else [240 + c / 262144, 128 + c / 4096 % 64, 128 + c / 64 % 64, 128 + c % 64]
def ub (c : Int) : List UInt8 := (ubI c).map byt
theorem ubI_1 {c : Int} (h : c < 128) : ubI c = [c] := by simp [ubI, h]
theorem ubI_2 {c : Int} (h0 : 128 ≤ c) (h : c < 2048) : ubI c = [192 + c / 64, 128 + c % 64] := by
  have : ¬ c < 128 := by omega
  simp [ubI, h, this]
theorem ubI_3 {c : Int} (h0 : 2048 ≤ c) (h : c < 65536) : ubI c = [224 + c / 4096, 128 + c / 64 % 64, 128 + c % 64] := by
  have h1 : ¬ c < 128 := by omega
  have h2 : ¬ c < 2048 := by omega
  simp [ubI, h, h1, h2]
theorem ubI_4 {c : Int} (h0 : 65536 ≤ c) : ubI c = [240 + c / 262144, 128 + c / 4096 % 64, 128 + c / 64 % 64, 128 + c % 64] := by
  have h1 : ¬ c < 128 := by omega
  have h2 : ¬ c < 2048 := by omega
  have h3 : ¬ c < 65536 := by omega
  simp [ubI, h1, h2, h3]
theorem sz_1 {c : Int} (h : c < 128) : sz c = 1 := by simp [sz, h]
theorem sz_2 {c : Int} (h0 : 128 ≤ c) (h : c < 2048) : sz c = 2 := by
  have : ¬ c < 128 := by omega
  simp [sz, h, this]
theorem sz_3 {c : Int} (h0 : 2048 ≤ c) (h : c < 65536) : sz c = 3 := by
  have h1 : ¬ c < 128 := by omega
  have h2 : ¬ c < 2048 := by omega
  simp [sz, h, h1, h2]
theorem sz_4 {c : Int} (h0 : 65536 ≤ c) : sz c = 4 := by
  have h1 : ¬ c < 128 := by omega
  have h2 : ¬ c < 2048 := by omega
  have h3 : ¬ c < 65536 := by omega
  simp [sz, h1, h2, h3]
theorem sz_cases (c : Int) : (c < 128 ∧ sz c = 1) ∨ (128 ≤ c ∧ c < 2048 ∧ sz c = 2) ∨ (2048 ≤ c ∧ c < 65536 ∧ sz c = 3) ∨ (65536 ≤ c ∧ sz c = 4) := by
  by_cases h1 : c < 128
  · exact .inl ⟨h1, sz_1 h1⟩
  by_cases h2 : c < 2048
  · exact .inr (.inl ⟨by omega, h2, sz_2 (by omega) h2⟩)
  by_cases h3 : c < 65536
  · exact .inr (.inr (.inl ⟨by omega, h3, sz_3 (by omega) h3⟩))
  · exact .inr (.inr (.inr ⟨by omega, sz_4 (by omega)⟩))
theorem ubI_len (c : Int) : (ubI c).length = sz c := by
  rcases sz_cases c with ⟨h, e⟩ | ⟨h0, h, e⟩ | ⟨h0, h, e⟩ | ⟨h, e⟩
  · rw [ubI_1 h, e]; rfl
  · rw [ubI_2 h0 h, e]; rfl
  · rw [ubI_3 h0 h, e]; rfl
  · rw [ubI_4 h, e]; rfl
theorem ub_len (c : Int) : (ub c).length = sz c := by rw [ub, List.length_map, ubI_len]
theorem sz_le (c : Int) : 1 ≤ sz c ∧ sz c ≤ 4 := by
  rcases sz_cases c with ⟨h, e⟩ | ⟨h0, h, e⟩ | ⟨h0, h, e⟩ | ⟨h, e⟩ <;> omega

/-- Whether a byte that goes on stands at a place. -/
def tl (l : List UInt8) (i : Nat) : Bool := decide (i < l.length ∧ 128 ≤ dgt l i ∧ dgt l i ≤ 191)
theorem tl_iff (l : List UInt8) (i : Nat) : tl l i = true ↔ i < l.length ∧ 128 ≤ dgt l i ∧ dgt l i ≤ 191 := by simp [tl]
theorem tl_no (l : List UInt8) (i : Nat) : tl l i = false ↔ ¬ (i < l.length ∧ 128 ≤ dgt l i ∧ dgt l i ≤ 191) := by
  rw [← tl_iff]; simp
def lo (l : List UInt8) (i : Nat) : Int := (dgt l i : Int) - 128
/-- The number that the bytes tell, and of how many bytes it is told. -/
def cand (l : List UInt8) : Option (Int × Nat) :=
  if dgt l 0 < 128 then some ((dgt l 0 : Int), 1)
  else if dgt l 0 < 192 then none
  else if dgt l 0 < 224 then if tl l 1 = true then some (64 * ((dgt l 0 : Int) - 192) + lo l 1, 2) else none
  else if dgt l 0 < 240 then if tl l 1 = true ∧ tl l 2 = true then some (4096 * ((dgt l 0 : Int) - 224) + 64 * lo l 1 + lo l 2, 3) else none
  else if dgt l 0 < 248 then if tl l 1 = true ∧ tl l 2 = true ∧ tl l 3 = true then some (262144 * ((dgt l 0 : Int) - 240) + 4096 * lo l 1 + 64 * lo l 2 + lo l 3, 4) else none
  else none
/-- The character with which bytes begin, and how many they are. -/
def dec (l : List UInt8) : Option (Int × Nat) :=
  match cand l with
  | none => none
  | some (c, n) => if isC c = true ∧ sz c = n then some (c, n) else none

theorem dgt_cons (c : UInt8) (l : List UInt8) : dgt (c :: l) 0 = c.toNat := rfl
theorem dgt_succ (c : UInt8) (l : List UInt8) (k : Nat) : dgt (c :: l) (k + 1) = dgt l k := rfl
theorem byt_n (x : Int) (h0 : 0 ≤ x) (h1 : x < 256) : (byt x).toNat = x.toNat := by
  have := byt_toNat x h0 h1; omega

theorem cand_ub (c : Int) (b : List UInt8) (h0 : 0 ≤ c) (h1 : c ≤ 1114111) : cand (ub c ++ b) = some (c, sz c) := by
  rcases sz_cases c with ⟨h, e⟩ | ⟨hl, h, e⟩ | ⟨hl, h, e⟩ | ⟨h, e⟩
  · rw [e, ub, ubI_1 h]
    simp only [List.map_cons, List.map_nil, List.cons_append, List.nil_append]
    have d0 : dgt (byt c :: b) 0 = c.toNat := byt_n c h0 (by omega)
    rw [cand, d0, if_pos (by omega)]
    congr 2; omega
  · rw [e, ub, ubI_2 hl h]
    simp only [List.map_cons, List.map_nil, List.cons_append, List.nil_append]
    have d0 : dgt (byt (192 + c / 64) :: byt (128 + c % 64) :: b) 0 = (192 + c / 64).toNat := byt_n _ (by omega) (by omega)
    have d1 : dgt (byt (192 + c / 64) :: byt (128 + c % 64) :: b) 1 = (128 + c % 64).toNat := byt_n _ (by omega) (by omega)
    have t1 : tl (byt (192 + c / 64) :: byt (128 + c % 64) :: b) 1 = true := by rw [tl_iff, d1]; simp; omega
    rw [cand, d0, if_neg (by omega), if_neg (by omega), if_pos (by omega), if_pos t1, lo, d1]
    congr 2; omega
  · rw [e, ub, ubI_3 hl h]
    simp only [List.map_cons, List.map_nil, List.cons_append, List.nil_append]
    have d0 : dgt (byt (224 + c / 4096) :: byt (128 + c / 64 % 64) :: byt (128 + c % 64) :: b) 0 = (224 + c / 4096).toNat := byt_n _ (by omega) (by omega)
    have d1 : dgt (byt (224 + c / 4096) :: byt (128 + c / 64 % 64) :: byt (128 + c % 64) :: b) 1 = (128 + c / 64 % 64).toNat := byt_n _ (by omega) (by omega)
    have d2 : dgt (byt (224 + c / 4096) :: byt (128 + c / 64 % 64) :: byt (128 + c % 64) :: b) 2 = (128 + c % 64).toNat := byt_n _ (by omega) (by omega)
    have t1 : tl (byt (224 + c / 4096) :: byt (128 + c / 64 % 64) :: byt (128 + c % 64) :: b) 1 = true := by rw [tl_iff, d1]; simp; omega
    have t2 : tl (byt (224 + c / 4096) :: byt (128 + c / 64 % 64) :: byt (128 + c % 64) :: b) 2 = true := by rw [tl_iff, d2]; simp; omega
    rw [cand, d0, if_neg (by omega), if_neg (by omega), if_neg (by omega), if_pos (by omega), if_pos ⟨t1, t2⟩, lo, lo, d1, d2]
    congr 2; omega
  · rw [e, ub, ubI_4 h]
    simp only [List.map_cons, List.map_nil, List.cons_append, List.nil_append]
    have d0 : dgt (byt (240 + c / 262144) :: byt (128 + c / 4096 % 64) :: byt (128 + c / 64 % 64) :: byt (128 + c % 64) :: b) 0 = (240 + c / 262144).toNat := byt_n _ (by omega) (by omega)
    have d1 : dgt (byt (240 + c / 262144) :: byt (128 + c / 4096 % 64) :: byt (128 + c / 64 % 64) :: byt (128 + c % 64) :: b) 1 = (128 + c / 4096 % 64).toNat := byt_n _ (by omega) (by omega)
    have d2 : dgt (byt (240 + c / 262144) :: byt (128 + c / 4096 % 64) :: byt (128 + c / 64 % 64) :: byt (128 + c % 64) :: b) 2 = (128 + c / 64 % 64).toNat := byt_n _ (by omega) (by omega)
    have d3 : dgt (byt (240 + c / 262144) :: byt (128 + c / 4096 % 64) :: byt (128 + c / 64 % 64) :: byt (128 + c % 64) :: b) 3 = (128 + c % 64).toNat := byt_n _ (by omega) (by omega)
    have t1 : tl (byt (240 + c / 262144) :: byt (128 + c / 4096 % 64) :: byt (128 + c / 64 % 64) :: byt (128 + c % 64) :: b) 1 = true := by rw [tl_iff, d1]; simp; omega
    have t2 : tl (byt (240 + c / 262144) :: byt (128 + c / 4096 % 64) :: byt (128 + c / 64 % 64) :: byt (128 + c % 64) :: b) 2 = true := by rw [tl_iff, d2]; simp; omega
    have t3 : tl (byt (240 + c / 262144) :: byt (128 + c / 4096 % 64) :: byt (128 + c / 64 % 64) :: byt (128 + c % 64) :: b) 3 = true := by rw [tl_iff, d3]; simp; omega
    rw [cand, d0, if_neg (by omega), if_neg (by omega), if_neg (by omega), if_neg (by omega), if_pos (by omega), if_pos ⟨t1, t2, t3⟩, lo, lo, lo, d1, d2, d3]
    congr 2; omega

theorem dec_ub (c : Int) (b : List UInt8) (h : isC c = true) : dec (ub c ++ b) = some (c, sz c) := by
  have := isC_true h
  rw [dec, cand_ub c b (by omega) (by omega)]
  simp [h]

theorem take_ext (l m : List UInt8) (n : Nat) (hm : m.length = n) (hn : n ≤ l.length) (h : ∀ i, i < n → dgt l i = dgt m i) : l.take n = m := by
  apply List.ext_getElem (by simp; omega)
  intro i h1 h2
  have hi : i < n := by omega
  have := h i hi
  unfold dgt at this
  rw [List.getD, List.getD, List.getElem?_eq_getElem (by omega), List.getElem?_eq_getElem h2] at this
  rw [List.getElem_take]
  exact UInt8.toNat.inj this

theorem dec_some {l : List UInt8} {c : Int} {n : Nat} (hl : l ≠ []) (h : dec l = some (c, n)) : isC c = true ∧ sz c = n ∧ n ≤ l.length ∧ l.take n = ub c := by
  have hpos : 0 < l.length := List.length_pos_iff.2 hl
  have b0 := dgt_lt l 0
  have b1 := dgt_lt l 1
  have b2 := dgt_lt l 2
  have b3 := dgt_lt l 3
  unfold dec at h
  cases hc : cand l with
  | none => rw [hc] at h; cases h
  | some x =>
    obtain ⟨c', n'⟩ := x
    rw [hc] at h
    by_cases hx : isC c' = true ∧ sz c' = n'
    · simp only [hx, and_self, if_true, Option.some.injEq, Prod.mk.injEq] at h
      obtain ⟨rfl, rfl⟩ := h
      refine ⟨hx.1, hx.2, ?_⟩
      have hr := isC_true hx.1
      have hs := hx.2
      unfold cand at hc
      by_cases g1 : dgt l 0 < 128
      · rw [if_pos g1] at hc
        simp only [Option.some.injEq, Prod.mk.injEq] at hc
        obtain ⟨e1, e2⟩ := hc
        rw [← e2] at hs ⊢
        refine ⟨by omega, take_ext _ _ _ (by rw [ub_len]; omega) (by omega) (fun i hi => ?_)⟩
        have : i = 0 := by omega
        subst this
        rw [ub, ubI_1 (by omega), ← e1]
        simp only [List.map_cons, List.map_nil, dgt_cons]
        exact (byt_nat _ (by omega)).symm
      rw [if_neg g1] at hc
      by_cases g2 : dgt l 0 < 192
      · rw [if_pos g2] at hc; cases hc
      rw [if_neg g2] at hc
      by_cases g3 : dgt l 0 < 224
      · rw [if_pos g3] at hc
        by_cases t1 : tl l 1 = true
        · rw [if_pos t1] at hc
          have q1 := (tl_iff _ _).1 t1
          simp only [Option.some.injEq, Prod.mk.injEq, lo] at hc
          obtain ⟨e1, e2⟩ := hc
          rw [← e2] at hs ⊢
          refine ⟨by omega, take_ext _ _ _ (by rw [ub_len]; omega) (by omega) (fun i hi => ?_)⟩
          have hz := sz_cases c'
          rw [ub, ubI_2 (by omega) (by omega)]
          have : i = 0 ∨ i = 1 := by omega
          rcases this with rfl | rfl
          · simp only [List.map_cons, dgt_cons]
            rw [byt_n _ (by omega) (by omega)]; omega
          · simp only [List.map_cons, dgt_succ, dgt_cons]
            rw [byt_n _ (by omega) (by omega)]; omega
        · rw [if_neg t1] at hc; cases hc
      rw [if_neg g3] at hc
      by_cases g4 : dgt l 0 < 240
      · rw [if_pos g4] at hc
        by_cases t1 : tl l 1 = true ∧ tl l 2 = true
        · rw [if_pos t1] at hc
          have q1 := (tl_iff _ _).1 t1.1
          have q2 := (tl_iff _ _).1 t1.2
          simp only [Option.some.injEq, Prod.mk.injEq, lo] at hc
          obtain ⟨e1, e2⟩ := hc
          rw [← e2] at hs ⊢
          refine ⟨by omega, take_ext _ _ _ (by rw [ub_len]; omega) (by omega) (fun i hi => ?_)⟩
          have hz := sz_cases c'
          rw [ub, ubI_3 (by omega) (by omega)]
          have : i = 0 ∨ i = 1 ∨ i = 2 := by omega
          rcases this with rfl | rfl | rfl
          · simp only [List.map_cons, dgt_cons]
            rw [byt_n _ (by omega) (by omega)]; omega
          · simp only [List.map_cons, dgt_succ, dgt_cons]
            rw [byt_n _ (by omega) (by omega)]; omega
          · simp only [List.map_cons, dgt_succ, dgt_cons]
            rw [byt_n _ (by omega) (by omega)]; omega
        · rw [if_neg t1] at hc; cases hc
      rw [if_neg g4] at hc
      by_cases g5 : dgt l 0 < 248
      · rw [if_pos g5] at hc
        by_cases t1 : tl l 1 = true ∧ tl l 2 = true ∧ tl l 3 = true
        · rw [if_pos t1] at hc
          have q1 := (tl_iff _ _).1 t1.1
          have q2 := (tl_iff _ _).1 t1.2.1
          have q3 := (tl_iff _ _).1 t1.2.2
          simp only [Option.some.injEq, Prod.mk.injEq, lo] at hc
          obtain ⟨e1, e2⟩ := hc
          rw [← e2] at hs ⊢
          refine ⟨by omega, take_ext _ _ _ (by rw [ub_len]; omega) (by omega) (fun i hi => ?_)⟩
          have hz := sz_cases c'
          rw [ub, ubI_4 (by omega)]
          have : i = 0 ∨ i = 1 ∨ i = 2 ∨ i = 3 := by omega
          rcases this with rfl | rfl | rfl | rfl
          · simp only [List.map_cons, dgt_cons]
            rw [byt_n _ (by omega) (by omega)]; omega
          · simp only [List.map_cons, dgt_succ, dgt_cons]
            rw [byt_n _ (by omega) (by omega)]; omega
          · simp only [List.map_cons, dgt_succ, dgt_cons]
            rw [byt_n _ (by omega) (by omega)]; omega
          · simp only [List.map_cons, dgt_succ, dgt_cons]
            rw [byt_n _ (by omega) (by omega)]; omega
        · rw [if_neg t1] at hc; cases hc
      · rw [if_neg g5] at hc; cases hc
    · simp only [hx, if_false] at h; cases h

/-- What the reference asks of the bytes is what 'dec' asks. -/
theorem dec_of_cand {l : List UInt8} {c : Int} {n : Nat} (hl : l ≠ []) (h : cand l = some (c, n)) (hc : isC c = true) : sz c = n ↔ (sz c ≤ l.length ∧ l.take (sz c) = ub c) := by
  constructor
  · intro e
    have hd : dec l = some (c, n) := by rw [dec, h]; simp [hc, e]
    have := dec_some hl hd
    rw [e]; exact ⟨this.2.2.1, this.2.2.2⟩
  · rintro ⟨h1, h2⟩
    have hr := isC_true hc
    have e := cand_ub c (l.drop (sz c)) (by omega) (by omega)
    rw [← h2, List.take_append_drop, h] at e
    simp only [Option.some.injEq, Prod.mk.injEq, true_and] at e
    exact e.symm
end Go.Proofs.YtekkgmgdihlefabDoor
