/-
  Several texts in one: what the functions of the program and of the document's answer do.
-/
import Derived.Test.YtbabmkilbbbmoaaDoorMgAA

/-
  Plain laws on characters and their bytes, on the characters of a text, and on what is cleaned. No Go in sight.
-/
namespace Go.Proofs.YtbabmkilbbbmoaaDoor
set_option linter.unusedVariables false

def isC (c : Int) : Bool := decide (0 ≤ c ∧ c ≤ 1114111 ∧ (c < 55296 ∨ 57343 < c))
theorem isC_true {c : Int} (h : isC c = true) : 0 ≤ c ∧ c ≤ 1114111 ∧ (c < 55296 ∨ 57343 < c) := by simpa [isC] using h
theorem isC_mk {c : Int} (h : 0 ≤ c ∧ c ≤ 1114111 ∧ (c < 55296 ∨ 57343 < c)) : isC c = true := by simpa [isC] using h
theorem isC_no {c : Int} (h : ¬ (0 ≤ c ∧ c ≤ 1114111 ∧ (c < 55296 ∨ 57343 < c))) : isC c = false := by simpa [isC] using h
theorem isC_false {c : Int} (h : isC c = false) : ¬ (0 ≤ c ∧ c ≤ 1114111 ∧ (c < 55296 ∨ 57343 < c)) := by simpa [isC] using h

def sz (c : Int) : Nat := if c < 128 then 1 else if c < 2048 then 2 else if c < 65536 then 3 else 4
def ubI (c : Int) : List Int :=
  if c < 128 then [c] else if c < 2048 then [192 + c / 64, 128 + c % 64] else if c < 65536 then [224 + c / 4096, 128 + c / 64 % 64, 128 + c % 64]
  else [240 + c / 262144, 128 + c / 4096 % 64, 128 + c / 64 % 64, 128 + c % 64]
def ub (c : Int) : List UInt8 := (ubI c).map byt
theorem ubI_1 {c : Int} (h : c < 128) : ubI c = [c] := by simp [ubI, h]
theorem ubI_2 {c : Int} (h0 : 128 ≤ c) (h : c < 2048) : ubI c = [192 + c / 64, 128 + c % 64] := by
  have : ¬ c < 128 := by omega
  simp [ubI, h, this]
theorem ubI_3 {c : Int} (h0 : 2048 ≤ c) (h : c < 65536) : ubI c = [224 + c / 4096, 128 + c / 64 % 64, 128 + c % 64] := by
  have h1 : ¬ c < 128 := by omega
  have h2 : ¬ c < 2048 := by omega
  simp [ubI, h, h1, h2]
theorem ubI_4 {c : Int} (h0 : 65536 ≤ c) : ubI c = [240 + c / 262144, 128 + c / 4096 % 64, 128 + c / 64 % 64, 128 + c % 64] := by
  have h1 : ¬ c < 128 := by omega
  have h2 : ¬ c < 2048 := by omega
  have h3 : ¬ c < 65536 := by omega
  simp [ubI, h1, h2, h3]
theorem sz_1 {c : Int} (h : c < 128) : sz c = 1 := by simp [sz, h]
theorem sz_2 {c : Int} (h0 : 128 ≤ c) (h : c < 2048) : sz c = 2 := by
  have : ¬ c < 128 := by omega
  simp [sz, h, this]
theorem sz_3 {c : Int} (h0 : 2048 ≤ c) (h : c < 65536) : sz c = 3 := by
  have h1 : ¬ c < 128 := by omega
  have h2 : ¬ c < 2048 := by omega
  simp [sz, h, h1, h2]
theorem sz_4 {c : Int} (h0 : 65536 ≤ c) : sz c = 4 := by
  have h1 : ¬ c < 128 := by omega
  have h2 : ¬ c < 2048 := by omega
  have h3 : ¬ c < 65536 := by omega
  simp [sz, h1, h2, h3]
theorem sz_cases (c : Int) : (c < 128 ∧ sz c = 1) ∨ (128 ≤ c ∧ c < 2048 ∧ sz c = 2) ∨ (2048 ≤ c ∧ c < 65536 ∧ sz c = 3) ∨ (65536 ≤ c ∧ sz c = 4) := by
  by_cases h1 : c < 128
  · exact .inl ⟨h1, sz_1 h1⟩
  by_cases h2 : c < 2048
  · exact .inr (.inl ⟨by omega, h2, sz_2 (by omega) h2⟩)
  by_cases h3 : c < 65536
  · exact .inr (.inr (.inl ⟨by omega, h3, sz_3 (by omega) h3⟩))
  · exact .inr (.inr (.inr ⟨by omega, sz_4 (by omega)⟩))
theorem ubI_len (c : Int) : (ubI c).length = sz c := by
  rcases sz_cases c with ⟨h, e⟩ | ⟨h0, h, e⟩ | ⟨h0, h, e⟩ | ⟨h, e⟩
  · rw [ubI_1 h, e]; rfl
  · rw [ubI_2 h0 h, e]; rfl
  · rw [ubI_3 h0 h, e]; rfl
  · rw [ubI_4 h, e]; rfl
theorem ub_len (c : Int) : (ub c).length = sz c := by rw [ub, List.length_map, ubI_len]
theorem sz_le (c : Int) : 1 ≤ sz c ∧ sz c ≤ 4 := by
  rcases sz_cases c with ⟨h, e⟩ | ⟨h0, h, e⟩ | ⟨h0, h, e⟩ | ⟨h, e⟩ <;> omega

/-- Whether a byte that goes on stands at a place. -/
def tl (l : List UInt8) (i : Nat) : Bool := decide (i < l.length ∧ 128 ≤ dgt l i ∧ dgt l i ≤ 191)
theorem tl_iff (l : List UInt8) (i : Nat) : tl l i = true ↔ i < l.length ∧ 128 ≤ dgt l i ∧ dgt l i ≤ 191 := by simp [tl]
theorem tl_no (l : List UInt8) (i : Nat) : tl l i = false ↔ ¬ (i < l.length ∧ 128 ≤ dgt l i ∧ dgt l i ≤ 191) := by
  rw [← tl_iff]; simp
def lo (l : List UInt8) (i : Nat) : Int := (dgt l i : Int) - 128
/-- The number that the bytes tell, and of how many bytes it is told. -/
def cand (l : List UInt8) : Option (Int × Nat) :=
  if dgt l 0 < 128 then some ((dgt l 0 : Int), 1)
  else if dgt l 0 < 192 then none
  else if dgt l 0 < 224 then if tl l 1 = true then some (64 * ((dgt l 0 : Int) - 192) + lo l 1, 2) else none
  else if dgt l 0 < 240 then if tl l 1 = true ∧ tl l 2 = true then some (4096 * ((dgt l 0 : Int) - 224) + 64 * lo l 1 + lo l 2, 3) else none
  else if dgt l 0 < 248 then if tl l 1 = true ∧ tl l 2 = true ∧ tl l 3 = true then some (262144 * ((dgt l 0 : Int) - 240) + 4096 * lo l 1 + 64 * lo l 2 + lo l 3, 4) else none
  else none
/-- The character with which bytes begin, and how many they are. -/
def dec (l : List UInt8) : Option (Int × Nat) :=
  match cand l with
  | none => none
  | some (c, n) => if isC c = true ∧ sz c = n then some (c, n) else none

theorem dgt_cons (c : UInt8) (l : List UInt8) : dgt (c :: l) 0 = c.toNat := rfl
theorem dgt_succ (c : UInt8) (l : List UInt8) (k : Nat) : dgt (c :: l) (k + 1) = dgt l k := rfl
theorem byt_n (x : Int) (h0 : 0 ≤ x) (h1 : x < 256) : (byt x).toNat = x.toNat := by
  have := byt_toNat x h0 h1; omega

theorem cand_ub (c : Int) (b : List UInt8) (h0 : 0 ≤ c) (h1 : c ≤ 1114111) : cand (ub c ++ b) = some (c, sz c) := by
  rcases sz_cases c with ⟨h, e⟩ | ⟨hl, h, e⟩ | ⟨hl, h, e⟩ | ⟨h, e⟩
  · rw [e, ub, ubI_1 h]
    simp only [List.map_cons, List.map_nil, List.cons_append, List.nil_append]
    have d0 : dgt (byt c :: b) 0 = c.toNat := byt_n c h0 (by omega)
    rw [cand, d0, if_pos (by omega)]
    congr 2; omega
  · rw [e, ub, ubI_2 hl h]
    simp only [List.map_cons, List.map_nil, List.cons_append, List.nil_append]
    have d0 : dgt (byt (192 + c / 64) :: byt (128 + c % 64) :: b) 0 = (192 + c / 64).toNat := byt_n _ (by omega) (by omega)
    have d1 : dgt (byt (192 + c / 64) :: byt (128 + c % 64) :: b) 1 = (128 + c % 64).toNat := byt_n _ (by omega) (by omega)
    have t1 : tl (byt (192 + c / 64) :: byt (128 + c % 64) :: b) 1 = true := by rw [tl_iff, d1]; simp; omega
    rw [cand, d0, if_neg (by omega), if_neg (by omega), if_pos (by omega), if_pos t1, lo, d1]
    congr 2; omega
  · rw [e, ub, ubI_3 hl h]
    simp only [List.map_cons, List.map_nil, List.cons_append, List.nil_append]
    have d0 : dgt (byt (224 + c / 4096) :: byt (128 + c / 64 % 64) :: byt (128 + c % 64) :: b) 0 = (224 + c / 4096).toNat := byt_n _ (by omega) (by omega)
    have d1 : dgt (byt (224 + c / 4096) :: byt (128 + c / 64 % 64) :: byt (128 + c % 64) :: b) 1 = (128 + c / 64 % 64).toNat := byt_n _ (by omega) (by omega)
    have d2 : dgt (byt (224 + c / 4096) :: byt (128 + c / 64 % 64) :: byt (128 + c % 64) :: b) 2 = (128 + c % 64).toNat := byt_n _ (by omega) (by omega)
    have t1 : tl (byt (224 + c / 4096) :: byt (128 + c / 64 % 64) :: byt (128 + c % 64) :: b) 1 = true := by rw [tl_iff, d1]; simp; omega
    have t2 : tl (byt (224 + c / 4096) :: byt (128 + c / 64 % 64) :: byt (128 + c % 64) :: b) 2 = true := by rw [tl_iff, d2]; simp; omega
    rw [cand, d0, if_neg (by omega), if_neg (by omega), if_neg (by omega), if_pos (by omega), if_pos ⟨t1, t2⟩, lo, lo, d1, d2]
    congr 2; omega
  · rw [e, ub, ubI_4 h]
    simp only [List.map_cons, List.map_nil, List.cons_append, List.nil_append]
    have d0 : dgt (byt (240 + c / 262144) :: byt (128 + c / 4096 % 64) :: byt (128 + c / 64 % 64) :: byt (128 + c % 64) :: b) 0 = (240 + c / 262144).toNat := byt_n _ (by omega) (by omega)
    have d1 : dgt (byt (240 + c / 262144) :: byt (128 + c / 4096 % 64) :: byt (128 + c / 64 % 64) :: byt (128 + c % 64) :: b) 1 = (128 + c / 4096 % 64).toNat := byt_n _ (by omega) (by omega)
    have d2 : dgt (byt (240 + c / 262144) :: byt (128 + c / 4096 % 64) :: byt (128 + c / 64 % 64) :: byt (128 + c % 64) :: b) 2 = (128 + c / 64 % 64).toNat := byt_n _ (by omega) (by omega)
    have d3 : dgt (byt (240 + c / 262144) :: byt (128 + c / 4096 % 64) :: byt (128 + c / 64 % 64) :: byt (128 + c % 64) :: b) 3 = (128 + c % 64).toNat := byt_n _ (by omega) (by omega)
    have t1 : tl (byt (240 + c / 262144) :: byt (128 + c / 4096 % 64) :: byt (128 + c / 64 % 64) :: byt (128 + c % 64) :: b) 1 = true := by rw [tl_iff, d1]; simp; omega
    have t2 : tl (byt (240 + c / 262144) :: byt (128 + c / 4096 % 64) :: byt (128 + c / 64 % 64) :: byt (128 + c % 64) :: b) 2 = true := by rw [tl_iff, d2]; simp; omega
    have t3 : tl (byt (240 + c / 262144) :: byt (128 + c / 4096 % 64) :: byt (128 + c / 64 % 64) :: byt (128 + c % 64) :: b) 3 = true := by rw [tl_iff, d3]; simp; omega
    rw [cand, d0, if_neg (by omega), if_neg (by omega), if_neg (by omega), if_neg (by omega), if_pos (by omega), if_pos ⟨t1, t2, t3⟩, lo, lo, lo, d1, d2, d3]
    congr 2; omega

theorem dec_ub (c : Int) (b : List UInt8) (h : isC c = true) : dec (ub c ++ b) = some (c, sz c) := by
  have := isC_true h
  rw [dec, cand_ub c b (by omega) (by omega)]
  simp [h]

theorem take_ext (l m : List UInt8) (n : Nat) (hm : m.length = n) (hn : n ≤ l.length) (h : ∀ i, i < n → dgt l i = dgt m i) : l.take n = m := by
  apply List.ext_getElem (by simp; omega)
  intro i h1 h2
  have hi : i < n := by omega
  have := h i hi
  unfold dgt at this
  rw [List.getD, List.getD, List.getElem?_eq_getElem (by omega), List.getElem?_eq_getElem h2] at this
  rw [List.getElem_take]
  exact UInt8.toNat.inj this

theorem dec_some {l : List UInt8} {c : Int} {n : Nat} (hl : l ≠ []) (h : dec l = some (c, n)) : isC c = true ∧ sz c = n ∧ n ≤ l.length ∧ l.take n = ub c := by
  have hpos : 0 < l.length := List.length_pos_iff.2 hl
  have b0 := dgt_lt l 0
  have b1 := dgt_lt l 1
  have b2 := dgt_lt l 2
  have b3 := dgt_lt l 3
  unfold dec at h
  cases hc : cand l with
  | none => rw [hc] at h; cases h
  | some x =>
    obtain ⟨c', n'⟩ := x
    rw [hc] at h
    by_cases hx : isC c' = true ∧ sz c' = n'
    · simp only [hx, and_self, if_true, Option.some.injEq, Prod.mk.injEq] at h
      obtain ⟨rfl, rfl⟩ := h
      refine ⟨hx.1, hx.2, ?_⟩
      have hr := isC_true hx.1
      have hs := hx.2
      unfold cand at hc
      by_cases g1 : dgt l 0 < 128
      · rw [if_pos g1] at hc
        simp only [Option.some.injEq, Prod.mk.injEq] at hc
        obtain ⟨e1, e2⟩ := hc
        rw [← e2] at hs ⊢
        refine ⟨by omega, take_ext _ _ _ (by rw [ub_len]; omega) (by omega) (fun i hi => ?_)⟩
        have : i = 0 := by omega
        subst this
        rw [ub, ubI_1 (by omega), ← e1]
        simp only [List.map_cons, List.map_nil, dgt_cons]
        exact (byt_nat _ (by omega)).symm
      rw [if_neg g1] at hc
      by_cases g2 : dgt l 0 < 192
      · rw [if_pos g2] at hc; cases hc
      rw [if_neg g2] at hc
      by_cases g3 : dgt l 0 < 224
      · rw [if_pos g3] at hc
        by_cases t1 : tl l 1 = true
        · rw [if_pos t1] at hc
          have q1 := (tl_iff _ _).1 t1
          simp only [Option.some.injEq, Prod.mk.injEq, lo] at hc
          obtain ⟨e1, e2⟩ := hc
          rw [← e2] at hs ⊢
          refine ⟨by omega, take_ext _ _ _ (by rw [ub_len]; omega) (by omega) (fun i hi => ?_)⟩
          have hz := sz_cases c'
          rw [ub, ubI_2 (by omega) (by omega)]
          have : i = 0 ∨ i = 1 := by omega
          rcases this with rfl | rfl
          · simp only [List.map_cons, dgt_cons]
            rw [byt_n _ (by omega) (by omega)]; omega
          · simp only [List.map_cons, dgt_succ, dgt_cons]
            rw [byt_n _ (by omega) (by omega)]; omega
        · rw [if_neg t1] at hc; cases hc
      rw [if_neg g3] at hc
      by_cases g4 : dgt l 0 < 240
      · rw [if_pos g4] at hc
        by_cases t1 : tl l 1 = true ∧ tl l 2 = true
        · rw [if_pos t1] at hc
          have q1 := (tl_iff _ _).1 t1.1
          have q2 := (tl_iff _ _).1 t1.2
          simp only [Option.some.injEq, Prod.mk.injEq, lo] at hc
          obtain ⟨e1, e2⟩ := hc
          rw [← e2] at hs ⊢
          refine ⟨by omega, take_ext _ _ _ (by rw [ub_len]; omega) (by omega) (fun i hi => ?_)⟩
          have hz := sz_cases c'
          rw [ub, ubI_3 (by omega) (by omega)]
          have : i = 0 ∨ i = 1 ∨ i = 2 := by omega
          rcases this with rfl | rfl | rfl
          · simp only [List.map_cons, dgt_cons]
            rw [byt_n _ (by omega) (by omega)]; omega
          · simp only [List.map_cons, dgt_succ, dgt_cons]
            rw [byt_n _ (by omega) (by omega)]; omega
          · simp only [List.map_cons, dgt_succ, dgt_cons]
            rw [byt_n _ (by omega) (by omega)]; omega
        · rw [if_neg t1] at hc; cases hc
      rw [if_neg g4] at hc
      by_cases g5 : dgt l 0 < 248
      · rw [if_pos g5] at hc
        by_cases t1 : tl l 1 = true ∧ tl l 2 = true ∧ tl l 3 = true
        · rw [if_pos t1] at hc
          have q1 := (tl_iff _ _).1 t1.1
          have q2 := (tl_iff _ _).1 t1.2.1
          have q3 := (tl_iff _ _).1 t1.2.2
          simp only [Option.some.injEq, Prod.mk.injEq, lo] at hc
          obtain ⟨e1, e2⟩ := hc
          rw [← e2] at hs ⊢
          refine ⟨by omega, take_ext _ _ _ (by rw [ub_len]; omega) (by omega) (fun i hi => ?_)⟩
          have hz := sz_cases c'
          rw [ub, ubI_4 (by omega)]
          have : i = 0 ∨ i = 1 ∨ i = 2 ∨ i = 3 := by omega
          rcases this with rfl | rfl | rfl | rfl
          · simp only [List.map_cons, dgt_cons]
            rw [byt_n _ (by omega) (by omega)]; omega
          · simp only [List.map_cons, dgt_succ, dgt_cons]
            rw [byt_n _ (by omega) (by omega)]; omega
          · simp only [List.map_cons, dgt_succ, dgt_cons]
            rw [byt_n _ (by omega) (by omega)]; omega
          · simp only [List.map_cons, dgt_succ, dgt_cons]
            rw [byt_n _ (by omega) (by omega)]; omega
        · rw [if_neg t1] at hc; cases hc
      · rw [if_neg g5] at hc; cases hc
    · simp only [hx, if_false] at h; cases h

/-- What the reference asks of the bytes is what 'dec' asks. -/
theorem dec_of_cand {l : List UInt8} {c : Int} {n : Nat} (hl : l ≠ []) (h : cand l = some (c, n)) (hc : isC c = true) : sz c = n ↔ (sz c ≤ l.length ∧ l.take (sz c) = ub c) := by
  constructor
  · intro e
    have hd : dec l = some (c, n) := by rw [dec, h]; simp [hc, e]
    have := dec_some hl hd
    rw [e]; exact ⟨this.2.2.1, this.2.2.2⟩
  · rintro ⟨h1, h2⟩
    have hr := isC_true hc
    have e := cand_ub c (l.drop (sz c)) (by omega) (by omega)
    rw [← h2, List.take_append_drop, h] at e
    simp only [Option.some.injEq, Prod.mk.injEq, true_and] at e
    exact e.symm

/-! ### the first character of bytes -/

/-- The first character of bytes that are there: which, of how many bytes, and whether it is one. -/
def step (l : List UInt8) : Int × Nat × Bool :=
  match dec l with
  | none => (65533, 1, false)
  | some (c, n) => (c, n, true)
theorem cand_1 {l : List UInt8} (h : dgt l 0 < 128) : cand l = some ((dgt l 0 : Int), 1) := by rw [cand, if_pos h]
theorem cand_0 {l : List UInt8} (h0 : 128 ≤ dgt l 0) (h : dgt l 0 < 192) : cand l = none := by rw [cand, if_neg (by omega), if_pos h]
theorem cand_2 {l : List UInt8} (h0 : 192 ≤ dgt l 0) (h : dgt l 0 < 224) : cand l = if tl l 1 = true then some (64 * ((dgt l 0 : Int) - 192) + lo l 1, 2) else none := by
  rw [cand, if_neg (by omega), if_neg (by omega), if_pos h]
theorem cand_3 {l : List UInt8} (h0 : 224 ≤ dgt l 0) (h : dgt l 0 < 240) : cand l = if tl l 1 = true ∧ tl l 2 = true then some (4096 * ((dgt l 0 : Int) - 224) + 64 * lo l 1 + lo l 2, 3) else none := by
  rw [cand, if_neg (by omega), if_neg (by omega), if_neg (by omega), if_pos h]
theorem cand_4 {l : List UInt8} (h0 : 240 ≤ dgt l 0) (h : dgt l 0 < 248) : cand l = if tl l 1 = true ∧ tl l 2 = true ∧ tl l 3 = true then some (262144 * ((dgt l 0 : Int) - 240) + 4096 * lo l 1 + 64 * lo l 2 + lo l 3, 4) else none := by
  rw [cand, if_neg (by omega), if_neg (by omega), if_neg (by omega), if_neg (by omega), if_pos h]
theorem cand_5 {l : List UInt8} (h0 : 248 ≤ dgt l 0) : cand l = none := by
  rw [cand, if_neg (by omega), if_neg (by omega), if_neg (by omega), if_neg (by omega), if_neg (by omega)]
theorem dec_none {l : List UInt8} (h : cand l = none) : dec l = none := by simp only [dec, h]
theorem dec_cand {l : List UInt8} {c : Int} {n : Nat} (h : cand l = some (c, n)) : dec l = if isC c = true ∧ sz c = n then some (c, n) else none := by simp only [dec, h]
theorem dec_not {l : List UInt8} {c : Int} {n : Nat} (h : cand l = some (c, n)) (h2 : isC c = false) : dec l = none := by rw [dec_cand h, if_neg (by rw [h2]; simp)]
theorem dec_other {l : List UInt8} {c : Int} {n : Nat} (h : cand l = some (c, n)) (h2 : ¬ sz c = n) : dec l = none := by rw [dec_cand h, if_neg (fun x => h2 x.2)]
theorem dec_yes {l : List UInt8} {c : Int} {n : Nat} (h : cand l = some (c, n)) (h2 : isC c = true) (h3 : sz c = n) : dec l = some (c, n) := by rw [dec_cand h, if_pos ⟨h2, h3⟩]


theorem step_ok {l : List UInt8} (hl : l ≠ []) : 1 ≤ (step l).2.1 ∧ (step l).2.1 ≤ l.length ∧ (step l).2.1 ≤ 4 ∧ isC (step l).1 = true := by
  have hpos : 0 < l.length := List.length_pos_iff.2 hl
  cases hd : dec l with
  | none => simp only [step, hd]; exact ⟨by omega, by omega, by omega, by decide⟩
  | some x =>
    obtain ⟨c, n⟩ := x
    have := dec_some hl hd
    have h2 := sz_le c
    simp only [step, hd]
    exact ⟨by omega, by omega, by omega, this.1⟩
theorem step_take {l : List UInt8} (hl : l ≠ []) (h : (step l).2.2 = true) : l.take (step l).2.1 = ub (step l).1 ∧ sz (step l).1 = (step l).2.1 := by
  cases hd : dec l with
  | none => simp only [step, hd] at h; cases h
  | some x =>
    obtain ⟨c, n⟩ := x
    have := dec_some hl hd
    simp only [step, hd]
    exact ⟨this.2.2.2, this.2.1⟩
theorem step_no {l : List UInt8} (h : (step l).2.2 = false) : (step l).1 = 65533 ∧ (step l).2.1 = 1 := by
  cases hd : dec l with
  | none => simp only [step, hd]; exact ⟨trivial, trivial⟩
  | some x => simp only [step, hd] at h; cases h
theorem step_ub (c : Int) (b : List UInt8) (h : isC c = true) : step (ub c ++ b) = (c, sz c, true) := by
  simp only [step, dec_ub c b h]

def chF : Nat → List UInt8 → List (Int × Bool)
  | 0, _ => []
  | f + 1, l => if l = [] then [] else ((step l).1, (step l).2.2) :: chF f (l.drop (step l).2.1)
def ch (l : List UInt8) : List (Int × Bool) := chF l.length l
theorem chF_fuel : ∀ (f g : Nat) (l : List UInt8), l.length ≤ f → l.length ≤ g → chF f l = chF g l
  | 0, 0, l, _, _ => rfl
  | 0, g + 1, l, h, _ => by
    have : l = [] := List.eq_nil_of_length_eq_zero (by omega)
    subst this; simp [chF]
  | f + 1, 0, l, _, h => by
    have : l = [] := List.eq_nil_of_length_eq_zero (by omega)
    subst this; simp [chF]
  | f + 1, g + 1, l, h1, h2 => by
    by_cases hl : l = []
    · simp [chF, hl]
    · have hs := step_ok hl
      simp only [chF, hl, if_false]
      rw [chF_fuel f g _ (by simp; omega) (by simp; omega)]
theorem ch_nil : ch [] = [] := rfl
theorem ch_cons {l : List UInt8} (hl : l ≠ []) : ch l = ((step l).1, (step l).2.2) :: ch (l.drop (step l).2.1) := by
  have hs := step_ok hl
  unfold ch
  have hpos : 0 < l.length := List.length_pos_iff.2 hl
  obtain ⟨f, hf⟩ : ∃ f, l.length = f + 1 := ⟨l.length - 1, by omega⟩
  rw [hf, chF, if_neg hl, chF_fuel f (l.drop (step l).2.1).length _ (by simp; omega) (Nat.le_refl _)]
theorem ch_len : ∀ (f : Nat) (l : List UInt8), l.length ≤ f → (ch l).length ≤ l.length
  | 0, l, h => by
    have : l = [] := List.eq_nil_of_length_eq_zero (by omega)
    subst this; simp [ch_nil]
  | f + 1, l, h => by
    by_cases hl : l = []
    · subst hl; simp [ch_nil]
    · have hs := step_ok hl
      have ih := ch_len f (l.drop (step l).2.1) (by simp; omega)
      rw [ch_cons hl, List.length_cons]
      simp at ih; omega

def rightB (l : List UInt8) : Bool := (ch l).all (·.2)
def cleanL (l : List UInt8) : List UInt8 := ((ch l).map fun p => ub p.1).flatten
theorem rightB_nil : rightB [] = true := rfl
theorem rightB_cons {l : List UInt8} (hl : l ≠ []) : rightB l = ((step l).2.2 && rightB (l.drop (step l).2.1)) := by rw [rightB, ch_cons hl]; rfl
theorem cleanL_nil : cleanL [] = [] := rfl
theorem cleanL_cons {l : List UInt8} (hl : l ≠ []) : cleanL l = ub (step l).1 ++ cleanL (l.drop (step l).2.1) := by rw [cleanL, ch_cons hl]; rfl

theorem ne_of_size {s : ByteArray} (h : 0 < s.size) : s.data.toList ≠ [] := by
  intro e
  have := data_len s
  rw [e] at this; simp at this; omega
theorem rest_of (s : ByteArray) (n : Nat) : s.extract n s.size = bs (s.data.toList.drop n) := Lib.Pa.extract_from s n


theorem ub_ne (c : Int) (r : List UInt8) : ub c ++ r ≠ [] := by
  intro e
  have h1 := ub_len c
  have h2 := sz_le c
  have := congrArg List.length e
  simp at this
  rw [this.1] at h1; simp at h1; omega
theorem ch_ub (c : Int) (r : List UInt8) (h : isC c = true) : ch (ub c ++ r) = (c, true) :: ch r := by
  rw [ch_cons (ub_ne c r), step_ub c r h]
  simp only
  rw [← ub_len c, List.drop_left]
theorem ch_flat : ∀ (cs : List Int) (r : List UInt8), (∀ c ∈ cs, isC c = true) → ch ((cs.map ub).flatten ++ r) = cs.map (fun c => (c, true)) ++ ch r
  | [], r, _ => by simp
  | c :: cs, r, h => by
    have ih := ch_flat cs r (fun x hx => h x (by simp [hx]))
    simp only [List.map_cons, List.flatten_cons, List.append_assoc, List.cons_append]
    rw [ch_ub c _ (h c (by simp)), ih]
theorem ch_isC : ∀ (f : Nat) (l : List UInt8), l.length ≤ f → ∀ p ∈ ch l, isC p.1 = true
  | 0, l, h => by
    have : l = [] := List.eq_nil_of_length_eq_zero (by omega)
    subst this; intro p hp; simp [ch_nil] at hp
  | f + 1, l, h => by
    by_cases hl : l = []
    · subst hl; intro p hp; simp [ch_nil] at hp
    · have hs := step_ok hl
      have ih := ch_isC f (l.drop (step l).2.1) (by simp; omega)
      intro p hp
      rw [ch_cons hl] at hp
      rcases List.mem_cons.1 hp with rfl | hp
      · exact hs.2.2.2
      · exact ih p hp
theorem cleanL_eq (l : List UInt8) : cleanL l = (((ch l).map (·.1)).map ub).flatten := by
  rw [cleanL, List.map_map]; rfl
theorem ch_clean (l r : List UInt8) : ch (cleanL l ++ r) = ((ch l).map (·.1)).map (fun c => (c, true)) ++ ch r := by
  rw [cleanL_eq]
  refine ch_flat _ r ?_
  intro c hc
  obtain ⟨p, hp, rfl⟩ := List.mem_map.1 hc
  exact ch_isC l.length l (Nat.le_refl _) p hp
theorem ch_clean0 (l : List UInt8) : ch (cleanL l) = ((ch l).map (·.1)).map (fun c => (c, true)) := by
  have := ch_clean l []
  rwa [List.append_nil, ch_nil, List.append_nil] at this
theorem all_true (cs : List Int) : (cs.map (fun c => ((c, true) : Int × Bool))).all (·.2) = true := by simp
theorem right_clean (l : List UInt8) : rightB (cleanL l) = true := by rw [rightB, ch_clean0]; exact all_true _
theorem right_two (l m : List UInt8) : rightB (cleanL l ++ cleanL m) = true := by
  rw [rightB, ch_clean, ch_clean0, List.all_append, all_true, all_true]; rfl
theorem clean_clean (l : List UInt8) : cleanL (cleanL l) = cleanL l := by
  rw [cleanL_eq (cleanL l), ch_clean0]
  simp only [List.map_map]
  rw [cleanL_eq, List.map_map]; rfl
theorem count_clean (l : List UInt8) : (ch (cleanL l)).length = (ch l).length := by rw [ch_clean0]; simp
theorem count_two (l m : List UInt8) : (ch (cleanL l ++ cleanL m)).length = (ch (cleanL l)).length + (ch (cleanL m)).length := by
  rw [ch_clean, List.length_append, ch_clean0 l]
theorem clean_right : ∀ (f : Nat) (l : List UInt8), l.length ≤ f → rightB l = true → cleanL l = l
  | 0, l, h, _ => by
    have : l = [] := List.eq_nil_of_length_eq_zero (by omega)
    subst this; rfl
  | f + 1, l, h, hr => by
    by_cases hl : l = []
    · subst hl; rfl
    · have hs := step_ok hl
      rw [rightB_cons hl, Bool.and_eq_true] at hr
      have ht := step_take hl hr.1
      rw [cleanL_cons hl, clean_right f _ (by simp; omega) hr.2, ← ht.1, List.take_append_drop]
theorem clean_iff (l : List UInt8) : cleanL l = l ↔ rightB l = true := by
  constructor
  · intro h; rw [← h]; exact right_clean l
  · exact clean_right l.length l (Nat.le_refl _)
theorem cleanL_len : ∀ (f : Nat) (l : List UInt8), l.length ≤ f → (cleanL l).length ≤ 3 * l.length
  | 0, l, h => by
    have : l = [] := List.eq_nil_of_length_eq_zero (by omega)
    subst this; simp [cleanL_nil]
  | f + 1, l, h => by
    by_cases hl : l = []
    · subst hl; simp [cleanL_nil]
    · have hs := step_ok hl
      have ih := cleanL_len f (l.drop (step l).2.1) (by simp; omega)
      rw [cleanL_cons hl, List.length_append, ub_len]
      rw [List.length_drop] at ih
      have : sz (step l).1 ≤ 3 * (step l).2.1 := by
        cases h2 : (step l).2.2 with
        | true => have := (step_take hl h2).2; omega
        | false =>
          have := step_no h2
          rw [this.1, this.2]; decide
      omega


def flatU (cs : List Int) (k : Nat) : List UInt8 := ((cs.take k).map ub).flatten
theorem flat_take (cs : List Int) (k : Nat) (h : k < cs.length) : flatU cs (k + 1) = flatU cs k ++ ub (cs.getD k 0) := by
  have e : cs.getD k 0 = cs[k] := by rw [List.getD, List.getElem?_eq_getElem h]; rfl
  unfold flatU
  rw [e, List.take_succ_eq_append_getElem h, List.map_append, List.flatten_append]
  simp only [List.map_cons, List.map_nil, List.flatten_cons, List.flatten_nil, List.append_nil]
theorem flat_len (cs : List Int) : ∀ k, k ≤ cs.length → (flatU cs k).length ≤ 4 * k
  | 0, _ => by simp [flatU]
  | k + 1, h => by
    have ih := flat_len cs k (by omega)
    have h2 := sz_le (cs.getD k 0)
    rw [flat_take cs k (by omega), List.length_append, ub_len]
    omega


theorem str_len (c : Int) : (str (ubI c)).size = sz c := by rw [str_size, ubI_len]
theorem ub_step (c : Int) (b : ByteArray) (h : isC c = true) : step (str (ubI c) ++ b).data.toList = (c, sz c, true) := by
  rw [str_bs, bs_add, bs_toList]; exact step_ub c _ h
theorem right_ub (c : Int) (h : isC c = true) : rightB (str (ubI c)).data.toList = true := by
  have hs := step_ub c [] h
  have hne : ub c ≠ [] := by
    intro e
    have := ub_len c
    have := sz_le c
    rw [e] at *; simp at *; omega
  rw [str_bs, bs_toList]
  show rightB (ub c) = true
  rw [List.append_nil] at hs
  rw [rightB_cons hne, hs]
  simp only [Bool.true_and]
  rw [← ub_len c, List.drop_length]; rfl


theorem extract_take (s : ByteArray) (i n : Nat) : s.extract i (i + n) = bs ((s.data.toList.drop i).take n) := by
  rw [Lib.extract_eq, Nat.add_sub_cancel_left]; rfl
/-- A character's bytes; the stranger's, if it is none. -/
def utfI (c : Int) : List Int := if isC c = true then ubI c else ubI 65533
theorem strange : str (utfI 65533) = bs (ub 65533) := rfl
end Go.Proofs.YtbabmkilbbbmoaaDoor

/-
  Kinds of bytes, and what 'chars' and its reference make of texts, as plain functions of lists of bytes.
-/
namespace Go.Proofs.YtbabmkilbbbmoaaDoor
open Go.RowKit
set_option linter.unusedVariables false
set_option linter.unusedSimpArgs false

def spN (b : Nat) : Bool := decide (b = 9 ∨ b = 10 ∨ b = 12 ∨ b = 32)
def upN (b : Nat) : Bool := decide (65 ≤ b ∧ b ≤ 90)
def ltN (b : Nat) : Bool := decide ((65 ≤ b ∧ b ≤ 90) ∨ (97 ≤ b ∧ b ≤ 122))
def dgN (b : Nat) : Bool := decide (48 ≤ b ∧ b ≤ 57)
theorem spN_yes {b : Nat} (h : b = 9 ∨ b = 10 ∨ b = 12 ∨ b = 32) : spN b = true := by simpa [spN] using h
theorem spN_no {b : Nat} (h : ¬ (b = 9 ∨ b = 10 ∨ b = 12 ∨ b = 32)) : spN b = false := by simpa [spN] using h
theorem spN_true {b : Nat} (h : spN b = true) : b = 9 ∨ b = 10 ∨ b = 12 ∨ b = 32 := by simpa [spN] using h
theorem spN_false {b : Nat} (h : spN b = false) : ¬ (b = 9 ∨ b = 10 ∨ b = 12 ∨ b = 32) := by simpa [spN] using h
theorem upN_yes {b : Nat} (h : 65 ≤ b ∧ b ≤ 90) : upN b = true := by simpa [upN] using h
theorem upN_no {b : Nat} (h : ¬ (65 ≤ b ∧ b ≤ 90)) : upN b = false := by simpa [upN] using h
theorem upN_true {b : Nat} (h : upN b = true) : 65 ≤ b ∧ b ≤ 90 := by simpa [upN] using h
theorem upN_false {b : Nat} (h : upN b = false) : ¬ (65 ≤ b ∧ b ≤ 90) := by simpa [upN] using h
theorem ltN_yes {b : Nat} (h : (65 ≤ b ∧ b ≤ 90) ∨ (97 ≤ b ∧ b ≤ 122)) : ltN b = true := by simpa [ltN] using h
theorem ltN_no {b : Nat} (h : ¬ ((65 ≤ b ∧ b ≤ 90) ∨ (97 ≤ b ∧ b ≤ 122))) : ltN b = false := by simpa [ltN] using h
theorem ltN_true {b : Nat} (h : ltN b = true) : (65 ≤ b ∧ b ≤ 90) ∨ (97 ≤ b ∧ b ≤ 122) := by simpa [ltN] using h
theorem ltN_false {b : Nat} (h : ltN b = false) : ¬ ((65 ≤ b ∧ b ≤ 90) ∨ (97 ≤ b ∧ b ≤ 122)) := by simpa [ltN] using h
theorem dgN_yes {b : Nat} (h : 48 ≤ b ∧ b ≤ 57) : dgN b = true := by simpa [dgN] using h
theorem dgN_no {b : Nat} (h : ¬ (48 ≤ b ∧ b ≤ 57)) : dgN b = false := by simpa [dgN] using h

/-- The byte at a place, and what is behind it. -/
theorem drop_at (l : List UInt8) (k : Nat) (h : k < l.length) : ∃ c, l.drop k = c :: l.drop (k + 1) ∧ c.toNat = dgt l k := by
  refine ⟨l[k], List.drop_eq_getElem_cons h, ?_⟩
  unfold dgt
  rw [List.getD, List.getElem?_eq_getElem h]; rfl

/-! ### blank -/
def sp (c : UInt8) : Bool := spN c.toNat
def blankL (l : List UInt8) : Bool := l.all sp
theorem blankL_nil : blankL [] = true := rfl
theorem blankL_cons (c : UInt8) (l : List UInt8) : blankL (c :: l) = (sp c && blankL l) := rfl

/-! ### the small form -/
def lowB (c : UInt8) : UInt8 := if upN c.toNat = true then c + 32 else c
def lowL (l : List UInt8) : List UInt8 := l.map lowB
theorem lowL_len (l : List UInt8) : (lowL l).length = l.length := by simp [lowL]
theorem u8add (c : UInt8) (h : c.toNat ≤ 200) : (c + 32).toNat = c.toNat + 32 := by
  rw [UInt8.toNat_add]
  have : (32 : UInt8).toNat = 32 := rfl
  omega
theorem lowB_nat (c : UInt8) : (lowB c).toNat = if upN c.toNat = true then c.toNat + 32 else c.toNat := by
  unfold lowB
  split
  · rename_i h; have := upN_true h; rw [u8add c (by omega)]
  · rfl
theorem lowB_low (c : UInt8) : lowB (lowB c) = lowB c := by
  apply UInt8.toNat.inj
  rw [lowB_nat, lowB_nat]
  cases h : upN c.toNat with
  | true =>
    have := upN_true h
    have h2 : upN (c.toNat + 32) = false := upN_no (by omega)
    simp [h2]
  | false => simp [h]
theorem lowL_low (l : List UInt8) : lowL (lowL l) = lowL l := by
  unfold lowL
  rw [List.map_map]
  apply List.map_congr_left
  intro c _
  exact lowB_low c

/-! ### without spaces at the ends -/
def ltrim (l : List UInt8) : List UInt8 := l.dropWhile sp
def rtrim (l : List UInt8) : List UInt8 := (l.reverse.dropWhile sp).reverse
def trimL (l : List UInt8) : List UInt8 := rtrim (ltrim l)
theorem ltrim_nil : ltrim [] = [] := rfl
theorem ltrim_sp {c : UInt8} {l : List UInt8} (h : sp c = true) : ltrim (c :: l) = ltrim l := by simp [ltrim, List.dropWhile_cons, h]
theorem ltrim_no {c : UInt8} {l : List UInt8} (h : sp c = false) : ltrim (c :: l) = c :: l := by simp [ltrim, List.dropWhile_cons, h]
theorem rtrim_nil : rtrim [] = [] := rfl
theorem rtrim_sp {c : UInt8} {l : List UInt8} (h : sp c = true) : rtrim (l ++ [c]) = rtrim l := by simp [rtrim, List.dropWhile_cons, h]
theorem rtrim_no {c : UInt8} {l : List UInt8} (h : sp c = false) : rtrim (l ++ [c]) = l ++ [c] := by simp [rtrim, List.dropWhile_cons, h]

/-! ### words -/
def wordsG : List UInt8 → List UInt8 → List (List UInt8)
  | cur, [] => if cur = [] then [] else [cur]
  | cur, c :: l => if sp c = true then (if cur = [] then wordsG [] l else cur :: wordsG [] l) else wordsG (cur ++ [c]) l
def wordsL (l : List UInt8) : List (List UInt8) := wordsG [] l
theorem wordsG_sp0 {c : UInt8} {l : List UInt8} (h : sp c = true) : wordsG [] (c :: l) = wordsG [] l := by simp [wordsG, h]
theorem wordsG_sp1 {c : UInt8} {cur l : List UInt8} (h : sp c = true) (hc : cur ≠ []) : wordsG cur (c :: l) = cur :: wordsG [] l := by simp [wordsG, h, hc]
theorem wordsG_no {c : UInt8} {cur l : List UInt8} (h : sp c = false) : wordsG cur (c :: l) = wordsG (cur ++ [c]) l := by simp [wordsG, h]
theorem wordsG_nil0 : wordsG [] [] = [] := rfl
theorem wordsG_nil1 {cur : List UInt8} (hc : cur ≠ []) : wordsG cur [] = [cur] := by simp [wordsG, hc]
def nsp (c : UInt8) : Bool := !sp c
theorem wordsG_run : ∀ (l cur : List UInt8), cur ++ l.takeWhile nsp ≠ [] → wordsG cur l = (cur ++ l.takeWhile nsp) :: wordsG [] (l.dropWhile nsp)
  | [], cur, h => by
    simp at h
    rw [wordsG_nil1 h]; simp [wordsG]
  | c :: l, cur, h => by
    cases hs : sp c with
    | true =>
      have hn : nsp c = false := by simp [nsp, hs]
      rw [List.takeWhile_cons, hn] at h
      simp at h
      rw [wordsG_sp1 hs h, List.takeWhile_cons, List.dropWhile_cons, hn]
      simp [wordsG_sp0 hs]
    | false =>
      have hn : nsp c = true := by simp [nsp, hs]
      rw [wordsG_no hs, wordsG_run l (cur ++ [c]) (by simp), List.takeWhile_cons, List.dropWhile_cons, hn]
      simp

/-! ### what comes in, made ready -/
def rdP : Bool → List UInt8 → List UInt8
  | _, [] => []
  | p, c :: l => if c.toNat = 13 then 10 :: rdP true l else if c.toNat = 10 ∧ p = true then rdP false l else if c.toNat = 0 then ub 65533 ++ rdP false l else c :: rdP false l
def hd10 : List UInt8 → Bool
  | [] => false
  | c :: _ => decide (c.toNat = 10)
def rdR : List UInt8 → List UInt8
  | [] => []
  | c :: l => if c.toNat = 0 then ub 65533 ++ rdR l else if ¬ c.toNat = 13 then c :: rdR l else if hd10 l = true then rdR l else 10 :: rdR l
theorem rd_tail : ∀ (l : List UInt8), rdP false l = rdR l ∧ 10 :: rdP true l = (if hd10 l = true then rdR l else 10 :: rdR l)
  | [] => ⟨rfl, rfl⟩
  | c :: l => by
    obtain ⟨h1, h2⟩ := rd_tail l
    constructor
    · by_cases e13 : c.toNat = 13
      · rw [rdP, if_pos e13, rdR, if_neg (by omega), if_neg (by omega), h2]
      · rw [rdP, if_neg e13, if_neg (by simp), rdR]
        by_cases e0 : c.toNat = 0
        · rw [if_pos e0, if_pos e0, h1]
        · rw [if_neg e0, if_neg e0, if_pos e13, h1]
    · by_cases e13 : c.toNat = 13
      · have : hd10 (c :: l) = false := by simp [hd10]; omega
        rw [rdP, if_pos e13, this, if_neg (by decide), rdR, if_neg (by omega), if_neg (by omega), h2]
      · by_cases e10 : c.toNat = 10
        · have : hd10 (c :: l) = true := by simp [hd10]; omega
          rw [rdP, if_neg e13, if_pos ⟨e10, rfl⟩, this, if_pos rfl, rdR, if_neg (by omega), if_pos e13, h1]
          have : c = 10 := by apply UInt8.toNat.inj; rw [e10]; rfl
          rw [this]
        · have : hd10 (c :: l) = false := by simp [hd10]; omega
          by_cases e0 : c.toNat = 0
          · simp [rdP, rdR, this, e0, h1]
          · simp [rdP, rdR, this, e0, e13, e10, h1]
theorem rd_same (l : List UInt8) : rdP false l = rdR l := (rd_tail l).1
def readyL (l : List UInt8) : List UInt8 := cleanL (rdR l)
end Go.Proofs.YtbabmkilbbbmoaaDoor
