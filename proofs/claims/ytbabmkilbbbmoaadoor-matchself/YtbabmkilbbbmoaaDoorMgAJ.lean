/-
  Several texts in one: what the functions of the program and of the document's answer do.
-/
import Derived.Test.YtbabmkilbbbmoaaDoorMgAI
import Derived.Test.YtbabmkilbbbmoaaDoorMgAH
import Derived.Deep.RegionWith
import Derived.Test.YtbabmkilbbbmoaaDoorMgAF

/-
  What was escaped is, all of it, what it was, cleaned: of plain lists of bytes.
-/
namespace Go.Proofs.YtbabmkilbbbmoaaDoor
open Go.RowKit
set_option linter.unusedVariables false

/-! ### the five references, whatever stands behind them -/
theorem at_amp (v : Bool) (t : List UInt8) : atL (ampL ++ t) v = ([38], 5) := by cases v <;> kernel_rfl
theorem at_ltr (v : Bool) (t : List UInt8) : atL (ltL ++ t) v = ([60], 4) := by cases v <;> kernel_rfl
theorem at_gtr (v : Bool) (t : List UInt8) : atL (gtL ++ t) v = ([62], 4) := by cases v <;> kernel_rfl
theorem at_quot (v : Bool) (t : List UInt8) : atL (quotL ++ t) v = ([34], 6) := by cases v <;> kernel_rfl
theorem at_nbsp (v : Bool) (t : List UInt8) : atL (nbspL ++ t) v = ([194, 160], 6) := by cases v <;> kernel_rfl

theorem all_of {v : Bool} {a x t : List UInt8} {n : Nat} (h : atL (a ++ t) v = (x, (n : Int))) (hn : a.length = n) (h0 : a ≠ []) : allL v (a ++ t) = x ++ allL v t := by
  rw [allL_cons v (by simp [h0]), h]
  simp only [Int.toNat_natCast]
  rw [← hn, List.drop_left]

/-! ### a byte that begins no character begins none ahead of what was escaped -/
theorem cand_congr {l m : List UInt8} (h0 : dgt l 0 = dgt m 0) (h1 : tl l 1 = tl m 1 ∧ (tl l 1 = true → dgt l 1 = dgt m 1)) (h2 : tl l 1 = true → tl l 2 = tl m 2 ∧ (tl l 2 = true → dgt l 2 = dgt m 2))
    (h3 : tl l 1 = true → tl l 2 = true → tl l 3 = tl m 3 ∧ (tl l 3 = true → dgt l 3 = dgt m 3)) : cand l = cand m := by
  unfold cand
  rw [← h0]
  by_cases g1 : dgt l 0 < 128
  · rw [if_pos g1, if_pos g1]
  rw [if_neg g1, if_neg g1]
  by_cases g2 : dgt l 0 < 192
  · rw [if_pos g2, if_pos g2]
  rw [if_neg g2, if_neg g2]
  cases t1 : tl l 1 with
  | false =>
    have e1 : tl m 1 = false := by rw [← h1.1, t1]
    simp [e1]
  | true =>
    have e1 : tl m 1 = true := by rw [← h1.1, t1]
    have d1 := h1.2 t1
    have q2 := h2 t1
    cases t2 : tl l 2 with
    | false =>
      have e2 : tl m 2 = false := by rw [← q2.1, t2]
      simp [e1, e2, lo, d1]
    | true =>
      have e2 : tl m 2 = true := by rw [← q2.1, t2]
      have d2 := q2.2 t2
      have q3 := h3 t1 t2
      cases t3 : tl l 3 with
      | false =>
        have e3 : tl m 3 = false := by rw [← q3.1, t3]
        simp [e1, e2, e3, lo, d1, d2]
      | true =>
        have e3 : tl m 3 = true := by rw [← q3.1, t3]
        have d3 := q3.2 t3
        simp [e1, e2, e3, lo, d1, d2, d3]
theorem step_congr {l m : List UInt8} (h : cand l = cand m) : step l = step m := by
  unfold step dec; rw [h]

theorem tl_cons (c : UInt8) (l : List UInt8) (k : Nat) : tl (c :: l) (k + 1) = tl l k := by
  unfold tl; rw [dgt_succ]; simp
/-- Bytes that go on stay; what is no such byte stays none. -/
theorem esc_goes (v : Bool) (m : List UInt8) : tl m 0 = tl (escL v m) 0 ∧ (tl m 0 = true → dgt m 0 = dgt (escL v m) 0 ∧ ∃ c, m = c :: m.drop 1 ∧ escL v m = c :: escL v (m.drop 1)) := by
  cases m with
  | nil => exact ⟨rfl, fun h => by simp [tl] at h⟩
  | cons c r =>
    have hk : 0 < (c :: r).length := by simp
    by_cases g0 : c.toNat = 38
    · have e := esc_38 (v := v) hk g0
      simp only [List.drop_zero] at e
      refine ⟨?_, fun h => by simp [tl, dgt_cons, g0] at h⟩
      rw [e]; simp [tl, dgt_cons, g0, ampL]
    by_cases g1 : c.toNat = 60
    · have e := esc_60 (v := v) hk g1
      simp only [List.drop_zero] at e
      refine ⟨?_, fun h => by simp [tl, dgt_cons, g1] at h⟩
      rw [e]; simp [tl, dgt_cons, g1, ltL]
    by_cases g2 : c.toNat = 62
    · have e := esc_62 (v := v) hk g2
      simp only [List.drop_zero] at e
      refine ⟨?_, fun h => by simp [tl, dgt_cons, g2] at h⟩
      rw [e]; simp [tl, dgt_cons, g2, gtL]
    by_cases g3 : c.toNat = 34
    · have e := esc_34 (v := v) hk g3
      simp only [List.drop_zero] at e
      refine ⟨?_, fun h => by simp [tl, dgt_cons, g3] at h⟩
      rw [e]; cases v <;> simp [tl, dgt_cons, g3, quotL]
    by_cases g4 : c.toNat = 194 ∧ atB (c :: r) 1 = 160
    · have e := esc_160 (v := v) (k := 0) (l := c :: r) (at_lt g4.2) g4.1 g4.2
      simp only [List.drop_zero] at e
      refine ⟨?_, fun h => by simp [tl, dgt_cons, g4.1] at h⟩
      rw [e]; simp [tl, dgt_cons, g4.1, nbspL]
    · have e := esc_other (v := v) hk g0 g1 g2 g3 g4
      simp only [List.drop_zero, dgt_cons, byt_self] at e
      refine ⟨?_, fun h => ⟨?_, c, rfl, ?_⟩⟩
      · rw [e]; simp [tl, dgt_cons]
      · rw [e]; rfl
      · rw [e]
theorem step_esc (v : Bool) (c : UInt8) (m : List UInt8) : step (c :: m) = step (c :: escL v m) := by
  apply step_congr
  have a1 := esc_goes v m
  refine cand_congr rfl ?_ ?_ ?_
  · rw [tl_cons, tl_cons, dgt_succ, dgt_succ]; exact ⟨a1.1, fun h => (a1.2 h).1⟩
  · rw [tl_cons, tl_cons, tl_cons, dgt_succ, dgt_succ]
    intro h
    obtain ⟨_, d, hm, he⟩ := a1.2 h
    have a2 := esc_goes v (m.drop 1)
    rw [he]
    generalize m.drop 1 = r at *
    rw [hm, tl_cons, tl_cons, dgt_succ, dgt_succ]; exact ⟨a2.1, fun h => (a2.2 h).1⟩
  · rw [tl_cons, tl_cons, tl_cons, tl_cons, dgt_succ, dgt_succ]
    intro h h2
    obtain ⟨_, d, hm, he⟩ := a1.2 h
    have a2 := esc_goes v (m.drop 1)
    rw [he]
    generalize m.drop 1 = r at *
    rw [hm, tl_cons] at h2
    rw [hm, tl_cons, tl_cons, dgt_succ, dgt_succ]
    obtain ⟨_, d2, hm2, he2⟩ := a2.2 h2
    have a3 := esc_goes v (r.drop 1)
    rw [he2]
    generalize r.drop 1 = q at *
    rw [hm2, tl_cons, tl_cons, dgt_succ, dgt_succ]; exact ⟨a3.1, fun h => (a3.2 h).1⟩

/-! ### all of it -/
theorem esc_char (v : Bool) (c : Int) (r : List UInt8) (hc : isC c = true) (hf : forN c v = []) : escL v (ub c ++ r) = ub c ++ escL v r := by
  have hr := isC_true hc
  have hne : ub c ++ r ≠ [] := ub_ne c r
  have hn : c ≠ 38 ∧ c ≠ 160 ∧ c ≠ 60 ∧ c ≠ 62 ∧ ¬ (c = 34 ∧ v = true) := by
    refine ⟨fun h => ?_, fun h => ?_, fun h => ?_, fun h => ?_, fun h => ?_⟩
    · rw [h] at hf; cases v <;> cases hf
    · rw [h] at hf; cases v <;> cases hf
    · rw [h] at hf; cases v <;> cases hf
    · rw [h] at hf; cases v <;> cases hf
    · rw [h.1, h.2] at hf; cases hf
  by_cases hlow : c < 128
  · have e : ub c = [byt c] := by rw [ub, ubI_1 hlow]; rfl
    rw [e]
    have d0 : dgt ([byt c] ++ r) 0 = c.toNat := byt_n c (by omega) (by omega)
    by_cases h34 : c = 34
    · have hv : v = false := by cases v with | false => rfl | true => exact absurd ⟨h34, rfl⟩ hn.2.2.2.2
      subst hv
      have := esc_34 (v := false) (k := 0) (l := [byt c] ++ r) (by simp) (by rw [d0]; omega)
      simp only [List.drop_zero] at this
      rw [this]; subst h34; rfl
    · have := esc_other (v := v) (k := 0) (l := [byt c] ++ r) (by simp) (by rw [d0]; omega) (by rw [d0]; omega) (by rw [d0]; omega) (by rw [d0]; omega) (by rw [d0]; omega)
      simp only [List.drop_zero] at this
      rw [this, d0]
      have : ((c.toNat : Nat) : Int) = c := by omega
      rw [this]; rfl
  · have hcu := cand_ub c r (by omega) (by omega)
    have hsz := sz_cases c
    have hlen : (ub c).length = sz c := ub_len c
    have hrun := esc_run v (ub c ++ r) (sz c) 0 (by rw [List.length_append]; omega) (fun j hj => ?_)
    · simp only [List.drop_zero, Nat.zero_add] at hrun
      rw [hrun, ← hlen, List.take_left, List.drop_left]
    · rw [Nat.zero_add, atB_dgt]
      rcases hsz with ⟨h, e⟩ | ⟨hl, h, e⟩ | ⟨hl, h, e⟩ | ⟨h, e⟩
      · omega
      · rw [ub, ubI_2 hl h]
        simp only [List.map_cons, List.map_nil, List.cons_append, List.nil_append]
        have : j = 0 ∨ j = 1 := by omega
        rcases this with rfl | rfl
        · rw [dgt_cons, dgt_succ, dgt_cons, byt_n _ (by omega) (by omega), byt_n _ (by omega) (by omega)]
          omega
        · rw [dgt_succ, dgt_cons, byt_n _ (by omega) (by omega)]
          omega
      · rw [ub, ubI_3 hl h]
        simp only [List.map_cons, List.map_nil, List.cons_append, List.nil_append]
        have : j = 0 ∨ j = 1 ∨ j = 2 := by omega
        rcases this with rfl | rfl | rfl
        · rw [dgt_cons, byt_n _ (by omega) (by omega)]
          omega
        · rw [dgt_succ, dgt_cons, byt_n _ (by omega) (by omega)]
          omega
        · rw [dgt_succ, dgt_succ, dgt_cons, byt_n _ (by omega) (by omega)]
          omega
      · rw [ub, ubI_4 h]
        simp only [List.map_cons, List.map_nil, List.cons_append, List.nil_append]
        have : j = 0 ∨ j = 1 ∨ j = 2 ∨ j = 3 := by omega
        rcases this with rfl | rfl | rfl | rfl
        · rw [dgt_cons, byt_n _ (by omega) (by omega)]
          omega
        · rw [dgt_succ, dgt_cons, byt_n _ (by omega) (by omega)]
          omega
        · rw [dgt_succ, dgt_succ, dgt_cons, byt_n _ (by omega) (by omega)]
          omega
        · rw [dgt_succ, dgt_succ, dgt_succ, dgt_cons, byt_n _ (by omega) (by omega)]
          omega

theorem all_char (v : Bool) (c : Int) (t : List UInt8) (hc : isC c = true) (h38 : c ≠ 38) : allL v (ub c ++ t) = ub c ++ allL v t := by
  have hr := isC_true hc
  have hst := step_ub c t hc
  have h0 : ¬ dgt (ub c ++ t) 0 = 38 := by
    intro h
    have h1 := cand_1 (l := ub c ++ t) (by omega)
    rw [cand_ub c t (by omega) (by omega), h] at h1
    simp only [Option.some.injEq, Prod.mk.injEq] at h1
    exact h38 (by have := h1.1; omega)
  rw [allL_cons v (ub_ne c t), at_plain v h0, hst]
  simp only [Int.toNat_natCast]
  rw [← ub_len, List.drop_left]

theorem all_esc (v : Bool) : ∀ (f : Nat) (l : List UInt8), l.length ≤ f → allL v (escL v l) = cleanL l
  | 0, l, h => by
    have : l = [] := List.eq_nil_of_length_eq_zero (by omega)
    subst this; rfl
  | f + 1, l, h => by
    by_cases e : l = []
    · subst e; rfl
    have hl : 0 < l.length := List.length_pos_iff.2 e
    have hok := step_ok e
    rw [cleanL_cons e]
    have ih := all_esc v f (l.drop (step l).2.1) (by rw [List.length_drop]; omega)
    rw [← ih]
    cases hr : (step l).2.2 with
    | true =>
      have htk := step_take e hr
      have hc := hok.2.2.2
      have hsp : l = ub (step l).1 ++ l.drop (step l).2.1 := by rw [← htk.1, List.take_append_drop]
      generalize (step l).1 = c at *
      generalize (step l).2.1 = n at *
      generalize l.drop n = r at *
      rw [hsp]
      by_cases c38 : c = 38
      · subst c38
        have := esc_38 (v := v) (k := 0) (l := ub 38 ++ r) (by have := ub_ne 38 r; exact List.length_pos_iff.2 this) rfl
        simp only [List.drop_zero, Nat.zero_add] at this
        rw [this]; exact all_of (at_amp v _) rfl (by simp [ampL])
      by_cases c60 : c = 60
      · subst c60
        have := esc_60 (v := v) (k := 0) (l := ub 60 ++ r) (by have := ub_ne 60 r; exact List.length_pos_iff.2 this) rfl
        simp only [List.drop_zero, Nat.zero_add] at this
        rw [this]; exact all_of (at_ltr v _) rfl (by simp [ltL])
      by_cases c62 : c = 62
      · subst c62
        have := esc_62 (v := v) (k := 0) (l := ub 62 ++ r) (by have := ub_ne 62 r; exact List.length_pos_iff.2 this) rfl
        simp only [List.drop_zero, Nat.zero_add] at this
        rw [this]; exact all_of (at_gtr v _) rfl (by simp [gtL])
      by_cases c160 : c = 160
      · subst c160
        have := esc_160 (v := v) (k := 0) (l := ub 160 ++ r) (by show 1 < (194 :: 160 :: r).length; simp) rfl rfl
        simp only [List.drop_zero, Nat.zero_add] at this
        rw [this]; exact all_of (at_nbsp v _) rfl (by simp [nbspL])
      by_cases c34 : c = 34 ∧ v = true
      · obtain ⟨c34, hv⟩ := c34
        subst c34; subst hv
        have := esc_34 (v := true) (k := 0) (l := ub 34 ++ r) (by have := ub_ne 34 r; exact List.length_pos_iff.2 this) rfl
        simp only [List.drop_zero, Nat.zero_add] at this
        rw [this]; exact all_of (at_quot true _) rfl (by simp [quotL])
      have hf : forN c v = [] := by
        unfold forN
        rw [if_neg c38, if_neg c160, if_neg c60, if_neg c62, if_neg c34]
      rw [esc_char v c r hc hf, all_char v c _ hc c38]
    | false =>
      have hno := step_no hr
      obtain ⟨c, hc, hcn⟩ := drop_at l 0 hl
      rw [List.drop_zero, Nat.zero_add] at hc
      have hhigh : 128 ≤ dgt l 0 := by
        rcases Nat.lt_or_ge (dgt l 0) 128 with h1 | h1
        · have h2 := cand_1 h1
          have hcs : isC (dgt l 0 : Int) = true ∧ sz (dgt l 0 : Int) = 1 := by
            have : ∀ k : Nat, k < 128 → isC (k : Int) = true ∧ sz (k : Int) = 1 := by decide
            exact this _ h1
          have h3 := dec_yes h2 hcs.1 hcs.2
          simp only [step, h3] at hr; cases hr
        · exact h1
      have hnot : ¬ (dgt l 0 = 194 ∧ atB l 1 = 160) := by
        rintro ⟨q1, q2⟩
        have hlt := at_lt q2
        rw [atB_dgt] at q2
        have ht : tl l 1 = true := by rw [tl_iff]; exact ⟨hlt, by omega, by omega⟩
        have h2 := cand_2 (l := l) (by omega) (by omega)
        rw [if_pos ht, lo, q1, q2] at h2
        have h3 := dec_yes h2 (by decide) (by decide)
        simp only [step, h3] at hr; cases hr
      have heo := esc_other (v := v) (k := 0) (l := l) hl (by omega) (by omega) (by omega) (by omega) hnot
      rw [List.drop_zero, Nat.zero_add, ← hcn, byt_self] at heo
      have hst := step_esc v c (l.drop 1)
      rw [← hc] at hst
      rw [hno.1, hno.2, heo, allL_cons v (by simp), at_plain v (by rw [dgt_cons]; omega), ← hst, hno.1, hno.2]
      rfl

/-- What was escaped has neither < nor >, and in values no quotes. -/
def safeB (v : Bool) (c : UInt8) : Bool := !(decide (c.toNat = 60) || decide (c.toNat = 62) || (v && decide (c.toNat = 34)))
theorem esc_safe (v : Bool) : ∀ (l : List UInt8) (b : Bool), (escS v b l).all (safeB v) = true
  | [], b => by cases b <;> rfl
  | c :: l, true => by rw [escS]; exact esc_safe v l false
  | c :: l, false => by
    rw [escS]
    have i1 := esc_safe v l false
    have i2 := esc_safe v l true
    by_cases g0 : c.toNat = 38
    · rw [if_pos g0, List.all_append, i1]; cases v <;> rfl
    rw [if_neg g0]
    by_cases g1 : c.toNat = 60
    · rw [if_pos g1, List.all_append, i1]; cases v <;> rfl
    rw [if_neg g1]
    by_cases g2 : c.toNat = 62
    · rw [if_pos g2, List.all_append, i1]; cases v <;> rfl
    rw [if_neg g2]
    by_cases g3 : c.toNat = 34
    · rw [if_pos g3, List.all_append, i1]; cases v <;> rfl
    rw [if_neg g3]
    by_cases g4 : c.toNat = 194 ∧ hd160 l = true
    · rw [if_pos g4, List.all_append, i2]; cases v <;> rfl
    · rw [if_neg g4, List.all_cons, i1]
      simp [safeB, g1, g2, g3]
theorem esc_safe_at (v : Bool) (l : List UInt8) (k : Nat) (h : k < (escL v l).length) : ¬ dgt (escL v l) k = 60 ∧ ¬ dgt (escL v l) k = 62 ∧ (v = true → ¬ dgt (escL v l) k = 34) := by
  have hs := esc_safe v l false
  rw [List.all_eq_true] at hs
  have := hs _ (List.getElem_mem h)
  have e : dgt (escL v l) k = ((escL v l)[k]).toNat := by unfold dgt; rw [List.getD, List.getElem?_eq_getElem h]; rfl
  rw [e]
  unfold safeB at this
  simp at this
  exact ⟨this.1.1, this.1.2, fun hv => this.2.resolve_left (fun h => by rw [hv] at h; cases h)⟩
theorem esc_len (v : Bool) : ∀ (l : List UInt8) (b : Bool), (escS v b l).length ≤ 6 * l.length
  | [], b => by cases b <;> simp [escS]
  | c :: l, true => by rw [escS]; have := esc_len v l false; simp; omega
  | c :: l, false => by
    rw [escS]
    have i1 := esc_len v l false
    have i2 := esc_len v l true
    repeat' split
    all_goals simp [ampL, ltL, gtL, quotL, nbspL]
    all_goals omega
end Go.Proofs.YtbabmkilbbbmoaaDoor

/-
  What 'pen.Open' does: a tag's text, or why it has none.
-/
namespace Go.Proofs.YtbabmkilbbbmoaaDoor
open Go.RowKit
set_option linter.unusedVariables false

def attB (n v : List UInt8) : List UInt8 := [32] ++ (n ++ ([61, 34] ++ (escL true v ++ [34])))
def attL (ats : List (ByteArray × ByteArray)) : Nat → List UInt8
  | 0 => []
  | k + 1 => attL ats k ++ attB (an ats k).data.toList (av ats k).data.toList
def openL (n : List UInt8) (ats : List (ByteArray × ByteArray)) : List UInt8 := [60] ++ (n ++ (attL ats ats.length ++ [62]))
/-- What is wrong with a tag; 0: nothing. -/
def wrongN (n : List UInt8) (ats : List (ByteArray × ByteArray)) : Int :=
  if (nameB n && rightAs ats) = false then 4 else if diffN ats < ats.length then 8 else if 12 < ats.length then 2 else 0
def openV (n : List UInt8) (ats : List (ByteArray × ByteArray)) : Value := .tuple #[.string (if wrongN n ats = 0 then bs (openL n ats) else ⟨#[]⟩), .int .i64 (wrongN n ats)]
theorem att_bs (a e : ByteArray) : (⟨#[32]⟩ : ByteArray) ++ a ++ ⟨#[61, 34]⟩ ++ e ++ ⟨#[34]⟩ = bs ([32] ++ (a.data.toList ++ ([61, 34] ++ (e.data.toList ++ [34])))) := by
  have h1 : (⟨#[32]⟩ : ByteArray) = bs [32] := rfl
  have h2 : (⟨#[61, 34]⟩ : ByteArray) = bs [61, 34] := rfl
  have h3 : (⟨#[34]⟩ : ByteArray) = bs [34] := rfl
  rw [h1, h2, h3, bs_add, bs_bs, bs_add, bs_bs]; simp

end Go.Proofs.YtbabmkilbbbmoaaDoor

/-
  What the reference's Wrong, Plain and Open of layer 6 do.
-/
namespace Go.Proofs.YtbabmkilbbbmoaaDoor
open Go.RowKit
set_option linter.unusedVariables false

theorem wrong_1 {n : List UInt8} {ats : List (ByteArray × ByteArray)} (h : nameB n = false) : wrongN n ats = 4 := by unfold wrongN; rw [h]; rfl
theorem wrong_2 {n : List UInt8} {ats : List (ByteArray × ByteArray)} (h : rightAs ats = false) : wrongN n ats = 4 := by unfold wrongN; rw [h, Bool.and_false]; rfl
theorem wrong_3 {n : List UInt8} {ats : List (ByteArray × ByteArray)} (h1 : nameB n = true) (h2 : rightAs ats = true) (h3 : dupF ats ats.length = true) : wrongN n ats = 8 := by
  rw [diff_dup] at h3
  unfold wrongN; rw [h1, h2, if_neg (by decide), if_pos (of_decide_eq_true h3)]
theorem wrong_4 {n : List UInt8} {ats : List (ByteArray × ByteArray)} (h1 : nameB n = true) (h2 : rightAs ats = true) (h3 : dupF ats ats.length = false) (h4 : 12 < ats.length) : wrongN n ats = 2 := by
  rw [diff_dup] at h3
  unfold wrongN; rw [h1, h2, if_neg (by decide), if_neg (of_decide_eq_false h3), if_pos h4]
theorem wrong_0 {n : List UInt8} {ats : List (ByteArray × ByteArray)} (h1 : nameB n = true) (h2 : rightAs ats = true) (h3 : dupF ats ats.length = false) (h4 : ¬ 12 < ats.length) : wrongN n ats = 0 := by
  rw [diff_dup] at h3
  unfold wrongN; rw [h1, h2, if_neg (by decide), if_neg (of_decide_eq_false h3), if_neg h4]

theorem openV_0 {n : List UInt8} {ats : List (ByteArray × ByteArray)} (h : wrongN n ats = 0) : openV n ats = .tuple #[.string (bs (openL n ats)), .int .i64 0] := by unfold openV; rw [h]; rfl
theorem openV_1 {n : List UInt8} {ats : List (ByteArray × ByteArray)} (h : ¬ wrongN n ats = 0) : openV n ats = .tuple #[.string ⟨#[]⟩, .int .i64 (wrongN n ats)] := by unfold openV; rw [if_neg h]
end Go.Proofs.YtbabmkilbbbmoaaDoor

/-
  What 'pen.Open' tells where something is wrong, and on the whole.
-/
namespace Go.Proofs.YtbabmkilbbbmoaaDoor
open Go.RowKit
set_option linter.unusedVariables false

end Go.Proofs.YtbabmkilbbbmoaaDoor

/-
  'pen.Open' and the reference's where there are no attributes at all, wherever the slice may point to.
-/
namespace Go.Proofs.YtbabmkilbbbmoaaDoor
open Go.RowKit
set_option linter.unusedVariables false

theorem right_nil : rightAs [] = true := rfl
theorem dup_nil : dupF [] ([] : List (ByteArray × ByteArray)).length = false := rfl
end Go.Proofs.YtbabmkilbbbmoaaDoor

/-
  'tree.textAlone'.
-/
namespace Go.Proofs.YtbabmkilbbbmoaaDoor
open Go.RowKit
set_option linter.unusedVariables false

def taB (sp : Int) (n tx : ByteArray) (al kl : Nat) : Bool := goodB tx.data.toList && (sp == 0 && (n.toList.isEmpty && (al == 0 && kl == 0)))
end Go.Proofs.YtbabmkilbbbmoaaDoor

/-
  'tree.rightAlone'.
-/
namespace Go.Proofs.YtbabmkilbbbmoaaDoor
open Go.RowKit
set_option linter.unusedVariables false

def raB (k sp : Int) (n : ByteArray) (ats : List (ByteArray × ByteArray)) (tx : ByteArray) (kl : Nat) : Bool :=
  if k = 1 then decide (wrongN n.data.toList ats = 0) && (decide (0 ≤ sp) && (decide (sp ≤ 2) && tx.toList.isEmpty))
  else if k = 2 then !tx.toList.isEmpty && taB sp n tx ats.length kl
  else if k = 3 then taB sp n tx ats.length kl else false
end Go.Proofs.YtbabmkilbbbmoaaDoor
