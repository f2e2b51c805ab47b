/-
  Plain facts on addresses: the plain form of a plain form is itself; what is put in changes nothing; parts that are told are those of the address.
-/
import Derived.Test.YtcpebhecjlcioaaVJn
namespace Go.Proofs.Ytcpebhecjlcioaa
open Go.RowKit
set_option linter.unusedVariables false

theorem sp_not_kp {c : UInt8} (h : kpB c = false) : spB c = true := by
  simp only [kpB, decide_eq_false_iff_not, Decidable.not_not] at h
  simp only [spB, decide_eq_true_eq]; omega
theorem trL_filter : ∀ l : List UInt8, trL (l.filter kpB) = (trL l).filter kpB
  | [] => rfl
  | c :: t => by
    have ih := trL_filter t
    cases hs : spB c with
    | true =>
      have e : trL (c :: t) = trL t := by simp [trL, hs]
      rw [e, ← ih]
      cases hk : kpB c with
      | true => rw [List.filter_cons_of_pos hk]; simp [trL, hs]
      | false => rw [List.filter_cons_of_neg (by rw [hk]; decide)]
    | false =>
      have hk : kpB c = true := by
        cases hk : kpB c with
        | true => rfl
        | false => rw [sp_not_kp hk] at hs; cases hs
      have e : trL (c :: t) = c :: t := by simp [trL, hs]
      rw [e, List.filter_cons_of_pos hk]
      simp [trL, hs]
theorem trR_is (l : List UInt8) : trR l = (trL l.reverse).reverse := rfl
theorem trR_filter (l : List UInt8) : trR (l.filter kpB) = (trR l).filter kpB := by
  rw [trR_is, trR_is, ← List.filter_reverse, trL_filter, List.filter_reverse]
theorem plL_is (l : List UInt8) : plL l = cut2 (l.filter kpB) := by
  rw [plL, cut2, cut2, trL_filter, trR_filter]
theorem trL_pad : ∀ (A x : List UInt8), (∀ a ∈ A, spB a = true) → trL (A ++ x) = trL x
  | [], x, _ => rfl
  | a :: A, x, h => by
    have h0 := h a (by simp)
    rw [List.cons_append]
    have : trL (a :: (A ++ x)) = trL (A ++ x) := by simp [trL, h0]
    rw [this]
    exact trL_pad A x (fun b hb => h b (by simp [hb]))
theorem trL_all (B : List UInt8) (h : ∀ a ∈ B, spB a = true) : trL B = [] := by
  have := trL_pad B [] h
  rw [List.append_nil] at this
  rw [this]; rfl
theorem trR_pad (x B : List UInt8) (h : ∀ a ∈ B, spB a = true) : trR (x ++ B) = trR x := by
  rw [trR_is, List.reverse_append, trL_pad _ _ (fun a ha => h a (by simpa using ha))]; rfl
theorem cut2_back (B : List UInt8) (h : ∀ a ∈ B, spB a = true) : ∀ m : List UInt8, cut2 (m ++ B) = cut2 m
  | [] => by
    rw [List.nil_append, cut2, trL_all B h]; rfl
  | c :: t => by
    cases hs : spB c with
    | true =>
      have e1 : trL (c :: t) = trL t := by simp [trL, hs]
      have e2 : trL (c :: t ++ B) = trL (t ++ B) := by rw [List.cons_append]; simp [trL, hs]
      rw [cut2, e2, cut2, e1]
      exact cut2_back B h t
    | false =>
      have e1 : trL (c :: t) = c :: t := by simp [trL, hs]
      have e2 : trL (c :: t ++ B) = c :: t ++ B := by rw [List.cons_append]; simp [trL, hs]
      rw [cut2, e2, cut2, e1, trR_pad _ _ h]
theorem cut2_pad (A m B : List UInt8) (hA : ∀ a ∈ A, spB a = true) (hB : ∀ a ∈ B, spB a = true) : cut2 (A ++ (m ++ B)) = cut2 m := by
  have : cut2 (A ++ (m ++ B)) = cut2 (m ++ B) := by rw [cut2, trL_pad A _ hA, cut2]
  rw [this, cut2_back B hB m]
theorem hidden_is (l A B : List UInt8) (k : Nat) (hA : ∀ a ∈ A, spB a = true) (hB : ∀ a ∈ B, spB a = true) : plL (A ++ (l.take k ++ ([9, 13, 10] ++ (l.drop k ++ B)))) = plL l := by
  rw [plL_is, plL_is, List.filter_append, List.filter_append, List.filter_append, List.filter_append]
  have e : ([9, 13, 10] : List UInt8).filter kpB = [] := by decide
  rw [e, List.nil_append, ← List.append_assoc ((l.take k).filter kpB), ← List.filter_append, List.take_append_drop]
  exact cut2_pad _ _ _ (fun a ha => hA a ((List.mem_filter.1 ha).1)) (fun a ha => hB a ((List.mem_filter.1 ha).1))

theorem pl_fix {l : List UInt8} (h1 : l.length = 0 ∨ 32 < dgt l 0) (h2 : l.length = 0 ∨ 32 < dgt l (l.length - 1)) (h3 : ∀ c ∈ l, kpB c = true) : plL l = l := by
  rw [plL_is, List.filter_eq_self.2 h3, cut2, trL_done l h1, trR_done l h2]
theorem cut2_last (l : List UInt8) : (cut2 l).length = 0 ∨ 32 < dgt (cut2 l) ((cut2 l).length - 1) := by
  by_cases h0 : (cut2 l).length = 0
  · exact .inl h0
  · right
    have e : cut2 l = (trL (trL l).reverse).reverse := rfl
    have h1 : 0 < (trL (trL l).reverse).length := by rw [e, List.length_reverse] at h0; omega
    have := trL_first _ h1
    obtain ⟨c, t, ec, hc⟩ := cons_of _ h1
    rw [hc] at this
    rw [e, ec, List.reverse_cons, List.length_append, List.length_singleton, List.length_reverse]
    unfold dgt
    rw [List.getD, List.getElem?_append_right (by simp), List.length_reverse]
    simpa using this
theorem kp_big {c : UInt8} (h : 32 < c.toNat) : kpB c = true := by simp only [kpB, decide_eq_true_eq]; omega
theorem pl_first (l : List UInt8) : (plL l).length = 0 ∨ 32 < dgt (plL l) 0 := by
  by_cases h0 : (cut2 l).length = 0
  · left; rw [plL, List.eq_nil_of_length_eq_zero h0]; rfl
  · have hf := cut2_first l (by omega)
    obtain ⟨c, t, ec, hc⟩ := cons_of (cut2 l) (by omega)
    rw [hc] at hf
    right
    rw [plL, ec, List.filter_cons_of_pos (kp_big hf)]
    exact hf
theorem pl_last (l : List UInt8) : (plL l).length = 0 ∨ 32 < dgt (plL l) ((plL l).length - 1) := by
  by_cases h0 : (cut2 l).length = 0
  · left; rw [plL, List.eq_nil_of_length_eq_zero h0]; rfl
  · have hf : 32 < dgt (cut2 l) ((cut2 l).length - 1) := by rcases cut2_last l with h | h; exact absurd h h0; exact h
    obtain ⟨t, c, ec, hc, _⟩ := snoc_of (cut2 l) (by omega)
    rw [hc] at hf
    right
    rw [plL, ec, List.filter_append, List.filter_cons_of_pos (kp_big hf), List.filter_nil, List.length_append, List.length_singleton]
    unfold dgt
    rw [List.getD, List.getElem?_append_right (by omega)]
    simpa using hf
theorem pl_kept (l : List UInt8) : ∀ c ∈ plL l, kpB c = true := fun c hc => (List.mem_filter.1 hc).2
theorem pl_pl (l : List UInt8) : plL (plL l) = plL l := pl_fix (pl_first l) (pl_last l) (pl_kept l)

/-! ### parts, and what they tell -/

theorem tk_split (p : Nat → Bool) (l : List UInt8) (h : tkN p l < l.length) : ∃ c, l = l.take (tkN p l) ++ c :: l.drop (tkN p l + 1) ∧ p c.toNat = false := by
  refine ⟨l[tkN p l], ?_, ?_⟩
  · rw [List.getElem_cons_drop, List.take_append_drop]
  · have := tkN_at p l h
    unfold dgt at this
    rw [List.getD, List.getElem?_eq_getElem h] at this
    exact this
theorem nf_one {a : Nat} {c : UInt8} (h : nfN a a c.toNat = false) : c.toNat = a := by
  by_cases e : c.toNat = a
  · exact e
  · rw [nf_yes e e] at h; cases h
theorem u8_is {c : UInt8} {n : Nat} (h : c.toNat = n) (hn : n < 256) : c = UInt8.ofNat n := by
  apply UInt8.toNat.inj; rw [h, UInt8.toNat_ofNat']; omega

def jnL (x : List UInt8) : List UInt8 := (jnB (bs (sSc x)) (bs (hoL (s3 x))) (bs (paL (s3 x))) (bs (sQu x)) (bs (sMa x)) (decide (0 < schN x)) (hstB (s3 x)) (decide (sQ x < (s2 x).length)) (decide (sM x < (s1 x).length))).data.toList

theorem s3_parts (y : List UInt8) : (if hstB y = true then [47, 47] ++ hoL y else []) ++ paL y = y := by
  cases h : hstB y with
  | false => rw [if_neg (by decide), paL, h, if_neg (by decide)]; rfl
  | true =>
    rw [if_pos rfl, hoL, paL, h, if_pos rfl, if_pos rfl, List.append_assoc, List.take_append_drop]
    unfold hstB at h
    obtain ⟨t, ht⟩ := List.isPrefixOf_iff_prefix.1 h
    rw [← ht]; rfl
theorem tk_parts (a : UInt8) (l : List UInt8) : l.take (tkN (nfN a.toNat a.toNat) l) ++ (if tkN (nfN a.toNat a.toNat) l < l.length then a :: l.drop (tkN (nfN a.toNat a.toNat) l + 1) else []) = l := by
  by_cases h : tkN (nfN a.toNat a.toNat) l < l.length
  · rw [if_pos h]
    obtain ⟨c, e, hc⟩ := tk_split _ l h
    have := UInt8.toNat.inj (nf_one hc)
    rw [this] at e
    exact e.symm
  · rw [if_neg h, List.append_nil]
    exact List.take_of_length_le (by omega)
theorem s2_parts (x : List UInt8) : s3 x ++ (if sQ x < (s2 x).length then 63 :: sQu x else []) = s2 x := tk_parts 63 (s2 x)
theorem s1_parts (x : List UInt8) : s2 x ++ (if sM x < (s1 x).length then 35 :: sMa x else []) = s1 x := tk_parts 35 (s1 x)
theorem if_dec {α : Type} {p : Prop} [Decidable p] (a b : α) : (if decide p = true then a else b) = if p then a else b := by
  by_cases h : p <;> simp [h]
theorem jn_is (x : List UInt8) : jnL x = (if 0 < schN x then sSc x ++ [58] else []) ++ s1 x := by
  unfold jnL jnB
  rw [bs_toList, bs_toList, bs_toList, bs_toList, bs_toList, bs_toList, if_dec, if_dec, if_dec]
  congr 1
  have h3 := s3_parts (s3 x)
  have h2 := s2_parts x
  have h1 := s1_parts x
  rw [← List.append_assoc (if hstB (s3 x) = true then _ else _), h3, ← List.append_assoc (s3 x), h2, h1]
theorem sch_cons {x : List UInt8} (h : 0 < schN x) : x.drop (schN x) = 58 :: s1 x := by
  obtain ⟨p1, p2, p3⟩ := schN_parts h
  rw [s1, if_pos h]
  obtain ⟨c, hc, hn⟩ := drop_at x (schN x) p2
  rw [p3] at hn
  rw [hc]
  have : c = 58 := UInt8.toNat.inj (by rw [hn]; rfl)
  rw [this]
theorem jn_low (x : List UInt8) : jnL x = lowL (x.take (schN x)) ++ x.drop (schN x) := by
  rw [jn_is]
  by_cases h : 0 < schN x
  · rw [if_pos h, sch_cons h, sSc, if_pos h]; simp
  · have h0 : schN x = 0 := by omega
    rw [if_neg h, s1, if_neg h, h0]; rfl
theorem sc_len (x : List UInt8) : (sSc x).length = schN x := by
  unfold sSc
  split
  · rename_i h
    have := (schN_parts h).2.1
    rw [lowL_len, List.length_take]; omega
  · simp; omega
theorem jn_len (x : List UInt8) : (jnL x).length = x.length := by
  rw [jn_low, List.length_append, lowL_len, ← List.length_append, List.take_append_drop]
theorem sch_le (x : List UInt8) : schN x ≤ x.length := by
  by_cases h : 0 < schN x
  · have := (schN_parts h).2.1; omega
  · omega
theorem jn_front (x : List UInt8) : (jnL x).take (schN x) = lowL (x.take (schN x)) := by
  rw [jn_low]
  have hl : (lowL (x.take (schN x))).length = schN x := by have := sch_le x; rw [lowL_len, List.length_take]; omega
  exact List.take_left' hl
theorem jn_back (x : List UInt8) (k : Nat) : (jnL x).drop (schN x + k) = x.drop (schN x + k) := by
  rw [jn_low]
  have hl : (lowL (x.take (schN x))).length = schN x := by have := sch_le x; rw [lowL_len, List.length_take]; omega
  rw [← List.drop_drop, List.drop_left' hl, List.drop_drop]
theorem lowL_at (l : List UInt8) (j : Nat) (h : j < l.length) : dgt (lowL l) j = lowN (dgt l j) := by
  have h2 : j < (lowL l).length := by rw [lowL_len]; exact h
  unfold dgt
  rw [List.getD, List.getElem?_eq_getElem h2]
  show ((lowL l)[j]).toNat = _
  rw [lowL_dgt l j h, UInt8.toNat_ofNat']
  have := lowN_lt l j
  unfold dgt at this ⊢
  omega
theorem dgt_take (l : List UInt8) (k j : Nat) (h : j < k) : dgt (l.take k) j = dgt l j := by
  unfold dgt; rw [List.getD, List.getD, List.getElem?_take_of_lt h]
theorem jn_at (x : List UInt8) (j : Nat) (h : j < schN x) : dgt (jnL x) j = lowN (dgt x j) := by
  have hl := sch_le x
  rw [← dgt_take _ (schN x) j h, jn_front, lowL_at _ _ (by rw [List.length_take]; omega), dgt_take _ _ _ h]
theorem jn_from (x : List UInt8) (j : Nat) (h : schN x ≤ j) : dgt (jnL x) j = dgt x j := by
  have := jn_back x 0
  rw [Nat.add_zero] at this
  have e1 := dgt_drop (jnL x) (schN x) (j - schN x)
  have e2 := dgt_drop x (schN x) (j - schN x)
  rw [this, show schN x + (j - schN x) = j by omega] at e1
  rw [show schN x + (j - schN x) = j by omega] at e2
  rw [← e1, e2]
theorem low_lt {b : Nat} (h : ltN b = true) : ltN (lowN b) = true := by
  cases hu : upN b with
  | true => rw [lowN_up hu]; have := upN_true hu; simp [ltN]; omega
  | false => rw [lowN_no hu]; exact h
theorem low_of {b : Nat} (h : ofN b = true) : ofN (lowN b) = true := by
  cases hu : upN b with
  | true => rw [lowN_up hu]; have := upN_true hu; apply of_lt; simp [ltN]; omega
  | false => rw [lowN_no hu]; exact h
theorem sch_in {x : List UInt8} (h : 0 < schN x) : ltN (dgt x 0) = true ∧ ∀ j, j < schN x → ofN (dgt x j) = true := by
  obtain ⟨p1, p2, p3⟩ := schN_parts h
  by_cases hy : 0 < x.length ∧ ltN (dgt x 0) = true
  · refine ⟨hy.2, fun j hj => ?_⟩
    have e := szN_yes hy.1 hy.2
    rw [p1] at e
    rw [e] at hj
    exact tkN_in _ _ _ hj
  · rw [szN_no hy] at p1; omega
theorem jn_sch (x : List UInt8) : schN (jnL x) = schN x := by
  by_cases h : 0 < schN x
  · obtain ⟨p1, p2, p3⟩ := schN_parts h
    obtain ⟨q1, q2⟩ := sch_in h
    have f0 : ltN (dgt (jnL x) 0) = true := by rw [jn_at x 0 h]; exact low_lt q1
    have fn : dgt (jnL x) (schN x) = 58 := by rw [jn_from x _ (Nat.le_refl _)]; exact p3
    have hz : szN (jnL x) = schN x := by
      rw [szN_yes (by rw [jn_len]; omega) f0]
      refine tkN_is ofN _ _ (by rw [jn_len]; omega) (fun j hj => by rw [jn_at x j hj]; exact low_of (q2 j hj)) (.inr ?_)
      rw [fn]; rfl
    rw [schN_yes (by omega) (by rw [hz, jn_len]; exact p2) (by rw [hz]; exact fn), hz]
  · have h0 : schN x = 0 := by omega
    have : jnL x = x := by rw [jn_low, h0]; rfl
    rw [this]
theorem jn_s1 (x : List UInt8) : s1 (jnL x) = s1 x := by
  by_cases h : 0 < schN x
  · rw [s1, jn_sch, if_pos h, s1, if_pos h, jn_back]
  · have h0 : schN x = 0 := by omega
    have : jnL x = x := by rw [jn_low, h0]; rfl
    rw [this]
theorem jn_sc (x : List UInt8) : sSc (jnL x) = sSc x := by
  unfold sSc
  rw [jn_sch]
  split
  · rw [jn_front, lowL_low]
  · rfl
theorem jn_parts (x : List UInt8) : spC (jnL x) = spC x := by
  have e1 := jn_s1 x
  have eM : sM (jnL x) = sM x := by rw [sM, e1, sM]
  have e2 : s2 (jnL x) = s2 x := by rw [s2, e1, eM, s2]
  have eQ : sQ (jnL x) = sQ x := by rw [sQ, e2, sQ]
  have e3 : s3 (jnL x) = s3 x := by rw [s3, e2, eQ, s3]
  have eA : sMa (jnL x) = sMa x := by rw [sMa, e1, eM, sMa]
  have eB : sQu (jnL x) = sQu x := by rw [sQu, e2, eQ, sQu]
  unfold spC
  rw [jn_sc, e3, eB, eA, jn_sch, eQ, e2, eM, e1]
theorem lt_big {b : Nat} (h : ltN b = true) : 32 < b := by have := ltN_true h; omega
theorem of_big {b : Nat} (h : ofN b = true) : 32 < b := by
  simp [ofN, dgN] at h
  rcases h with h | h | h
  · exact lt_big h
  · omega
  · omega
theorem jn_plain (l : List UInt8) : plL (jnL (plL l)) = jnL (plL l) := by
  have hf := pl_first l
  have hl := pl_last l
  have hk := pl_kept l
  generalize plL l = x at *
  by_cases h : 0 < schN x
  · obtain ⟨p1, p2, p3⟩ := schN_parts h
    obtain ⟨q1, q2⟩ := sch_in h
    refine pl_fix (.inr ?_) (.inr ?_) ?_
    · rw [jn_at x 0 h]; exact lt_big (low_lt q1)
    · rw [jn_len, jn_from x _ (by omega)]
      rcases hl with h9 | h9
      · omega
      · exact h9
    · intro c hc
      obtain ⟨j, hj, e⟩ := List.getElem_of_mem hc
      have hd : dgt (jnL x) j = c.toNat := by
        unfold dgt; rw [List.getD, List.getElem?_eq_getElem hj, ← e]; rfl
      by_cases hjn : j < schN x
      · rw [jn_at x j hjn] at hd
        apply kp_big
        rw [← hd]
        exact of_big (low_of (q2 j hjn))
      · rw [jn_from x j (by omega)] at hd
        rw [jn_len] at hj
        apply hk
        have e2 : x[j] = c := by
          apply UInt8.toNat.inj
          rw [← hd]
          unfold dgt; rw [List.getD, List.getElem?_eq_getElem hj]; rfl
        rw [← e2]
        exact List.getElem_mem hj
  · have h0 : schN x = 0 := by omega
    have : jnL x = x := by rw [jn_low, h0]; rfl
    rw [this]
    exact pl_fix hf hl hk
end Go.Proofs.Ytcpebhecjlcioaa
