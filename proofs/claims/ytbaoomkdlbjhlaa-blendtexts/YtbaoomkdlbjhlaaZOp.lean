/-
  Three lists as one, plainly: where one side is as there was, and turned about.
-/
import Derived.Test.YtbaoomkdlbjhlaaZJp
namespace Go.Proofs.Ytbaoomkdlbjhlaa
open Go.RowKit
set_option linter.unusedVariables false
set_option linter.unusedSimpArgs false

theorem trF_mem : ∀ (f : Nat) (l m : List (Nat × Nat)), l.length + m.length ≤ f → ∀ t ∈ trF l m, (t.1, t.2.1) ∈ l ∧ (t.1, t.2.2) ∈ m := by
  intro f
  induction f with
  | zero =>
    intro l m h t ht
    have : l = [] := List.eq_nil_of_length_eq_zero (by omega)
    subst this
    rw [trF_nil] at ht; cases ht
  | succ f ih =>
    intro l m h t ht
    cases l with
    | nil => rw [trF_nil] at ht; cases ht
    | cons p r =>
      cases m with
      | nil => rw [trF_none] at ht; cases ht
      | cons q s =>
        simp only [List.length_cons] at h
        by_cases e1 : p.1 < q.1
        · rw [trF_lt _ _ _ _ e1] at ht
          have := ih r (q :: s) (by simp only [List.length_cons]; omega) t ht
          exact ⟨List.mem_cons_of_mem _ this.1, this.2⟩
        · by_cases e2 : q.1 < p.1
          · rw [trF_gt _ _ _ _ e2] at ht
            have := ih (p :: r) s (by simp only [List.length_cons]; omega) t ht
            exact ⟨this.1, List.mem_cons_of_mem _ this.2⟩
          · have e3 : p.1 = q.1 := by omega
            rw [trF_eq _ _ _ _ e3] at ht
            rcases List.mem_cons.1 ht with rfl | ht
            · exact ⟨List.mem_cons_self .., by rw [e3]; exact List.mem_cons_self ..⟩
            · have := ih r s (by omega) t ht
              exact ⟨List.mem_cons_of_mem _ this.1, List.mem_cons_of_mem _ this.2⟩
theorem rise_mem {E : Nat → Nat → Bool} {n m : Nat} : ∀ (r : List (Nat × Nat)) (i j : Nat), RiseFrom E n m i j r → ∀ p ∈ r, E p.1 p.2 = true ∧ p.1 < n ∧ p.2 < m
  | [], _, _, _, _, hp => by cases hp
  | q :: r, i, j, h, p, hp => by
    rcases List.mem_cons.1 hp with rfl | hp
    · exact ⟨h.2.2.2.2.1, h.2.2.1, h.2.2.2.1⟩
    · exact rise_mem r _ _ h.2.2.2.2.2 p hp
theorem lnP_self (ss : List ByteArray) : ∀ (d i : Nat), ss.length - i = d → ∀ p ∈ lnP (eqT ss ss) ss.length ss.length i i, p.1 = p.2 := by
  intro d
  induction d with
  | zero => intro i h p hp; rw [lnP_out _ _ _ _ _ (by omega)] at hp; cases hp
  | succ d ih =>
    intro i h p hp
    rw [lnP_yes _ _ _ _ _ (by omega) (by omega) (by unfold eqT; simp)] at hp
    rcases List.mem_cons.1 hp with rfl | hp
    · rfl
    · exact ih (i + 1) (by omega) p hp
theorem trF_self : ∀ l : List (Nat × Nat), trF l l = l.map (fun p => (p.1, p.2, p.2))
  | [] => by rw [trF_nil]; rfl
  | p :: r => by rw [trF_eq _ _ _ _ rfl, trF_self r]; rfl
theorem trF_swap : ∀ (f : Nat) (l m : List (Nat × Nat)), l.length + m.length ≤ f → trF m l = (trF l m).map (fun t => (t.1, t.2.2, t.2.1)) := by
  intro f
  induction f with
  | zero =>
    intro l m h
    have : l = [] := List.eq_nil_of_length_eq_zero (by omega)
    subst this
    rw [trF_nil, trF_none]; rfl
  | succ f ih =>
    intro l m h
    cases l with
    | nil => rw [trF_nil, trF_none]; rfl
    | cons p r =>
      cases m with
      | nil => rw [trF_none, trF_nil]; rfl
      | cons q s =>
        simp only [List.length_cons] at h
        by_cases e1 : p.1 < q.1
        · rw [trF_lt _ _ _ _ e1, trF_gt _ _ _ _ e1]
          exact ih r (q :: s) (by simp only [List.length_cons]; omega)
        · by_cases e2 : q.1 < p.1
          · rw [trF_gt _ _ _ _ e2, trF_lt _ _ _ _ e2]
            exact ih (p :: r) s (by simp only [List.length_cons]; omega)
          · have e3 : p.1 = q.1 := by omega
            rw [trF_eq _ _ _ _ e3, trF_eq _ _ _ _ e3.symm, ih r s (by omega)]
            simp [e3]
theorem sub_drop (c : List ByteArray) (k k' : Nat) (h : k ≤ k') (h2 : k' ≤ c.length) : sub c k k' ++ c.drop k' = c.drop k := by
  unfold sub
  have := List.take_append_drop k' c
  have e : c.drop k = ((c.take k') ++ c.drop k').drop k := by rw [this]
  rw [e, List.drop_append_of_le_length (by rw [List.length_take]; omega)]
theorem sub_end (c : List ByteArray) (k : Nat) : sub c k c.length = c.drop k := by unfold sub; rw [List.take_length]
theorem sub_one (c : List ByteArray) (k : Nat) (h : k < c.length) : sub c k (k + 1) = [tx c k] := by
  unfold sub tx
  rw [List.take_add_one, List.getElem?_eq_getElem h, List.drop_append, List.getD, List.getElem?_eq_getElem h]
  have e : (c.take k).length = k := by rw [List.length_take]; omega
  rw [e, Nat.sub_self, List.drop_of_length_le (by omega)]
  rfl
theorem sub_nil (c : List ByteArray) (k : Nat) : sub c k k = [] := by unfold sub; exact List.drop_of_length_le (by rw [List.length_take]; omega)
theorem eqT_tx {ss tt : List ByteArray} {i j : Nat} (h : eqT ss tt i j = true) : tx ss i = tx tt j := by
  have := of_decide_eq_true h
  cases h1 : tx ss i
  cases h2 : tx tt j
  rw [h1, h2] at this
  congr 1
  simpa using this

theorem jn_gen (o a b c : List ByteArray) (sel : Nat → Nat → Nat → Nat) (inv : Nat → Nat → Nat → Prop)
    (hst : ∀ i i' j j' k k', inv i j k → inv i' j' k' → i ≤ i' → j ≤ j' → k ≤ k' → i' ≤ o.length → j' ≤ a.length → k' ≤ b.length → jnF o a b (stF (smT o a b) i i' j j' k k') = sub c (sel i j k) (sel i' j' k') ∧ clF (stF (smT o a b) i i' j j' k k') = 0)
    (hend : inv o.length a.length b.length ∧ sel o.length a.length b.length = c.length)
    (hsel : ∀ i j k i' j' k', i ≤ i' → j ≤ j' → k ≤ k' → sel i j k ≤ sel i' j' k') (hs1 : ∀ i j k, sel (i + 1) (j + 1) (k + 1) = sel i j k + 1) (hi1 : ∀ i j k, inv i j k → inv (i + 1) (j + 1) (k + 1)) :
    ∀ (r : List (Nat × Nat × Nat)) (i j k : Nat), UpT o.length a.length b.length i j k r → inv i j k → i ≤ o.length → j ≤ a.length → k ≤ b.length →
      (∀ t ∈ r, inv t.1 t.2.1 t.2.2 ∧ sub o t.1 (t.1 + 1) = sub c (sel t.1 t.2.1 t.2.2) (sel t.1 t.2.1 t.2.2 + 1)) →
      jnF o a b (ptF (smT o a b) o.length a.length b.length i j k r) = c.drop (sel i j k) ∧ clF (ptF (smT o a b) o.length a.length b.length i j k r) = 0
  | [], i, j, k, _, hv, h1, h2, h3, _ => by
    have := hst i o.length j a.length k b.length hv hend.1 h1 h2 h3 (Nat.le_refl _) (Nat.le_refl _) (Nat.le_refl _)
    rw [hend.2, sub_end] at this
    exact this
  | t :: r, i, j, k, hu, hv, h1, h2, h3, hm => by
    obtain ⟨u1, u2, u3, u4, u5, u6, u7⟩ := hu
    obtain ⟨m1, m2⟩ := hm t (List.mem_cons_self ..)
    have e1 := hst i t.1 j t.2.1 k t.2.2 hv m1 u1 u2 u3 (by omega) (by omega) (by omega)
    have e2 := jn_gen o a b c sel inv hst hend hsel hs1 hi1 r (t.1 + 1) (t.2.1 + 1) (t.2.2 + 1) u7 (hi1 _ _ _ m1) u4 u5 u6 (fun x hx => hm x (List.mem_cons_of_mem _ hx))
    have hle : sel (t.1 + 1) (t.2.1 + 1) (t.2.2 + 1) ≤ c.length := by rw [← hend.2]; exact hsel _ _ _ _ _ _ u4 u5 u6
    rw [hs1] at hle e2
    rw [ptF, jnF_app, clF_app, jnF, clF, e1.1, e1.2, e2.1, e2.2]
    refine ⟨?_, by simp [keptT]⟩
    have e3 : jn1 o a b (keptT t) = sub o t.1 (t.1 + 1) := rfl
    rw [e3, m2, sub_drop c _ _ (Nat.le_succ _) hle, sub_drop c _ _ (hsel _ _ _ _ _ _ u1 u2 u3) (by omega)]
theorem jn_st (o a b : List ByteArray) (i i' j j' k k' : Nat) : jnF o a b (stF (smT o a b) i i' j j' k k') = if i = i' ∧ j = j' ∧ k = k' then [] else jn1 o a b (kdF (smT o a b) i i' j j' k k', (i, i'), (j, j'), (k, k')) := by
  unfold stF
  split
  · rfl
  · simp [jnF]
theorem cl_st (o a b : List ByteArray) (i i' j j' k k' : Nat) (h : kdF (smT o a b) i i' j j' k k' ≠ 5) : clF (stF (smT o a b) i i' j j' k k') = 0 := by
  unfold stF
  split
  · rfl
  · simp [clF, h]
/-- Ours as there was. -/
theorem one_ooa (o a : List ByteArray) : jnF o o a (allP o o a) = a ∧ clF (allP o o a) = 0 := by
  have := jn_gen o o a a (fun _ _ k => k) (fun i j _ => i = j)
    (fun i i' j j' k k' h1 h2 h3 h4 h5 _ _ _ => by
      subst h1
      subst h2
      have hk : kdF (smT o o a) i i' i i' k k' = 2 := by unfold kdF smT; simp only []; rw [sameT_refl]; rfl
      refine ⟨?_, cl_st _ _ _ _ _ _ _ _ _ (by rw [hk]; decide)⟩
      rw [jn_st, hk]
      split
      · rename_i h; rw [h.2.2, sub_nil]
      · rfl) ⟨rfl, rfl⟩ (fun _ _ _ _ _ _ _ _ h => h) (fun _ _ _ => rfl) (fun _ _ _ h => by omega) _ 0 0 0 (allP_up o o a) rfl (Nat.zero_le _) (Nat.zero_le _) (Nat.zero_le _)
    (fun t ht => by
      obtain ⟨m1, m2⟩ := trF_mem _ _ _ (Nat.le_refl _) t ht
      refine ⟨lnP_self o _ 0 rfl _ m1, ?_⟩
      have h2 := rise_mem _ _ _ (lnP_rise0 _ _ _ _ _) _ m2
      rw [sub_one o _ h2.2.1, sub_one a _ h2.2.2, eqT_tx h2.1])
  exact this
/-- Theirs as there was. -/
theorem one_oao (o a : List ByteArray) : jnF o a o (allP o a o) = a ∧ clF (allP o a o) = 0 := by
  have := jn_gen o a o a (fun _ j _ => j) (fun i _ k => i = k)
    (fun i i' j j' k k' h1 h2 h3 h4 h5 l1 l2 l3 => by
      subst h1
      subst h2
      by_cases hs : sub a j j' = sub o i i'
      · have hk : kdF (smT o a o) i i' j j' i i' = 2 := by unfold kdF smT; simp only []; rw [hs, sameT_refl]; rfl
        refine ⟨?_, cl_st _ _ _ _ _ _ _ _ _ (by rw [hk]; decide)⟩
        rw [jn_st, hk]
        split
        · rename_i h; rw [h.2.1, sub_nil]
        · exact hs.symm
      · have hk : kdF (smT o a o) i i' j j' i i' = 3 := by unfold kdF smT; simp only []; rw [sameT_false hs, sameT_refl]; rfl
        refine ⟨?_, cl_st _ _ _ _ _ _ _ _ _ (by rw [hk]; decide)⟩
        rw [jn_st, hk]
        split
        · rename_i h; rw [h.2.1, sub_nil]
        · rfl) ⟨rfl, rfl⟩ (fun _ _ _ _ _ _ _ h _ => h) (fun _ _ _ => rfl) (fun _ _ _ h => by omega) _ 0 0 0 (allP_up o a o) rfl (Nat.zero_le _) (Nat.zero_le _) (Nat.zero_le _)
    (fun t ht => by
      obtain ⟨m1, m2⟩ := trF_mem _ _ _ (Nat.le_refl _) t ht
      refine ⟨lnP_self o _ 0 rfl _ m2, ?_⟩
      have h2 := rise_mem _ _ _ (lnP_rise0 _ _ _ _ _) _ m1
      rw [sub_one o _ h2.2.1, sub_one a _ h2.2.2, eqT_tx h2.1])
  exact this
/-- Both the same. -/
theorem one_oaa (o a : List ByteArray) : jnF o a a (allP o a a) = a ∧ clF (allP o a a) = 0 := by
  have := jn_gen o a a a (fun _ j _ => j) (fun _ j k => j = k)
    (fun i i' j j' k k' h1 h2 h3 h4 h5 l1 l2 l3 => by
      subst h1
      subst h2
      by_cases hs : sub a j j' = sub o i i'
      · have hk : kdF (smT o a a) i i' j j' j j' = 2 := by unfold kdF smT; simp only []; rw [hs, sameT_refl]; rfl
        refine ⟨?_, cl_st _ _ _ _ _ _ _ _ _ (by rw [hk]; decide)⟩
        rw [jn_st, hk]
        split
        · rename_i h; rw [h.2.1, sub_nil]
        · rfl
      · have hk : kdF (smT o a a) i i' j j' j j' = 4 := by unfold kdF smT; simp only []; rw [sameT_false hs, sameT_refl]; rfl
        refine ⟨?_, cl_st _ _ _ _ _ _ _ _ _ (by rw [hk]; decide)⟩
        rw [jn_st, hk]
        split
        · rename_i h; rw [h.2.1, sub_nil]
        · rfl) ⟨rfl, rfl⟩ (fun _ _ _ _ _ _ _ h _ => h) (fun _ _ _ => rfl) (fun _ _ _ h => by omega) _ 0 0 0 (allP_up o a a) rfl (Nat.zero_le _) (Nat.zero_le _) (Nat.zero_le _)
    (fun t ht => by
      obtain ⟨m1, m2⟩ := trF_mem _ _ _ (Nat.le_refl _) t ht
      rw [trF_self] at ht
      obtain ⟨p, _, rfl⟩ := List.mem_map.1 ht
      refine ⟨rfl, ?_⟩
      have h2 := rise_mem _ _ _ (lnP_rise0 _ _ _ _ _) _ m1
      rw [sub_one o _ h2.2.1, sub_one a _ h2.2.2, eqT_tx h2.1])
  exact this

/-! ### turned about -/
def twP (o a b : List ByteArray) (p : PT) : PT := (if p.1 = 1 then 1 else kdF (smT o b a) p.2.1.1 p.2.1.2 p.2.2.2.1 p.2.2.2.2 p.2.2.1.1 p.2.2.1.2, p.2.1, p.2.2.2, p.2.2.1)
theorem kdF_ne1 (S : Sms) (i i' j j' k k' : Nat) : kdF S i i' j j' k k' ≠ 1 := by
  unfold kdF
  cases S.oa i i' j j' <;> cases S.ob i i' k k' <;> cases S.ab j j' k k' <;> decide
theorem stF_tw (o a b : List ByteArray) (i i' j j' k k' : Nat) : stF (smT o b a) i i' k k' j j' = (stF (smT o a b) i i' j j' k k').map (twP o a b) := by
  unfold stF
  by_cases h : i = i' ∧ j = j' ∧ k = k'
  · rw [if_pos h, if_pos ⟨h.1, h.2.2, h.2.1⟩]; rfl
  · rw [if_neg h, if_neg (fun x => h ⟨x.1, x.2.2, x.2.1⟩)]
    simp [twP, kdF_ne1]
theorem ptF_tw (o a b : List ByteArray) : ∀ (r : List (Nat × Nat × Nat)) (i j k : Nat), ptF (smT o b a) o.length b.length a.length i k j (r.map (fun t => (t.1, t.2.2, t.2.1))) = (ptF (smT o a b) o.length a.length b.length i j k r).map (twP o a b)
  | [], i, j, k => stF_tw o a b i o.length j a.length k b.length
  | t :: r, i, j, k => by
    rw [List.map_cons, ptF, ptF, List.map_append, List.map_cons, stF_tw o a b i t.1 j t.2.1 k t.2.2, ptF_tw o a b r]
    rfl
theorem allP_tw (o a b : List ByteArray) : allP o b a = (allP o a b).map (twP o a b) := by
  unfold allP
  rw [trF_swap _ _ _ (Nat.le_refl _), ptF_tw]
theorem ptF_kinds (S : Sms) (n a b : Nat) : ∀ (r : List (Nat × Nat × Nat)) (i j k : Nat), ∀ p ∈ ptF S n a b i j k r, p.1 = 1 ∨ p.1 = kdF S p.2.1.1 p.2.1.2 p.2.2.1.1 p.2.2.1.2 p.2.2.2.1 p.2.2.2.2 := by
  have hs : ∀ (i i' j j' k k' : Nat), ∀ p ∈ stF S i i' j j' k k', p.1 = 1 ∨ p.1 = kdF S p.2.1.1 p.2.1.2 p.2.2.1.1 p.2.2.1.2 p.2.2.2.1 p.2.2.2.2 := by
    intro i i' j j' k k' p hp
    unfold stF at hp
    split at hp
    · cases hp
    · rw [List.mem_singleton] at hp
      subst hp
      exact .inr rfl
  intro r
  induction r with
  | nil => intro i j k p hp; exact hs _ _ _ _ _ _ p hp
  | cons t r ih =>
    intro i j k p hp
    rw [ptF] at hp
    rcases List.mem_append.1 hp with h | h
    · exact hs _ _ _ _ _ _ p h
    · rcases List.mem_cons.1 h with rfl | h
      · exact .inl rfl
      · exact ih _ _ _ p h
end Go.Proofs.Ytbaoomkdlbjhlaa
