/-
  Words and pieces, plainly: what the pieces of two lists tell, and that they are well joined.
-/
import Derived.Test.YtfbgpodcdgmpjaaDoorXPl
namespace Go.Proofs.YtfbgpodcdgmpjaaDoor
set_option linter.unusedVariables false
set_option linter.unusedSimpArgs false

theorem rise_weak {E : Nat → Nat → Bool} {n m : Nat} : ∀ {r : List (Nat × Nat)} {i j i' j' : Nat}, RiseFrom E n m i j r → i' ≤ i → j' ≤ j → RiseFrom E n m i' j' r
  | [], _, _, _, _, _, _, _ => trivial
  | p :: r, i, j, i', j', h, h1, h2 => ⟨by have := h.1; omega, by have := h.2.1; omega, h.2.2.1, h.2.2.2.1, h.2.2.2.2.1, h.2.2.2.2.2⟩
theorem lnP_rise (E : Nat → Nat → Bool) (n m : Nat) : ∀ (f i j : Nat), (n - i) + (m - j) ≤ f → RiseFrom E n m i j (lnP E n m i j) := by
  intro f
  induction f with
  | zero => intro i j h; rw [lnP_out _ _ _ _ _ (by omega)]; trivial
  | succ f ih =>
    intro i j h
    by_cases hin : i < n ∧ j < m
    · cases hE : E i j with
      | true =>
        rw [lnP_yes _ _ _ _ _ hin.1 hin.2 hE]
        exact ⟨Nat.le_refl _, Nat.le_refl _, hin.1, hin.2, hE, ih _ _ (by omega)⟩
      | false =>
        by_cases hg : lcB E n m i (j + 1) ≤ lcB E n m (i + 1) j
        · rw [lnP_a _ _ _ _ _ hin.1 hin.2 hE hg]; exact rise_weak (ih _ _ (by omega)) (by omega) (Nat.le_refl _)
        · rw [lnP_b _ _ _ _ _ hin.1 hin.2 hE hg]; exact rise_weak (ih _ _ (by omega)) (Nat.le_refl _) (by omega)
    · rw [lnP_out _ _ _ _ _ hin]; trivial
theorem lnP_rises (E : Nat → Nat → Bool) (n m i j : Nat) : RiseFrom E n m i j (lnP E n m i j) := lnP_rise E n m _ i j (Nat.le_refl _)
/-- Texts as bytes, one behind the other. -/
def flBw (l : List ByteArray) : List UInt8 := l.flatMap (fun t => t.data.toList)
theorem flB_app (a b : List ByteArray) : flBw (a ++ b) = flBw a ++ flBw b := by unfold flBw; rw [List.flatMap_append]
theorem flB_cons (t : ByteArray) (b : List ByteArray) : flBw (t :: b) = t.data.toList ++ flBw b := by unfold flBw; rw [List.flatMap_cons]
theorem flB_grp (l : List UInt8) : flBw ((grp l).map bs) = l := by
  have e : ∀ gs : List (List UInt8), flBw (gs.map bs) = gs.flatten := by
    intro gs
    induction gs with
    | nil => rfl
    | cons g gs ih => rw [List.map_cons, flB_cons, bs_toList, ih, List.flatten_cons]
  rw [e, grp_flatten]
theorem told_yes {p : Int → Bool} {k : Int} (h : p k = true) : ∀ l : List ByteArray, toldF (ifK p) (tk k l) = flBw l
  | [] => rfl
  | t :: r => by
    show toldF (ifK p) ((k, t) :: tk k r) = _
    rw [toldF_cons, told_yes h r, flB_cons]
    unfold ifK; rw [if_pos h]
theorem told_no {p : Int → Bool} {k : Int} (h : p k = false) : ∀ l : List ByteArray, toldF (ifK p) (tk k l) = []
  | [] => rfl
  | t :: r => by
    show toldF (ifK p) ((k, t) :: tk k r) = _
    rw [toldF_cons, told_no h r]
    unfold ifK; rw [if_neg (by rw [h]; decide)]; rfl
theorem drop_part (a : List ByteArray) (i x : Nat) (h : i ≤ x) (hx : x < a.length) : a.drop i = (a.take x).drop i ++ a.getD x ByteArray.empty :: a.drop (x + 1) := by
  have e1 : a.getD x ByteArray.empty :: a.drop (x + 1) = a.drop x := by
    rw [List.drop_eq_getElem_cons hx]
    congr 1
    simp [List.getD, hx]
  rw [e1, List.drop_take]
  have e2 : a.drop x = (a.drop i).drop (x - i) := by rw [List.drop_drop]; congr 1; omega
  rw [e2, List.take_append_drop]
theorem told_old {E : Nat → Nat → Bool} {p : Int → Bool} (h1 : p 1 = true) (h2 : p 2 = true) (h3 : p 3 = false) (a b : List ByteArray) : ∀ (r : List (Nat × Nat)) (i j : Nat), RiseFrom E a.length b.length i j r → toldF (ifK p) (lsP a b i j r) = flBw (a.drop i)
  | [], i, j, _ => by rw [lsP, toldF_app, told_yes h2, told_no h3, List.append_nil]
  | (x, y) :: r, i, j, h => by
    obtain ⟨g1, g2, g3, g4, g5, g6⟩ := h
    rw [lsP, toldF_app, toldF_app, toldF_cons, told_yes h2, told_no h3, told_old h1 h2 h3 a b r _ _ g6, drop_part a i x g1 g3, flB_app, flB_cons, List.nil_append]
    congr 2
    unfold ifK; rw [if_pos h1]
theorem told_new {E : Nat → Nat → Bool} {p : Int → Bool} (h1 : p 1 = true) (h2 : p 2 = false) (h3 : p 3 = true) (a b : List ByteArray) (hE : ∀ x y, x < a.length → y < b.length → E x y = true → a.getD x ByteArray.empty = b.getD y ByteArray.empty) : ∀ (r : List (Nat × Nat)) (i j : Nat), RiseFrom E a.length b.length i j r → toldF (ifK p) (lsP a b i j r) = flBw (b.drop j)
  | [], i, j, _ => by rw [lsP, toldF_app, told_no h2, told_yes h3, List.nil_append]
  | (x, y) :: r, i, j, h => by
    obtain ⟨g1, g2, g3, g4, g5, g6⟩ := h
    rw [lsP, toldF_app, toldF_app, toldF_cons, told_no h2, told_yes h3, told_new h1 h2 h3 a b hE r _ _ g6, drop_part b j y g2 g4, flB_app, flB_cons, List.nil_append, hE x y g3 g4 g5]
    congr 2
    unfold ifK; rw [if_pos h1]
theorem lsP_mem {E : Nat → Nat → Bool} (a b : List ByteArray) : ∀ (r : List (Nat × Nat)) (i j : Nat), RiseFrom E a.length b.length i j r → ∀ p ∈ lsP a b i j r, p.2 ∈ a ∨ p.2 ∈ b
  | [], i, j, _, p, hp => by
    rw [lsP] at hp
    rcases List.mem_append.1 hp with hp | hp
    · obtain ⟨t, ht, rfl⟩ := List.mem_map.1 hp; exact Or.inl (List.mem_of_mem_drop ht)
    · obtain ⟨t, ht, rfl⟩ := List.mem_map.1 hp; exact Or.inr (List.mem_of_mem_drop ht)
  | (x, y) :: r, i, j, h, p, hp => by
    obtain ⟨g1, g2, g3, g4, g5, g6⟩ := h
    rw [lsP] at hp
    rcases List.mem_append.1 hp with hp | hp
    · obtain ⟨t, ht, rfl⟩ := List.mem_map.1 hp; exact Or.inl (List.mem_of_mem_take (List.mem_of_mem_drop ht))
    rcases List.mem_append.1 hp with hp | hp
    · obtain ⟨t, ht, rfl⟩ := List.mem_map.1 hp; exact Or.inr (List.mem_of_mem_take (List.mem_of_mem_drop ht))
    rcases List.mem_cons.1 hp with rfl | hp
    · refine Or.inl ?_
      show a.getD x ByteArray.empty ∈ a
      rw [List.getD, List.getElem?_eq_getElem g3]
      exact List.getElem_mem g3
    · exact lsP_mem a b r _ _ g6 p hp
theorem tk_len (k : Int) (l : List ByteArray) : (tk k l).length = l.length := by unfold tk; rw [List.length_map]
theorem lsP_len {E : Nat → Nat → Bool} (a b : List ByteArray) : ∀ (r : List (Nat × Nat)) (i j : Nat), RiseFrom E a.length b.length i j r → (lsP a b i j r).length ≤ (a.length - i) + (b.length - j)
  | [], i, j, _ => by rw [lsP, List.length_append, tk_len, tk_len, List.length_drop, List.length_drop]; exact Nat.le_refl _
  | (x, y) :: r, i, j, h => by
    obtain ⟨g1, g2, g3, g4, g5, g6⟩ := h
    have ih := lsP_len a b r _ _ g6
    rw [lsP, List.length_append, List.length_append, List.length_cons, tk_len, tk_len, List.length_drop, List.length_drop, List.length_take, List.length_take]
    dsimp only at *
    omega
theorem jok_ls {E : Nat → Nat → Bool} (a b : List ByteArray) (ha : ∀ t ∈ a, t.data.toList ≠ []) (hb : ∀ t ∈ b, t.data.toList ≠ []) (r : List (Nat × Nat)) (i j : Nat) (h : RiseFrom E a.length b.length i j r) : JOk (lsP a b i j r) :=
  Or.inl fun p hp => by
    rcases lsP_mem a b r i j h p hp with h | h
    · exact ha _ h
    · exact hb _ h
/-! ### what is joined tells the same -/
theorem told_run (p : Int → Bool) : ∀ (L : List Pc) (k : Int), toldF (ifK p) (L.take (keK k L)) = if p k = true then toldF (ifK (fun x => x == k)) (L.take (keK k L)) else []
  | [], k => by simp [keK, toldF]
  | x :: r, k => by
    by_cases e : x.1 = k
    · rw [keK, if_pos e, Nat.add_comm, List.take_succ_cons, toldF_cons, toldF_cons, told_run p r k]
      have e1 : ifK p x = if p k = true then ifK (fun x => x == k) x else [] := by
        unfold ifK
        rw [e]
        by_cases hp : p k = true
        · rw [if_pos hp, if_pos hp, if_pos (beq_self_eq_true k)]
        · rw [if_neg hp, if_neg hp]
      rw [e1]
      by_cases hp : p k = true
      · rw [if_pos hp, if_pos hp, if_pos hp]
      · rw [if_neg hp, if_neg hp, if_neg hp]; rfl
    · rw [keK, if_neg e]; simp [toldF]
theorem keL_keK (x : Pc) (r : List Pc) : keL (x :: r) = keK x.1 (x :: r) := by rw [keL, keK, if_pos rfl]
theorem told_jn1 (p : Int → Bool) (k : Int) (t : List UInt8) : toldF (ifK p) (jn1 k t) = if p k = true then t else [] := by
  unfold jn1
  by_cases h : t = []
  · rw [if_pos h, h]; simp [toldF]
  · rw [if_neg h]; simp [toldF, ifK]; split
    · exact bs_toList t
    · rfl
theorem told_jnF (p : Int → Bool) : ∀ (n : Nat) (L : List Pc), L.length ≤ n → toldF (ifK p) (jnP L) = toldF (ifK p) L
  | n, [], _ => rfl
  | 0, x :: r, h => by simp at h
  | n + 1, x :: r, h => by
    rw [jnP_step _ (by simp), toldF_app, told_jn1]
    have e1 : kd0 (x :: r) = x.1 := rfl
    have h1 := keL_pos (L := x :: r) (by simp)
    rw [told_jnF p n _ (by rw [List.length_drop]; omega), e1, keL_keK, ← told_run p (x :: r) x.1, ← toldF_app, List.take_append_drop]
theorem told_jn (p : Int → Bool) (L : List Pc) : toldF (ifK p) (jnP L) = toldF (ifK p) L := told_jnF p _ L (Nat.le_refl _)
/-- Pieces none of which is empty, and of which none side by side are of one Kind. -/
def Sep (L : List Pc) : Prop := (∀ p ∈ L, p.2.data.toList ≠ []) ∧ ∀ i p q, L[i]? = some p → L[i + 1]? = some q → p.1 ≠ q.1
theorem sep_snoc {L : List Pc} {p : Pc} (h : Sep L) (hp : p.2.data.toList ≠ []) (hl : ∀ q, L.getLast? = some q → q.1 ≠ p.1) : Sep (L ++ [p]) := by
  refine ⟨fun x hx => ?_, fun i x y hx hy => ?_⟩
  · rcases List.mem_append.1 hx with hx | hx
    · exact h.1 x hx
    · rw [List.mem_singleton.1 hx]; exact hp
  · have h1 := (List.getElem?_eq_some_iff.1 hy).1
    rw [List.length_append, List.length_singleton] at h1
    rw [List.getElem?_append_left (by omega)] at hx
    by_cases hi : i + 1 < L.length
    · rw [List.getElem?_append_left hi] at hy
      exact h.2 i x y hx hy
    · have : i + 1 = L.length := by omega
      rw [List.getElem?_append_right (by omega), this, Nat.sub_self] at hy
      cases hy
      apply hl
      rw [List.getLast?_eq_getElem?, ← this]
      exact hx
theorem sep_step {L : List Pc} {p : Pc} (h : Sep L) : Sep (stepJ L p) := by
  by_cases hp : p.2.data.toList = []
  · unfold stepJ; rw [if_pos hp]; exact h
  · cases e : L.getLast? with
    | none =>
      rw [stepJ_new hp (fun q hq => by rw [e] at hq; cases hq)]
      exact sep_snoc h hp (fun q hq => by rw [e] at hq; cases hq)
    | some q =>
      by_cases hk : q.1 = p.1
      · have hs : stepJ L p = L.dropLast ++ [(q.1, bs (q.2.data.toList ++ p.2.data.toList))] := by
          unfold stepJ; rw [if_neg hp, e]; dsimp only; rw [if_pos hk]
        rw [hs]
        have hL : L = L.dropLast ++ [q] := by
          obtain ⟨ys, rfl⟩ : ∃ ys, L = ys ++ [q] := List.getLast?_eq_some_iff.1 e
          rw [List.dropLast_concat]
        have hd : Sep L.dropLast := ⟨fun x hx => h.1 x (List.dropLast_subset _ hx), fun i x y hx hy => by
          have i1 := (List.getElem?_eq_some_iff.1 hx).1
          have i2 := (List.getElem?_eq_some_iff.1 hy).1
          refine h.2 i x y ?_ ?_
          · rw [hL, List.getElem?_append_left i1]; exact hx
          · rw [hL, List.getElem?_append_left i2]; exact hy⟩
        refine sep_snoc hd ?_ ?_
        · rw [bs_toList]; exact fun e => hp (List.append_eq_nil_iff.1 e).2
        · intro x hx
          have hx2 : L.dropLast[L.dropLast.length - 1]? = some x := by rw [← List.getLast?_eq_getElem?]; exact hx
          have i1 := (List.getElem?_eq_some_iff.1 hx2).1
          generalize L.dropLast = M at hL hx2 i1
          subst hL
          refine h.2 (M.length - 1) x q ?_ ?_
          · rw [List.getElem?_append_left i1]; exact hx2
          · rw [List.getElem?_append_right (by omega)]
            have : M.length - 1 + 1 - M.length = 0 := by omega
            rw [this]; rfl
      · have hl : ∀ x, L.getLast? = some x → x.1 ≠ p.1 := fun x hx => by rw [e] at hx; cases hx; exact hk
        rw [stepJ_new hp hl]
        exact sep_snoc h hp hl
theorem sep_ref : ∀ (L out : List Pc), Sep out → Sep (refJ out L)
  | [], out, h => h
  | p :: r, out, h => sep_ref r _ (sep_step h)
theorem sep_jn (L : List Pc) (h : JOk L) : Sep (jnP L) := by
  rw [← refJ_jn L h]
  refine sep_ref L [] ⟨fun p hp => ?_, fun i p q hp _ => ?_⟩
  · cases hp
  · simp at hp
/-! ### of a text and itself -/
theorem ls_self {E : Nat → Nat → Bool} (a : List ByteArray) (hE : ∀ i, i < a.length → E i i = true) : ∀ (d i : Nat), a.length - i ≤ d → lsP a a i i (lnP E a.length a.length i i) = tk 1 (a.drop i)
  | 0, i, h => by
    rw [lnP_out _ _ _ _ _ (by omega), lsP, List.drop_eq_nil_of_le (by omega)]; rfl
  | d + 1, i, h => by
    by_cases hi : i < a.length
    · rw [lnP_yes _ _ _ _ _ hi hi (hE i hi), lsP, ls_self a hE d (i + 1) (by omega)]
      have e1 : (a.take i).drop i = [] := List.drop_eq_nil_of_le (by rw [List.length_take]; omega)
      rw [e1, List.drop_eq_getElem_cons hi]
      show ((1 : Int), a.getD i ByteArray.empty) :: _ = tk 1 (a[i] :: a.drop (i + 1))
      rw [List.getD, List.getElem?_eq_getElem hi]
      rfl
    · rw [lnP_out _ _ _ _ _ (by omega), lsP, List.drop_eq_nil_of_le (by omega)]; rfl
theorem keK_tk (k : Int) : ∀ l : List ByteArray, keK k (tk k l) = (tk k l).length
  | [] => rfl
  | t :: r => by
    show keK k ((k, t) :: tk k r) = ((k, t) :: tk k r).length
    rw [keK, if_pos rfl, keK_tk k r, List.length_cons, Nat.add_comm]
theorem jn_tk (k : Int) (l : List ByteArray) : jnP (tk k l) = if l = [] then [] else jn1 k (flBw l) := by
  cases l with
  | nil => rfl
  | cons t r =>
    rw [if_neg (by simp), jnP_step _ (by simp [tk])]
    have e1 : kd0 (tk k (t :: r)) = k := rfl
    have e2 : keL (tk k (t :: r)) = (tk k (t :: r)).length := by
      show keL ((k, t) :: tk k r) = _
      rw [keL_keK]; exact keK_tk k (t :: r)
    rw [e1, e2, List.take_length, List.drop_length, told_yes (p := fun x => x == k) (beq_self_eq_true k)]
    show _ ++ jnP [] = _
    have e3 : jnP [] = [] := rfl
    rw [e3, List.append_nil]
end Go.Proofs.YtfbgpodcdgmpjaaDoor
