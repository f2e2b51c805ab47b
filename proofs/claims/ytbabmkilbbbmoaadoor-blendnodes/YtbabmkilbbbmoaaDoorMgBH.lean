/-
  Several texts in one: what the functions of the program and of the document's answer do.
-/
import Derived.Test.YtbabmkilbbbmoaaDoorMgBG
import Derived.Test.YtbabmkilbbbmoaaDoorMgAO

/-
  Keys and labels are one just if the nodes are: plain facts.
-/
namespace Go.Proofs.YtbabmkilbbbmoaaDoor
open Go.RowKit
set_option linter.unusedVariables false
set_option linter.unusedSimpArgs false

/-- What digits tell. -/
def valD (l : List UInt8) : Nat := l.foldl (fun a c => a * 10 + (c.toNat - 48)) 0
theorem valD_app (l : List UInt8) (c : UInt8) : valD (l ++ [c]) = valD l * 10 + (c.toNat - 48) := by simp [valD, List.foldl_append]
theorem dig_nat (k : Nat) (h : k < 10) : (UInt8.ofNat (48 + k)).toNat = 48 + k := by
  rw [UInt8.toNat_ofNat']; omega
theorem valD_dec : ∀ (m u : Nat), u ≤ m → valD (Lib.decDigits u) = u ∧ ∀ c ∈ Lib.decDigits u, 48 ≤ c.toNat ∧ c.toNat ≤ 57
  | m, u, hm => by
    unfold Lib.decDigits
    by_cases h : u < 10
    · rw [dif_pos h]
      refine ⟨?_, fun c hc => ?_⟩
      · show 0 * 10 + ((UInt8.ofNat (48 + u)).toNat - 48) = u
        rw [dig_nat u h]; omega
      · rw [List.mem_singleton] at hc
        rw [hc, dig_nat u h]; omega
    · rw [dif_neg h]
      match m, hm with
      | 0, hm => omega
      | m + 1, hm =>
        obtain ⟨h1, h2⟩ := valD_dec m (u / 10) (by omega)
        refine ⟨?_, fun c hc => ?_⟩
        · rw [valD_app, h1, dig_nat _ (by omega)]; omega
        · rcases List.mem_append.1 hc with hc | hc
          · exact h2 c hc
          · rw [List.mem_singleton] at hc
            rw [hc, dig_nat _ (by omega)]; omega
theorem itoB_ch (n : Int) : ∀ c ∈ itoB n, c.toNat = 45 ∨ (48 ≤ c.toNat ∧ c.toNat ≤ 57) := by
  intro c hc
  unfold itoB Lib.itoa at hc
  split at hc
  · rcases List.mem_cons.1 hc with rfl | hc
    · left; rfl
    · right; exact (valD_dec _ _ (Nat.le_refl _)).2 c hc
  · right; exact (valD_dec _ _ (Nat.le_refl _)).2 c hc
theorem itoB_inj {a b : Int} (h : itoB a = itoB b) : a = b := by
  have hd : ∀ u v : Nat, 45 :: Lib.decDigits u ≠ Lib.decDigits v := fun u v e => by
    have := (valD_dec v v (Nat.le_refl _)).2 45 (by rw [← e]; exact List.mem_cons_self ..)
    have h45 : (45 : UInt8).toNat = 45 := rfl
    omega
  have hi : ∀ u v : Nat, Lib.decDigits u = Lib.decDigits v → u = v := fun u v e => by
    rw [← (valD_dec u u (Nat.le_refl _)).1, ← (valD_dec v v (Nat.le_refl _)).1, e]
  unfold itoB Lib.itoa at h
  by_cases ha : a < 0
  · by_cases hb : b < 0
    · rw [if_pos ha, if_pos hb] at h
      injection h with _ h
      have := hi _ _ h
      omega
    · rw [if_pos ha, if_neg hb] at h; exact absurd h (hd _ _)
  · by_cases hb : b < 0
    · rw [if_neg ha, if_pos hb] at h; exact absurd h.symm (hd _ _)
    · rw [if_neg ha, if_neg hb] at h
      have := hi _ _ h
      omega
theorem split_32 : ∀ (x y r s : List UInt8), (∀ c ∈ x, c ≠ 32) → (∀ c ∈ y, c ≠ 32) → x ++ (32 :: r) = y ++ (32 :: s) → x = y ∧ r = s
  | [], [], r, s, hx, hy, h => by simp at h; exact ⟨rfl, h⟩
  | [], b :: y, r, s, hx, hy, h => by
    simp at h
    exact absurd h.1.symm (hy b (List.mem_cons_self ..))
  | a :: x, [], r, s, hx, hy, h => by
    simp at h
    exact absurd h.1 (hx a (List.mem_cons_self ..))
  | a :: x, b :: y, r, s, hx, hy, h => by
    simp only [List.cons_append, List.cons.injEq] at h
    obtain ⟨h1, h2⟩ := split_32 x y r s (fun c hc => hx c (List.mem_cons_of_mem _ hc)) (fun c hc => hy c (List.mem_cons_of_mem _ hc)) h.2
    exact ⟨by rw [h.1, h1], h2⟩
theorem numB_uniq {a b : Int} {r s : List UInt8} (h : numB a ++ r = numB b ++ s) : a = b ∧ r = s := by
  unfold numB at h
  rw [List.append_assoc, List.append_assoc] at h
  have hn : ∀ n : Int, ∀ c ∈ itoB n, c ≠ 32 := fun n c hc e => by
    have := itoB_ch n c hc
    have h32 : (32 : UInt8).toNat = 32 := rfl
    rw [e] at this
    omega
  obtain ⟨h1, h2⟩ := split_32 _ _ r s (hn a) (hn b) h
  exact ⟨itoB_inj h1, h2⟩
theorem textB_uniq {x y : ByteArray} {r s : List UInt8} (h : textB x ++ r = textB y ++ s) : x = y ∧ r = s := by
  unfold textB at h
  rw [List.append_assoc, List.append_assoc] at h
  obtain ⟨h1, h2⟩ := numB_uniq h
  have hl : x.data.toList.length = y.data.toList.length := by
    rw [Array.length_toList, Array.length_toList]
    have : (x.size : Int) = (y.size : Int) := h1
    show x.size = y.size
    omega
  obtain ⟨h3, h4⟩ := List.append_inj h2 hl
  refine ⟨?_, h4⟩
  obtain ⟨dx⟩ := x
  obtain ⟨dy⟩ := y
  have : dx = dy := Array.ext' h3
  rw [this]
theorem labelB_uniq {k sp k' sp' : Int} {n n' : ByteArray} {r s : List UInt8} (h : labelB k sp n ++ r = labelB k' sp' n' ++ s) : k = k' ∧ sp = sp' ∧ n = n' ∧ r = s := by
  unfold labelB at h
  simp only [List.append_assoc] at h
  obtain ⟨h1, h⟩ := numB_uniq h
  obtain ⟨h2, h⟩ := numB_uniq h
  obtain ⟨h3, h⟩ := textB_uniq h
  exact ⟨h1, h2, h3, h⟩
theorem atsB_uniq : ∀ (a b : List (ByteArray × ByteArray)), a.length = b.length → ∀ r s : List UInt8, atsB a ++ r = atsB b ++ s → a = b ∧ r = s
  | [], [], hl, r, s, h => ⟨rfl, h⟩
  | [], b :: y, hl, r, s, h => by simp at hl
  | a :: x, [], hl, r, s, h => by simp at hl
  | a :: x, b :: y, hl, r, s, h => by
    unfold atsB at h
    simp only [List.append_assoc] at h
    obtain ⟨h1, h⟩ := textB_uniq h
    obtain ⟨h2, h⟩ := textB_uniq h
    obtain ⟨h3, h4⟩ := atsB_uniq x y (by simpa using hl) r s h
    exact ⟨by rw [h3, Prod.ext h1 h2], h4⟩
theorem keyF_uniq : ∀ (f g : Forest), f.len = g.len → ∀ r s : List UInt8, keyF f ++ r = keyF g ++ s → f = g ∧ r = s
  | .nil, .nil, hl, r, s, h => ⟨rfl, h⟩
  | .nil, .cons _ _ _ _ _ _ _, hl, r, s, h => by simp [Forest.len] at hl
  | .cons _ _ _ _ _ _ _, .nil, hl, r, s, h => by simp [Forest.len] at hl
  | .cons k sp n ats tx kids rest, .cons k' sp' n' ats' tx' kids' rest', hl, r, s, h => by
    unfold keyF nodeB at h
    simp only [List.append_assoc] at h
    obtain ⟨h1, h2, h3, h⟩ := labelB_uniq h
    obtain ⟨h4, h⟩ := textB_uniq h
    obtain ⟨h5, h⟩ := numB_uniq h
    obtain ⟨h6, h⟩ := atsB_uniq ats ats' (by omega) _ _ h
    obtain ⟨h7, h⟩ := numB_uniq h
    obtain ⟨h8, h⟩ := keyF_uniq kids kids' (by omega) _ _ h
    obtain ⟨h9, h⟩ := keyF_uniq rest rest' (by simp [Forest.len] at hl; exact hl) _ _ h
    exact ⟨by rw [h1, h2, h3, h4, h6, h8, h9], h⟩
/-- Two nodes have one key just if they are the same. -/
theorem key_one (k sp : Int) (n : ByteArray) (ats : List (ByteArray × ByteArray)) (tx : ByteArray) (kids : Forest) (k' sp' : Int) (n' : ByteArray) (ats' : List (ByteArray × ByteArray)) (tx' : ByteArray) (kids' : Forest) :
    keyF (.cons k sp n ats tx kids .nil) = keyF (.cons k' sp' n' ats' tx' kids' .nil) ↔ Forest.cons k sp n ats tx kids .nil = Forest.cons k' sp' n' ats' tx' kids' .nil :=
  ⟨fun h => (keyF_uniq (.cons k sp n ats tx kids .nil) (.cons k' sp' n' ats' tx' kids' .nil) rfl [] [] (by rw [h])).1, fun h => by rw [h]⟩
theorem label_one (k sp : Int) (n : ByteArray) (k' sp' : Int) (n' : ByteArray) : labelB k sp n = labelB k' sp' n' ↔ k = k' ∧ sp = sp' ∧ n = n' :=
  ⟨fun h => by
    obtain ⟨h1, h2, h3, _⟩ := labelB_uniq (k := k) (sp := sp) (n := n) (k' := k') (sp' := sp') (n' := n') (r := []) (s := []) (by rw [h])
    exact ⟨h1, h2, h3⟩, fun ⟨h1, h2, h3⟩ => by rw [h1, h2, h3]⟩
end Go.Proofs.YtbabmkilbbbmoaaDoor

/-
  What keys.Items adds up from the last item on: plain facts.
-/
namespace Go.Proofs.YtbabmkilbbbmoaaDoor
open Go.RowKit
set_option linter.unusedVariables false
set_option linter.unusedSimpArgs false

/-- One step: a node's size is one more, and is added to its parent's. -/
def bkA (S : Nat → Int) (i : Nat) : Nat → Int := fun k => if k = i then S k + 1 else S k
def bkS (S : Nat → Int) (i : Nat) (p : Int) : Nat → Int := fun k => if 0 ≤ p ∧ (k : Int) = p then bkA S i k + bkA S i i else bkA S i k
def bk : List It → Nat → (Nat → Int) → Nat → Int
  | [], _, S => S
  | x :: r, i, S => bkS (bk r (i + 1) S) i x.2.1
theorem bk_app : ∀ (a b : List It) (i : Nat) (S : Nat → Int), bk (a ++ b) i S = bk a i (bk b (i + a.length) S)
  | [], b, i, S => rfl
  | x :: r, b, i, S => by
    show bkS (bk (r ++ b) (i + 1) S) i x.2.1 = bkS (bk r (i + 1) (bk b (i + (r.length + 1)) S)) i x.2.1
    rw [bk_app r b (i + 1) S, show i + 1 + r.length = i + (r.length + 1) by omega]
/-- The sizes of nodes, in their order. -/
def szF : Forest → List Int
  | .nil => []
  | .cons _ _ _ _ _ kids rest => (1 + (kids.count : Int)) :: (szF kids ++ szF rest)
theorem szF_len : ∀ f : Forest, (szF f).length = f.count
  | .nil => rfl
  | .cons _ _ _ _ _ kids rest => by simp only [szF, List.length_cons, List.length_append, szF_len kids, szF_len rest, Forest.count]; omega
def szA (f : Forest) (k : Nat) : Int := ((szF f)[k]?).getD 0
theorem szA_head (k sp : Int) (n : ByteArray) (ats : List (ByteArray × ByteArray)) (tx : ByteArray) (kids rest : Forest) : szA (.cons k sp n ats tx kids rest) 0 = 1 + (kids.count : Int) := rfl
theorem szA_kids (k sp : Int) (n : ByteArray) (ats : List (ByteArray × ByteArray)) (tx : ByteArray) (kids rest : Forest) (j : Nat) (h : j < kids.count) : szA (.cons k sp n ats tx kids rest) (j + 1) = szA kids j := by
  unfold szA
  simp only [szF, List.getElem?_cons_succ]
  rw [List.getElem?_append_left (by rw [szF_len]; exact h)]
theorem szA_rest (k sp : Int) (n : ByteArray) (ats : List (ByteArray × ByteArray)) (tx : ByteArray) (kids rest : Forest) (j : Nat) : szA (.cons k sp n ats tx kids rest) (kids.count + j + 1) = szA rest j := by
  unfold szA
  simp only [szF, List.getElem?_cons_succ]
  rw [List.getElem?_append_right (by rw [szF_len]; omega), szF_len, show kids.count + j - kids.count = j by omega]
theorem bk_itm : ∀ (f : Forest) (num : Nat) (par : Int) (pl dep : Nat) (S : Nat → Int), par < (num : Int) → (∀ k, num ≤ k → k < num + f.count → S k = 0) →
    ∀ k, bk (itm f num par pl dep) num S k = if num ≤ k ∧ k < num + f.count then szA f (k - num) else if 0 ≤ par ∧ (k : Int) = par then S k + (f.count : Int) else S k
  | .nil, num, par, pl, dep, S, hp, hz, k => by
    show S k = _
    have hC : Forest.nil.count = 0 := rfl
    generalize Forest.nil.count = C at *
    subst hC
    rw [if_neg (show ¬ (num ≤ k ∧ k < num + 0) by omega)]
    split
    · simp
    · rfl
  | .cons kd sp n ats tx kids rest, num, par, pl, dep, S, hp, hz, k => by
    have hC : (Forest.cons kd sp n ats tx kids rest).count = 1 + kids.count + rest.count := rfl
    have hz' : ∀ k, num ≤ k → k < num + (1 + kids.count + rest.count) → S k = 0 := hz
    clear hz
    generalize (Forest.cons kd sp n ats tx kids rest).count = C at *
    subst hC
    have hR := bk_itm rest (num + 1 + kids.count) par (pl + 1) dep S (by omega) (fun k h1 h2 => hz' k (by omega) (by omega))
    have hA : ∀ k, num + 1 ≤ k → k < num + 1 + kids.count → bk (itm rest (num + 1 + kids.count) par (pl + 1) dep) (num + 1 + kids.count) S k = 0 := fun k h1 h2 => by
      rw [hR k, if_neg (show ¬ (num + 1 + kids.count ≤ k ∧ k < num + 1 + kids.count + rest.count) by omega), if_neg (show ¬ (0 ≤ par ∧ (k : Int) = par) by omega)]
      exact hz' k (by omega) (by omega)
    have hK := bk_itm kids (num + 1) (num : Int) 0 (dep + 1) _ (by omega) hA
    have h0 := hz' num (by omega) (by omega)
    simp only [itm, bk]
    rw [bk_app, itm_len]
    obtain ⟨S1, hS1⟩ : ∃ S1, bk (itm rest (num + 1 + kids.count) par (pl + 1) dep) (num + 1 + kids.count) S = S1 := ⟨_, rfl⟩
    rw [hS1] at hR hK ⊢
    obtain ⟨S2, hS2⟩ : ∃ S2, bk (itm kids (num + 1) (num : Int) 0 (dep + 1)) (num + 1) S1 = S2 := ⟨_, rfl⟩
    rw [hS2] at hK ⊢
    have e1 : S1 num = 0 := by rw [hR num, if_neg (show ¬ (num + 1 + kids.count ≤ num ∧ num < num + 1 + kids.count + rest.count) by omega), if_neg (show ¬ (0 ≤ par ∧ (num : Int) = par) by omega)]; exact h0
    have e2 : S2 num = (kids.count : Int) := by rw [hK num, if_neg (show ¬ (num + 1 ≤ num ∧ num < num + 1 + kids.count) by omega), if_pos (show (0 : Int) ≤ (num : Int) ∧ (num : Int) = (num : Int) by omega), e1]; omega
    simp only [bkS, bkA]
    by_cases hk : k = num
    · subst hk
      rw [if_neg (show ¬ (0 ≤ par ∧ (k : Int) = par) by omega), if_pos rfl, if_pos (show k ≤ k ∧ k < k + (1 + kids.count + rest.count) by omega), e2, Nat.sub_self, szA_head]
      omega
    · have hb : ∀ a b : Int, (if k = num then a else b) = b := fun a b => if_neg hk
      have q := hK k
      have r := hR k
      rw [if_neg (show ¬ (0 ≤ (num : Int) ∧ (k : Int) = (num : Int)) by omega)] at q
      by_cases h1 : num + 1 ≤ k ∧ k < num + 1 + kids.count
      · rw [if_pos h1] at q
        rw [if_neg (show ¬ (0 ≤ par ∧ (k : Int) = par) by omega), hb, q, if_pos (show num ≤ k ∧ k < num + (1 + kids.count + rest.count) by omega), show k - num = k - (num + 1) + 1 by omega, szA_kids _ _ _ _ _ _ _ _ (by omega)]
      · rw [if_neg h1] at q
        by_cases h2 : num + 1 + kids.count ≤ k ∧ k < num + 1 + kids.count + rest.count
        · rw [if_pos h2] at r
          rw [if_neg (show ¬ (0 ≤ par ∧ (k : Int) = par) by omega), hb, q, r, if_pos (show num ≤ k ∧ k < num + (1 + kids.count + rest.count) by omega), show k - num = kids.count + (k - (num + 1 + kids.count)) + 1 by omega, szA_rest]
        · rw [if_neg h2] at r
          rw [if_neg (show ¬ (num ≤ k ∧ k < num + (1 + kids.count + rest.count)) by omega)]
          by_cases h3 : 0 ≤ par ∧ (k : Int) = par
          · rw [if_pos h3] at r
            rw [if_pos h3, if_pos h3, hb, if_pos trivial, q, r, e2]
            omega
          · rw [if_neg h3] at r
            rw [if_neg h3, if_neg h3, hb, q, r]
/-- Parents stand ahead. -/
theorem itm_par : ∀ (f : Forest) (num : Nat) (par : Int) (pl dep : Nat), -1 ≤ par → par < (num : Int) → ∀ (j : Nat) (x : It), (itm f num par pl dep)[j]? = some x → -1 ≤ x.2.1 ∧ x.2.1 < ((num + j : Nat) : Int)
  | .nil, num, par, pl, dep, h0, h1, j, x, h => by simp [itm] at h
  | .cons _ _ _ _ _ kids rest, num, par, pl, dep, h0, h1, j, x, h => by
    simp only [itm] at h
    rcases j with _ | j
    · simp at h; subst h; exact ⟨h0, by simpa using h1⟩
    · rw [List.getElem?_cons_succ] at h
      by_cases hj : j < kids.count
      · rw [List.getElem?_append_left (by rw [itm_len]; exact hj)] at h
        have := itm_par kids (num + 1) (num : Int) 0 (dep + 1) (by omega) (by omega) j x h
        omega
      · rw [List.getElem?_append_right (by rw [itm_len]; omega), itm_len] at h
        have := itm_par rest (num + 1 + kids.count) par (pl + 1) dep h0 (by omega) (j - kids.count) x h
        omega
/-- Items with their sizes, as they lie in a block. -/
def ItZ (l : List It) (S : Nat → Int) (g : Nat) (w : World) : Prop := (∃ cur, Blk w g cur 49) ∧ ∀ k x, l[k]? = some x → w.cell? ⟨g, k * 5, none⟩ = some (.int .i64 x.1) ∧ w.cell? ⟨g, k * 5 + 1, none⟩ = some (.int .i64 x.2.1) ∧ w.cell? ⟨g, k * 5 + 2, none⟩ = some (.int .i64 x.2.2.1) ∧ w.cell? ⟨g, k * 5 + 3, none⟩ = some (.int .i64 x.2.2.2) ∧ w.cell? ⟨g, k * 5 + 4, none⟩ = some (.int .i64 (S k))
theorem flatI_len : ∀ l : List It, (flatI l).length = l.length * 5
  | [] => rfl
  | x :: r => by simp only [flatI, List.length_append, flatI_len r, itL, List.length_cons, List.length_nil]; omega
theorem flatI_get : ∀ (l : List It) (k : Nat) (x : It), l[k]? = some x → ∀ j, j < 5 → (flatI l)[k * 5 + j]? = (itL x)[j]?
  | [], k, x, h, j, hj => by simp at h
  | y :: r, 0, x, h, j, hj => by
    simp at h; subst h
    simp only [flatI, Nat.zero_mul, Nat.zero_add]
    rw [List.getElem?_append_left (by simpa [itL] using hj)]
  | y :: r, k + 1, x, h, j, hj => by
    simp at h
    simp only [flatI]
    rw [List.getElem?_append_right (by simp [itL]; omega), show (k + 1) * 5 + j - (itL y).length = k * 5 + j by simp [itL]; omega]
    exact flatI_get r k x h j hj
theorem itz_of_row {w : World} {base : Nat} {v : Value} {acc : List It} (h : w.ownsRow base 49 5 v acc.length (flatI acc)) (h0 : acc ≠ []) : ∃ g cap, v = .slice (some ⟨g, 0, none⟩) acc.length cap ∧ base ≤ g ∧ acc.length ≤ cap ∧ ItZ acc (fun _ => 0) g w := by
  obtain ⟨hl, h⟩ := h
  rcases h with ⟨_, h⟩ | ⟨g, cap, cur, rfl, h1, h2, h3, h4, h5, h6⟩
  · exact absurd (List.eq_nil_of_length_eq_zero h) h0
  · refine ⟨g, cap, rfl, h1, h3, ⟨cur, h2⟩, fun k x hx => ?_⟩
    have hk : k < acc.length := (List.getElem?_eq_some_iff.1 hx).1
    have hc : ∀ j, j < 5 → w.cell? ⟨g, k * 5 + j, none⟩ = (itL x)[j]? := fun j hj => by
      rw [Joins.cell_of_block h2, ← flatI_get acc k x hx j hj, ← h6, List.getElem?_take, if_pos (by omega)]
      simp
    exact ⟨hc 0 (by decide), hc 1 (by decide), hc 2 (by decide), hc 3 (by decide), hc 4 (by decide)⟩
theorem cell_set_ne {w : World} {g o o' : Nat} {v : Value} (h : o' ≠ o) : (w.setCell ⟨g, o, none⟩ v).cell? ⟨g, o', none⟩ = w.cell? ⟨g, o', none⟩ := World.cell?_setCell_other _ _ _ _ (by intro e; injection e with _ e; exact h (by omega))
theorem cell_set_eq {w : World} {g o : Nat} {u v : Value} (h : w.cell? ⟨g, o, none⟩ = some u) : (w.setCell ⟨g, o, none⟩ v).cell? ⟨g, o, none⟩ = some v := World.cell?_setCell_same _ _ _ h
theorem cell_set_away {w : World} {g g' o o' : Nat} {v : Value} (h : g' ≠ g) : (w.setCell ⟨g, o, none⟩ v).cell? ⟨g', o', none⟩ = w.cell? ⟨g', o', none⟩ := World.cell?_setCell_other _ _ _ _ (by intro e; injection e with e _; exact h (by omega))
theorem ItZ.set {l : List It} {S : Nat → Int} {g : Nat} {w : World} (h : ItZ l S g w) (m : Nat) (hm : m < l.length) (z : Int) : ItZ l (fun k => if k = m then z else S k) g (w.setCell ⟨g, m * 5 + 4, none⟩ (.int .i64 z)) := by
  obtain ⟨⟨cur, hc⟩, h2⟩ := h
  have hx0 := h2 m l[m] (List.getElem?_eq_getElem hm)
  have hsz : m * 5 + 4 < cur.size := by
    have := (hc.cell (m * 5 + 4)).symm.trans hx0.2.2.2.2
    exact (Array.getElem?_eq_some_iff.1 this).1
  refine ⟨⟨_, hc.set (m * 5 + 4) hsz _⟩, fun k x hx => ?_⟩
  obtain ⟨a0, a1, a2, a3, a4⟩ := h2 k x hx
  refine ⟨(cell_set_ne (by omega)).trans a0, (cell_set_ne (by omega)).trans a1, (cell_set_ne (by omega)).trans a2, (cell_set_ne (by omega)).trans a3, ?_⟩
  show (w.setCell _ _).cell? _ = some (Value.int .i64 (if k = m then z else S k))
  by_cases e : k = m
  · subst e
    rw [if_pos rfl]
    exact cell_set_eq a4
  · rw [if_neg e]
    exact (cell_set_ne (by omega)).trans a4
theorem ItZ.congr {l : List It} {S S' : Nat → Int} {g : Nat} {w : World} (h : ItZ l S g w) (e : ∀ k, k < l.length → S k = S' k) : ItZ l S' g w := ⟨h.1, fun k x hx => by rw [← e k (List.getElem?_eq_some_iff.1 hx).1]; exact h.2 k x hx⟩
theorem bkS_ge {S : Nat → Int} (h : ∀ k, 0 ≤ S k) (i : Nat) (p : Int) (k : Nat) : S k ≤ bkS S i p k := by
  have h1 := h k
  have h2 := h i
  unfold bkS bkA
  rw [if_pos rfl]
  repeat' split
  all_goals omega
theorem bk_ge : ∀ (l : List It) (i : Nat) {S : Nat → Int}, (∀ k, 0 ≤ S k) → ∀ k, S k ≤ bk l i S k
  | [], i, S, h, k => Int.le_refl _
  | x :: r, i, S, h, k => by
    have h1 := bk_ge r (i + 1) h
    exact Int.le_trans (h1 k) (bkS_ge (fun j => Int.le_trans (h j) (h1 j)) i x.2.1 k)
theorem szA_le : ∀ (f : Forest) (k : Nat), szA f k ≤ (f.count : Int) ∧ 0 ≤ szA f k
  | .nil, k => by simp [szA, szF]
  | .cons kd sp n ats tx kids rest, k => by
    have hC : (Forest.cons kd sp n ats tx kids rest).count = 1 + kids.count + rest.count := rfl
    rw [hC]
    rcases k with _ | k
    · rw [szA_head]; omega
    · by_cases hk : k < kids.count
      · rw [szA_kids _ _ _ _ _ _ _ _ hk]
        have := szA_le kids k
        omega
      · have := szA_le rest (k - kids.count)
        rw [show k + 1 = kids.count + (k - kids.count) + 1 by omega, szA_rest]
        omega
theorem bk_bound (f : Forest) (m k : Nat) (hm : m ≤ f.count) (hk : k < f.count) : 0 ≤ bk ((itm f 0 (-1) 0 0).drop m) m (fun _ => 0) k ∧ bk ((itm f 0 (-1) 0 0).drop m) m (fun _ => 0) k ≤ (f.count : Int) := by
  have h0 : ∀ k, (0 : Int) ≤ bk ((itm f 0 (-1) 0 0).drop m) m (fun _ => 0) k := fun k => bk_ge _ m (S := fun _ => 0) (fun _ => Int.le_refl _) k
  refine ⟨h0 k, ?_⟩
  have h1 := bk_ge ((itm f 0 (-1) 0 0).take m) 0 h0 k
  have h2 := bk_app ((itm f 0 (-1) 0 0).take m) ((itm f 0 (-1) 0 0).drop m) 0 (fun _ => 0)
  rw [List.take_append_drop, List.length_take, itm_len, Nat.min_eq_left hm, Nat.zero_add] at h2
  rw [← h2, bk_itm f 0 (-1) 0 0 _ (by omega) (fun _ _ _ => rfl), if_pos (show 0 ≤ k ∧ k < 0 + f.count by omega)] at h1
  exact Int.le_trans h1 (szA_le f (k - 0)).1
theorem ItZ.drew {l : List It} {S : Nat → Int} {g : Nat} {w : World} (h : ItZ l S g w) : ItZ l S g w.drew := h
end Go.Proofs.YtbabmkilbbbmoaaDoor

/-
  What keys.Items does.
-/
namespace Go.Proofs.YtbabmkilbbbmoaaDoor
open Go.RowKit Go.Maps
set_option linter.unusedVariables false
set_option linter.unusedSimpArgs false

/-- Items with their sizes behind a slice. -/
def ItS (f : Forest) (q : Option Addr) (n cap : Nat) (w : World) : Prop := n = f.count ∧ n ≤ cap ∧ (f = .nil ∨ ∃ g, q = some ⟨g, 0, none⟩ ∧ ItZ (itm f 0 (-1) 0 0) (szA f) g w)
def ItAt (f : Forest) (w0 : World) (G g cap m : Nat) (wr : World) : Prop := m ≤ f.count ∧ G ≠ g ∧ w0.heap.size ≤ G ∧ w0.heap.size ≤ g ∧ Blk wr G #[.slice (some ⟨g, 0, none⟩) f.count cap] 34 ∧ ItZ (itm f 0 (-1) 0 0) (bk ((itm f 0 (-1) 0 0).drop m) m (fun _ => 0)) g wr ∧ Below w0.heap.size w0 wr
theorem bk_drop {l : List It} {m : Nat} {x : It} (h : l[m]? = some x) (S : Nat → Int) : bk (l.drop m) m S = bkS (bk (l.drop (m + 1)) (m + 1) S) m x.2.1 := by
  obtain ⟨hm, hx⟩ := List.getElem?_eq_some_iff.1 h
  rw [List.drop_eq_getElem_cons hm, hx]; rfl
theorem fcount_pos {f : Forest} (h : f ≠ .nil) : 0 < f.count := by
  cases f with
  | nil => exact absurd rfl h
  | cons k sp n ats tx kids rest => simp only [Forest.count]; omega

set_option maxHeartbeats 4000000 in
set_option maxRecDepth 100000 in
theorem items_n (f : Forest) (q : Option Addr) (cap N : Nat) (w : World) (HN : Hid (f.count = N)) (hf : Fo q f w) (hcap : f.len ≤ cap) (hc : N ≤ 500000) :
    Calls Tryd.prog 16 #[.slice q f.len cap] w fun e w' => ∃ q' c', e = .returned (.slice q' N c') ∧ ItS f q' N c' w' ∧ Below w.heap.size w w' := by
  have hA0 : AllV (w.alloc (Obj.cells #[.slice none 0 0] 34)) w.heap.size [] := ⟨_, Blk.new w _ _, rfl, Or.inl ⟨rfl, rfl⟩⟩
  have CW := hide (kwalk_items f q cap w.heap.size w (w.alloc (Obj.cells #[.slice none 0 0] 34)) hf hcap (by rw [unhide HN]; exact hc) hA0 ((Below.refl w.heap.size w).alloc (Nat.le_refl _) _) (Nat.le_refl _))
  have hin := itm_len f 0 (-1) 0 0
  rw [unhide HN] at hin
  clear hf hcap hA0
  go_enter Tryd.func16, Tryd.ntmps16
  go_wp2_with fail
  refine (unhide CW).mono ?_
  rintro e w1 ⟨rfl, ⟨u, hb, hr⟩, hbw⟩
  clear CW
  by_cases hn : f = .nil
  · subst hn
    obtain ⟨a, n, cap2, rfl⟩ := slice_of hr
    have hn0 : n = 0 := by
      rcases hr.2 with ⟨h, _⟩ | ⟨g, _, cur, h, _⟩
      · injection h
      · injection h
    subst hn0
    have c0 : w1.cell? ⟨w.heap.size, 0, none⟩ = some (.slice a 0 cap2) := hb.cell 0
    have HB := hide hbw
    obtain rfl : N = 0 := (unhide HN).symm
    clear hb hr hbw hin HN
    go_wp2
    refine wp_loop_rounds 1 ?_
    rw [rounds_succ]; go_wp2
    go_ret
    exact ⟨a, cap2, rfl, ⟨rfl, Nat.zero_le _, Or.inl rfl⟩, unhide HB⟩
  · have hpos := fcount_pos hn
    rw [unhide HN, ← hin] at hpos
    obtain ⟨g, cap2, rfl, hg, hcp, hz⟩ := itz_of_row hr (by intro e; rw [e] at hpos; simp at hpos)
    rw [hin] at hcp hb hpos
    have HAT : Hid (ItAt f w w.heap.size g cap2 N w1) := hide ⟨by rw [unhide HN]; exact Nat.le_refl _, by omega, Nat.le_refl _, by omega, by rw [unhide HN]; exact hb, by
      rw [show (itm f 0 (-1) 0 0).drop N = [] by rw [← hin, List.drop_length]]; exact hz, hbw⟩
    have c0 : w1.cell? ⟨w.heap.size, 0, none⟩ = some (.slice (some ⟨g, 0, none⟩) N cap2) := hb.cell 0
    have HNIL := hide hn
    clear hb hr hbw hz hg hin
    clear hn
    go_wp2
    go_loopw [4] (fun a wr => ∃ m : Nat, a = .int .i64 ((m : Int) - 1) ∧ ItAt f w w.heap.size g cap2 m wr) (fun a _ => (intOf a + 1).toNat)
    case atStart => exact ⟨N, by first | rfl | go_num, unhide HAT⟩
    case round =>
      clear HAT c0
      obtain ⟨m, rfl, hm, hGg, hG0, hg0, hb, hz, hbw⟩ := hrel
      rw [unhide HN] at hm hb
      have c0 : wr.cell? ⟨w.heap.size, 0, none⟩ = some (.slice (some ⟨g, 0, none⟩) N cap2) := hb.cell 0
      rcases m with _ | m
      · have HX := hide (And.intro hz hbw)
        clear hz hb hbw
        go_wp2
        go_ret
        refine ⟨_, cap2, rfl, ⟨(unhide HN).symm, hcp, Or.inr ⟨g, rfl, (unhide HX).1.congr (fun k hk => ?_)⟩⟩, (unhide HX).2⟩
        rw [itm_len] at hk
        rw [List.drop_zero, bk_itm f 0 (-1) 0 0 _ (by omega) (fun _ _ _ => rfl), if_pos (show 0 ≤ k ∧ k < 0 + f.count by omega), Nat.sub_zero]
      · have hmN : m < N := by omega
        have hml : m < (itm f 0 (-1) 0 0).length := by rw [itm_len, unhide HN]; exact hmN
        have hx : (itm f 0 (-1) 0 0)[m]? = some (itm f 0 (-1) 0 0)[m] := List.getElem?_eq_getElem hml
        obtain ⟨hp0, hpm⟩ := itm_par f 0 (-1) 0 0 (by omega) (by omega) m _ hx
        have hbd := fun k (hk : k < N) => bk_bound f (m + 1) k (by rw [unhide HN]; exact hm) (by rw [unhide HN]; exact hk)
        have HBK : Hid (bk ((itm f 0 (-1) 0 0).drop m) m (fun _ => 0) = bkS (bk ((itm f 0 (-1) 0 0).drop (m + 1)) (m + 1) (fun _ => 0)) m (itm f 0 (-1) 0 0)[m].2.1) := hide (bk_drop hx _)
        generalize bk ((itm f 0 (-1) 0 0).drop (m + 1)) (m + 1) (fun _ => 0) = S at *
        rw [unhide HN] at hbd
        have hz1 := hz.set m hml (S m + 1)
        obtain ⟨-, a1, -, -, a4⟩ := hz.2 m _ hx
        obtain ⟨-, b1, -, -, b4⟩ := hz1.2 m _ hx
        simp only [if_pos] at b4
        have hbm := hbd m hmN
        have hbG := hb.away (b' := g) (o := m * 5 + 4) hGg (.int .i64 (S m + 1))
        have d0 : (wr.setCell ⟨g, m * 5 + 4, none⟩ (.int .i64 (S m + 1))).cell? ⟨w.heap.size, 0, none⟩ = some (.slice (some ⟨g, 0, none⟩) N cap2) := hbG.cell 0
        obtain ⟨cur1, hcur1⟩ := hz1.1
        obtain ⟨cur0, hcur0⟩ := hz.1
        have f0 := hcur0.frozen (m * 5 + 4)
        have HB1 := hide (hbw.setCell (p := ⟨g, m * 5 + 4, none⟩) hg0 (.int .i64 (S m + 1)))
        have HBG := hide hbG
        have HZ1 := hide hz1
        have e1 : ((m : Int) + 1 - 1) = (m : Int) := by omega
        rw [show (((m + 1 : Nat) : Int) - 1) = (m : Int) by omega]
        have g0 : (0 : Int) ≤ (m : Int) := by omega
        have hmi : (m : Int) < (N : Int) := by omega
        by_cases hneg : (itm f 0 (-1) 0 0)[m].2.1 < 0
        · have HR : Hid (bkS S m (itm f 0 (-1) 0 0)[m].2.1 = fun k => if k = m then S m + 1 else S k) := hide (by
            funext k
            unfold bkS bkA
            rw [if_neg (show ¬ (0 ≤ (itm f 0 (-1) 0 0)[m].2.1 ∧ ((k : Nat) : Int) = (itm f 0 (-1) 0 0)[m].2.1) by omega)]
            by_cases e : k = m
            · subst e; simp
            · rw [if_neg e, if_neg e])
          generalize (itm f 0 (-1) 0 0)[m].2.1 = p at *
          have hq : (p < 0) := hneg
          clear hz hz1 hb hbw hbd hx hbG hcur1 hcur0 hml
          have HX := hide (And.intro hm (And.intro hGg (And.intro hG0 hg0)))
          clear hm hGg hG0 hg0
          go_wp2
          go_roundw
          case rel => exact ⟨m, rfl, by rw [unhide HN]; omega, (unhide HX).2.1, (unhide HX).2.2.1, (unhide HX).2.2.2, by rw [unhide HN]; exact unhide HBG, by rw [unhide HBK, unhide HR]; exact unhide HZ1, unhide HB1⟩
          case measure => first | (simp [intOf]; done) | (simp [intOf]; omega)
        · obtain ⟨pn, hpn⟩ : ∃ pn : Nat, (itm f 0 (-1) 0 0)[m].2.1 = (pn : Int) := ⟨(itm f 0 (-1) 0 0)[m].2.1.toNat, by omega⟩
          have hpnm : pn < m := by omega
          have hpl : pn < (itm f 0 (-1) 0 0).length := by rw [itm_len, unhide HN]; omega
          obtain ⟨-, -, -, -, p4⟩ := hz1.2 pn _ (List.getElem?_eq_getElem hpl)
          simp only [if_neg (show ¬ pn = m by omega)] at p4
          have hz2 := hz1.set pn hpl (S pn + (S m + 1))
          have hbp := hbd pn (by omega)
          have hbG2 := hbG.away (b' := g) (o := pn * 5 + 4) hGg (.int .i64 (S pn + (S m + 1)))
          have HB2 := hide ((unhide HB1).drew.setCell (p := ⟨g, pn * 5 + 4, none⟩) hg0 (.int .i64 (S pn + (S m + 1))))
          have f1 := hcur1.frozen (pn * 5 + 4)
          have HBG2 := hide hbG2
          have HZ2 := hide hz2
          have HR : Hid (bkS S m (pn : Int) = fun k => if k = pn then S pn + (S m + 1) else if k = m then S m + 1 else S k) := hide (by
            funext k
            unfold bkS bkA
            by_cases e : k = pn
            · subst e
              rw [if_pos (show (0 : Int) ≤ ((k : Nat) : Int) ∧ ((k : Nat) : Int) = (k : Int) by omega), if_neg (by omega), if_pos rfl, if_pos rfl]
            · rw [if_neg (show ¬ ((0 : Int) ≤ (pn : Int) ∧ ((k : Nat) : Int) = (pn : Int)) by omega), if_neg e]
              by_cases e : k = m
              · subst e; simp
              · rw [if_neg e, if_neg e])
          rw [hpn] at HBK b1 a1
          have gp : (0 : Int) ≤ (pn : Int) := by omega
          have gpn : (pn : Int) < (N : Int) := by omega
          clear hz hz1 hb hbw hbd hx hbG hcur1 hcur0 hml hz2 hbG2 hpl hneg hp0 hpm hpn
          have HX := hide (And.intro hm (And.intro hGg (And.intro hG0 hg0)))
          clear hm hGg hG0 hg0
          go_wp2
          go_region
          go_wp2
          go_roundw
          case rel => exact ⟨m, rfl, by rw [unhide HN]; omega, (unhide HX).2.1, (unhide HX).2.2.1, (unhide HX).2.2.2, by rw [unhide HN]; exact unhide HBG2, by rw [unhide HBK, unhide HR]; exact unhide HZ2, unhide HB2⟩
          case measure => first | (simp [intOf]; done) | (simp [intOf]; omega)
theorem items_any (f : Forest) (q : Option Addr) (cap : Nat) (w : World) (hf : Fo q f w) (hcap : f.len ≤ cap) (hc : f.count ≤ 500000) :
    Calls Tryd.prog 16 #[.slice q f.len cap] w fun e w' => ∃ q' c', e = .returned (.slice q' f.count c') ∧ ItS f q' f.count c' w' ∧ Below w.heap.size w w' := items_n f q cap f.count w (hide rfl) hf hcap hc
end Go.Proofs.YtbabmkilbbbmoaaDoor
