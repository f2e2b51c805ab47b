/-
  Several texts in one: what the functions of the program and of the document's answer do.
-/
import Derived.Test.YtbabmkilbbbmoaaDoorMgAC
import Derived.Test.YtbabmkilbbbmoaaDoorMgAD
import Derived.Test.YtbabmkilbbbmoaaDoorMgAU
import Derived.Test.YtbabmkilbbbmoaaDoorMgBC

/-
  The short keys of a page's nodes, plainly: two are one just if the nodes are.
-/
namespace Go.Proofs.YtbabmkilbbbmoaaDoor
set_option linter.unusedVariables false
set_option linter.unusedSimpArgs false

/-- The key of a node, were it without kids. -/
def ktL (k sp : Int) (n : ByteArray) (ats : List (ByteArray × ByteArray)) (tx : ByteArray) : List UInt8 := keyF (.cons k sp n ats tx .nil .nil)
def sepK (D : List (List UInt8)) : List (List UInt8) → List UInt8
  | [] => []
  | t :: r => 32 :: (itoB (numT D t) ++ sepK D r)
def shF (D : List (List UInt8)) : Forest → List (List UInt8)
  | .nil => []
  | .cons k sp n ats tx kids rest => (itoB (numT D (ktL k sp n ats tx)) ++ sepK D (shF D kids)) :: shF D rest
def sh1 (D : List (List UInt8)) (k sp : Int) (n : ByteArray) (ats : List (ByteArray × ByteArray)) (tx : ByteArray) (kids : Forest) : List UInt8 := itoB (numT D (ktL k sp n ats tx)) ++ sepK D (shF D kids)
/-- The texts of all nodes have numbers. -/
def InD (D : List (List UInt8)) : Forest → Prop
  | .nil => True
  | .cons k sp n ats tx kids rest => (ktL k sp n ats tx ∈ D ∧ sh1 D k sp n ats tx kids ∈ D ∧ labelB k sp n ∈ D) ∧ InD D kids ∧ InD D rest
theorem shF_mem {D : List (List UInt8)} : ∀ (f : Forest), InD D f → ∀ t ∈ shF D f, t ∈ D
  | .nil, _, t, h => by cases h
  | .cons k sp n ats tx kids rest, hi, t, h => by
    rcases List.mem_cons.1 h with rfl | h
    · exact hi.1.2.1
    · exact shF_mem rest hi.2.2 t h
theorem sepK_pre {D D' : List (List UInt8)} (hp : D <+: D') : ∀ (l : List (List UInt8)), (∀ t ∈ l, t ∈ D) → sepK D' l = sepK D l
  | [], _ => rfl
  | t :: r, h => by rw [sepK, sepK, numT_pre hp (h t (List.mem_cons_self ..)), sepK_pre hp r (fun x hx => h x (List.mem_cons_of_mem _ hx))]
theorem shF_pre {D D' : List (List UInt8)} (hp : D <+: D') : ∀ (f : Forest), InD D f → shF D' f = shF D f ∧ InD D' f
  | .nil, _ => ⟨rfl, trivial⟩
  | .cons k sp n ats tx kids rest, h => by
    obtain ⟨⟨h1, h2, h3⟩, h4, h5⟩ := h
    obtain ⟨a1, a2⟩ := shF_pre hp kids h4
    obtain ⟨b1, b2⟩ := shF_pre hp rest h5
    have e : sh1 D' k sp n ats tx kids = sh1 D k sp n ats tx kids := by
      unfold sh1
      rw [numT_pre hp h1, a1, sepK_pre hp _ (shF_mem kids h4)]
    refine ⟨?_, ⟨hp.subset h1, by rw [e]; exact hp.subset h2, hp.subset h3⟩, a2, b2⟩
    show sh1 D' k sp n ats tx kids :: shF D' rest = sh1 D k sp n ats tx kids :: shF D rest
    rw [e, b1]
def sepN (D : List (List UInt8)) : List (List UInt8) → List UInt8
  | [] => []
  | t :: r => numB (numT D t) ++ sepN D r
theorem sepK_sepN (D : List (List UInt8)) : ∀ (l : List (List UInt8)), sepK D l ++ [32] = 32 :: sepN D l
  | [] => rfl
  | t :: r => by
    rw [sepK, sepN, numB, List.cons_append, List.append_assoc, sepK_sepN D r, List.append_assoc]
    rfl
theorem sepN_inj {D : List (List UInt8)} : ∀ (l m : List (List UInt8)), (∀ t ∈ l, t ∈ D) → (∀ t ∈ m, t ∈ D) → sepN D l = sepN D m → l = m
  | [], [], _, _, _ => rfl
  | [], t :: r, _, _, h => by
    have := congrArg List.length h
    simp [sepN, numB] at this
  | t :: r, [], _, _, h => by
    have := congrArg List.length h
    simp [sepN, numB] at this
  | t :: r, u :: s, hl, hm, h => by
    rw [sepN, sepN] at h
    obtain ⟨h1, h2⟩ := numB_uniq h
    rw [(numT_inj (hl t (List.mem_cons_self ..)) (hm u (List.mem_cons_self ..))).1 h1, sepN_inj r s (fun x hx => hl x (List.mem_cons_of_mem _ hx)) (fun x hx => hm x (List.mem_cons_of_mem _ hx)) h2]
theorem shF_inj {D : List (List UInt8)} : ∀ (f g : Forest), InD D f → InD D g → shF D f = shF D g → f = g
  | .nil, .nil, _, _, _ => rfl
  | .nil, .cons _ _ _ _ _ _ _, _, _, h => by simp [shF] at h
  | .cons _ _ _ _ _ _ _, .nil, _, _, h => by simp [shF] at h
  | .cons k sp n ats tx kids rest, .cons k' sp' n' ats' tx' kids' rest', hf, hg, h => by
    obtain ⟨⟨h1, _, _⟩, h4, h5⟩ := hf
    obtain ⟨⟨g1, _, _⟩, g4, g5⟩ := hg
    simp only [shF, List.cons.injEq] at h
    obtain ⟨ha, hb⟩ := h
    have hc := congrArg (· ++ [32]) ha
    simp only [List.append_assoc] at hc
    rw [sepK_sepN, sepK_sepN] at hc
    have hd : numB (numT D (ktL k sp n ats tx)) ++ sepN D (shF D kids) = numB (numT D (ktL k' sp' n' ats' tx')) ++ sepN D (shF D kids') := by
      unfold numB
      rw [List.append_assoc, List.append_assoc]
      exact hc
    obtain ⟨e1, e2⟩ := numB_uniq hd
    have e3 := (key_one k sp n ats tx .nil k' sp' n' ats' tx' .nil).1 ((numT_inj h1 g1).1 e1)
    have e4 := shF_inj kids kids' h4 g4 (sepN_inj _ _ (shF_mem kids h4) (shF_mem kids' g4) e2)
    have e5 := shF_inj rest rest' h5 g5 hb
    injection e3 with a1 a2 a3 a4 a5 a6 a7
    rw [a1, a2, a3, a4, a5, e4, e5]
/-- The text and the label of the first node. -/
def hdS (D : List (List UInt8)) : Forest → List UInt8
  | .nil => []
  | .cons k sp n ats tx kids _ => sh1 D k sp n ats tx kids
def hdL : Forest → List UInt8
  | .nil => []
  | .cons k sp n _ _ _ _ => labelB k sp n
def HdD (D : List (List UInt8)) : Forest → Prop
  | .nil => True
  | .cons k sp n ats tx kids _ => ktL k sp n ats tx ∈ D ∧ sh1 D k sp n ats tx kids ∈ D ∧ labelB k sp n ∈ D
theorem inD_head {D : List (List UInt8)} {f : Forest} (h : InD D f) : HdD D f := by
  cases f with
  | nil => trivial
  | cons _ _ _ _ _ _ _ => exact h.1
theorem inD_at {D : List (List UInt8)} : ∀ (f : Forest) (x : Nat), InD D f → InD D (atP f x)
  | .nil, x, _ => trivial
  | .cons k sp n ats tx kids rest, 0, h => h
  | .cons k sp n ats tx kids rest, x + 1, h => by
    by_cases hx : x < kids.count
    · rw [atP_kid hx]; exact inD_at kids x h.2.1
    · rw [atP_rest (by omega)]; exact inD_at rest _ h.2.2
theorem inD_of {D : List (List UInt8)} (f : Forest) : ∀ (G : Forest) (a : Nat), LyP f G a → (∀ x, a ≤ x → x < a + G.count → HdD D (atP f x)) → InD D G
  | .nil, a, _, _ => trivial
  | .cons k sp n ats tx kids r, a, hl, h => by
    obtain ⟨h1, h2⟩ := lyP_head hl
    obtain ⟨n1, n2⟩ := atP_next f a h1
    have h0 := h a (Nat.le_refl _) (by simp only [Forest.count]; omega)
    rw [h1] at h0
    exact ⟨h0, inD_of f kids _ n1 (fun x p q => h x (by omega) (by simp only [Forest.count]; omega)), inD_of f r _ n2 (fun x p q => h x (by omega) (by simp only [Forest.count]; omega))⟩
/-- What a page's rows of numbers tell, from a number on. -/
def PgF (D : List (List UInt8)) (f : Forest) (i : Nat) (ks ls : Nat → Int) : Prop := ∀ x, i ≤ x → x < f.count → HdD D (atP f x) ∧ ks x = numT D (hdS D (atP f x)) ∧ ls x = numT D (hdL (atP f x))
theorem hdS_pre {D D' : List (List UInt8)} (hp : D <+: D') {G : Forest} (h : InD D G) : hdS D' G = hdS D G ∧ HdD D' G := by
  cases G with
  | nil => exact ⟨rfl, trivial⟩
  | cons k sp n ats tx kids r =>
    obtain ⟨⟨h1, h2, h3⟩, h4, h5⟩ := h
    have a1 := (shF_pre hp kids h4).1
    have e : sh1 D' k sp n ats tx kids = sh1 D k sp n ats tx kids := by
      unfold sh1
      rw [numT_pre hp h1, a1, sepK_pre hp _ (shF_mem kids h4)]
    exact ⟨e, hp.subset h1, by rw [e]; exact hp.subset h2, hp.subset h3⟩
/-- All nodes from a number on, with all that is below them, are told. -/
theorem pgF_in {D : List (List UInt8)} {f : Forest} {i : Nat} {ks ls : Nat → Int} (h : PgF D f i ks ls) {G : Forest} {a : Nat} (hl : LyP f G a) (hi : i ≤ a) : InD D G :=
  inD_of f G a hl (fun x p q => (h x (by omega) (by have := hl.1; omega)).1)
theorem hdL_mem {D : List (List UInt8)} {G : Forest} (h : HdD D G) (hn : G ≠ .nil) : hdL G ∈ D ∧ hdS D G ∈ D := by
  cases G with
  | nil => exact absurd rfl hn
  | cons _ _ _ _ _ _ _ => exact ⟨h.2.2, h.2.1⟩
theorem PgF.pre {D D' : List (List UInt8)} {f : Forest} {i : Nat} {ks ls : Nat → Int} (h : PgF D f i ks ls) (hp : D <+: D') : PgF D' f i ks ls := fun x hx hxc => by
  obtain ⟨h1, h2, h3⟩ := h x hx hxc
  obtain ⟨k, sp, n, ats, tx, kids, r, e⟩ := atP_some f x hxc
  obtain ⟨n1, n2⟩ := atP_next f x e
  have hin : InD D (.cons k sp n ats tx kids .nil) := ⟨by rw [e] at h1; exact h1, pgF_in h n1 (by omega), trivial⟩
  obtain ⟨p1, p2⟩ := hdS_pre hp hin
  have hm := hdL_mem h1 (by rw [e]; exact fun c => by cases c)
  rw [e] at hm h2 h3 ⊢
  refine ⟨p2, ?_, ?_⟩
  · rw [h2, show hdS D' (.cons k sp n ats tx kids r) = hdS D (.cons k sp n ats tx kids r) from p1, numT_pre hp hm.2]
  · rw [h3, numT_pre hp hm.1]
def rowZ (ks : Nat → Int) (G : Forest) (a : Nat) : List Int := (nums G a).map ks
theorem rowZ_len (ks : Nat → Int) (G : Forest) (a : Nat) : (rowZ ks G a).length = G.len := by unfold rowZ; rw [List.length_map, nums_len]
theorem rowZ_at (ks : Nat → Int) (G : Forest) (a j : Nat) (h : j < G.len) : (rowZ ks G a).getD j 0 = ks ((nums G a).getD j 0) := by
  unfold rowZ
  rw [List.getD, List.getD, List.getElem?_map, List.getElem?_eq_getElem (by rw [nums_len]; exact h)]
  rfl
/-- The rows of numbers of two lists tell what the keys and labels tell. -/
theorem rows_eq {D : List (List UInt8)} {f g F G : Forest} {a b : Nat} {ks ls ks' ls' : Nat → Int} (hf : PgF D f 0 ks ls) (hg : PgF D g 0 ks' ls') (hF : LyP f F a) (hG : LyP g G b) (i j : Nat) (hi : i < F.len) (hj : j < G.len) :
    eqZ (rowZ ks F a) (rowZ ks' G b) i j = eqT (ksT F) (ksT G) i j ∧ eqZ (rowZ ls F a) (rowZ ls' G b) i j = eqT (lsT F) (lsT G) i j := by
  obtain ⟨x1, _, x3⟩ := nums_at f F a i hF hi
  obtain ⟨y1, _, y3⟩ := nums_at g G b j hG hj
  obtain ⟨p1, p2, p3⟩ := hf _ (Nat.zero_le _) x1
  obtain ⟨q1, q2, q3⟩ := hg _ (Nat.zero_le _) y1
  have inF := pgF_in hf (lyP_top f) (Nat.le_refl _)
  have inG := pgF_in hg (lyP_top g) (Nat.le_refl _)
  have inx := inD_at f ((nums F a).getD i 0) inF
  have iny := inD_at g ((nums G b).getD j 0) inG
  rw [x3] at p1 p2 p3 inx
  rw [y3] at q1 q2 q3 iny
  obtain ⟨k, sp, n, ats, tx, kids, hd⟩ := F.drop_cons i hi
  obtain ⟨k', sp', n', ats', tx', kids', hd'⟩ := G.drop_cons j hj
  rw [hd] at p1 p2 p3 inx
  rw [hd'] at q1 q2 q3 iny
  have mx := hdL_mem p1 (fun c => by cases c)
  have my := hdL_mem q1 (fun c => by cases c)
  unfold eqZ eqT
  rw [rowZ_at _ _ _ _ hi, rowZ_at _ _ _ _ hj, rowZ_at _ _ _ _ hi, rowZ_at _ _ _ _ hj, p2, q2, p3, q3, ksT_tx F i hi, ksT_tx G j hj, lsT_tx F i hi, lsT_tx G j hj]
  have e1 : keyT F i = bs (keyF (.cons k sp n ats tx kids .nil)) := by unfold keyT; rw [hd]
  have e2 : keyT G j = bs (keyF (.cons k' sp' n' ats' tx' kids' .nil)) := by unfold keyT; rw [hd']
  have e3 : labT F i = bs (labelB k sp n) := by unfold labT; rw [hd]
  have e4 : labT G j = bs (labelB k' sp' n') := by unfold labT; rw [hd']
  rw [e1, e2, e3, e4, bs_toList, bs_toList, bs_toList, bs_toList]
  constructor
  · have hk := key_one k sp n ats tx kids k' sp' n' ats' tx' kids'
    have hs : numT D (hdS D (.cons k sp n ats tx kids (F.drop (i + 1)))) = numT D (hdS D (.cons k' sp' n' ats' tx' kids' (G.drop (j + 1)))) ↔ Forest.cons k sp n ats tx kids .nil = Forest.cons k' sp' n' ats' tx' kids' .nil := by
      constructor
      · intro h
        have h' := (numT_inj mx.2 my.2).1 h
        exact shF_inj (.cons k sp n ats tx kids .nil) (.cons k' sp' n' ats' tx' kids' .nil) ⟨inx.1, inx.2.1, trivial⟩ ⟨iny.1, iny.2.1, trivial⟩ (by
          show [sh1 D k sp n ats tx kids] = [sh1 D k' sp' n' ats' tx' kids']
          rw [show sh1 D k sp n ats tx kids = sh1 D k' sp' n' ats' tx' kids' from h'])
      · intro h
        injection h with a1 a2 a3 a4 a5 a6
        subst a1 a2 a3 a4 a5 a6
        rfl
    by_cases e : keyF (.cons k sp n ats tx kids .nil) = keyF (.cons k' sp' n' ats' tx' kids' .nil)
    · rw [decide_eq_true e, beq_iff_eq]; exact hs.2 (hk.1 e)
    · rw [decide_eq_false e]
      exact beq_eq_false_iff_ne.2 (fun x => e (hk.2 (hs.1 x)))
  · have hs := numT_inj mx.1 my.1
    by_cases e : labelB k sp n = labelB k' sp' n'
    · rw [decide_eq_true e, beq_iff_eq]; exact hs.2 e
    · rw [decide_eq_false e]
      exact beq_eq_false_iff_ne.2 (fun x => e (hs.1 x))
/-- The pairs of two lists, by their rows of numbers. -/
theorem rows_ltP {D : List (List UInt8)} {f g F G : Forest} {a b : Nat} {ks ls ks' ls' : Nat → Int} (hf : PgF D f 0 ks ls) (hg : PgF D g 0 ks' ls') (hF : LyP f F a) (hG : LyP g G b) :
    mtF (eqZ (rowZ ls F a) (rowZ ls' G b)) F.len G.len 0 0 (lnP (eqZ (rowZ ks F a) (rowZ ks' G b)) F.len G.len 0 0) = ltP F G := by
  have e1 : lnP (eqZ (rowZ ks F a) (rowZ ks' G b)) F.len G.len 0 0 = lnP (eqT (ksT F) (ksT G)) F.len G.len 0 0 := lnP_same _ _ _ _ (fun x y hx hy => (rows_eq hf hg hF hG x y hx hy).1) _ 0 0
  rw [e1]
  exact mtF_same _ _ _ _ (fun x y hx hy => (rows_eq hf hg hF hG x y hx hy).2) _ 0 0 (Nat.zero_le _) (rise_any _ _ _ (lnP_riseM _ _ _ _ 0 0 (Nat.le_refl _)))
end Go.Proofs.YtbabmkilbbbmoaaDoor

/-
  Lining up three lists, told plainly: triples, stretches, parts.
-/
namespace Go.Proofs.YtbabmkilbbbmoaaDoor
set_option linter.unusedVariables false
set_option linter.unusedSimpArgs false

theorem rise_weak (E : Nat → Nat → Bool) (n m : Nat) : ∀ (r : List (Nat × Nat)) (i j i' j' : Nat), i' ≤ i → j' ≤ j → RiseFrom E n m i j r → RiseFrom E n m i' j' r
  | [], _, _, _, _, _, _, _ => trivial
  | p :: r, i, j, i', j', h1, h2, h => ⟨Nat.le_trans h1 h.1, Nat.le_trans h2 h.2.1, h.2.2⟩
theorem lnP_riseF (E : Nat → Nat → Bool) (n m : Nat) : ∀ (f i j : Nat), (n - i) + (m - j) ≤ f → RiseFrom E n m i j (lnP E n m i j) := by
  intro f
  induction f with
  | zero => intro i j h; rw [lnP_out _ _ _ _ _ (by omega)]; trivial
  | succ f ih =>
    intro i j h
    by_cases hin : i < n ∧ j < m
    · cases hE : E i j with
      | true => rw [lnP_yes _ _ _ _ _ hin.1 hin.2 hE]; exact ⟨Nat.le_refl _, Nat.le_refl _, hin.1, hin.2, hE, ih _ _ (by omega)⟩
      | false =>
        by_cases hg : lcB E n m i (j + 1) ≤ lcB E n m (i + 1) j
        · rw [lnP_a _ _ _ _ _ hin.1 hin.2 hE hg]; exact rise_weak _ _ _ _ _ _ _ _ (by omega) (by omega) (ih _ _ (by omega))
        · rw [lnP_b _ _ _ _ _ hin.1 hin.2 hE hg]; exact rise_weak _ _ _ _ _ _ _ _ (by omega) (by omega) (ih _ _ (by omega))
    · rw [lnP_out _ _ _ _ _ hin]; trivial
theorem lnP_rise0 (E : Nat → Nat → Bool) (n m i j : Nat) : RiseFrom E n m i j (lnP E n m i j) := lnP_riseF E n m _ i j (Nat.le_refl _)

/-- Rising pairs, whatever they are. -/
def RiseP (n m : Nat) : Nat → Nat → List (Nat × Nat) → Prop := RiseFrom (fun _ _ => true) n m
theorem rise_p {E : Nat → Nat → Bool} {n m : Nat} : ∀ (r : List (Nat × Nat)) (i j : Nat), RiseFrom E n m i j r → RiseP n m i j r
  | [], _, _, _ => trivial
  | p :: r, i, j, h => ⟨h.1, h.2.1, h.2.2.1, h.2.2.2.1, rfl, rise_p r _ _ h.2.2.2.2.2⟩
theorem risep_weak {n m : Nat} {r : List (Nat × Nat)} {i j i' j' : Nat} (h1 : i' ≤ i) (h2 : j' ≤ j) (h : RiseP n m i j r) : RiseP n m i' j' r := rise_weak _ _ _ _ _ _ _ _ h1 h2 h
theorem risep_cons {n m i j : Nat} {p : Nat × Nat} {r : List (Nat × Nat)} (h : RiseP n m i j (p :: r)) : i ≤ p.1 ∧ j ≤ p.2 ∧ p.1 < n ∧ p.2 < m ∧ RiseP n m (p.1 + 1) (p.2 + 1) r := ⟨h.1, h.2.1, h.2.2.1, h.2.2.2.1, h.2.2.2.2.2⟩
theorem risep_mk {n m i j : Nat} {p : Nat × Nat} {r : List (Nat × Nat)} (h1 : i ≤ p.1) (h2 : j ≤ p.2) (h3 : p.1 < n) (h4 : p.2 < m) (h : RiseP n m (p.1 + 1) (p.2 + 1) r) : RiseP n m i j (p :: r) := ⟨h1, h2, h3, h4, rfl, h⟩

/-- The places that two rising rows of pairs have in common, with both fellows. -/
def trF : List (Nat × Nat) → List (Nat × Nat) → List (Nat × Nat × Nat)
  | [], _ => []
  | _ :: _, [] => []
  | p :: r, q :: s => if p.1 < q.1 then trF r (q :: s) else if q.1 < p.1 then trF (p :: r) s else (p.1, p.2, q.2) :: trF r s
  termination_by a b => a.length + b.length
theorem trF_none (l : List (Nat × Nat)) : trF l [] = [] := by cases l <;> simp [trF]
theorem trF_nil (l : List (Nat × Nat)) : trF [] l = [] := by simp [trF]
theorem trF_lt (p q : Nat × Nat) (r s : List (Nat × Nat)) (h : p.1 < q.1) : trF (p :: r) (q :: s) = trF r (q :: s) := by rw [trF, if_pos h]
theorem trF_gt (p q : Nat × Nat) (r s : List (Nat × Nat)) (h : q.1 < p.1) : trF (p :: r) (q :: s) = trF (p :: r) s := by rw [trF, if_neg (by omega), if_pos h]
theorem trF_eq (p q : Nat × Nat) (r s : List (Nat × Nat)) (h : p.1 = q.1) : trF (p :: r) (q :: s) = (p.1, p.2, q.2) :: trF r s := by rw [trF, if_neg (by omega), if_neg (by omega)]
/-- Triples rise in all three. -/
def UpT (n a b : Nat) : Nat → Nat → Nat → List (Nat × Nat × Nat) → Prop
  | _, _, _, [] => True
  | i, j, k, t :: r => i ≤ t.1 ∧ j ≤ t.2.1 ∧ k ≤ t.2.2 ∧ t.1 < n ∧ t.2.1 < a ∧ t.2.2 < b ∧ UpT n a b (t.1 + 1) (t.2.1 + 1) (t.2.2 + 1) r
theorem upT_weak (n a b : Nat) : ∀ (r : List (Nat × Nat × Nat)) (i j k i' j' k' : Nat), i' ≤ i → j' ≤ j → k' ≤ k → UpT n a b i j k r → UpT n a b i' j' k' r
  | [], _, _, _, _, _, _, _, _, _, _ => trivial
  | t :: r, _, _, _, _, _, _, h1, h2, h3, h => ⟨Nat.le_trans h1 h.1, Nat.le_trans h2 h.2.1, Nat.le_trans h3 h.2.2.1, h.2.2.2⟩
theorem trF_upN (n a b : Nat) : ∀ (f : Nat) (l m : List (Nat × Nat)) (i j k : Nat), l.length + m.length ≤ f → RiseP n a i j l → RiseP n b i k m → UpT n a b i j k (trF l m) := by
  intro f
  induction f with
  | zero =>
    intro l m i j k h h1 h2
    have : l = [] := List.eq_nil_of_length_eq_zero (by omega)
    subst this
    rw [trF_nil]; trivial
  | succ f ih =>
    intro l m i j k h h1 h2
    cases l with
    | nil => rw [trF_nil]; trivial
    | cons p r =>
      cases m with
      | nil => rw [trF_none]; trivial
      | cons q s =>
        simp only [List.length_cons] at h
        obtain ⟨a1, a2, a3, a4, a5⟩ := risep_cons h1
        obtain ⟨b1, b2, b3, b4, b5⟩ := risep_cons h2
        by_cases e1 : p.1 < q.1
        · rw [trF_lt _ _ _ _ e1]
          exact upT_weak _ _ _ _ (p.1 + 1) (p.2 + 1) k _ _ _ (by omega) (by omega) (Nat.le_refl _) (ih r (q :: s) _ _ _ (by simp only [List.length_cons]; omega) a5 (risep_mk (by omega) b2 b3 b4 b5))
        · by_cases e2 : q.1 < p.1
          · rw [trF_gt _ _ _ _ e2]
            exact upT_weak _ _ _ _ (q.1 + 1) j (q.2 + 1) _ _ _ (by omega) (Nat.le_refl _) (by omega) (ih (p :: r) s _ _ _ (by simp only [List.length_cons]; omega) (risep_mk (by omega) a2 a3 a4 a5) b5)
          · have e3 : p.1 = q.1 := by omega
            rw [trF_eq _ _ _ _ e3]
            exact ⟨a1, a2, b2, a3, a4, b4, ih r s _ _ _ (by omega) a5 (by rw [e3]; exact b5)⟩
theorem trF_up {n a b i j k : Nat} {l m : List (Nat × Nat)} (h1 : RiseP n a i j l) (h2 : RiseP n b i k m) : UpT n a b i j k (trF l m) := trF_upN n a b _ l m i j k (Nat.le_refl _) h1 h2
theorem upT_len (n a b : Nat) : ∀ (r : List (Nat × Nat × Nat)) (i j k : Nat), UpT n a b i j k r → r.length ≤ n - i
  | [], _, _, _, _ => Nat.zero_le _
  | t :: r, i, j, k, h => by
    have := upT_len n a b r _ _ _ h.2.2.2.2.2.2
    have h1 := h.1
    have h2 := h.2.2.2.1
    rw [List.length_cons]; omega
/-- The fellow of a place. -/
def felF (l : List (Nat × Nat)) (o : Nat) : Option Nat := (l.find? (fun p => p.1 == o)).map (·.2)
theorem felF_cons_eq (p : Nat × Nat) (r : List (Nat × Nat)) : felF (p :: r) p.1 = some p.2 := by simp [felF]
theorem felF_cons_ne {p : Nat × Nat} {o : Nat} (r : List (Nat × Nat)) (h : p.1 ≠ o) : felF (p :: r) o = felF r o := by simp [felF, h]
theorem felF_low {n m : Nat} : ∀ (l : List (Nat × Nat)) (i j o : Nat), RiseP n m i j l → o < i → felF l o = none
  | [], _, _, _, _, _ => rfl
  | p :: r, i, j, o, h, ho => by
    obtain ⟨a1, a2, a3, a4, a5⟩ := risep_cons h
    rw [felF_cons_ne _ (by omega), felF_low r _ _ _ a5 (by omega)]
def triR (l m : List (Nat × Nat)) (o : Nat) : Option (Nat × Nat × Nat) := (felF l o).bind (fun a => (felF m o).map (fun b => (o, a, b)))
theorem triR_none1 {l m : List (Nat × Nat)} {o : Nat} (h : felF l o = none) : triR l m o = none := by simp [triR, h]
theorem triR_none2 {l m : List (Nat × Nat)} {o : Nat} (h : felF m o = none) : triR l m o = none := by unfold triR; rw [h]; cases felF l o <;> rfl
theorem head_cut {n a i j : Nat} {l : List (Nat × Nat)} (h : RiseP n a i j l) : ∃ l', RiseP n a (i + 1) 0 l' ∧ (∀ o, i < o → felF l o = felF l' o) ∧ ((l = l' ∧ felF l i = none) ∨ ∃ y, l = (i, y) :: l' ∧ felF l i = some y) := by
  cases l with
  | nil => exact ⟨[], trivial, fun _ _ => rfl, .inl ⟨rfl, rfl⟩⟩
  | cons p r =>
    obtain ⟨a1, a2, a3, a4, a5⟩ := risep_cons h
    by_cases e : p.1 = i
    · refine ⟨r, risep_weak (by omega) (Nat.zero_le _) a5, fun o ho => felF_cons_ne _ (by omega), .inr ⟨p.2, ?_, ?_⟩⟩
      · rw [← e]
      · rw [← e]; exact felF_cons_eq p r
    · have h' : RiseP n a (i + 1) 0 (p :: r) := risep_mk (by omega) (Nat.zero_le _) a3 a4 a5
      exact ⟨p :: r, h', fun _ _ => rfl, .inl ⟨rfl, felF_low _ _ _ _ h' (by omega)⟩⟩
theorem filterMap_same {α β : Type} (f g : α → Option β) : ∀ l : List α, (∀ x ∈ l, f x = g x) → l.filterMap f = l.filterMap g
  | [], _ => rfl
  | x :: r, h => by rw [List.filterMap_cons, List.filterMap_cons, h x (List.mem_cons_self ..), filterMap_same f g r (fun y hy => h y (List.mem_cons_of_mem _ hy))]
theorem tri_range (n a b : Nat) : ∀ (d i j k : Nat) (l m : List (Nat × Nat)), n - i = d → RiseP n a i j l → RiseP n b i k m → (List.range' i d).filterMap (triR l m) = trF l m := by
  intro d
  induction d with
  | zero =>
    intro i j k l m hd h1 h2
    cases l with
    | nil => rw [trF_nil]; rfl
    | cons p r => have := risep_cons h1; omega
  | succ d ih =>
    intro i j k l m hd h1 h2
    obtain ⟨l', r1, f1, c1⟩ := head_cut h1
    obtain ⟨m', r2, f2, c2⟩ := head_cut h2
    have hrest : (List.range' (i + 1) d).filterMap (triR l m) = trF l' m' := by
      rw [← ih (i + 1) 0 0 l' m' (by omega) r1 r2]
      refine filterMap_same _ _ _ fun o ho => ?_
      have hio : i < o := by rw [List.mem_range'_1] at ho; omega
      unfold triR
      rw [f1 o hio, f2 o hio]
    rw [List.range'_succ, List.filterMap_cons]
    rcases c1 with ⟨e1, x1⟩ | ⟨y, e1, x1⟩
    · rw [triR_none1 x1, hrest]
      rcases c2 with ⟨e2, x2⟩ | ⟨z, e2, x2⟩
      · rw [e1, e2]
      · rw [e1, e2]
        cases l' with
        | nil => rw [trF_nil, trF_nil]
        | cons p r => have := (risep_cons r1).1; rw [trF_gt _ _ _ _ (show i < p.1 by omega)]
    · rcases c2 with ⟨e2, x2⟩ | ⟨z, e2, x2⟩
      · rw [triR_none2 x2, hrest, e1, e2]
        cases m' with
        | nil => rw [trF_none, trF_none]
        | cons q s => have := (risep_cons r2).1; rw [trF_lt _ _ _ _ (show i < q.1 by omega)]
      · have : triR l m i = some (i, y, z) := by unfold triR; rw [x1, x2]; rfl
        rw [this, hrest, e1, e2]; exact (trF_eq (i, y) (i, z) l' m' rfl).symm

/-! ### parts -/

/-- A part: its kind, and a range of each list. -/
abbrev PT := Nat × (Nat × Nat) × (Nat × Nat) × (Nat × Nat)
/-- What tells stretches: is ours as there was; is theirs; are both the same? -/
structure Sms where
  oa : Nat → Nat → Nat → Nat → Bool
  ob : Nat → Nat → Nat → Nat → Bool
  ab : Nat → Nat → Nat → Nat → Bool
def kd3 (x y z : Bool) : Nat := if x = true then 2 else if y = true then 3 else if z = true then 4 else 5
def kdF (S : Sms) (i i' j j' k k' : Nat) : Nat := kd3 (S.oa i i' j j') (S.ob i i' k k') (S.ab j j' k k')
def stP (S : Sms) (i i' j j' k k' : Nat) : List PT := if i = i' ∧ j = j' ∧ k = k' then [] else [(kdF S i i' j j' k k', (i, i'), (j, j'), (k, k'))]
def keptT (t : Nat × Nat × Nat) : PT := (1, (t.1, t.1 + 1), (t.2.1, t.2.1 + 1), (t.2.2, t.2.2 + 1))
def ptF (S : Sms) (n a b : Nat) : Nat → Nat → Nat → List (Nat × Nat × Nat) → List PT
  | i, j, k, [] => stP S i n j a k b
  | i, j, k, t :: r => stP S i t.1 j t.2.1 k t.2.2 ++ keptT t :: ptF S n a b (t.1 + 1) (t.2.1 + 1) (t.2.2 + 1) r
theorem stP_len (S : Sms) (i i' j j' k k' : Nat) : (stP S i i' j j' k k').length ≤ 1 := by unfold stP; split <;> simp
theorem ptF_len (S : Sms) (n a b : Nat) : ∀ (r : List (Nat × Nat × Nat)) (i j k : Nat), (ptF S n a b i j k r).length ≤ 2 * r.length + 1
  | [], _, _, _ => by have := stP_len S; unfold ptF; exact this ..
  | t :: r, i, j, k => by
    have h1 := stP_len S i t.1 j t.2.1 k t.2.2
    have h2 := ptF_len S n a b r (t.1 + 1) (t.2.1 + 1) (t.2.2 + 1)
    rw [ptF, List.length_append, List.length_cons, List.length_cons]
    omega
/-- Parts go from places to places. -/
def GoP (n a b : Nat) : Nat → Nat → Nat → List PT → Prop
  | i, j, k, [] => i = n ∧ j = a ∧ k = b
  | i, j, k, p :: r => 1 ≤ p.1 ∧ p.1 ≤ 5 ∧ p.2.1.1 = i ∧ p.2.2.1.1 = j ∧ p.2.2.2.1 = k ∧ i ≤ p.2.1.2 ∧ j ≤ p.2.2.1.2 ∧ k ≤ p.2.2.2.2 ∧ ¬ (p.2.1.2 = i ∧ p.2.2.1.2 = j ∧ p.2.2.2.2 = k) ∧ p.2.1.2 ≤ n ∧ p.2.2.1.2 ≤ a ∧ p.2.2.2.2 ≤ b ∧ GoP n a b p.2.1.2 p.2.2.1.2 p.2.2.2.2 r
theorem kd3_ge (x y z : Bool) : 1 ≤ kd3 x y z ∧ kd3 x y z ≤ 5 := by cases x <;> cases y <;> cases z <;> decide
theorem goP_st (S : Sms) (n a b i i' j j' k k' : Nat) (r : List PT) (h1 : i ≤ i') (h2 : j ≤ j') (h3 : k ≤ k') (l1 : i' ≤ n) (l2 : j' ≤ a) (l3 : k' ≤ b) (h : GoP n a b i' j' k' r) : GoP n a b i j k (stP S i i' j j' k k' ++ r) := by
  unfold stP
  split
  · rename_i e
    obtain ⟨rfl, rfl, rfl⟩ := e
    exact h
  · rename_i e
    have := kd3_ge (S.oa i i' j j') (S.ob i i' k k') (S.ab j j' k k')
    exact ⟨this.1, this.2, rfl, rfl, rfl, h1, h2, h3, fun x => e ⟨x.1.symm, x.2.1.symm, x.2.2.symm⟩, l1, l2, l3, h⟩
theorem ptF_go (S : Sms) (n a b : Nat) : ∀ (r : List (Nat × Nat × Nat)) (i j k : Nat), i ≤ n → j ≤ a → k ≤ b → UpT n a b i j k r → GoP n a b i j k (ptF S n a b i j k r)
  | [], i, j, k, h1, h2, h3, _ => by
    have := goP_st S n a b i n j a k b [] h1 h2 h3 (Nat.le_refl _) (Nat.le_refl _) (Nat.le_refl _) ⟨rfl, rfl, rfl⟩
    rw [List.append_nil] at this
    exact this
  | t :: r, i, j, k, h1, h2, h3, h => by
    obtain ⟨a1, a2, a3, a4, a5, a6, a7⟩ := h
    rw [ptF]
    refine goP_st S n a b i t.1 j t.2.1 k t.2.2 _ a1 a2 a3 (by omega) (by omega) (by omega) ?_
    refine ⟨Nat.le_refl 1, by show (1 : Nat) ≤ 5; decide, rfl, rfl, rfl, by show t.1 ≤ t.1 + 1; omega, by show t.2.1 ≤ t.2.1 + 1; omega, by show t.2.2 ≤ t.2.2 + 1; omega, fun x => ?_, a4, a5, a6, ptF_go S n a b r _ _ _ a4 a5 a6 a7⟩
    have : t.1 + 1 = t.1 := x.1
    omega
end Go.Proofs.YtbabmkilbbbmoaaDoor

/-
  The pairs of two lists of nodes rise, plainly.
-/
namespace Go.Proofs.YtbabmkilbbbmoaaDoor
set_option linter.unusedVariables false
set_option linter.unusedSimpArgs false

/-- What match makes of whole pairs: the places alone. -/
def mtN (A : Nat → Nat → Bool) (n m : Nat) : Nat → Nat → List (Nat × Nat) → List (Nat × Nat)
  | i, j, [] => alF A m (n - i) i j
  | i, j, p :: r => alF A p.2 (p.1 - i) i j ++ p :: mtN A n m (p.1 + 1) (p.2 + 1) r
theorem risep_app {n m i1 j1 : Nat} (hn : i1 ≤ n) (hm : j1 ≤ m) : ∀ (l r : List (Nat × Nat)) (i j : Nat), i ≤ i1 → j ≤ j1 → RiseP i1 j1 i j l → RiseP n m i1 j1 r → RiseP n m i j (l ++ r)
  | [], r, i, j, hi, hj, _, h => risep_weak hi hj h
  | p :: l, r, i, j, hi, hj, hl, h => by
    obtain ⟨a1, a2, a3, a4, a5⟩ := risep_cons hl
    exact risep_mk a1 a2 (by omega) (by omega) (risep_app hn hm l r _ _ (by omega) (by omega) a5 h)
theorem alF_rise (A : Nat → Nat → Bool) (j1 : Nat) : ∀ (f i j : Nat), RiseP (i + f) j1 i j (alF A j1 f i j)
  | 0, _, _ => trivial
  | f + 1, i, j => by
    rw [alF]
    cases h : fdF (A i) (j1 - j) j with
    | some x =>
      obtain ⟨b1, b2, _⟩ := fdF_in _ _ _ _ h
      have := alF_rise A j1 f (i + 1) (x + 1)
      rw [show i + 1 + f = i + (f + 1) by omega] at this
      exact risep_mk (Nat.le_refl _) b1 (by show i < i + (f + 1); omega) (by show x < j1; omega) this
    | none =>
      have := alF_rise A j1 f (i + 1) j
      rw [show i + 1 + f = i + (f + 1) by omega] at this
      exact risep_weak (by omega) (Nat.le_refl _) this
theorem mtN_rise (A : Nat → Nat → Bool) (n m : Nat) : ∀ (P : List (Nat × Nat)) (i j : Nat), i ≤ n → j ≤ m → RiseP n m i j P → RiseP n m i j (mtN A n m i j P)
  | [], i, j, hi, hj, _ => by
    have := alF_rise A m (n - i) i j
    rw [show i + (n - i) = n by omega] at this
    exact this
  | p :: r, i, j, hi, hj, h => by
    obtain ⟨a1, a2, a3, a4, a5⟩ := risep_cons h
    have h1 := alF_rise A p.2 (p.1 - i) i j
    rw [show i + (p.1 - i) = p.1 by omega] at h1
    rw [mtN]
    exact risep_app (by omega) (by omega) _ _ _ _ a1 a2 h1 (risep_mk (Nat.le_refl _) (Nat.le_refl _) a3 a4 (mtN_rise A n m r _ _ (by omega) (by omega) a5))
def castP (p : Nat × Nat) : Int × Int := ((p.1 : Int), (p.2 : Int))
theorem mtF_mtN (A : Nat → Nat → Bool) (n m : Nat) : ∀ (P : List (Nat × Nat)) (i j : Nat), (mtF A n m i j P).map (fun x => (x.1, x.2.1)) = (mtN A n m i j P).map castP
  | [], i, j => by
    rw [mtF, mtN, whB, List.map_map]
    rfl
  | p :: r, i, j => by
    rw [mtF, mtN, whB, List.map_append, List.map_append, List.map_map, List.map_cons, List.map_cons, mtF_mtN A n m r _ _]
    rfl
/-- The places of the pairs of two lists of nodes. -/
def ltM (f h : Forest) : List (Nat × Nat) := mtN (eqT (lsT f) (lsT h)) f.len h.len 0 0 (lnP (eqT (ksT f) (ksT h)) f.len h.len 0 0)
theorem ltM_rise (f h : Forest) : RiseP f.len h.len 0 0 (ltM f h) := mtN_rise _ _ _ _ _ _ (Nat.zero_le _) (Nat.zero_le _) (rise_p _ _ _ (lnP_rise0 _ _ _ 0 0))
theorem ltP_ltM (f h : Forest) : (ltP f h).map (fun x => (x.1, x.2.1)) = (ltM f h).map castP := mtF_mtN _ _ _ _ _ _
theorem ltM_len (f h : Forest) : (ltM f h).length = (ltP f h).length := by
  have := congrArg List.length (ltP_ltM f h)
  rw [List.length_map, List.length_map] at this
  exact this.symm
theorem ltM_at (f h : Forest) (k : Nat) (hk : k < (ltP f h).length) : ((ltP f h).getD k p0).1 = (((ltM f h).getD k (0, 0)).1 : Int) ∧ ((ltP f h).getD k p0).2.1 = (((ltM f h).getD k (0, 0)).2 : Int) := by
  have e := congrArg (fun l => l[k]?) (ltP_ltM f h)
  rw [List.getElem?_map, List.getElem?_map, List.getElem?_eq_getElem hk, List.getElem?_eq_getElem (by rw [ltM_len]; exact hk)] at e
  rw [List.getD, List.getD, List.getElem?_eq_getElem hk, List.getElem?_eq_getElem (by rw [ltM_len]; exact hk)]
  simp only [Option.map_some, Option.some.injEq] at e
  have e1 := congrArg Prod.fst e
  have e2 := congrArg Prod.snd e
  exact ⟨e1, e2⟩
/-- Stretches of nodes. -/
def tkF : Nat → Forest → Forest
  | 0, _ => .nil
  | _ + 1, .nil => .nil
  | j + 1, .cons k sp n ats tx kids r => .cons k sp n ats tx kids (tkF j r)
theorem tkF_len : ∀ (j : Nat) (f : Forest), j ≤ f.len → (tkF j f).len = j
  | 0, _, _ => rfl
  | j + 1, .nil, h => by simp [Forest.len] at h
  | j + 1, .cons _ _ _ _ _ _ r, h => by
    have := tkF_len j r (by simp only [Forest.len] at h; omega)
    simp only [tkF, Forest.len, this]
theorem tkF_count : ∀ (j : Nat) (f : Forest), (tkF j f).count ≤ f.count
  | 0, _ => Nat.zero_le _
  | j + 1, .nil => Nat.le_refl _
  | j + 1, .cons _ _ _ _ _ _ r => by
    have := tkF_count j r
    simp only [tkF, Forest.count]; omega
theorem tkF_small : ∀ (j : Nat) (f : Forest), SmF f → SmF (tkF j f)
  | 0, _, _ => trivial
  | j + 1, .nil, _ => trivial
  | j + 1, .cons _ _ _ _ _ _ r, h => ⟨h.1, h.2.1, tkF_small j r h.2.2⟩
theorem tkF_lies {w : World} {g : Nat} : ∀ (j : Nat) (f : Forest) (o : Nat), Lies f g o w → Lies (tkF j f) g o w
  | 0, _, _, _ => trivial
  | j + 1, .nil, _, _ => trivial
  | j + 1, .cons _ _ _ _ _ _ r, o, h => ⟨h.1, tkF_lies j r (o + 6) h.2⟩
def subN (f : Forest) (i x : Nat) : Forest := tkF (x - i) (f.drop i)
theorem subN_len (f : Forest) (i x : Nat) (h : i ≤ x) (hx : x ≤ f.len) : (subN f i x).len = x - i := tkF_len _ _ (by rw [Forest.drop_len]; omega)
theorem subN_count (f : Forest) (i x : Nat) : (subN f i x).count ≤ f.count := Nat.le_trans (tkF_count _ _) (Forest.count_drop _ _)
theorem subN_small (f : Forest) (i x : Nat) (h : SmF f) : SmF (subN f i x) := tkF_small _ _ (sm_drop i f h)
def smM (f g h : Forest) : Sms := ⟨fun i i' j j' => sameF (subN g j j') (subN f i i'), fun i i' k k' => sameF (subN h k k') (subN f i i'), fun j j' k k' => sameF (subN g j j') (subN h k k')⟩
theorem sameF_comm (f g : Forest) : sameF f g = sameF g f := by
  have h1 := sameF_eq f g
  have h2 := sameF_eq g f
  cases e : sameF f g with
  | true => exact (h2.2 (h1.1 e).symm).symm
  | false =>
    cases e2 : sameF g f with
    | false => rfl
    | true => rw [h1.2 (h2.1 e2).symm] at e; cases e
/-- One node alone. -/
theorem sameF_one (k sp : Int) (n : ByteArray) (ats : List (ByteArray × ByteArray)) (tx : ByteArray) (kids r : Forest) (k' sp' : Int) (n' : ByteArray) (ats' : List (ByteArray × ByteArray)) (tx' : ByteArray) (kids' r' : Forest) :
    sameF (.cons k sp n ats tx kids r) (.cons k' sp' n' ats' tx' kids' r') = (sameF (.cons k sp n ats tx kids .nil) (.cons k' sp' n' ats' tx' kids' .nil) && sameF r r') := by
  simp only [sameF, Bool.and_true, Bool.and_assoc]
/-- The parts of three lists of nodes. -/
def ndP (f g h : Forest) : List PT := ptF (smM f g h) f.len g.len h.len 0 0 0 (trF (ltM f g) (ltM f h))
theorem ndP_up (f g h : Forest) : UpT f.len g.len h.len 0 0 0 (trF (ltM f g) (ltM f h)) := trF_up (ltM_rise f g) (ltM_rise f h)
end Go.Proofs.YtbabmkilbbbmoaaDoor
