/-
  Words and pieces, told plainly: a text's words (grp), what was changed of lists (lsP), pieces joined (jnP, refJ), what they tell (toldF).
-/
import Derived.Test.YtfbgpodcdgmpjaaDoorMgAC
import Derived.Test.YtfbgpodcdgmpjaaDoorMPl
namespace Go.Proofs.YtfbgpodcdgmpjaaDoor
set_option linter.unusedVariables false
set_option linter.unusedSimpArgs false

/-- How many bytes ahead are of one sort. -/
def runL (p : Bool) : List UInt8 → Nat
  | [] => 0
  | b :: r => if sp b = p then 1 + runL p r else 0
def weL : List UInt8 → Nat
  | [] => 0
  | b :: r => 1 + runL (sp b) r
def putW (b : UInt8) : List (List UInt8) → List (List UInt8)
  | [] => [[b]]
  | [] :: gs => [b] :: gs
  | (c :: g) :: gs => if sp c = sp b then (b :: c :: g) :: gs else [b] :: (c :: g) :: gs
/-- A text's words. -/
def grp : List UInt8 → List (List UInt8)
  | [] => []
  | b :: r => putW b (grp r)
theorem runL_le (p : Bool) : ∀ l, runL p l ≤ l.length
  | [] => Nat.le_refl _
  | b :: r => by unfold runL; have := runL_le p r; split <;> simp <;> omega
theorem weL_le (l : List UInt8) : weL l ≤ l.length := by
  cases l with
  | nil => exact Nat.le_refl _
  | cons b r => unfold weL; have := runL_le (sp b) r; simp; omega
theorem weL_pos {l : List UInt8} (h : l ≠ []) : 0 < weL l := by
  cases l with
  | nil => exact absurd rfl h
  | cons b r => rw [weL]; omega
theorem grp_step : ∀ (l : List UInt8), l ≠ [] → grp l = l.take (weL l) :: grp (l.drop (weL l))
  | [], h => absurd rfl h
  | [b], _ => by simp [grp, putW, weL, runL]
  | b :: c :: r, _ => by
    have ih := grp_step (c :: r) (by simp)
    show putW b (grp (c :: r)) = _
    rw [ih]
    have hw : (c :: r).take (weL (c :: r)) = c :: r.take (runL (sp c) r) := by
      show (c :: r).take (1 + runL (sp c) r) = _
      rw [Nat.add_comm, List.take_succ_cons]
    rw [hw]
    by_cases e : sp c = sp b
    · have e2 : weL (b :: c :: r) = 1 + weL (c :: r) := by
        show 1 + runL (sp b) (c :: r) = 1 + (1 + runL (sp c) r)
        rw [runL, if_pos e, e]
      rw [putW, if_pos e, e2, Nat.add_comm 1, List.take_succ_cons, List.drop_succ_cons, hw]
    · have e2 : weL (b :: c :: r) = 1 := by
        show 1 + runL (sp b) (c :: r) = 1
        rw [runL, if_neg e]
      rw [putW, if_neg e, e2]
      show _ = [b] :: grp (c :: r)
      rw [ih, hw]
theorem grp_flat : ∀ (n : Nat) (l : List UInt8), l.length ≤ n → (grp l).flatten = l
  | 0, l, h => by have e : l = [] := List.eq_nil_of_length_eq_zero (Nat.le_zero.1 h); subst e; rfl
  | n + 1, l, h => by
    by_cases e : l = []
    · subst e; rfl
    · rw [grp_step l e, List.flatten_cons, grp_flat n _ (by rw [List.length_drop]; have := weL_pos e; omega), List.take_append_drop]
theorem grp_flatten (l : List UInt8) : (grp l).flatten = l := grp_flat _ l (Nat.le_refl _)
theorem grp_lenF : ∀ (n : Nat) (l : List UInt8), l.length ≤ n → (grp l).length ≤ l.length
  | 0, l, h => by have e : l = [] := List.eq_nil_of_length_eq_zero (Nat.le_zero.1 h); subst e; exact Nat.le_refl _
  | n + 1, l, h => by
    by_cases e : l = []
    · subst e; exact Nat.le_refl _
    · have h1 := weL_pos e
      have h2 := weL_le l
      have h3 := grp_lenF n (l.drop (weL l)) (by rw [List.length_drop]; omega)
      rw [List.length_drop] at h3
      rw [grp_step l e, List.length_cons]
      omega
theorem grp_len (l : List UInt8) : (grp l).length ≤ l.length := grp_lenF _ l (Nat.le_refl _)
/-- A text of one sort. -/
def OneS (p : Bool) (g : List UInt8) : Prop := ∀ b ∈ g, sp b = p
theorem runL_one {p : Bool} : ∀ {g r : List UInt8}, OneS p g → runL p (g ++ r) = g.length + runL p r
  | [], r, h => by simp
  | b :: g, r, h => by
    rw [List.cons_append, runL, if_pos (h b (List.mem_cons_self ..)), runL_one (fun x hx => h x (List.mem_cons_of_mem _ hx)), List.length_cons]; omega
/-- What does not begin with this sort. -/
def OffS (p : Bool) (r : List UInt8) : Prop := ∀ b, r.head? = some b → sp b ≠ p
theorem runL_off {p : Bool} {r : List UInt8} (h : OffS p r) : runL p r = 0 := by
  cases r with
  | nil => rfl
  | cons b r => rw [runL, if_neg (h b rfl)]
theorem weL_one {p : Bool} {g r : List UInt8} (hg : g ≠ []) (h : OneS p g) (hr : OffS p r) : weL (g ++ r) = g.length := by
  cases g with
  | nil => exact absurd rfl hg
  | cons b g =>
    have e : sp b = p := h b (List.mem_cons_self ..)
    show 1 + runL (sp b) (g ++ r) = _
    rw [e, runL_one (fun x hx => h x (List.mem_cons_of_mem _ hx)), runL_off hr, List.length_cons]; omega
theorem grp_one {p : Bool} {g r : List UInt8} (hg : g ≠ []) (h : OneS p g) (hr : OffS p r) : grp (g ++ r) = g :: grp r := by
  rw [grp_step _ (by cases g with | nil => exact absurd rfl hg | cons b g => simp), weL_one hg h hr, List.take_left' rfl, List.drop_left' rfl]
theorem one_run : ∀ (p : Bool) (l : List UInt8), OneS p (l.take (runL p l)) ∧ OffS p (l.drop (runL p l))
  | p, [] => ⟨fun b h => by simp [runL] at h, fun b h => by simp [runL] at h⟩
  | p, b :: r => by
    by_cases e : sp b = p
    · have ih := one_run p r
      rw [runL, if_pos e, Nat.add_comm, List.take_succ_cons, List.drop_succ_cons]
      refine ⟨fun x hx => ?_, ih.2⟩
      rcases List.mem_cons.1 hx with rfl | hx
      · exact e
      · exact ih.1 x hx
    · rw [runL, if_neg e]
      exact ⟨fun x hx => (by simp at hx), fun x hx => by
        simp only [List.drop_zero, List.head?_cons, Option.some.injEq] at hx
        subst hx; exact e⟩
/-- Words: none is empty, each is of one sort, those side by side are not. -/
def WordsOk : List (List UInt8) → Prop
  | [] => True
  | g :: gs => (∃ p, g ≠ [] ∧ OneS p g ∧ OffS p (gs.headD [])) ∧ WordsOk gs
theorem grp_head (l : List UInt8) : ((grp l).headD []).head? = l.head? := by
  cases l with
  | nil => rfl
  | cons b r => rw [grp_step _ (by simp)]; show ((b :: r).take (1 + runL (sp b) r)).head? = _; rw [Nat.add_comm, List.take_succ_cons]; rfl
theorem grp_okF : ∀ (n : Nat) (l : List UInt8), l.length ≤ n → WordsOk (grp l)
  | 0, l, h => by have e : l = [] := List.eq_nil_of_length_eq_zero (Nat.le_zero.1 h); subst e; trivial
  | n + 1, l, h => by
    cases l with
    | nil => trivial
    | cons b r =>
      have hw : weL (b :: r) = 1 + runL (sp b) r := rfl
      obtain ⟨o1, o2⟩ := one_run (sp b) r
      rw [grp_step _ (by simp), hw, Nat.add_comm, List.take_succ_cons, List.drop_succ_cons]
      refine ⟨⟨sp b, by simp, fun x hx => ?_, fun x hx => o2 x (by rw [grp_head] at hx; exact hx)⟩, grp_okF n _ (by rw [List.length_drop]; simp at h; omega)⟩
      rcases List.mem_cons.1 hx with rfl | hx
      · rfl
      · exact o1 x hx
theorem grp_ok (l : List UInt8) : WordsOk (grp l) := grp_okF _ l (Nat.le_refl _)
theorem wordsOk_mem : ∀ {gs : List (List UInt8)}, WordsOk gs → ∀ g ∈ gs, g ≠ [] ∧ grp g = [g]
  | [], _, g, h => by cases h
  | g0 :: gs, ho, g, h => by
    obtain ⟨⟨p, h1, h2, h3⟩, h4⟩ := ho
    rcases List.mem_cons.1 h with rfl | h
    · have := grp_one (r := []) h1 h2 (fun b hb => by cases hb)
      rw [List.append_nil] at this
      exact ⟨h1, this⟩
    · exact wordsOk_mem h4 g h
theorem wordsOk_two : ∀ {gs : List (List UInt8)}, WordsOk gs → ∀ i, i + 1 < gs.length → grp (gs.getD i [] ++ gs.getD (i + 1) []) = [gs.getD i [], gs.getD (i + 1) []]
  | [], _, i, h => by simp at h
  | [g], _, i, h => by simp at h
  | g :: g2 :: gs, ho, 0, h => by
    obtain ⟨⟨p, h1, h2, h3⟩, h4⟩ := ho
    have e2 := (wordsOk_mem h4 g2 (List.mem_cons_self ..)).2
    have := grp_one (r := g2) h1 h2 h3
    rw [e2] at this
    exact this
  | g :: g2 :: gs, ho, i + 1, h => by
    have := wordsOk_two ho.2 i (by simpa using h)
    simpa using this

/-! ### pieces -/
abbrev Pc := Int × ByteArray
def tk (k : Int) (l : List ByteArray) : List Pc := l.map (fun t => (k, t))
def lsP (a b : List ByteArray) : Nat → Nat → List (Nat × Nat) → List Pc
  | i, j, [] => tk 2 (a.drop i) ++ tk 3 (b.drop j)
  | i, j, (x, y) :: r => tk 2 ((a.take x).drop i) ++ (tk 3 ((b.take y).drop j) ++ ((1, a.getD x ByteArray.empty) :: lsP a b (x + 1) (y + 1) r))
def toldF (f : Pc → List UInt8) (L : List Pc) : List UInt8 := L.flatMap f
def ifK (p : Int → Bool) (x : Pc) : List UInt8 := if p x.1 = true then x.2.data.toList else []
theorem toldF_app (f : Pc → List UInt8) (L M : List Pc) : toldF f (L ++ M) = toldF f L ++ toldF f M := by unfold toldF; rw [List.flatMap_append]
theorem toldF_cons (f : Pc → List UInt8) (x : Pc) (M : List Pc) : toldF f (x :: M) = f x ++ toldF f M := by unfold toldF; rw [List.flatMap_cons]
/-- How many pieces ahead are of one Kind. -/
def keK (k : Int) : List Pc → Nat
  | [] => 0
  | x :: r => if x.1 = k then 1 + keK k r else 0
def keL : List Pc → Nat
  | [] => 0
  | x :: r => 1 + keK x.1 r
theorem keK_le (k : Int) : ∀ L, keK k L ≤ L.length
  | [] => Nat.le_refl _
  | x :: r => by unfold keK; have := keK_le k r; split <;> simp <;> omega
theorem keL_cons (x : Pc) (r : List Pc) : keL (x :: r) = 1 + keK x.1 r := rfl
theorem weL_cons (b : UInt8) (r : List UInt8) : weL (b :: r) = 1 + runL (sp b) r := rfl
theorem keL_le (L : List Pc) : keL L ≤ L.length := by
  cases L with
  | nil => exact Nat.le_refl _
  | cons x r => unfold keL; have := keK_le x.1 r; simp; omega
theorem keL_pos {L : List Pc} (h : L ≠ []) : 0 < keL L := by
  cases L with
  | nil => exact absurd rfl h
  | cons x r => rw [keL]; omega
def jn1 (k : Int) (t : List UInt8) : List Pc := if t = [] then [] else [(k, bs t)]
def kd0 (L : List Pc) : Int := (L.headD (0, ByteArray.empty)).1
def jnF : Nat → List Pc → List Pc
  | 0, _ => []
  | n + 1, L => if L = [] then [] else jn1 (kd0 L) (toldF (ifK (fun k => k == kd0 L)) (L.take (keL L))) ++ jnF n (L.drop (keL L))
/-- Pieces of one Kind side by side as one, none that is empty. -/
def jnP (L : List Pc) : List Pc := jnF L.length L
theorem jnF_nil (n : Nat) : jnF n [] = [] := by cases n <;> rfl
theorem jnF_fuel : ∀ (n : Nat) (L : List Pc), L.length ≤ n → jnF n L = jnP L
  | 0, L, h => by have e : L = [] := List.eq_nil_of_length_eq_zero (Nat.le_zero.1 h); subst e; rfl
  | n + 1, L, h => by
    cases L with
    | nil => rfl
    | cons x r =>
      have h1 := keL_pos (L := x :: r) (by simp)
      have h2 : ((x :: r).drop (keL (x :: r))).length ≤ r.length := by rw [List.length_drop, List.length_cons]; omega
      unfold jnP
      rw [List.length_cons, jnF, jnF, if_neg (by simp), if_neg (by simp)]
      rw [jnF_fuel n _ (by simp at h; omega), jnF_fuel r.length _ h2]
termination_by n L => (n, L.length)
decreasing_by
  all_goals simp_wf
  · left; omega
  · simp at h; rcases Nat.lt_or_ge r.length (n + 1) with h' | h'
    · left; omega
    · omega
theorem jnP_step (L : List Pc) (h : L ≠ []) : jnP L = jn1 (kd0 L) (toldF (ifK (fun k => k == kd0 L)) (L.take (keL L))) ++ jnP (L.drop (keL L)) := by
  have h1 := keL_pos h
  obtain ⟨n, hn⟩ : ∃ n, L.length = n + 1 := ⟨L.length - 1, by have h2 := keL_le L; omega⟩
  have e : jnP L = jnF (n + 1) L := by unfold jnP; rw [hn]
  rw [e, jnF, if_neg h, jnF_fuel n _ (by rw [List.length_drop]; omega)]
/-- What the reference's loop does with a piece. -/
def stepJ (out : List Pc) (p : Pc) : List Pc :=
  if p.2.data.toList = [] then out else match out.getLast? with
    | none => out ++ [p]
    | some q => if q.1 = p.1 then out.dropLast ++ [(q.1, bs (q.2.data.toList ++ p.2.data.toList))] else out ++ [p]
def refJ (out : List Pc) (L : List Pc) : List Pc := L.foldl stepJ out
theorem stepJ_new {out : List Pc} {p : Pc} (hp : p.2.data.toList ≠ []) (hl : ∀ q, out.getLast? = some q → q.1 ≠ p.1) : stepJ out p = out ++ [p] := by
  unfold stepJ
  rw [if_neg hp]
  cases e : out.getLast? with
  | none => rfl
  | some q => dsimp only; rw [if_neg (hl q e)]
theorem stepJ_more {out : List Pc} {k : Int} {t : List UInt8} {p : Pc} (hp : p.2.data.toList ≠ []) (hk : p.1 = k) : stepJ (out ++ [(k, bs t)]) p = out ++ [(k, bs (t ++ p.2.data.toList))] := by
  unfold stepJ
  rw [if_neg hp, List.getLast?_concat]
  dsimp only
  rw [if_pos hk.symm, List.dropLast_concat, bs_toList]
theorem refJ_run : ∀ (L : List Pc) (out : List Pc) (k : Int) (t : List UInt8), (∀ p ∈ L, p.2.data.toList ≠ []) → refJ (out ++ [(k, bs t)]) L = refJ (out ++ [(k, bs (t ++ toldF (ifK (fun x => x == k)) (L.take (keK k L))))]) (L.drop (keK k L))
  | [], out, k, t, h => by simp [keK, toldF]
  | p :: r, out, k, t, h => by
    by_cases e : p.1 = k
    · rw [keK, if_pos e, Nat.add_comm, List.take_succ_cons, List.drop_succ_cons, toldF_cons]
      show refJ (stepJ (out ++ [(k, bs t)]) p) r = _
      rw [stepJ_more (h p (List.mem_cons_self ..)) e, refJ_run r out k _ (fun q hq => h q (List.mem_cons_of_mem _ hq))]
      have : ifK (fun x => x == k) p = p.2.data.toList := by unfold ifK; rw [if_pos (by rw [e]; exact beq_self_eq_true k)]
      rw [this, List.append_assoc]
    · rw [keK, if_neg e]; simp [toldF]
theorem keK_off (k : Int) : ∀ (L : List Pc) (q : Pc), (L.drop (keK k L)).head? = some q → q.1 ≠ k
  | [], q, h => by simp [keK] at h
  | p :: r, q, h => by
    by_cases e : p.1 = k
    · rw [keK, if_pos e, Nat.add_comm, List.drop_succ_cons] at h
      exact keK_off k r q h
    · rw [keK, if_neg e] at h
      simp at h; subst h; exact e
theorem refJ_is : ∀ (n : Nat) (L out : List Pc), L.length ≤ n → (∀ p ∈ L, p.2.data.toList ≠ []) → (∀ p q, L.head? = some p → out.getLast? = some q → q.1 ≠ p.1) → refJ out L = out ++ jnP L
  | n, [], out, _, _, _ => by simp [refJ, jnP, jnF]
  | 0, p :: r, out, h, _, _ => by simp at h
  | n + 1, p :: r, out, h, hne, ho => by
    have hp := hne p (List.mem_cons_self ..)
    show refJ (stepJ out p) r = _
    rw [stepJ_new hp (fun q hq => ho p q rfl hq)]
    have e1 : out ++ [p] = out ++ [(p.1, bs p.2.data.toList)] := by rw [bs_self]
    rw [e1, refJ_run r out p.1 _ (fun q hq => hne q (List.mem_cons_of_mem _ hq))]
    have h2 : (r.drop (keK p.1 r)).length ≤ n := by rw [List.length_drop]; simp at h; omega
    rw [refJ_is n _ _ h2 (fun q hq => hne q (List.mem_cons_of_mem _ (List.mem_of_mem_drop hq))) (fun x q hx hq => by
      rw [List.getLast?_concat] at hq
      cases hq
      exact fun e => keK_off p.1 r x hx e.symm)]
    rw [jnP_step (p :: r) (by simp)]
    have e2 : keL (p :: r) = keK p.1 r + 1 := by rw [keL_cons]; omega
    have e3 : kd0 (p :: r) = p.1 := rfl
    rw [e2, e3, List.take_succ_cons, List.drop_succ_cons, toldF_cons]
    have e4 : ifK (fun k => k == p.1) p = p.2.data.toList := by unfold ifK; rw [if_pos (beq_self_eq_true p.1)]
    rw [e4]
    have e5 : jn1 p.1 (p.2.data.toList ++ toldF (ifK (fun k => k == p.1)) (r.take (keK p.1 r))) = [(p.1, bs (p.2.data.toList ++ toldF (ifK (fun k => k == p.1)) (r.take (keK p.1 r))))] := by
      unfold jn1
      rw [if_neg (fun e => hp (List.append_eq_nil_iff.1 e).1)]
    rw [e5, List.append_assoc]
/-- The pieces that are joined: none is empty, or there are two of unlike Kinds. -/
def JOk (L : List Pc) : Prop := (∀ p ∈ L, p.2.data.toList ≠ []) ∨ ∃ a b, L = [(2, a), (3, b)]
theorem two_jn (a b : ByteArray) : jnP [((2 : Int), a), (3, b)] = jn1 2 a.data.toList ++ jn1 3 b.data.toList := by
  rw [jnP_step _ (by simp)]
  have e1 : keL [((2 : Int), a), (3, b)] = 1 := by simp [keL, keK]
  rw [e1]
  show jn1 2 (toldF _ [((2 : Int), a)]) ++ jnP [((3 : Int), b)] = _
  rw [jnP_step [((3 : Int), b)] (by simp)]
  have e2 : keL [((3 : Int), b)] = 1 := by simp [keL, keK]
  rw [e2]
  show jn1 2 (toldF (ifK (fun k => k == 2)) [((2 : Int), a)]) ++ (jn1 3 (toldF (ifK (fun k => k == 3)) [((3 : Int), b)]) ++ jnP []) = _
  have e3 : jnP [] = [] := rfl
  rw [e3, List.append_nil]
  simp [toldF, ifK]
theorem refJ_jn (L : List Pc) (h : JOk L) : refJ [] L = jnP L := by
  rcases h with h | ⟨a, b, rfl⟩
  · have := refJ_is _ L [] (Nat.le_refl _) h (fun p q _ hq => by cases hq)
    rw [this, List.nil_append]
  · rw [two_jn]
    unfold refJ jn1
    simp only [List.foldl_cons, List.foldl_nil]
    by_cases ha : a.data.toList = []
    · have e1 : stepJ [] ((2 : Int), a) = [] := by unfold stepJ; rw [if_pos ha]
      rw [e1, if_pos ha]
      by_cases hb : b.data.toList = []
      · rw [if_pos hb]; unfold stepJ; rw [if_pos hb]; try rfl
      · rw [if_neg hb, stepJ_new hb (fun q hq => by cases hq), bs_self]; try rfl
    · have e1 : stepJ [] ((2 : Int), a) = [((2 : Int), a)] := stepJ_new ha (fun q hq => by cases hq)
      rw [e1, if_neg ha]
      by_cases hb : b.data.toList = []
      · rw [if_pos hb]; unfold stepJ; rw [if_pos hb, bs_self]; try rfl
      · rw [if_neg hb, stepJ_new hb (fun q hq => by simp at hq; subst hq; show ¬ ((2 : Int) = 3); decide), bs_self, bs_self]; try rfl
end Go.Proofs.YtfbgpodcdgmpjaaDoor
