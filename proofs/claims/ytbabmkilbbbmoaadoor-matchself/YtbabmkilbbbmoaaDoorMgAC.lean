/-
  Several texts in one: what the functions of the program and of the document's answer do.
-/
import Derived.Test.YtbabmkilbbbmoaaDoorMgAB
import Derived.Test.YtbabmkilbbbmoaaDoorMgAA
import Derived.SliceStrings

/-
  What keys.Items does.
-/
namespace Go.Proofs.YtbabmkilbbbmoaaDoor
open Go.RowKit Go.Maps
set_option linter.unusedVariables false
set_option linter.unusedSimpArgs false

/-- Items with their sizes behind a slice. -/
def ItS (f : Forest) (q : Option Addr) (n cap : Nat) (w : World) : Prop := n = f.count ∧ n ≤ cap ∧ (f = .nil ∨ ∃ g, q = some ⟨g, 0, none⟩ ∧ ItZ (itm f 0 (-1) 0 0) (szA f) g w)
def ItAt (f : Forest) (w0 : World) (G g cap m : Nat) (wr : World) : Prop := m ≤ f.count ∧ G ≠ g ∧ w0.heap.size ≤ G ∧ w0.heap.size ≤ g ∧ Blk wr G #[.slice (some ⟨g, 0, none⟩) f.count cap] 34 ∧ ItZ (itm f 0 (-1) 0 0) (bk ((itm f 0 (-1) 0 0).drop m) m (fun _ => 0)) g wr ∧ Below w0.heap.size w0 wr
theorem bk_drop {l : List It} {m : Nat} {x : It} (h : l[m]? = some x) (S : Nat → Int) : bk (l.drop m) m S = bkS (bk (l.drop (m + 1)) (m + 1) S) m x.2.1 := by
  obtain ⟨hm, hx⟩ := List.getElem?_eq_some_iff.1 h
  rw [List.drop_eq_getElem_cons hm, hx]; rfl
theorem fcount_pos {f : Forest} (h : f ≠ .nil) : 0 < f.count := by
  cases f with
  | nil => exact absurd rfl h
  | cons k sp n ats tx kids rest => simp only [Forest.count]; omega

set_option maxHeartbeats 4000000 in
set_option maxRecDepth 100000 in
theorem items_n (f : Forest) (q : Option Addr) (cap N : Nat) (w : World) (HN : Hid (f.count = N)) (hf : Fo q f w) (hcap : f.len ≤ cap) (hc : N ≤ 500000) :
    Calls Tryd.prog 16 #[.slice q f.len cap] w fun e w' => ∃ q' c', e = .returned (.slice q' N c') ∧ ItS f q' N c' w' ∧ Below w.heap.size w w' := by
  have hA0 : AllV (w.alloc (Obj.cells #[.slice none 0 0] 34)) w.heap.size [] := ⟨_, Blk.new w _ _, rfl, Or.inl ⟨rfl, rfl⟩⟩
  have CW := hide (kwalk_items f q cap w.heap.size w (w.alloc (Obj.cells #[.slice none 0 0] 34)) hf hcap (by rw [unhide HN]; exact hc) hA0 ((Below.refl w.heap.size w).alloc (Nat.le_refl _) _) (Nat.le_refl _))
  have hin := itm_len f 0 (-1) 0 0
  rw [unhide HN] at hin
  clear hf hcap hA0
  go_enter Tryd.func16, Tryd.ntmps16
  go_wp2_with fail
  refine (unhide CW).mono ?_
  rintro e w1 ⟨rfl, ⟨u, hb, hr⟩, hbw⟩
  clear CW
  by_cases hn : f = .nil
  · subst hn
    obtain ⟨a, n, cap2, rfl⟩ := slice_of hr
    have hn0 : n = 0 := by
      rcases hr.2 with ⟨h, _⟩ | ⟨g, _, cur, h, _⟩
      · injection h
      · injection h
    subst hn0
    have c0 : w1.cell? ⟨w.heap.size, 0, none⟩ = some (.slice a 0 cap2) := hb.cell 0
    have HB := hide hbw
    obtain rfl : N = 0 := (unhide HN).symm
    clear hb hr hbw hin HN
    go_wp2
    refine wp_loop_rounds 1 ?_
    rw [rounds_succ]; go_wp2
    go_ret
    exact ⟨a, cap2, rfl, ⟨rfl, Nat.zero_le _, Or.inl rfl⟩, unhide HB⟩
  · have hpos := fcount_pos hn
    rw [unhide HN, ← hin] at hpos
    obtain ⟨g, cap2, rfl, hg, hcp, hz⟩ := itz_of_row hr (by intro e; rw [e] at hpos; simp at hpos)
    rw [hin] at hcp hb hpos
    have HAT : Hid (ItAt f w w.heap.size g cap2 N w1) := hide ⟨by rw [unhide HN]; exact Nat.le_refl _, by omega, Nat.le_refl _, by omega, by rw [unhide HN]; exact hb, by
      rw [show (itm f 0 (-1) 0 0).drop N = [] by rw [← hin, List.drop_length]]; exact hz, hbw⟩
    have c0 : w1.cell? ⟨w.heap.size, 0, none⟩ = some (.slice (some ⟨g, 0, none⟩) N cap2) := hb.cell 0
    have HNIL := hide hn
    clear hb hr hbw hz hg hin
    clear hn
    go_wp2
    go_loopw [4] (fun a wr => ∃ m : Nat, a = .int .i64 ((m : Int) - 1) ∧ ItAt f w w.heap.size g cap2 m wr) (fun a _ => (intOf a + 1).toNat)
    case atStart => exact ⟨N, by first | rfl | go_num, unhide HAT⟩
    case round =>
      clear HAT c0
      obtain ⟨m, rfl, hm, hGg, hG0, hg0, hb, hz, hbw⟩ := hrel
      rw [unhide HN] at hm hb
      have c0 : wr.cell? ⟨w.heap.size, 0, none⟩ = some (.slice (some ⟨g, 0, none⟩) N cap2) := hb.cell 0
      rcases m with _ | m
      · have HX := hide (And.intro hz hbw)
        clear hz hb hbw
        go_wp2
        go_ret
        refine ⟨_, cap2, rfl, ⟨(unhide HN).symm, hcp, Or.inr ⟨g, rfl, (unhide HX).1.congr (fun k hk => ?_)⟩⟩, (unhide HX).2⟩
        rw [itm_len] at hk
        rw [List.drop_zero, bk_itm f 0 (-1) 0 0 _ (by omega) (fun _ _ _ => rfl), if_pos (show 0 ≤ k ∧ k < 0 + f.count by omega), Nat.sub_zero]
      · have hmN : m < N := by omega
        have hml : m < (itm f 0 (-1) 0 0).length := by rw [itm_len, unhide HN]; exact hmN
        have hx : (itm f 0 (-1) 0 0)[m]? = some (itm f 0 (-1) 0 0)[m] := List.getElem?_eq_getElem hml
        obtain ⟨hp0, hpm⟩ := itm_par f 0 (-1) 0 0 (by omega) (by omega) m _ hx
        have hbd := fun k (hk : k < N) => bk_bound f (m + 1) k (by rw [unhide HN]; exact hm) (by rw [unhide HN]; exact hk)
        have HBK : Hid (bk ((itm f 0 (-1) 0 0).drop m) m (fun _ => 0) = bkS (bk ((itm f 0 (-1) 0 0).drop (m + 1)) (m + 1) (fun _ => 0)) m (itm f 0 (-1) 0 0)[m].2.1) := hide (bk_drop hx _)
        generalize bk ((itm f 0 (-1) 0 0).drop (m + 1)) (m + 1) (fun _ => 0) = S at *
        rw [unhide HN] at hbd
        have hz1 := hz.set m hml (S m + 1)
        obtain ⟨-, a1, -, -, a4⟩ := hz.2 m _ hx
        obtain ⟨-, b1, -, -, b4⟩ := hz1.2 m _ hx
        simp only [if_pos] at b4
        have hbm := hbd m hmN
        have hbG := hb.away (b' := g) (o := m * 5 + 4) hGg (.int .i64 (S m + 1))
        have d0 : (wr.setCell ⟨g, m * 5 + 4, none⟩ (.int .i64 (S m + 1))).cell? ⟨w.heap.size, 0, none⟩ = some (.slice (some ⟨g, 0, none⟩) N cap2) := hbG.cell 0
        obtain ⟨cur1, hcur1⟩ := hz1.1
        obtain ⟨cur0, hcur0⟩ := hz.1
        have f0 := hcur0.frozen (m * 5 + 4)
        have HB1 := hide (hbw.setCell (p := ⟨g, m * 5 + 4, none⟩) hg0 (.int .i64 (S m + 1)))
        have HBG := hide hbG
        have HZ1 := hide hz1
        have e1 : ((m : Int) + 1 - 1) = (m : Int) := by omega
        rw [show (((m + 1 : Nat) : Int) - 1) = (m : Int) by omega]
        have g0 : (0 : Int) ≤ (m : Int) := by omega
        have hmi : (m : Int) < (N : Int) := by omega
        by_cases hneg : (itm f 0 (-1) 0 0)[m].2.1 < 0
        · have HR : Hid (bkS S m (itm f 0 (-1) 0 0)[m].2.1 = fun k => if k = m then S m + 1 else S k) := hide (by
            funext k
            unfold bkS bkA
            rw [if_neg (show ¬ (0 ≤ (itm f 0 (-1) 0 0)[m].2.1 ∧ ((k : Nat) : Int) = (itm f 0 (-1) 0 0)[m].2.1) by omega)]
            by_cases e : k = m
            · subst e; simp
            · rw [if_neg e, if_neg e])
          generalize (itm f 0 (-1) 0 0)[m].2.1 = p at *
          have hq : (p < 0) := hneg
          clear hz hz1 hb hbw hbd hx hbG hcur1 hcur0 hml
          have HX := hide (And.intro hm (And.intro hGg (And.intro hG0 hg0)))
          clear hm hGg hG0 hg0
          go_wp2
          go_roundw
          case rel => exact ⟨m, rfl, by rw [unhide HN]; omega, (unhide HX).2.1, (unhide HX).2.2.1, (unhide HX).2.2.2, by rw [unhide HN]; exact unhide HBG, by rw [unhide HBK, unhide HR]; exact unhide HZ1, unhide HB1⟩
          case measure => first | (simp [intOf]; done) | (simp [intOf]; omega)
        · obtain ⟨pn, hpn⟩ : ∃ pn : Nat, (itm f 0 (-1) 0 0)[m].2.1 = (pn : Int) := ⟨(itm f 0 (-1) 0 0)[m].2.1.toNat, by omega⟩
          have hpnm : pn < m := by omega
          have hpl : pn < (itm f 0 (-1) 0 0).length := by rw [itm_len, unhide HN]; omega
          obtain ⟨-, -, -, -, p4⟩ := hz1.2 pn _ (List.getElem?_eq_getElem hpl)
          simp only [if_neg (show ¬ pn = m by omega)] at p4
          have hz2 := hz1.set pn hpl (S pn + (S m + 1))
          have hbp := hbd pn (by omega)
          have hbG2 := hbG.away (b' := g) (o := pn * 5 + 4) hGg (.int .i64 (S pn + (S m + 1)))
          have HB2 := hide ((unhide HB1).drew.setCell (p := ⟨g, pn * 5 + 4, none⟩) hg0 (.int .i64 (S pn + (S m + 1))))
          have f1 := hcur1.frozen (pn * 5 + 4)
          have HBG2 := hide hbG2
          have HZ2 := hide hz2
          have HR : Hid (bkS S m (pn : Int) = fun k => if k = pn then S pn + (S m + 1) else if k = m then S m + 1 else S k) := hide (by
            funext k
            unfold bkS bkA
            by_cases e : k = pn
            · subst e
              rw [if_pos (show (0 : Int) ≤ ((k : Nat) : Int) ∧ ((k : Nat) : Int) = (k : Int) by omega), if_neg (by omega), if_pos rfl, if_pos rfl]
            · rw [if_neg (show ¬ ((0 : Int) ≤ (pn : Int) ∧ ((k : Nat) : Int) = (pn : Int)) by omega), if_neg e]
              by_cases e : k = m
              · subst e; simp
              · rw [if_neg e, if_neg e])
          rw [hpn] at HBK b1 a1
          have gp : (0 : Int) ≤ (pn : Int) := by omega
          have gpn : (pn : Int) < (N : Int) := by omega
          clear hz hz1 hb hbw hbd hx hbG hcur1 hcur0 hml hz2 hbG2 hpl hneg hp0 hpm hpn
          have HX := hide (And.intro hm (And.intro hGg (And.intro hG0 hg0)))
          clear hm hGg hG0 hg0
          go_wp2
          go_region
          go_wp2
          go_roundw
          case rel => exact ⟨m, rfl, by rw [unhide HN]; omega, (unhide HX).2.1, (unhide HX).2.2.1, (unhide HX).2.2.2, by rw [unhide HN]; exact unhide HBG2, by rw [unhide HBK, unhide HR]; exact unhide HZ2, unhide HB2⟩
          case measure => first | (simp [intOf]; done) | (simp [intOf]; omega)
theorem items_any (f : Forest) (q : Option Addr) (cap : Nat) (w : World) (hf : Fo q f w) (hcap : f.len ≤ cap) (hc : f.count ≤ 500000) :
    Calls Tryd.prog 16 #[.slice q f.len cap] w fun e w' => ∃ q' c', e = .returned (.slice q' f.count c') ∧ ItS f q' f.count c' w' ∧ Below w.heap.size w w' := items_n f q cap f.count w (hide rfl) hf hcap hc
end Go.Proofs.YtbabmkilbbbmoaaDoor

/-
  The nodes of a page by their numbers, plainly.
-/
namespace Go.Proofs.YtbabmkilbbbmoaaDoor
set_option linter.unusedVariables false
set_option linter.unusedSimpArgs false

/-- The list of nodes that begins with the node of a number. -/
def atP : Forest → Nat → Forest
  | .nil, _ => .nil
  | .cons k sp n ats tx kids rest, 0 => .cons k sp n ats tx kids rest
  | .cons _ _ _ _ _ kids rest, x + 1 => if x < kids.count then atP kids x else atP rest (x - kids.count)
theorem atP_zero (f : Forest) : atP f 0 = f := by cases f <;> rfl
theorem atP_kid {k sp : Int} {n : ByteArray} {ats : List (ByteArray × ByteArray)} {tx : ByteArray} {kids rest : Forest} {x : Nat} (h : x < kids.count) : atP (.cons k sp n ats tx kids rest) (x + 1) = atP kids x := by rw [atP, if_pos h]
theorem atP_rest {k sp : Int} {n : ByteArray} {ats : List (ByteArray × ByteArray)} {tx : ByteArray} {kids rest : Forest} {x : Nat} (h : kids.count ≤ x) : atP (.cons k sp n ats tx kids rest) (x + 1) = atP rest (x - kids.count) := by rw [atP, if_neg (by omega)]
theorem atP_some : ∀ (f : Forest) (x : Nat), x < f.count → ∃ k sp n ats tx kids r, atP f x = .cons k sp n ats tx kids r
  | .nil, x, h => by simp [Forest.count] at h
  | .cons k sp n ats tx kids rest, 0, h => ⟨k, sp, n, ats, tx, kids, rest, rfl⟩
  | .cons k sp n ats tx kids rest, x + 1, h => by
    simp only [Forest.count] at h
    by_cases hx : x < kids.count
    · rw [atP_kid hx]; exact atP_some kids x hx
    · rw [atP_rest (by omega)]; exact atP_some rest _ (by omega)
/-- A list that lies at a number. -/
def LyP (f G : Forest) (a : Nat) : Prop := a + G.count ≤ f.count ∧ (G = .nil ∨ atP f a = G)
theorem atP_next : ∀ (f : Forest) (a : Nat) {k sp : Int} {n : ByteArray} {ats : List (ByteArray × ByteArray)} {tx : ByteArray} {kids r : Forest}, atP f a = .cons k sp n ats tx kids r → LyP f kids (a + 1) ∧ LyP f r (a + 1 + kids.count)
  | .nil, a, k, sp, n, ats, tx, kids, r, h => by simp [atP] at h
  | .cons k0 sp0 n0 ats0 tx0 kids0 rest0, 0, k, sp, n, ats, tx, kids, r, h => by
    rw [atP_zero] at h
    cases h
    simp only [LyP, Forest.count]
    refine ⟨⟨by omega, ?_⟩, by omega, ?_⟩
    · by_cases h0 : 0 < kids0.count
      · right; rw [show (0 : Nat) + 1 = 0 + 1 from rfl, atP_kid h0, atP_zero]
      · left
        cases kids0 with
        | nil => rfl
        | cons _ _ _ _ _ _ _ => simp only [Forest.count] at h0; omega
    · right
      rw [show 0 + 1 + kids0.count = kids0.count + 1 by omega, atP_rest (Nat.le_refl _), Nat.sub_self, atP_zero]
  | .cons k0 sp0 n0 ats0 tx0 kids0 rest0, x + 1, k, sp, n, ats, tx, kids, r, h => by
    simp only [LyP, Forest.count]
    by_cases hx : x < kids0.count
    · rw [atP_kid hx] at h
      obtain ⟨⟨a1, a2⟩, b1, b2⟩ := atP_next kids0 x h
      refine ⟨⟨by omega, ?_⟩, by omega, ?_⟩
      · rcases a2 with a2 | a2
        · exact .inl a2
        · by_cases hn : kids = .nil
          · exact .inl hn
          · right
            have : 0 < kids.count := by cases kids with
              | nil => exact absurd rfl hn
              | cons _ _ _ _ _ _ _ => simp only [Forest.count]; omega
            rw [atP_kid (by omega), a2]
      · rcases b2 with b2 | b2
        · exact .inl b2
        · by_cases hn : r = .nil
          · exact .inl hn
          · right
            have : 0 < r.count := by cases r with
              | nil => exact absurd rfl hn
              | cons _ _ _ _ _ _ _ => simp only [Forest.count]; omega
            rw [show x + 1 + 1 + kids.count = (x + 1 + kids.count) + 1 by omega, atP_kid (by omega), b2]
    · rw [atP_rest (by omega)] at h
      obtain ⟨⟨a1, a2⟩, b1, b2⟩ := atP_next rest0 (x - kids0.count) h
      refine ⟨⟨by omega, ?_⟩, by omega, ?_⟩
      · rcases a2 with a2 | a2
        · exact .inl a2
        · right
          rw [atP_rest (by omega), show x + 1 - kids0.count = x - kids0.count + 1 by omega, a2]
      · rcases b2 with b2 | b2
        · exact .inl b2
        · right
          rw [show x + 1 + 1 + kids.count = (x + 1 + kids.count) + 1 by omega, atP_rest (by omega), show x + 1 + kids.count - kids0.count = x - kids0.count + 1 + kids.count by omega, b2]
/-- The numbers of the nodes of a list whose first one has a number. -/
def nums : Forest → Nat → List Nat
  | .nil, _ => []
  | .cons _ _ _ _ _ kids rest, b => b :: nums rest (b + 1 + kids.count)
theorem nums_len : ∀ (f : Forest) (b : Nat), (nums f b).length = f.len
  | .nil, _ => rfl
  | .cons _ _ _ _ _ kids rest, b => by rw [nums, List.length_cons, nums_len rest, Forest.len]
theorem lyP_head {f : Forest} {a : Nat} {k sp : Int} {n : ByteArray} {ats : List (ByteArray × ByteArray)} {tx : ByteArray} {kids r : Forest} (h : LyP f (.cons k sp n ats tx kids r) a) : atP f a = .cons k sp n ats tx kids r ∧ a < f.count := by
  obtain ⟨h1, h2⟩ := h
  simp only [Forest.count] at h1
  rcases h2 with h2 | h2
  · cases h2
  · exact ⟨h2, by omega⟩
theorem nums_at (f : Forest) : ∀ (G : Forest) (a j : Nat), LyP f G a → j < G.len → (nums G a).getD j 0 < f.count ∧ a ≤ (nums G a).getD j 0 ∧ atP f ((nums G a).getD j 0) = G.drop j
  | .nil, a, j, _, h => by simp [Forest.len] at h
  | .cons k sp n ats tx kids r, a, 0, hl, h => by
    obtain ⟨h1, h2⟩ := lyP_head hl
    exact ⟨h2, Nat.le_refl _, h1⟩
  | .cons k sp n ats tx kids r, a, j + 1, hl, h => by
    obtain ⟨h1, h2⟩ := lyP_head hl
    have := nums_at f r (a + 1 + kids.count) j (atP_next f a h1).2 (by simp only [Forest.len] at h; omega)
    exact ⟨this.1, Nat.le_trans (by omega) this.2.1, this.2.2⟩
theorem nums_range : ∀ (G : Forest) (a j : Nat), j < G.len → a ≤ (nums G a).getD j 0 ∧ (nums G a).getD j 0 < a + G.count
  | .nil, a, j, h => by simp [Forest.len] at h
  | .cons k sp n ats tx kids r, a, 0, h => by simp only [nums, List.getD_cons_zero, Forest.count]; omega
  | .cons k sp n ats tx kids r, a, j + 1, h => by
    have := nums_range r (a + 1 + kids.count) j (by simp only [Forest.len] at h; omega)
    simp only [nums, List.getD_cons_succ, Forest.count]; omega
theorem lyP_top (f : Forest) : LyP f f 0 := ⟨by omega, .inr (atP_zero f)⟩
theorem szA_at : ∀ (f : Forest) (x : Nat) {k sp : Int} {n : ByteArray} {ats : List (ByteArray × ByteArray)} {tx : ByteArray} {kids r : Forest}, atP f x = .cons k sp n ats tx kids r → szA f x = 1 + (kids.count : Int)
  | .nil, x, k, sp, n, ats, tx, kids, r, h => by simp [atP] at h
  | .cons k0 sp0 n0 ats0 tx0 kids0 rest0, 0, k, sp, n, ats, tx, kids, r, h => by
    rw [atP_zero] at h; cases h; exact szA_head ..
  | .cons k0 sp0 n0 ats0 tx0 kids0 rest0, x + 1, k, sp, n, ats, tx, kids, r, h => by
    by_cases hx : x < kids0.count
    · rw [atP_kid hx] at h
      rw [szA_kids _ _ _ _ _ _ _ _ hx]; exact szA_at kids0 x h
    · rw [atP_rest (by omega)] at h
      have := szA_rest k0 sp0 n0 ats0 tx0 kids0 rest0 (x - kids0.count)
      rw [show kids0.count + (x - kids0.count) + 1 = x + 1 by omega] at this
      rw [this]; exact szA_at rest0 _ h
/-- Where an item's node lies: in the list itself, or among the kids of an earlier one. -/
theorem itm_at : ∀ (f : Forest) (num : Nat) (par : Int) (pl dep k : Nat) (y : It), (itm f num par pl dep)[k]? = some y →
    (y.2.1 = par ∧ ∃ j, y.2.2.1 = ((pl + j : Nat) : Int) ∧ j < f.len ∧ f.drop j = atP f k) ∨
    (∃ p, p < k ∧ y.2.1 = ((num + p : Nat) : Int) ∧ ∃ kk sp n ats tx kids r, atP f p = .cons kk sp n ats tx kids r ∧ ∃ j : Nat, y.2.2.1 = (j : Int) ∧ j < kids.len ∧ kids.drop j = atP f k)
  | .nil, num, par, pl, dep, k, y, h => by simp [itm] at h
  | .cons kd sp n ats tx kids rest, num, par, pl, dep, 0, y, h => by
    simp only [itm, List.getElem?_cons_zero, Option.some.injEq] at h
    subst h
    exact .inl ⟨rfl, 0, rfl, by simp only [Forest.len]; omega, rfl⟩
  | .cons kd sp n ats tx kids rest, num, par, pl, dep, k + 1, y, h => by
    simp only [itm, List.getElem?_cons_succ] at h
    by_cases hk : k < kids.count
    · rw [List.getElem?_append_left (by rw [itm_len]; exact hk)] at h
      rcases itm_at kids (num + 1) (num : Int) 0 (dep + 1) k y h with ⟨h1, j, h2, h3, h4⟩ | ⟨p, hp, h1, kk, sp', n', ats', tx', kids', r', h2, j, h3, h4, h5⟩
      · refine .inr ⟨0, by omega, by rw [h1]; rfl, kd, sp, n, ats, tx, kids, rest, rfl, j, by rw [h2, Nat.zero_add], h3, ?_⟩
        rw [atP_kid hk]; exact h4
      · refine .inr ⟨p + 1, by omega, by rw [h1, show num + 1 + p = num + (p + 1) by omega], kk, sp', n', ats', tx', kids', r', ?_, j, h3, h4, ?_⟩
        · rw [atP_kid (by omega)]; exact h2
        · rw [atP_kid hk]; exact h5
    · rw [List.getElem?_append_right (by rw [itm_len]; omega), itm_len] at h
      rcases itm_at rest (num + 1 + kids.count) par (pl + 1) dep (k - kids.count) y h with ⟨h1, j, h2, h3, h4⟩ | ⟨p, hp, h1, kk, sp', n', ats', tx', kids', r', h2, j, h3, h4, h5⟩
      · refine .inl ⟨h1, j + 1, by rw [h2, show pl + 1 + j = pl + (j + 1) by omega], by simp only [Forest.len]; omega, ?_⟩
        rw [atP_rest (by omega)]; exact h4
      · refine .inr ⟨p + kids.count + 1, by omega, by rw [h1, show num + 1 + kids.count + p = num + (p + kids.count + 1) by omega], kk, sp', n', ats', tx', kids', r', ?_, j, h3, h4, ?_⟩
        · rw [atP_rest (by omega), show p + kids.count - kids.count = p by omega]; exact h2
        · rw [atP_rest (by omega)]; exact h5
end Go.Proofs.YtbabmkilbbbmoaaDoor

/-
  Lists of texts as slice values: what a slice shows in a world, and that it stays.
-/
namespace Go.Proofs.YtbabmkilbbbmoaaDoor
open Go.RowKit
set_option linter.unusedVariables false

/-- A slice value that shows these texts in a world. -/
def View (w : World) (v : Value) (ss : List ByteArray) : Prop :=
  ss.length ≤ 9223372036854775807 ∧ ∃ a cap, v = .slice a ss.length cap ∧
    (0 < ss.length → ∃ b off, a = some ⟨b, off, none⟩ ∧ ∀ i, i < ss.length → w.cell? ⟨b, off + i, none⟩ = some (.string (ss.getD i ByteArray.empty)))

def sameT (a b : List ByteArray) : Bool := decide (a = b)
theorem sameT_refl (a : List ByteArray) : sameT a a = true := by simp [sameT]
theorem sameT_true {a b : List ByteArray} (h : a = b) : sameT a b = true := by simp [sameT, h]
theorem sameT_false {a b : List ByteArray} (h : ¬ a = b) : sameT a b = false := by simp [sameT, h]
theorem same_of (a b : List ByteArray) (hl : a.length = b.length) (h : ∀ i, i < a.length → a.getD i ByteArray.empty = b.getD i ByteArray.empty) : a = b := by
  apply List.ext_getElem hl
  intro i h1 h2
  have := h i h1
  rw [List.getD, List.getD, List.getElem?_eq_getElem h1, List.getElem?_eq_getElem h2] at this
  simpa using this
theorem view_of_owns {w : World} {base : Nat} {v : Value} {ts : List ByteArray} (h : w.ownsRow base 9 1 v ts.length (ts.map Value.string)) : View w v ts := by
  obtain ⟨_, h⟩ := h
  rcases h with ⟨rfl, h0⟩ | ⟨g, cap, cur, rfl, h1, h2, h3, h4, h5, h6⟩
  · exact ⟨by rw [h0]; decide, none, 0, by rw [h0], fun h => by omega⟩
  · refine ⟨Nat.le_trans h3 h4, some ⟨g, 0, none⟩, cap, rfl, fun _ => ⟨g, 0, rfl, fun i hi => ?_⟩⟩
    rw [Joins.cell_of_block h2]
    have e : cur.toList[i]? = some (.string (ts.getD i ByteArray.empty)) := by
      have : (cur.toList.take (ts.length * 1))[i]? = some (.string (ts.getD i ByteArray.empty)) := by
        rw [h6, List.getElem?_map, List.getD, List.getElem?_eq_getElem hi]; rfl
      rw [List.getElem?_take] at this
      rw [if_pos (by omega)] at this
      exact this
    simpa using e

theorem view_below {w w1 : World} {v : Value} {ss : List ByteArray} (h : View w v ss) (hb : Below w.heap.size w w1) : View w1 v ss := by
  obtain ⟨la, a, cap, rfl, hx⟩ := h
  refine ⟨la, a, cap, rfl, fun h0 => ?_⟩
  obtain ⟨b, off, rfl, hc⟩ := hx h0
  exact ⟨b, off, rfl, fun i hi => (hb.cell (p := ⟨b, off + i, none⟩) (World.block_lt_of_cell? w ⟨b, off + i, none⟩ (hc i hi))).trans (hc i hi)⟩
theorem view_alloc {w : World} {v : Value} {ss : List ByteArray} (h : View w v ss) (o : Obj) : View (w.alloc o) v ss := view_below h ((Below.refl _ _).alloc (Nat.le_refl _) _)
theorem getD_mem (ss : List ByteArray) (k : Nat) (h : k < ss.length) : ss.getD k ByteArray.empty ∈ ss := by
  have e : ss.getD k ByteArray.empty = ss[k] := by rw [List.getD, List.getElem?_eq_getElem h]; rfl
  rw [e]; exact List.getElem_mem h

/-- A slice of texts that came in, as a view. -/
theorem view_in {w : World} {a : Addr} {len cap : Nat} {ss : List ByteArray} (hl : len ≤ cap) (hm : cap ≤ maxLen) (hz : ss.length = cap)
    (hcell : ∀ i, i < ss.length → w.cell? (a.add i) = some (.string (ss.getD i ByteArray.empty))) : View w (.slice (some a) len cap) (ss.take len) := by
  have hlen : (ss.take len).length = len := by simp; omega
  refine ⟨by rw [hlen]; exact Nat.le_trans hl hm, some a, cap, by rw [hlen], fun h0 => ?_⟩
  rw [hlen] at h0 ⊢
  obtain ⟨b, off, spot⟩ := a
  have hc := hcell 0 (by omega)
  have hspot : spot = none := by simpa [Addr.add] using World.cell?_spot hc
  subst hspot
  refine ⟨b, off, rfl, fun i hi => ?_⟩
  have := hcell i (by omega)
  have e : (ss.take len).getD i ByteArray.empty = ss.getD i ByteArray.empty := by
    rw [List.getD, List.getD, List.getElem?_take, if_pos hi]
  rw [e]
  have hplain : (⟨b, off, none⟩ : Addr).add i = ⟨b, off + i, none⟩ := by unfold Addr.add; split <;> simp_all
  rw [hplain] at this
  exact this
theorem view_none (w : World) : View w (.slice none 0 0) [] := ⟨by decide, none, 0, rfl, fun h => by cases h⟩


theorem Tryd.infoStr : (Tryd.prog.info? 9).map (fun i => (i.zero, i.size, i.bytes)) = some (some (.string ⟨#[]⟩), 1, 16) := by kernel_rfl
end Go.Proofs.YtbabmkilbbbmoaaDoor
