/-
  Several texts in one: what the functions of the program and of the document's answer do.
-/
import Derived.Test.YtbabmkilbbbmoaaDoorMgBG

/-
  What keys.Items does.
-/
namespace Go.Proofs.YtbabmkilbbbmoaaDoor
open Go.RowKit Go.Maps
set_option linter.unusedVariables false
set_option linter.unusedSimpArgs false

/-- Items with their sizes behind a slice. -/
def ItS (f : Forest) (q : Option Addr) (n cap : Nat) (w : World) : Prop := n = f.count ∧ n ≤ cap ∧ (f = .nil ∨ ∃ g, q = some ⟨g, 0, none⟩ ∧ ItZ (itm f 0 (-1) 0 0) (szA f) g w)
def ItAt (f : Forest) (w0 : World) (G g cap m : Nat) (wr : World) : Prop := m ≤ f.count ∧ G ≠ g ∧ w0.heap.size ≤ G ∧ w0.heap.size ≤ g ∧ Blk wr G #[.slice (some ⟨g, 0, none⟩) f.count cap] 34 ∧ ItZ (itm f 0 (-1) 0 0) (bk ((itm f 0 (-1) 0 0).drop m) m (fun _ => 0)) g wr ∧ Below w0.heap.size w0 wr
theorem bk_drop {l : List It} {m : Nat} {x : It} (h : l[m]? = some x) (S : Nat → Int) : bk (l.drop m) m S = bkS (bk (l.drop (m + 1)) (m + 1) S) m x.2.1 := by
  obtain ⟨hm, hx⟩ := List.getElem?_eq_some_iff.1 h
  rw [List.drop_eq_getElem_cons hm, hx]; rfl
theorem fcount_pos {f : Forest} (h : f ≠ .nil) : 0 < f.count := by
  cases f with
  | nil => exact absurd rfl h
  | cons k sp n ats tx kids rest => simp only [Forest.count]; omega

set_option maxHeartbeats 4000000 in
set_option maxRecDepth 100000 in
theorem items_n (f : Forest) (q : Option Addr) (cap N : Nat) (w : World) (HN : Hid (f.count = N)) (hf : Fo q f w) (hcap : f.len ≤ cap) (hc : N ≤ 500000) :
    Calls Tryd.prog 16 #[.slice q f.len cap] w fun e w' => ∃ q' c', e = .returned (.slice q' N c') ∧ ItS f q' N c' w' ∧ Below w.heap.size w w' := by
  have hA0 : AllV (w.alloc (Obj.cells #[.slice none 0 0] 34)) w.heap.size [] := ⟨_, Blk.new w _ _, rfl, Or.inl ⟨rfl, rfl⟩⟩
  have CW := hide (kwalk_items f q cap w.heap.size w (w.alloc (Obj.cells #[.slice none 0 0] 34)) hf hcap (by rw [unhide HN]; exact hc) hA0 ((Below.refl w.heap.size w).alloc (Nat.le_refl _) _) (Nat.le_refl _))
  have hin := itm_len f 0 (-1) 0 0
  rw [unhide HN] at hin
  clear hf hcap hA0
  go_enter Tryd.func16, Tryd.ntmps16
  go_wp2_with fail
  refine (unhide CW).mono ?_
  rintro e w1 ⟨rfl, ⟨u, hb, hr⟩, hbw⟩
  clear CW
  by_cases hn : f = .nil
  · subst hn
    obtain ⟨a, n, cap2, rfl⟩ := slice_of hr
    have hn0 : n = 0 := by
      rcases hr.2 with ⟨h, _⟩ | ⟨g, _, cur, h, _⟩
      · injection h
      · injection h
    subst hn0
    have c0 : w1.cell? ⟨w.heap.size, 0, none⟩ = some (.slice a 0 cap2) := hb.cell 0
    have HB := hide hbw
    obtain rfl : N = 0 := (unhide HN).symm
    clear hb hr hbw hin HN
    go_wp2
    refine wp_loop_rounds 1 ?_
    rw [rounds_succ]; go_wp2
    go_ret
    exact ⟨a, cap2, rfl, ⟨rfl, Nat.zero_le _, Or.inl rfl⟩, unhide HB⟩
  · have hpos := fcount_pos hn
    rw [unhide HN, ← hin] at hpos
    obtain ⟨g, cap2, rfl, hg, hcp, hz⟩ := itz_of_row hr (by intro e; rw [e] at hpos; simp at hpos)
    rw [hin] at hcp hb hpos
    have HAT : Hid (ItAt f w w.heap.size g cap2 N w1) := hide ⟨by rw [unhide HN]; exact Nat.le_refl _, by omega, Nat.le_refl _, by omega, by rw [unhide HN]; exact hb, by
      rw [show (itm f 0 (-1) 0 0).drop N = [] by rw [← hin, List.drop_length]]; exact hz, hbw⟩
    have c0 : w1.cell? ⟨w.heap.size, 0, none⟩ = some (.slice (some ⟨g, 0, none⟩) N cap2) := hb.cell 0
    have HNIL := hide hn
    clear hb hr hbw hz hg hin
    clear hn
    go_wp2
    go_loopw [4] (fun a wr => ∃ m : Nat, a = .int .i64 ((m : Int) - 1) ∧ ItAt f w w.heap.size g cap2 m wr) (fun a _ => (intOf a + 1).toNat)
    case atStart => exact ⟨N, by first | rfl | go_num, unhide HAT⟩
    case round =>
      clear HAT c0
      obtain ⟨m, rfl, hm, hGg, hG0, hg0, hb, hz, hbw⟩ := hrel
      rw [unhide HN] at hm hb
      have c0 : wr.cell? ⟨w.heap.size, 0, none⟩ = some (.slice (some ⟨g, 0, none⟩) N cap2) := hb.cell 0
      rcases m with _ | m
      · have HX := hide (And.intro hz hbw)
        clear hz hb hbw
        go_wp2
        go_ret
        refine ⟨_, cap2, rfl, ⟨(unhide HN).symm, hcp, Or.inr ⟨g, rfl, (unhide HX).1.congr (fun k hk => ?_)⟩⟩, (unhide HX).2⟩
        rw [itm_len] at hk
        rw [List.drop_zero, bk_itm f 0 (-1) 0 0 _ (by omega) (fun _ _ _ => rfl), if_pos (show 0 ≤ k ∧ k < 0 + f.count by omega), Nat.sub_zero]
      · have hmN : m < N := by omega
        have hml : m < (itm f 0 (-1) 0 0).length := by rw [itm_len, unhide HN]; exact hmN
        have hx : (itm f 0 (-1) 0 0)[m]? = some (itm f 0 (-1) 0 0)[m] := List.getElem?_eq_getElem hml
        obtain ⟨hp0, hpm⟩ := itm_par f 0 (-1) 0 0 (by omega) (by omega) m _ hx
        have hbd := fun k (hk : k < N) => bk_bound f (m + 1) k (by rw [unhide HN]; exact hm) (by rw [unhide HN]; exact hk)
        have HBK : Hid (bk ((itm f 0 (-1) 0 0).drop m) m (fun _ => 0) = bkS (bk ((itm f 0 (-1) 0 0).drop (m + 1)) (m + 1) (fun _ => 0)) m (itm f 0 (-1) 0 0)[m].2.1) := hide (bk_drop hx _)
        generalize bk ((itm f 0 (-1) 0 0).drop (m + 1)) (m + 1) (fun _ => 0) = S at *
        rw [unhide HN] at hbd
        have hz1 := hz.set m hml (S m + 1)
        obtain ⟨-, a1, -, -, a4⟩ := hz.2 m _ hx
        obtain ⟨-, b1, -, -, b4⟩ := hz1.2 m _ hx
        simp only [if_pos] at b4
        have hbm := hbd m hmN
        have hbG := hb.away (b' := g) (o := m * 5 + 4) hGg (.int .i64 (S m + 1))
        have d0 : (wr.setCell ⟨g, m * 5 + 4, none⟩ (.int .i64 (S m + 1))).cell? ⟨w.heap.size, 0, none⟩ = some (.slice (some ⟨g, 0, none⟩) N cap2) := hbG.cell 0
        obtain ⟨cur1, hcur1⟩ := hz1.1
        obtain ⟨cur0, hcur0⟩ := hz.1
        have f0 := hcur0.frozen (m * 5 + 4)
        have HB1 := hide (hbw.setCell (p := ⟨g, m * 5 + 4, none⟩) hg0 (.int .i64 (S m + 1)))
        have HBG := hide hbG
        have HZ1 := hide hz1
        have e1 : ((m : Int) + 1 - 1) = (m : Int) := by omega
        rw [show (((m + 1 : Nat) : Int) - 1) = (m : Int) by omega]
        have g0 : (0 : Int) ≤ (m : Int) := by omega
        have hmi : (m : Int) < (N : Int) := by omega
        by_cases hneg : (itm f 0 (-1) 0 0)[m].2.1 < 0
        · have HR : Hid (bkS S m (itm f 0 (-1) 0 0)[m].2.1 = fun k => if k = m then S m + 1 else S k) := hide (by
            funext k
            unfold bkS bkA
            rw [if_neg (show ¬ (0 ≤ (itm f 0 (-1) 0 0)[m].2.1 ∧ ((k : Nat) : Int) = (itm f 0 (-1) 0 0)[m].2.1) by omega)]
            by_cases e : k = m
            · subst e; simp
            · rw [if_neg e, if_neg e])
          generalize (itm f 0 (-1) 0 0)[m].2.1 = p at *
          have hq : (p < 0) := hneg
          clear hz hz1 hb hbw hbd hx hbG hcur1 hcur0 hml
          have HX := hide (And.intro hm (And.intro hGg (And.intro hG0 hg0)))
          clear hm hGg hG0 hg0
          go_wp2
          go_roundw
          case rel => exact ⟨m, rfl, by rw [unhide HN]; omega, (unhide HX).2.1, (unhide HX).2.2.1, (unhide HX).2.2.2, by rw [unhide HN]; exact unhide HBG, by rw [unhide HBK, unhide HR]; exact unhide HZ1, unhide HB1⟩
          case measure => first | (simp [intOf]; done) | (simp [intOf]; omega)
        · obtain ⟨pn, hpn⟩ : ∃ pn : Nat, (itm f 0 (-1) 0 0)[m].2.1 = (pn : Int) := ⟨(itm f 0 (-1) 0 0)[m].2.1.toNat, by omega⟩
          have hpnm : pn < m := by omega
          have hpl : pn < (itm f 0 (-1) 0 0).length := by rw [itm_len, unhide HN]; omega
          obtain ⟨-, -, -, -, p4⟩ := hz1.2 pn _ (List.getElem?_eq_getElem hpl)
          simp only [if_neg (show ¬ pn = m by omega)] at p4
          have hz2 := hz1.set pn hpl (S pn + (S m + 1))
          have hbp := hbd pn (by omega)
          have hbG2 := hbG.away (b' := g) (o := pn * 5 + 4) hGg (.int .i64 (S pn + (S m + 1)))
          have HB2 := hide ((unhide HB1).drew.setCell (p := ⟨g, pn * 5 + 4, none⟩) hg0 (.int .i64 (S pn + (S m + 1))))
          have f1 := hcur1.frozen (pn * 5 + 4)
          have HBG2 := hide hbG2
          have HZ2 := hide hz2
          have HR : Hid (bkS S m (pn : Int) = fun k => if k = pn then S pn + (S m + 1) else if k = m then S m + 1 else S k) := hide (by
            funext k
            unfold bkS bkA
            by_cases e : k = pn
            · subst e
              rw [if_pos (show (0 : Int) ≤ ((k : Nat) : Int) ∧ ((k : Nat) : Int) = (k : Int) by omega), if_neg (by omega), if_pos rfl, if_pos rfl]
            · rw [if_neg (show ¬ ((0 : Int) ≤ (pn : Int) ∧ ((k : Nat) : Int) = (pn : Int)) by omega), if_neg e]
              by_cases e : k = m
              · subst e; simp
              · rw [if_neg e, if_neg e])
          rw [hpn] at HBK b1 a1
          have gp : (0 : Int) ≤ (pn : Int) := by omega
          have gpn : (pn : Int) < (N : Int) := by omega
          clear hz hz1 hb hbw hbd hx hbG hcur1 hcur0 hml hz2 hbG2 hpl hneg hp0 hpm hpn
          have HX := hide (And.intro hm (And.intro hGg (And.intro hG0 hg0)))
          clear hm hGg hG0 hg0
          go_wp2
          go_region
          go_wp2
          go_roundw
          case rel => exact ⟨m, rfl, by rw [unhide HN]; omega, (unhide HX).2.1, (unhide HX).2.2.1, (unhide HX).2.2.2, by rw [unhide HN]; exact unhide HBG2, by rw [unhide HBK, unhide HR]; exact unhide HZ2, unhide HB2⟩
          case measure => first | (simp [intOf]; done) | (simp [intOf]; omega)
theorem items_any (f : Forest) (q : Option Addr) (cap : Nat) (w : World) (hf : Fo q f w) (hcap : f.len ≤ cap) (hc : f.count ≤ 500000) :
    Calls Tryd.prog 16 #[.slice q f.len cap] w fun e w' => ∃ q' c', e = .returned (.slice q' f.count c') ∧ ItS f q' f.count c' w' ∧ Below w.heap.size w w' := items_n f q cap f.count w (hide rfl) hf hcap hc
end Go.Proofs.YtbabmkilbbbmoaaDoor

/-
  Nodes' ways: plain facts.
-/
namespace Go.Proofs.YtbabmkilbbbmoaaDoor
open Go.RowKit
set_option linter.unusedVariables false
set_option linter.unusedSimpArgs false

/-- The places from a number up to the first nodes. -/
inductive Up (all : List It) : Int → List Int → Prop where
  | top (p : Int) (h : p < 0) : Up all p []
  | nd (i : Nat) (x : It) (l : List Int) (h : all[i]? = some x) (hu : Up all x.2.1 l) : Up all (i : Int) (x.2.2.1 :: l)
/-- The way of the node of a number, the first of these nodes having a place. -/
def wayF : Forest → Nat → Int → List Int
  | .nil, _, _ => []
  | .cons _ _ _ _ _ kids rest, i, num => if num = 0 then [(i : Int)] else if 0 < num ∧ num < 1 + (kids.count : Int) then (i : Int) :: wayF kids 0 (num - 1) else wayF rest (i + 1) (num - 1 - (kids.count : Int))
theorem wayF_len : ∀ (f : Forest) (i : Nat) (num : Int), (wayF f i num).length ≤ f.count
  | .nil, i, num => Nat.le_refl _
  | .cons _ _ _ _ _ kids rest, i, num => by
    have h1 := wayF_len kids 0 (num - 1)
    have h2 := wayF_len rest (i + 1) (num - 1 - (kids.count : Int))
    simp only [wayF, Forest.count]
    split
    · simp; omega
    · split
      · simp; omega
      · omega
theorem wayF_out : ∀ (f : Forest) (i : Nat) (num : Int), (num < 0 ∨ (f.count : Int) ≤ num) → wayF f i num = []
  | .nil, i, num, h => rfl
  | .cons _ _ _ _ _ kids rest, i, num, h => by
    simp only [wayF, Forest.count] at h ⊢
    rw [if_neg (by omega), if_neg (by omega)]
    exact wayF_out rest _ _ (by omega)
theorem up_way : ∀ (f : Forest) (num : Nat) (par : Int) (pl dep : Nat) (all : List It) (l : List Int), (∀ j x, (itm f num par pl dep)[j]? = some x → all[num + j]? = some x) → Up all par l →
    ∀ j, j < f.count → Up all ((num + j : Nat) : Int) ((wayF f pl (j : Int)).reverse ++ l)
  | .nil, num, par, pl, dep, all, l, ha, hu, j, hj => by simp [Forest.count] at hj
  | .cons k sp n ats tx kids rest, num, par, pl, dep, all, l, ha, hu, j, hj => by
    have hj' : j < 1 + kids.count + rest.count := hj
    have h0 : all[num]? = some ((num : Int), par, (pl : Int), (dep : Int)) := ha 0 _ (by simp [itm])
    have hn : Up all (num : Int) ((pl : Int) :: l) := Up.nd num _ l h0 hu
    by_cases hj0 : j = 0
    · subst hj0
      simp only [wayF]
      rw [if_pos (show ((0 : Nat) : Int) = 0 from rfl)]
      exact hn
    · by_cases hk : j < 1 + kids.count
      · have ih := up_way kids (num + 1) (num : Int) 0 (dep + 1) all ((pl : Int) :: l) (fun i x hx => by
          have := ha (i + 1) x (by
            simp only [itm, List.getElem?_cons_succ]
            rw [List.getElem?_append_left (List.getElem?_eq_some_iff.1 hx).1]; exact hx)
          rw [← this]; congr 1; omega) hn (j - 1) (by omega)
        simp only [wayF]
        rw [if_neg (by omega), if_pos (by omega)]
        rw [show ((j : Int) - 1) = ((j - 1 : Nat) : Int) by omega, List.reverse_cons, List.append_assoc]
        rw [show num + j = num + 1 + (j - 1) by omega]
        exact ih
      · have ih := up_way rest (num + 1 + kids.count) par (pl + 1) dep all l (fun i x hx => by
          have := ha (1 + kids.count + i) x (by
            simp only [itm]
            rw [show 1 + kids.count + i = kids.count + i + 1 by omega, List.getElem?_cons_succ, List.getElem?_append_right (by rw [itm_len]; omega), itm_len, show kids.count + i - kids.count = i by omega]; exact hx)
          rw [← this]; congr 1; omega) hu (j - 1 - kids.count) (by omega)
        simp only [wayF]
        rw [if_neg (by omega), if_neg (by omega)]
        rw [show ((j : Int) - 1 - (kids.count : Int)) = ((j - 1 - kids.count : Nat) : Int) by omega]
        rw [show num + j = num + 1 + kids.count + (j - 1 - kids.count) by omega]
        exact ih
theorem up_top (f : Forest) (j : Nat) (hj : j < f.count) : Up (itm f 0 (-1) 0 0) (j : Int) (wayF f 0 (j : Int)).reverse := by
  have := up_way f 0 (-1) 0 0 (itm f 0 (-1) 0 0) [] (fun i x hx => by rw [Nat.zero_add]; exact hx) (Up.top _ (by omega)) j hj
  rw [List.append_nil, Nat.zero_add] at this
  exact this
/-- A slice of numbers as it lies in memory. -/
def IntsV (q : Option Addr) (n : Nat) (zs : List Int) (w : World) : Prop :=
  n = zs.length ∧ (0 < n → ∃ g o, q = some ⟨g, o, none⟩ ∧ ∀ j, j < n → w.cell? ⟨g, o + j, none⟩ = some (.int .i64 (zs.getD j 0)))
theorem IntsV.below {q : Option Addr} {n : Nat} {zs : List Int} {w w' : World} (h : IntsV q n zs w) (hb : Below w.heap.size w w') : IntsV q n zs w' := by
  obtain ⟨h1, h3⟩ := h
  refine ⟨h1, fun h0 => ?_⟩
  obtain ⟨g, o, h4, h5⟩ := h3 h0
  exact ⟨g, o, h4, fun j hj => (hb.cell (p := ⟨g, o + j, none⟩) (World.block_lt_of_cell? w _ (h5 j hj))).trans (h5 j hj)⟩
theorem IntsV.nil (q : Option Addr) (w : World) : IntsV q 0 [] w := ⟨rfl, fun h => absurd h (by omega)⟩
theorem infoInt0 : (Tryd.prog.info? 3).map (fun i => (i.zero, i.size, i.bytes)) = some (some (.int .i64 0), 1, 8) := by kernel_rfl
theorem infoInt : ∃ i, Tryd.prog.info? 3 = some i ∧ i.zero = some (.int .i64 0) ∧ i.size = 1 ∧ i.bytes = 8 := by
  have h := infoInt0
  cases hi : Tryd.prog.info? 3 with
  | none => rw [hi] at h; cases h
  | some i =>
    rw [hi] at h
    simp only [Option.map_some, Option.some.injEq, Prod.mk.injEq] at h
    exact ⟨i, rfl, h.1, h.2.1, h.2.2⟩
theorem lit1i {X : World} {v : Value} {t : TypeId} {j : Nat} {u : Value} (h : [v][j]? = some u) : (X.alloc (.cells #[v] t)).cell? ((⟨X.heap.size, 0, none⟩ : Addr).add j) = some u := by
  have e : (⟨X.heap.size, 0, none⟩ : Addr).add j = ⟨X.heap.size, 0 + j, none⟩ := by unfold Addr.add; split <;> simp_all
  rw [e, Nat.zero_add]
  exact ((Blk.new X #[v] t).cell j).trans (by simpa using h)
theorem ints_of_row {w : World} {base : Nat} {v : Value} {n : Nat} {zs : List Int} (h : w.ownsRow base 3 1 v n (zs.map (Value.int .i64))) : ∃ q c, v = .slice q n c ∧ n = zs.length ∧ n ≤ c ∧ IntsV q n zs w := by
  obtain ⟨hl, h⟩ := h
  have hn : n = zs.length := by simpa using hl.symm
  rcases h with ⟨rfl, h⟩ | ⟨g, cap, cur, rfl, h1, h2, h3, h4, h5, h6⟩
  · exact ⟨none, 0, by rw [h], hn, by omega, hn, fun h0 => by omega⟩
  · refine ⟨_, cap, rfl, hn, h3, hn, fun h0 => ⟨g, 0, rfl, fun j hj => ?_⟩⟩
    rw [Nat.zero_add, Joins.cell_of_block h2]
    have := congrArg (fun l => l[j]?) h6
    simp only [Nat.mul_one] at this
    rw [List.getElem?_take, if_pos hj, List.getElem?_map] at this
    have hj2 : j < zs.length := by omega
    rw [List.getElem?_eq_getElem hj2] at this
    simpa [List.getD, hj2] using this
end Go.Proofs.YtbabmkilbbbmoaaDoor

/-
  What keys.lead does.
-/
namespace Go.Proofs.YtbabmkilbbbmoaaDoor
open Go.RowKit Go.Maps
set_option linter.unusedVariables false
set_option linter.unusedSimpArgs false

def kidsAt (f : Forest) (p : Nat) : Forest := match f.drop p with
  | .cons _ _ _ _ _ kids _ => kids
  | .nil => .nil
theorem kidsAt_eq {f : Forest} {p : Nat} {k sp : Int} {n : ByteArray} {ats : List (ByteArray × ByteArray)} {tx : ByteArray} {kids rest : Forest} (h : f.drop p = .cons k sp n ats tx kids rest) : kidsAt f p = kids := by unfold kidsAt; rw [h]
/-- The list into which places lead. -/
def ledF : Forest → List Int → Option Forest
  | f, [] => some f
  | f, p :: r => if p < 0 ∨ (f.len : Int) ≤ p then none else ledF (kidsAt f p.toNat) r
/-- .. and where its slice lies. -/
inductive Led (w : World) : Forest → Nat → Nat → List Int → Forest → Nat → Nat → Prop where
  | here (f : Forest) (b o : Nat) : Led w f b o [] f b o
  | down (f : Forest) (b o g og c p : Nat) (r : List Int) (f' : Forest) (b' o' : Nat) (h1 : w.cell? ⟨b, o, none⟩ = some (.slice (some ⟨g, og, none⟩) f.len c)) (h2 : Lies f g og w) (h3 : p < f.len) (h4 : Led w (kidsAt f p) g (og + p * 6 + 5) r f' b' o') : Led w f b o ((p : Int) :: r) f' b' o'
/-- A slice of nodes in a cell. -/
def FoC (w : World) (b o : Nat) (f : Forest) : Prop := ∃ q c, w.cell? ⟨b, o, none⟩ = some (.slice q f.len c) ∧ f.len ≤ c ∧ Fo q f w
def LeadSaid (w : World) (f : Forest) (b o : Nat) (ys : List Int) (z : Int) (more : Nat) (e : Ending) (w' : World) : Prop :=
  Below w.heap.size w w' ∧ (((ledF f ys = none ∨ ∃ g, ledF f ys = some g ∧ (z < 0 ∨ (g.len : Int) + (more : Int) ≤ z)) ∧ e = .returned (.tuple #[.pointer none, .int .i64 6])) ∨
    ∃ g b' o', ledF f ys = some g ∧ 0 ≤ z ∧ z < (g.len : Int) + (more : Int) ∧ Led w f b o ys g b' o' ∧ FoC w b' o' g ∧ e = .returned (.tuple #[.pointer (some ⟨b', o', none⟩), .int .i64 0]))
def LeAt (w : World) (f : Forest) (b o : Nat) (ys : List Int) (j : Nat) (bj oj : Nat) (fj : Forest) : Prop :=
  ledF f ys = ledF fj (ys.drop j) ∧ FoC w bj oj fj ∧ fj.len ≤ 1000000 ∧ fj.count ≤ 1000000 ∧ ∀ f' b' o', Led w fj bj oj (ys.drop j) f' b' o' → Led w f b o ys f' b' o'
theorem LeAt.step {w : World} {f : Forest} {b o : Nat} {ys : List Int} {j bj oj : Nat} {fj : Forest} {p g og c : Nat} (h : LeAt w f b o ys j bj oj fj) (hj : j < ys.length) (hz : ys.getD j 0 = (p : Int)) (hp : p < fj.len) (hc : w.cell? ⟨bj, oj, none⟩ = some (.slice (some ⟨g, og, none⟩) fj.len c)) (hl : Lies fj g og w) : LeAt w f b o ys (j + 1) g (og + p * 6 + 5) (kidsAt fj p) := by
  obtain ⟨h1, h2, h3, hcn, h4⟩ := h
  have hd : ys.drop j = (p : Int) :: ys.drop (j + 1) := by
    rw [List.drop_eq_getElem_cons hj]
    congr 1
    simpa [List.getD, hj] using hz
  obtain ⟨k, sp, n, ats, tx, kids, hdr⟩ := fj.drop_cons p hp
  have hk := kidsAt_eq hdr
  have hll := hl.drop p
  rw [hdr] at hll
  obtain ⟨⟨_, _, _, _, _, ⟨qk, ck, c5, hck, hfo⟩⟩, _⟩ := hll
  have hkc : kids.count ≤ 1000000 := by
    have := Forest.count_drop p fj
    rw [hdr] at this
    simp only [Forest.count] at this
    omega
  refine ⟨?_, ⟨qk, ck, by rw [hk]; exact c5, by rw [hk]; exact hck, by rw [hk]; exact hfo⟩, by rw [hk]; have := kids.len_count; omega, by rw [hk]; exact hkc, fun f' b' o' hL => h4 f' b' o' ?_⟩
  · rw [h1, hd, ledF, if_neg (by omega)]
    rfl
  · rw [hd]
    exact Led.down fj bj oj g og c p _ f' b' o' hc hl hp hL
theorem LeAt.no {w : World} {f : Forest} {b o : Nat} {ys : List Int} {j bj oj : Nat} {fj : Forest} {x : Int} (h : LeAt w f b o ys j bj oj fj) (hj : j < ys.length) (hz : ys.getD j 0 = x) (hx : x < 0 ∨ (fj.len : Int) ≤ x) : ledF f ys = none := by
  have hd : ys.drop j = x :: ys.drop (j + 1) := by
    rw [List.drop_eq_getElem_cons hj]
    congr 1
    simpa [List.getD, hj] using hz
  rw [h.1, hd, ledF, if_pos hx]
set_option maxHeartbeats 4000000 in
set_option maxRecDepth 100000 in
theorem lead_none (b o : Nat) (qw : Option Addr) (cw : Nat) (more : Int) (w : World) :
    Calls Tryd.prog 46 #[.pointer (some ⟨b, o, none⟩), .slice qw 0 cw, .int .i64 more] w fun e w' => e = .returned (.tuple #[.pointer none, .int .i64 1]) ∧ w' = w := by
  go_enter Tryd.func46, Tryd.ntmps46
  go_wp2
  go_ret2
  exact ⟨rfl, rfl⟩
set_option maxHeartbeats 4000000 in
set_option maxRecDepth 100000 in
theorem lead_any (f : Forest) (b o : Nat) (qw : Option Addr) (n cw : Nat) (ys : List Int) (z : Int) (more : Nat) (w : World) (hF : FoC w b o f) (hfc : f.count ≤ 1000000) (hw : IntsV qw n (ys ++ [z]) w) (hcw : n ≤ cw) (hn : n ≤ 1000000) (hm : more ≤ 1) :
    Calls Tryd.prog 46 #[.pointer (some ⟨b, o, none⟩), .slice qw n cw, .int .i64 (more : Int)] w fun e w' => LeadSaid w f b o ys z more e w' := by
  obtain ⟨hnl, hcells⟩ := hw
  obtain ⟨m, hm1⟩ : ∃ m, ys.length = m := ⟨_, rfl⟩
  have hnm : n = m + 1 := by rw [hnl, List.length_append, hm1]; rfl
  subst hnm
  obtain ⟨gw, ow, rfl, hcz⟩ := hcells (by omega)
  have hczl : w.cell? ⟨gw, ow + m, none⟩ = some (.int .i64 z) := by
    have := hcz m (by omega)
    rw [this]; simp [List.getD, ← hm1]
  have hczj : Hid (∀ j, j < m → w.cell? ⟨gw, ow + j, none⟩ = some (.int .i64 (ys.getD j 0))) := hide (fun j hj => by
    have := hcz j (by omega)
    rw [this]; simp [List.getD, List.getElem?_append_left (show j < ys.length by omega)])
  have HAT : Hid (LeAt w f b o ys 0 b o f) := hide ⟨by rw [List.drop_zero], hF, by have := f.len_count; omega, hfc, fun f' b' o' h => by rw [List.drop_zero] at h; exact h⟩
  have HM := hide hm1
  have hmi : (m : Int) + 1 ≤ 1000000 := by omega
  have hcwi : (m : Int) + 1 ≤ (cw : Int) := by omega
  have hne1 : ((m : Int) + 1 == 0) = false := beq_eq_false_iff_ne.2 (by omega)
  have hne2 : ¬ ((m : Int) + 1 = 0) := by omega
  have hm0 : (0 : Int) ≤ (m : Int) := by omega
  clear hcells hcz hF hm1 hnl hcw hn
  go_enter Tryd.func46, Tryd.ntmps46
  go_wp2
  go_loopw [0, 21] (fun a i wr => ∃ (j bj oj : Nat) (fj : Forest), j ≤ m ∧ i = .int .i64 (j : Int) ∧ a = .pointer (some ⟨bj, oj, none⟩) ∧ LeAt w f b o ys j bj oj fj ∧ wr = w) (fun _ i _ => m - (intOf i).toNat)
  case atStart => exact ⟨0, b, o, f, Nat.zero_le _, rfl, rfl, unhide HAT, rfl⟩
  case round =>
    clear HAT
    obtain ⟨j, bj, oj, fj, hj, rfl, rfl, hat, rfl⟩ := hrel
    obtain ⟨qj, cj, d0, hcj, hfo⟩ := hat.2.1
    have hfl := hat.2.2.1
    have HAT := hide hat
    by_cases hjm : j < m
    · have hji : (j : Int) < (m : Int) := by omega
      have cz := unhide hczj j hjm
      have HZ : Hid (ys.getD j 0 = ys.getD j 0) := hide rfl
      obtain ⟨x, hx⟩ : ∃ x, ys.getD j 0 = x := ⟨_, rfl⟩
      rw [hx] at cz
      have HXE := hide hx
      clear hat hx HZ
      have hjl : j < ys.length := by rw [unhide HM]; exact hjm
      by_cases hx0 : x < 0
      · have hx0' : decide (x < 0) = true := decide_eq_true hx0
        have HNO := hide ((unhide HAT).no hjl (unhide HXE) (Or.inl hx0))
        clear HAT hfo hcj hfl hjl
        go_wp2
        go_ret2
        exact ⟨Below.refl _ _, Or.inl ⟨Or.inl (unhide HNO), rfl⟩⟩
      · by_cases hx1 : (fj.len : Int) ≤ x
        · have hx0' : decide (x < 0) = false := decide_eq_false hx0
          have HNO := hide ((unhide HAT).no hjl (unhide HXE) (Or.inr hx1))
          clear HAT hfo hcj hjl
          go_wp2
          go_ret2
          exact ⟨Below.refl _ _, Or.inl ⟨Or.inl (unhide HNO), rfl⟩⟩
        · obtain ⟨xn, rfl⟩ : ∃ xn : Nat, x = (xn : Int) := ⟨x.toNat, by omega⟩
          have hxl : xn < fj.len := by omega
          obtain ⟨g, og, hq, hl⟩ : ∃ g og, qj = some ⟨g, og, none⟩ ∧ Lies fj g og wr := by
            rcases hfo with h | h
            · rw [h] at hxl; simp [Forest.len] at hxl
            · exact h
          subst hq
          have HST := hide ((unhide HAT).step hjl (unhide HXE) hxl d0 hl)
          have hx0' : decide ((xn : Int) < 0) = false := decide_eq_false hx0
          have hx1' : decide (fj.len ≤ xn) = false := decide_eq_false (by omega)
          have hx2 : (xn : Int) < (fj.len : Int) := by omega
          have hx3 : (0 : Int) ≤ (xn : Int) := by omega
          generalize fj.len = fl at *
          clear HAT hfo hcj hl hjl hx0 hx1 hxl
          go_wp2
          go_roundw
          case rel => exact ⟨j + 1, g, og + xn * 6 + 5, _, by omega, by go_num, rfl, unhide HST, by first | rfl | trivial⟩
          case measure => simp [intOf]; omega
    · obtain rfl : j = m := by omega
      have HL : Hid (ledF f ys = some fj) := hide (by rw [hat.1, ← unhide HM, List.drop_length]; rfl)
      have HLED : Hid (Led wr f b o ys fj bj oj) := hide (hat.2.2.2.2 fj bj oj (by rw [← unhide HM, List.drop_length]; exact Led.here _ _ _))
      have HFC := hide hat.2.1
      have hmm : ¬ (j : Int) < (j : Int) := by omega
      clear hat HAT hfo hcj hj
      by_cases hx0 : z < 0
      · have hx0' : decide (z < 0) = true := decide_eq_true hx0
        go_wp2
        go_region
        all_goals (
          go_wp2
          go_ret2
          exact ⟨by first | exact Below.refl _ _ | exact (Below.refl _ _).drew | exact below_draws _ _, Or.inl ⟨Or.inr ⟨_, unhide HL, Or.inl hx0⟩, rfl⟩⟩)
      · have hx0' : decide (z < 0) = false := decide_eq_false hx0
        by_cases hx1 : (fj.len : Int) + (more : Int) ≤ z
        · have hx1' : decide ((fj.len : Int) + (more : Int) ≤ z) = true := decide_eq_true hx1
          go_wp2
          go_region
          all_goals (
            go_wp2
            go_ret2
            exact ⟨by first | exact Below.refl _ _ | exact (Below.refl _ _).drew | exact below_draws _ _, Or.inl ⟨Or.inr ⟨_, unhide HL, Or.inr hx1⟩, rfl⟩⟩)
        · have hx1' : decide ((fj.len : Int) + (more : Int) ≤ z) = false := decide_eq_false hx1
          go_wp2
          go_region
          all_goals (
            go_wp2
            go_ret2
            exact ⟨by first | exact Below.refl _ _ | exact (Below.refl _ _).drew | exact below_draws _ _, Or.inr ⟨fj, bj, oj, unhide HL, by omega, by omega, unhide HLED, unhide HFC, rfl⟩⟩)
end Go.Proofs.YtbabmkilbbbmoaaDoor
