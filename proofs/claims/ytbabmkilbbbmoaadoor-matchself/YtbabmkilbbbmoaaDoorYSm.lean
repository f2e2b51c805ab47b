/-
  'tree.Same': whether two lists of nodes are the same.
-/
import Derived.Test.YtbabmkilbbbmoaaDoorMgAM
import Derived.Maps.AppendAt
namespace Go.Proofs.YtbabmkilbbbmoaaDoor
open Go.RowKit
set_option linter.unusedVariables false
set_option linter.unusedSimpArgs false

def sameF : Forest → Forest → Bool
  | .nil, .nil => true
  | .cons k sp n ats tx kids r, .cons k' sp' n' ats' tx' kids' r' => alikeN k sp n ats tx k' sp' n' ats' tx' && (sameF kids kids' && sameF r r')
  | _, _ => false
def kidsB : Forest → Forest → Bool
  | .cons _ _ _ _ _ kids r, .cons _ _ _ _ _ kids' r' => sameF kids kids' && kidsB r r'
  | _, _ => true
theorem sameF_split : ∀ (f g : Forest), sameF f g = (alikeL f g && kidsB f g)
  | .nil, .nil => rfl
  | .nil, .cons _ _ _ _ _ _ _ => rfl
  | .cons _ _ _ _ _ _ _, .nil => rfl
  | .cons k sp n ats tx kids r, .cons k' sp' n' ats' tx' kids' r' => by
    show (_ && (sameF kids kids' && sameF r r')) = ((_ && alikeL r r') && (sameF kids kids' && kidsB r r'))
    rw [sameF_split r r']
    cases alikeN k sp n ats tx k' sp' n' ats' tx' <;> cases sameF kids kids' <;> cases alikeL r r' <;> rfl
abbrev PEnt := (Forest × Option Addr × Nat) × (Forest × Option Addr × Nat)
def PEnt.vals (e : PEnt) : List Value := [.slice e.1.2.1 e.1.1.len e.1.2.2, .slice e.2.2.1 e.2.1.len e.2.2.2]
def rowP : List PEnt → List Value
  | [] => []
  | e :: st => rowP st ++ PEnt.vals e
theorem rowP_len : ∀ (st : List PEnt), (rowP st).length = st.length * 2
  | [] => rfl
  | e :: st => by rw [rowP, List.length_append, rowP_len st, List.length_cons]; show st.length * 2 + 2 = _; omega
def wgt : List PEnt → Nat
  | [] => 0
  | e :: st => 1 + e.1.1.count + e.2.1.count + wgt st
theorem wgt_len : ∀ (st : List PEnt), st.length ≤ wgt st
  | [] => Nat.le_refl _
  | e :: st => by have := wgt_len st; rw [List.length_cons, wgt]; omega
def okP (w0 : World) (st : List PEnt) : Prop := ∀ e ∈ st, Fo e.1.2.1 e.1.1 w0 ∧ Fo e.2.2.1 e.2.1 w0 ∧ SmF e.1.1
def allP (st : List PEnt) : Bool := st.all fun e => sameF e.1.1 e.2.1
def SameAt (w0 : World) (res : Bool) (gk : Nat) (left : Value) (wr : World) : Prop :=
  ∃ st : List PEnt, wgt st = gk ∧ gk ≤ 4000001 ∧ okP w0 st ∧ wr.ownsRow w0.heap.size 181 2 left st.length (rowP st) ∧ allP st = res ∧ Below w0.heap.size w0 wr
theorem row_last2 {w : World} {base : Nat} {e : TypeId} {v x y : Value} {n : Nat} {xs : List Value} (h : w.ownsRow base e 2 v (n + 1) (xs ++ [x, y])) (hl : xs.length = n * 2) :
    ∃ b cap, v = .slice (some ⟨b, 0, none⟩) (n + 1) cap ∧ base ≤ b ∧ n + 1 ≤ cap ∧ w.cell? ⟨b, n * 2, none⟩ = some x ∧ w.cell? ⟨b, n * 2 + 1, none⟩ = some y ∧ b < w.heap.size ∧
      w.ownsRow base e 2 (.slice (some ⟨b, 0, none⟩) n cap) n xs := by
  obtain ⟨hlen, h⟩ := h
  rcases h with ⟨_, h0⟩ | ⟨b, cap, cur, rfl, h1, h2, h3, h4, h5, h6⟩
  · omega
  have hx : cur[n * 2]? = some x := by
    have := congrArg (fun l => l[n * 2]?) h6
    rw [List.getElem?_take, if_pos (by omega), List.getElem?_append_right (by omega), hl, Nat.sub_self] at this
    simpa using this
  have hy : cur[n * 2 + 1]? = some y := by
    have := congrArg (fun l => l[n * 2 + 1]?) h6
    rw [List.getElem?_take, if_pos (by omega), List.getElem?_append_right (by omega), hl, show n * 2 + 1 - n * 2 = 1 by omega] at this
    simpa using this
  have hc : w.cell? ⟨b, n * 2, none⟩ = some x := (Joins.cell_of_block h2 (n * 2)).trans hx
  have hd : w.cell? ⟨b, n * 2 + 1, none⟩ = some y := (Joins.cell_of_block h2 (n * 2 + 1)).trans hy
  refine ⟨b, cap, rfl, h1, h3, hc, hd, World.block_lt_of_cell? w _ hc, ⟨by omega, Or.inr ⟨b, cap, cur, rfl, h1, h2, by omega, h4, h5, ?_⟩⟩⟩
  have := congrArg (fun l => l.take (n * 2)) h6
  rw [List.take_take, Nat.min_eq_left (by omega), List.take_left' hl] at this
  exact this
theorem infoPair0 : (Tryd.prog.info? 181).map (fun i => (i.zero, i.size, i.bytes)) = some (some (.agg #[.slice none 0 0, .slice none 0 0]), 2, 48) := by kernel_rfl
theorem lit2 {X : World} {N : Nat} (hN : N = X.heap.size) {vs : Array Value} {t : TypeId} {j : Nat} {u : Value} (h : vs.toList[j]? = some u) : (X.alloc (.cells vs t)).cell? ((⟨N, 0, none⟩ : Addr).add j) = some u := by
  subst hN
  rw [show (⟨X.heap.size, 0, none⟩ : Addr).add j = ⟨X.heap.size, j, none⟩ by unfold Addr.add; split <;> simp_all]
  exact ((Blk.new X vs t).cell j).trans (by simpa using h)
theorem alikeL_true {f g : Forest} (h : alikeL f g = true) : g.len = f.len := by
  by_cases e : f.len = g.len
  · exact e.symm
  · rw [alikeL_len f g e] at h; cases h
theorem len_nil {f : Forest} (h : f.len = 0) : f = .nil := by
  cases f with
  | nil => rfl
  | cons _ _ _ _ _ _ r => simp [Forest.len] at h
def InAt (w0 : World) (res : Bool) (gk P : Nat) (fa fb : Forest) (v0 v1 : Value) (left i : Value) (wr : World) : Prop :=
  ∃ (st : List PEnt) (j : Nat), j ≤ fa.len ∧ i = .int .i64 j ∧ okP w0 st ∧ wr.ownsRow w0.heap.size 181 2 left st.length (rowP st) ∧ left.ownBlock ≠ some P ∧ Blk wr P #[v0, v1] 181 ∧ (kidsB (fa.drop j) (fb.drop j) && allP st) = res ∧ wgt st + (fa.drop j).count + (fb.drop j).count < gk ∧ Below w0.heap.size w0 wr
set_option maxHeartbeats 8000000 in
set_option maxRecDepth 100000 in
theorem same_any (f h : Forest) (qa qb : Option Addr) (ca cb : Nat) (w : World) (h1 : Fo qa f w) (h2 : Fo qb h w) (hs : SmF f) (hc : f.count ≤ 1000000) (hc' : h.count ≤ 1000000) :
    Calls Tryd.prog 79 #[.slice qa f.len ca, .slice qb h.len cb] w fun e w' => e = .returned (.bool (sameF f h)) ∧ Below w.heap.size w w' := by
  obtain ⟨i0, hi0, hi1, hi2, hi3⟩ := info_parts infoPair0
  have hrow0 : (w.alloc (Obj.cells #[.slice qa f.len ca, .slice qb h.len cb] 181)).ownsRow w.heap.size 181 2 (.slice (some ⟨w.heap.size, 0, none⟩) 1 1) 1 [.slice qa f.len ca, .slice qb h.len cb] :=
    ⟨rfl, Or.inr ⟨w.heap.size, 1, #[.slice qa f.len ca, .slice qb h.len cb], rfl, Nat.le_refl _, Blk.new w _ _, Nat.le_refl _, by unfold maxLen; omega, rfl, rfl⟩⟩
  have HAT : Hid (SameAt w (sameF f h) (1 + f.count + h.count) (.slice (some ⟨w.heap.size, 0, none⟩) 1 1) (w.alloc (Obj.cells #[.slice qa f.len ca, .slice qb h.len cb] 181))) := hide ⟨[((f, qa, ca), (h, qb, cb))], by simp [wgt], by omega, fun e he => by rw [List.mem_singleton.1 he]; exact ⟨h1, h2, hs⟩, hrow0, by simp [allP], (Below.refl _ _).alloc (Nat.le_refl _) _⟩
  generalize hgk : 1 + f.count + h.count = gk0 at *
  generalize sameF f h = res at *
  generalize f.len = fl at *
  generalize h.len = hl' at *
  clear h1 h2 hs hc hc' hrow0 hgk
  go_enter Tryd.func79, Tryd.ntmps79
  go_wp2
  go_loopg [5] gk0 (fun gk left wr => SameAt w res gk left wr)
  case atStart => exact unhide HAT
  case round =>
    clear HAT
    obtain ⟨st, hgk, hgm, hok, hrow, hres, hbw⟩ := hrel
    match st, hgk, hok, hrow, hres with
    | [], hgk, hok, hrow, hres =>
      obtain ⟨a4, cap4, rfl⟩ := slice_n hrow
      have HX : Hid (res = true ∧ Below w.heap.size w wr) := hide ⟨hres.symm, hbw⟩
      simp only [List.length_nil]
      clear hok hrow hres hbw
      go_wp2
      go_ret
      exact ⟨by rw [(unhide HX).1]; rfl, (unhide HX).2⟩
    | ((fa, pa, ka), (fb, pb, kb)) :: st, hgk, hok, hrow, hres =>
      obtain ⟨b, capb, rfl, hbb, hcb, c0, c1, hblt, hpop⟩ := row_last2 (n := st.length) hrow (rowP_len st)
      obtain ⟨hfa, hfb, hsm⟩ := hok _ (List.mem_cons_self ..)
      dsimp only at hfa hfb hsm
      have HOK := hide (show okP w st from fun e he => hok e (List.mem_cons_of_mem _ he))
      have hgk' : 1 + fa.count + fb.count + wgt st = gk := hgk
      have hwl := wgt_len st
      have hln : (st.length : Int) + 1 ≤ 4000001 := by omega
      have hcbi : (st.length : Int) + 1 ≤ (capb : Int) := by omega
      have hcbj : (st.length : Int) ≤ (capb : Int) := by omega
      have HRES : Hid ((alikeL fa fb && kidsB fa fb && allP st) = res) := hide (by rw [← hres, ← sameF_split]; rfl)
      have hbA := (Below.refl wr.heap.size wr).alloc (Nat.le_refl _) (Obj.cells #[.slice pa fa.len ka, .slice pb fb.len kb] 181)
      have CE := hide (eqf_any fa fb pa pb ka kb _ ((hfa.below hbw).below hbA) ((hfb.below hbw).below hbA) hsm (by have := fa.len_count; omega))
      have HPB := hide (Blk.new wr #[.slice pa fa.len ka, .slice pb fb.len kb] 181)
      have HPOP := hide (ownsRow_below hpop hbA)
      have HFF := hide (And.intro hfa (And.intro hfb hsm))
      have HBW := hide (And.intro hbw (And.intro (tr2 hbw hbA) hbA.size))
      have HGK := hide (And.intro hgk' hgm)
      obtain ⟨sl, hslq⟩ : ∃ sl, st.length = sl := ⟨_, rfl⟩
      obtain ⟨fal, hfal⟩ : ∃ x, fa.len = x := ⟨_, rfl⟩
      obtain ⟨fbl, hfbl⟩ : ∃ x, fb.len = x := ⟨_, rfl⟩
      have hfac : (fal : Int) ≤ 4000001 := by have := fa.len_count; omega
      simp only [hfal, hfbl] at c0 c1 CE HPB HPOP HBW
      rw [hslq] at c0 c1 hln hcbi hcbj hcb HPOP
      rw [hslq]
      have HQ := hide (And.intro hslq (And.intro hfal hfbl))
      clear hok hrow hres hpop hfa hfb hsm hbA hbw hgk hgk' hgm hwl hslq hfal hfbl
      generalize hal : alikeL fa fb = al at *
      have HAL := hide hal
      clear hal
      have e1 : (0 : Int) < (sl : Int) + 1 := by omega
      cases al with
      | false =>
        go_wp2_with fail
        refine (unhide CE).mono ?_
        rintro e w1 ⟨rfl, hb1⟩
        have HE : Hid (res = false ∧ Below w.heap.size w w1) := hide ⟨by rw [← unhide HRES]; rfl, tr2 (unhide HBW).2.1 hb1⟩
        clear hb1 CE
        go_wp2
        go_ret
        exact ⟨by rw [(unhide HE).1]; rfl, (unhide HE).2⟩
      | true =>
        go_wp2_with fail
        refine (unhide CE).mono ?_
        rintro e w1 ⟨rfl, hb1⟩
        have hfl : fbl = fal := by have h3 := alikeL_true (unhide HAL); have h4 := (unhide HQ).2; omega
        subst hfl
        have hP1 : Blk w1 wr.heap.size #[.slice pa fbl ka, .slice pb fbl kb] 181 := Blk.later (unhide HPB) hb1
        have p0 : w1.cell? ⟨wr.heap.size, 0, none⟩ = some (.slice pa fbl ka) := hP1.cell 0
        have hrow1 := ownsRow_below (unhide HPOP) hb1
        have HIN : Hid (InAt w res gk wr.heap.size fa fb (.slice pa fbl ka) (.slice pb fbl kb) (.slice (some ⟨b, 0, none⟩) sl capb) (.int .i64 0) w1) := hide ⟨st, 0, Nat.zero_le _, rfl, unhide HOK, by rw [(unhide HQ).1]; exact hrow1, by simp [Value.ownBlock]; omega, hP1, by rw [Forest.drop_zero, Forest.drop_zero, ← unhide HRES, Bool.true_and], by rw [Forest.drop_zero, Forest.drop_zero]; have := (unhide HGK).1; omega, tr2 (unhide HBW).2.1 hb1⟩
        have hfla : fa.len = fbl := (unhide HQ).2.1
        have hflb : fb.len = fbl := (unhide HQ).2.2
        have HLL := hide (And.intro hfla hflb)
        generalize fbl = fal at *
        generalize wr.heap.size = P at *
        clear hP1 hrow1 hb1 CE HPB HPOP HBW hblt hbb c0 c1 hcb hcbi hcbj hln e1 HRES HAL hfla hflb
        go_wp2
        go_loopw [5, 37] (fun left i wr2 => InAt w res gk P fa fb (.slice pa fal ka) (.slice pb fal kb) left i wr2) (fun _ i _ => fal - (intOf i).toNat)
        case atStart => exact unhide HIN
        case round =>
          clear HIN
          obtain ⟨st2, j, hj, rfl, hok2, hrow2, hne2, hP2, hres2, hw2, hb2⟩ := hrel
          obtain ⟨a5, c5, rfl⟩ := slice_n hrow2
          obtain ⟨hfla, hflb⟩ := unhide HLL
          by_cases hp : j < fal
          · have hpi : (j : Int) < (fal : Int) := by omega
            obtain ⟨k, sp, n, ats, tx, kids, hd⟩ := fa.drop_cons j (by omega)
            obtain ⟨k', sp', n', ats', tx', kids', hd'⟩ := fb.drop_cons j (by omega)
            obtain ⟨hfa, hfb, hsm⟩ := unhide HFF
            rcases hfa with h | ⟨ga, oa, hqa, hla⟩
            · rw [h] at hfla; simp [Forest.len] at hfla; omega
            rcases hfb with h | ⟨gb, ob, hqb, hlb⟩
            · rw [h] at hflb; simp [Forest.len] at hflb; omega
            subst hqa hqb
            have hlw := hla.drop j
            have hlw' := hlb.drop j
            have hsm' := sm_drop j fa hsm
            rw [hd] at hlw hres2 hw2 hsm'
            rw [hd'] at hlw' hres2 hw2
            obtain ⟨⟨g0, g1, g2, ⟨qa2, ca2, g3, _⟩, g4, ⟨qk, ck, g5, hck, hfk⟩⟩, _⟩ := hlw
            obtain ⟨⟨_, _, _, _, _, ⟨qk', ck', g5', hck', hfk'⟩⟩, _⟩ := hlw'
            have d0 := cell_later hb2 g0
            have d1 := cell_later hb2 g1
            have d2 := cell_later hb2 g2
            have d3 := cell_later hb2 g3
            have d4 := cell_later hb2 g4
            have d5 := cell_later hb2 g5
            have d5' := cell_later hb2 g5'
            have p1 : wr.cell? ⟨P, 1, none⟩ = some (.slice (some ⟨gb, ob, none⟩) fal kb) := hP2.cell 1
            have hPlt : P < wr.heap.size := hP2.lt
            have hPne : P ≠ wr.heap.size := by omega
            have hgbl : gb < wr.heap.size := World.block_lt_of_cell? wr _ d5'
            have hgbn : gb ≠ wr.heap.size := by omega
            have HR2 : Hid (((sameF kids kids' && kidsB (fa.drop (j + 1)) (fb.drop (j + 1))) && allP st2) = res) := hide hres2
            have hw2' : wgt st2 + (1 + kids.count + (fa.drop (j + 1)).count) + (1 + kids'.count + (fb.drop (j + 1)).count) < gk := hw2
            have HW2 := hide hw2'
            have hgm := (unhide HGK).2
            have hsl2 := wgt_len st2
            have hs2 : st2.length ≤ 4000001 := by omega
            have hsz2 : w.heap.size ≤ wr.heap.size := hb2.size
            have HY := hide (And.intro hok2 (And.intro hb2 hP2))
            have HFK : Hid (Fo qk kids w ∧ Fo qk' kids' w ∧ SmF kids) := hide ⟨hfk, hfk', hsm'.2.1⟩
            have HNIL := hide (And.intro (len_nil (f := kids)) (len_nil (f := kids')))
            obtain ⟨al, hal⟩ : ∃ x, ats.length = x := ⟨_, rfl⟩
            obtain ⟨kl, hkl⟩ : ∃ x, kids.len = x := ⟨_, rfl⟩
            obtain ⟨kl', hkl'⟩ : ∃ x, kids'.len = x := ⟨_, rfl⟩
            obtain ⟨sl2, hsl2q⟩ : ∃ x, st2.length = x := ⟨_, rfl⟩
            rw [hal] at d3
            rw [hkl] at d5 HNIL
            rw [hkl'] at d5' HNIL
            rw [hsl2q] at hrow2 hs2 hne2
            rw [hsl2q]
            have HKL := hide (And.intro hsl2q (And.intro hkl hkl'))
            clear hok2 hres2 hw2 hw2' hla hlb hsm hsm' hck hck' hfk hfk' g0 g1 g2 g3 g4 g5 g5' hd hd' hP2 hb2 hal hkl hkl' hsl2q hsl2 hfla hflb p0
            by_cases hk1 : 0 < kl
            · have hk1i : (0 : Int) < (kl : Int) := by omega
              go_wp2_with (at_builtin; refine wpList_append_own_at _ rfl _ _ 182 rfl w.heap.size 181 i0 (.agg #[.slice none 0 0, .slice none 0 0]) 2 48 Tryd.underlying182 hi0 hi1 hi2 hi3 rfl (by decide) _ _ _ rfl ((hrow2.alloc (Obj.cells #[.int .i64 k, .int .i64 sp, .string n, .slice qa2 al ca2, .string tx, .slice qk kl ck] 44)).alloc (Obj.cells #[.slice qk kl ck, .slice qk' kl' ck'] 181)) ⟨wr.heap.size + 1, 0, none⟩ 1 1 [.slice qk kl ck, .slice qk' kl' ck'] rfl rfl (fun j u hj => lit2 (by simp) hj) (by intro u hu; simp at hu; rcases hu with rfl | rfl <;> rfl) (by unfold maxLen; omega) (by omega) (by simp; omega) ?_)
              intro v' w5 hrow5 hgrow5 _ hob5
              obtain ⟨a6, c6, hv5⟩ := slice_n hrow5
              have hbL := ((unhide HY).2.1.alloc (unhide HY).2.1.size (Obj.cells #[.int .i64 k, .int .i64 sp, .string n, .slice qa2 al ca2, .string tx, .slice qk kl ck] 44)).alloc ((unhide HY).2.1.alloc (unhide HY).2.1.size (Obj.cells #[.int .i64 k, .int .i64 sp, .string n, .slice qa2 al ca2, .string tx, .slice qk kl ck] 44)).size (Obj.cells #[.slice qk kl ck, .slice qk' kl' ck'] 181)
              have hb5 := hbL.grown hgrow5 hbL.size (fun j hj => by have := (hrow2.lt j hj).1; exact this)
              have hP5 : Blk w5 P #[.slice (some ⟨ga, oa, none⟩) fal ka, .slice (some ⟨gb, ob, none⟩) fal kb] 181 := (hgrow5.block P (by simp; omega) (fun e => hne2 e.symm)).trans (((unhide HY).2.2.alloc (Obj.cells #[.int .i64 k, .int .i64 sp, .string n, .slice qa2 al ca2, .string tx, .slice qk kl ck] 44)).alloc (Obj.cells #[.slice qk kl ck, .slice qk' kl' ck'] 181))
              have hne5 : v'.ownBlock ≠ some P := by
                rcases hob5 with h | h
                · rw [h]; exact hne2
                · rw [h]; simp; omega
              subst hv5
              have HZ5 := hide (And.intro hrow5 (And.intro hb5 (And.intro hP5 hne5)))
              clear hrow5 hgrow5 hbL hb5 hP5 hne5 hrow2 hob5
              go_wp2
              go_roundw
              case rel =>
                obtain ⟨hrow5, hb5, hP5, hne5⟩ := unhide HZ5
                refine ⟨((kids, qk, ck), (kids', qk', ck')) :: st2, j + 1, by have := (unhide HLL).1; omega, by go_num, ?_, ?_, hne5, hP5, ?_, ?_, hb5⟩
                · intro e he
                  rcases List.mem_cons.1 he with rfl | he
                  · exact unhide HFK
                  · exact (unhide HY).1 e he
                · obtain ⟨q1, q2, q3⟩ := unhide HKL
                  show w5.ownsRow _ _ _ _ (st2.length + 1) (rowP st2 ++ [.slice qk kids.len ck, .slice qk' kids'.len ck'])
                  rw [q1, q2, q3]; exact hrow5
                · rw [← unhide HR2]
                  show (kidsB (fa.drop (j + 1)) (fb.drop (j + 1)) && (sameF kids kids' && allP st2)) = _
                  cases sameF kids kids' <;> simp
                · have h3 := unhide HW2
                  show 1 + kids.count + kids'.count + wgt st2 + _ + _ < gk
                  omega
              case measure => simp [intOf]; omega
            · have hk1i : ¬ (0 : Int) < (kl : Int) := by omega
              have hk1' : decide ((0 : Int) < (kl : Int)) = false := decide_eq_false hk1i
              by_cases hk2 : 0 < kl'
              · have hk2i : (0 : Int) < (kl' : Int) := by omega
                go_wp2_with (at_builtin; refine wpList_append_own_at _ rfl _ _ 182 rfl w.heap.size 181 i0 (.agg #[.slice none 0 0, .slice none 0 0]) 2 48 Tryd.underlying182 hi0 hi1 hi2 hi3 rfl (by decide) _ _ _ rfl ((hrow2.alloc (Obj.cells #[.int .i64 k, .int .i64 sp, .string n, .slice qa2 al ca2, .string tx, .slice qk kl ck] 44)).alloc (Obj.cells #[.slice qk kl ck, .slice qk' kl' ck'] 181)) ⟨wr.heap.size + 1, 0, none⟩ 1 1 [.slice qk kl ck, .slice qk' kl' ck'] rfl rfl (fun j u hj => lit2 (by simp) hj) (by intro u hu; simp at hu; rcases hu with rfl | rfl <;> rfl) (by unfold maxLen; omega) (by omega) (by simp; omega) ?_)
                intro v' w5 hrow5 hgrow5 _ hob5
                obtain ⟨a6, c6, hv5⟩ := slice_n hrow5
                have hbL := ((unhide HY).2.1.alloc (unhide HY).2.1.size (Obj.cells #[.int .i64 k, .int .i64 sp, .string n, .slice qa2 al ca2, .string tx, .slice qk kl ck] 44)).alloc ((unhide HY).2.1.alloc (unhide HY).2.1.size (Obj.cells #[.int .i64 k, .int .i64 sp, .string n, .slice qa2 al ca2, .string tx, .slice qk kl ck] 44)).size (Obj.cells #[.slice qk kl ck, .slice qk' kl' ck'] 181)
                have hb5 := hbL.grown hgrow5 hbL.size (fun j hj => by have := (hrow2.lt j hj).1; exact this)
                have hP5 : Blk w5 P #[.slice (some ⟨ga, oa, none⟩) fal ka, .slice (some ⟨gb, ob, none⟩) fal kb] 181 := (hgrow5.block P (by simp; omega) (fun e => hne2 e.symm)).trans (((unhide HY).2.2.alloc (Obj.cells #[.int .i64 k, .int .i64 sp, .string n, .slice qa2 al ca2, .string tx, .slice qk kl ck] 44)).alloc (Obj.cells #[.slice qk kl ck, .slice qk' kl' ck'] 181))
                have hne5 : v'.ownBlock ≠ some P := by
                  rcases hob5 with h | h
                  · rw [h]; exact hne2
                  · rw [h]; simp; omega
                subst hv5
                have HZ5 := hide (And.intro hrow5 (And.intro hb5 (And.intro hP5 hne5)))
                clear hrow5 hgrow5 hbL hb5 hP5 hne5 hrow2 hob5
                go_wp2
                go_roundw
                case rel =>
                  obtain ⟨hrow5, hb5, hP5, hne5⟩ := unhide HZ5
                  refine ⟨((kids, qk, ck), (kids', qk', ck')) :: st2, j + 1, by have := (unhide HLL).1; omega, by go_num, ?_, ?_, hne5, hP5, ?_, ?_, hb5⟩
                  · intro e he
                    rcases List.mem_cons.1 he with rfl | he
                    · exact unhide HFK
                    · exact (unhide HY).1 e he
                  · obtain ⟨q1, q2, q3⟩ := unhide HKL
                    show w5.ownsRow _ _ _ _ (st2.length + 1) (rowP st2 ++ [.slice qk kids.len ck, .slice qk' kids'.len ck'])
                    rw [q1, q2, q3]; exact hrow5
                  · rw [← unhide HR2]
                    show (kidsB (fa.drop (j + 1)) (fb.drop (j + 1)) && (sameF kids kids' && allP st2)) = _
                    cases sameF kids kids' <;> simp
                  · have h3 := unhide HW2
                    show 1 + kids.count + kids'.count + wgt st2 + _ + _ < gk
                    omega
                case measure => simp [intOf]; omega
              · have hk2i : ¬ (0 : Int) < (kl' : Int) := by omega
                have hnk : kids = .nil := (unhide HNIL).1 (by omega)
                have hnk' : kids' = .nil := (unhide HNIL).2 (by omega)
                have HZ : Hid ((wr.alloc (Obj.cells #[.int .i64 k, .int .i64 sp, .string n, .slice qa2 al ca2, .string tx, .slice qk kl ck] 44)).ownsRow w.heap.size 181 2 (.slice a5 sl2 c5) sl2 (rowP st2) ∧ Below w.heap.size w (wr.alloc (Obj.cells #[.int .i64 k, .int .i64 sp, .string n, .slice qa2 al ca2, .string tx, .slice qk kl ck] 44)) ∧ Blk (wr.alloc (Obj.cells #[.int .i64 k, .int .i64 sp, .string n, .slice qa2 al ca2, .string tx, .slice qk kl ck] 44)) P #[.slice (some ⟨ga, oa, none⟩) fal ka, .slice (some ⟨gb, ob, none⟩) fal kb] 181) := hide ⟨hrow2.alloc _, (unhide HY).2.1.alloc (unhide HY).2.1.size _, Blk.alloc (unhide HY).2.2 _⟩
                have HNE := hide hne2
                clear hrow2 hne2
                go_wp2
                go_roundw
                case rel =>
                  obtain ⟨hrow5, hb5, hP5⟩ := unhide HZ
                  refine ⟨st2, j + 1, by have := (unhide HLL).1; omega, by go_num, (unhide HY).1, by rw [(unhide HKL).1]; exact hrow5, unhide HNE, hP5, ?_, by have := unhide HW2; omega, hb5⟩
                  rw [← unhide HR2, hnk, hnk']
                  rfl
                case measure => simp [intOf]; omega
          · have hpi : ¬ (j : Int) < (fal : Int) := by omega
            rw [fa.drop_out j (by omega), fb.drop_out j (by omega)] at hres2 hw2
            have hw3 : wgt st2 < gk := by simp [Forest.count] at hw2; exact hw2
            have hgm := (unhide HGK).2
            have HZ : Hid (SameAt w res (wgt st2) (.slice a5 st2.length c5) wr) := hide ⟨st2, rfl, by omega, hok2, hrow2, by rw [← hres2]; rfl, hb2⟩
            clear hok2 hrow2 hres2 hw2 hb2 hP2 hne2
            go_wp2
            go_roundg (wgt st2)
            case measure => exact hw3
            case rel => exact unhide HZ
end Go.Proofs.YtbabmkilbbbmoaaDoor
