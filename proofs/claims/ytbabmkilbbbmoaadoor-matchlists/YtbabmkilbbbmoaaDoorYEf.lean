/-
  'slices.EqualFunc' of two lists of nodes under 'tree.alike'.
-/
import Derived.Test.YtbabmkilbbbmoaaDoorMgAU
import Derived.Test.YtbabmkilbbbmoaaDoorMgAR
import Derived.Laws.EntriesVeiled
namespace Go.Proofs.YtbabmkilbbbmoaaDoor
open Go.RowKit
set_option linter.unusedVariables false
set_option linter.unusedSimpArgs false

def alikeL : Forest → Forest → Bool
  | .nil, .nil => true
  | .cons k sp n ats tx _ r, .cons k' sp' n' ats' tx' _ r' => alikeN k sp n ats tx k' sp' n' ats' tx' && alikeL r r'
  | _, _ => false
theorem alikeL_len : ∀ (f g : Forest), ¬ f.len = g.len → alikeL f g = false
  | .nil, .nil, h => absurd rfl h
  | .nil, .cons _ _ _ _ _ _ _, _ => rfl
  | .cons _ _ _ _ _ _ _, .nil, _ => rfl
  | .cons k sp n ats tx _ r, .cons k' sp' n' ats' tx' _ r', h => by
    show (_ && alikeL r r') = false
    rw [alikeL_len r r' (by simp [Forest.len] at h; exact h), Bool.and_false]
theorem SmF.head {k sp : Int} {n : ByteArray} {ats : List (ByteArray × ByteArray)} {tx : ByteArray} {kids rest : Forest} (h : SmF (.cons k sp n ats tx kids rest)) : ats.length ≤ 1000000000 := by
  have := h.1.2.2.1.1
  omega
theorem sm_drop : ∀ (j : Nat) (f : Forest), SmF f → SmF (f.drop j)
  | 0, f, h => by rw [Forest.drop_zero]; exact h
  | j + 1, .nil, h => by rw [Forest.drop_nil]; trivial
  | j + 1, .cons _ _ _ _ _ _ r, h => sm_drop j r h.2.2
theorem eqf_other (qa qb : Option Addr) (la lb ca cb : Nat) (w : World) (h : ¬ la = lb) :
    Calls Tryd.prog 105 #[.slice qa la ca, .slice qb lb cb, .func (.func 106) #[] #[]] w fun e w' => e = .returned (.bool false) ∧ Below w.heap.size w w' := by
  have e : ((la : Int) == (lb : Int)) = false := beq_eq_false_iff_ne.2 (by omega)
  clear h
  go_enter Tryd.func105, Tryd.ntmps105
  go_wp2
  go_ret
  exact ⟨rfl, Below.refl _ _⟩
theorem eqf_none (qa qb : Option Addr) (ca cb : Nat) (w : World) :
    Calls Tryd.prog 105 #[.slice qa 0 ca, .slice qb 0 cb, .func (.func 106) #[] #[]] w fun e w' => e = .returned (.bool true) ∧ Below w.heap.size w w' := by
  go_enter Tryd.func105, Tryd.ntmps105
  go_wp2
  refine wp_loop_rounds 1 ?_
  rw [rounds_succ]; go_wp2
  go_ret
  exact ⟨rfl, Below.refl _ _⟩
set_option maxHeartbeats 4000000 in
theorem eqf_some (f h : Forest) (ga oa gb ob ca cb la : Nat) (w : World) (hla : Hid (f.len = la)) (hlb : Hid (h.len = la)) (hc : la ≤ 100000000) (hl1 : Lies f ga oa w) (hl2 : Lies h gb ob w) (hs : SmF f) :
    Calls Tryd.prog 105 #[.slice (some ⟨ga, oa, none⟩) la ca, .slice (some ⟨gb, ob, none⟩) la cb, .func (.func 106) #[] #[]] w fun e w' => e = .returned (.bool (alikeL f h)) ∧ Below w.heap.size w w' := by
  have H1 := hide hl1
  have H2 := hide hl2
  have HS := hide hs
  have ell : ((la : Int) == (la : Int)) = true := by simp
  clear hl1 hl2 hs
  go_enter Tryd.func105, Tryd.ntmps105
  go_wp2
  go_loopw [17] (fun i wr => ∃ j : Nat, j ≤ la ∧ i = .int .i64 j ∧ Below w.heap.size w wr ∧ alikeL f h = alikeL (f.drop j) (h.drop j)) (fun i _ => la - (intOf i).toNat)
  case atStart => exact ⟨0, Nat.zero_le _, rfl, Below.refl _ _, by rw [Forest.drop_zero, Forest.drop_zero]⟩
  case round =>
    obtain ⟨j, hj, rfl, hbw, heq⟩ := hrel
    by_cases hp : j < la
    · have hpi : (j : Int) < (la : Int) := by omega
      obtain ⟨k, sp, n, ats, tx, kids, hd⟩ := f.drop_cons j (by rw [unhide hla]; exact hp)
      obtain ⟨k', sp', n', ats', tx', kids', hd'⟩ := h.drop_cons j (by rw [unhide hlb]; exact hp)
      have hlw := ((unhide H1).drop j).below hbw
      have hlw' := ((unhide H2).drop j).below hbw
      have hsm := sm_drop j f (unhide HS)
      rw [hd] at hlw heq hsm
      rw [hd'] at hlw' heq
      have hat := hsm.head
      obtain ⟨⟨c0, c1, c2, ⟨qa, ka, c3, hsl⟩, c4, ⟨qk, ck, c5, _, _⟩⟩, _⟩ := hlw
      obtain ⟨⟨d0, d1, d2, ⟨qa', ka', d3, hsl'⟩, d4, ⟨qk', ck', d5, _, _⟩⟩, _⟩ := hlw'
      have HE : Hid (alikeL f h = (alikeN k sp n ats tx k' sp' n' ats' tx' && alikeL (f.drop (j + 1)) (h.drop (j + 1)))) := hide heq
      have hbA : Below wr.heap.size wr ((wr.alloc (Obj.cells #[.int .i64 k, .int .i64 sp, .string n, .slice qa ats.length ka, .string tx, .slice qk kids.len ck] 44)).alloc (Obj.cells #[.int .i64 k', .int .i64 sp', .string n', .slice qa' ats'.length ka', .string tx', .slice qk' kids'.len ck'] 44)) := ((Below.refl wr.heap.size wr).alloc (Nat.le_refl _) _).alloc (by simp) _
      have CA := hide (alike_any k sp n ats tx k' sp' n' ats' tx' qa qa' qk qk' ka ka' ck ck' kids.len kids'.len _ (hsl.below hbA) (hsl'.below hbA) hat)
      have HB := hide (tr2 hbw hbA)
      generalize alikeN k sp n ats tx k' sp' n' ats' tx' = bb at *
      generalize kids.len = kl at *
      generalize kids'.len = kl' at *
      generalize ats.length = al at *
      generalize ats'.length = al' at *
      have hgb : gb < wr.heap.size := World.block_lt_of_cell? wr _ d0
      have hne : gb ≠ wr.heap.size := by omega
      clear hsl hsl' hat hsm hd hd' heq hbA hbw
      cases bb with
      | true =>
        go_wp2_with fail
        refine (unhide CA).mono ?_
        rintro e w1 ⟨rfl, hb1⟩
        have HB1 := hide (tr2 (unhide HB) hb1)
        clear hb1 CA
        go_wp2
        go_roundw
        case rel => exact ⟨j + 1, by omega, by go_num, unhide HB1, by have := unhide HE; rw [Bool.true_and] at this; exact this⟩
        case measure => simp [intOf]; omega
      | false =>
        go_wp2_with fail
        refine (unhide CA).mono ?_
        rintro e w1 ⟨rfl, hb1⟩
        have HB1 := hide (tr2 (unhide HB) hb1)
        clear hb1 CA
        go_wp2
        go_ret
        exact ⟨by rw [unhide HE]; rfl, unhide HB1⟩
    · have hpi : ¬ (j : Int) < (la : Int) := by omega
      have HE : Hid (alikeL f h = true) := hide (by rw [heq, f.drop_out j (by rw [unhide hla]; omega), h.drop_out j (by rw [unhide hlb]; omega)]; rfl)
      clear hp heq
      go_wp2
      go_ret
      exact ⟨by rw [unhide HE]; rfl, hbw⟩
theorem eqf_any (f h : Forest) (qa qb : Option Addr) (ca cb : Nat) (w : World) (h1 : Fo qa f w) (h2 : Fo qb h w) (hs : SmF f) (hc : f.len ≤ 100000000) :
    Calls Tryd.prog 105 #[.slice qa f.len ca, .slice qb h.len cb, .func (.func 106) #[] #[]] w fun e w' => e = .returned (.bool (alikeL f h)) ∧ Below w.heap.size w w' := by
  by_cases hl : f.len = h.len
  · rcases h1 with rfl | ⟨ga, oa, rfl, hl1⟩
    · cases h with
      | nil => exact eqf_none qa qb ca cb w
      | cons _ _ _ _ _ _ _ => simp [Forest.len] at hl
    · rcases h2 with rfl | ⟨gb, ob, rfl, hl2⟩
      · cases f with
        | nil => exact eqf_none _ qb ca cb w
        | cons _ _ _ _ _ _ _ => simp [Forest.len] at hl
      · have := eqf_some f h ga oa gb ob ca cb f.len w (hide rfl) (hide hl.symm) hc hl1 hl2 hs
        rw [← hl]; exact this
  · rw [alikeL_len f h hl]
    exact eqf_other qa qb _ _ ca cb w hl
end Go.Proofs.YtbabmkilbbbmoaaDoor
