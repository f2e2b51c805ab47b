/-
  'policy.mayBeKept', 'hasSmallSchemes'.
-/
import Derived.Test.YtfdhmhdemfbfeaaWNm
namespace Go.Proofs.Ytfdhmhdemfbfeaa
open Go.RowKit
set_option linter.unusedVariables false

def imgS : ByteArray := ⟨#[105, 109, 97, 103, 101]⟩
def imgB (s : ByteArray) : Bool := s.toList == [105, 109, 97, 103, 101]
/-- Is a name's group one that may not be kept? -/
def badG (g : Nat) : Bool := decide (g = 15 ∨ g = 13 ∨ g = 14 ∨ g = 16 ∨ g = 1 ∨ g = 17)
def kepB (r : PRul) : Bool := !decide (r.ac = 1) || (!badG (ofN r.nm.toList) && !imgB r.nm)

set_option maxHeartbeats 2000000 in
theorem kept_any (v : Value) (r : PRul) (w : World) (hv : RulV w v r) :
    Calls Try.prog 44 #[v] w fun e w' => e = .returned (.bool (kepB r)) ∧ Below w.heap.size w w' := by
  obtain ⟨va, vl, rfl, h1, h2⟩ := hv
  obtain ⟨a1, c1, rfl⟩ := h1.1.slice
  obtain ⟨a2, c2, rfl⟩ := h2.1.slice
  unfold rulC kepB
  clear h1 h2
  obtain ⟨nm, ac, ats, lks⟩ := r
  dsimp only at *
  have C := hide (fun w => group_any nm w)
  generalize ats.length = n1 at *
  generalize lks.length = n2 at *
  have al := (Below.refl w.heap.size w).alloc (Nat.le_refl _) (Obj.cells #[.string nm, .int .i64 ac, .slice a1 n1 c1, .slice a2 n2 c2] 53)
  by_cases i1 : ac = 1
  · subst i1
    generalize hg : ofN nm.toList = g at *
    clear hg
    by_cases hb : g = 15 ∨ g = 13 ∨ g = 14 ∨ g = 16 ∨ g = 1 ∨ g = 17
    · rw [badG, decide_eq_true hb]
      rcases hb with h | h | h | h | h | h
      all_goals subst h
      all_goals go_enter Try.func44, Try.ntmps44
      all_goals go_wp2_with fail
      all_goals refine (unhide C _).mono ?_
      all_goals rintro e1 w1 ⟨rfl, hw1⟩
      all_goals subst hw1
      all_goals go_wp2
      all_goals go_ret
      all_goals exact ⟨rfl, al⟩
    · rw [badG, decide_eq_false hb]
      have g1 : ((g : Int) == 15) = false := bneI (by omega)
      have g2 : ((g : Int) == 13) = false := bneI (by omega)
      have g3 : ((g : Int) == 14) = false := bneI (by omega)
      have g4 : ((g : Int) == 16) = false := bneI (by omega)
      have g5 : ((g : Int) == 1) = false := bneI (by omega)
      have g6 : ((g : Int) == 17) = false := bneI (by omega)
      clear hb
      go_enter Try.func44, Try.ntmps44
      go_wp2_with fail
      refine (unhide C _).mono ?_
      rintro e1 w1 ⟨rfl, hw1⟩
      subst hw1
      go_wp2
      go_ret
      exact ⟨by simp [imgB], al⟩
  · have j1 : (ac == 1) = false := beqI _ _ i1
    have j2 : (ac != 1) = true := bneI' _ _ i1
    rw [decide_eq_false i1]
    clear i1
    go_enter Try.func44, Try.ntmps44
    go_wp2
    go_ret
    exact ⟨rfl, al⟩

/-- Is a scheme right? -/
def smlB (s : ByteArray) : Bool := !s.toList.isEmpty && decide (lowL s.data.toList = s.data.toList)
def smK (zs : List ByteArray) (k : Nat) : Prop := ∀ j, j < k → smlB (zs.getD j ByteArray.empty) = true
theorem sm_all {zs : List ByteArray} (h : smK zs zs.length) : zs.all smlB = true := by
  rw [List.all_eq_true]
  intro x hx
  obtain ⟨j, hj, e⟩ := List.getElem_of_mem hx
  have := h j hj
  rw [List.getD, List.getElem?_eq_getElem hj] at this
  rw [← e]; exact this
theorem sm_not {zs : List ByteArray} {k : Nat} (hk : k < zs.length) (h : smlB (zs.getD k ByteArray.empty) = false) : zs.all smlB = false := by
  rw [List.all_eq_false]
  refine ⟨zs.getD k ByteArray.empty, getD_in _ _ _ hk, by rw [h]; decide⟩

set_option maxHeartbeats 2000000 in
theorem smsc_any (v : Value) (p : PPol) (w : World) (hv : PolV w v p) (ho : PolOk p) :
    Calls Try.prog 46 #[v] w fun e w' => e = .returned (.bool (p.sc.all smlB)) ∧ Below w.heap.size w w' := by
  obtain ⟨vr, vs, rfl, h1, h2⟩ := hv
  have HV := hide h2
  obtain ⟨a2, c2, rfl⟩ := h2.slice
  obtain ⟨_, a1, c1, rfl, _⟩ := h1
  unfold polC
  have hso := ho.2
  clear h2 ho
  obtain ⟨rs, zs, ot, st⟩ := p
  dsimp only at *
  generalize rs.length = n1 at *
  have hzl : zs.length ≤ 9223372036854775807 := (unhide HV).1
  have HN := hide (@sm_all zs)
  have HY := hide (fun k hk h => @sm_not zs k hk h)
  have CC := hide (fun k (hk : k < zs.length) w => lower_any (zs.getD k ByteArray.empty) w (hso _ (getD_in _ _ _ hk)))
  go_enter Try.func46, Try.ntmps46
  go_wp2
  go_loopw [8] (fun i wr => ∃ k : Nat, k ≤ zs.length ∧ i = .int .i64 k ∧ smK zs k ∧ Below w.heap.size w wr) (fun i _ => zs.length - (intOf i).toNat)
  case atStart => exact ⟨0, Nat.zero_le _, rfl, fun j hj => absurd hj (Nat.not_lt_zero _), (Below.refl _ _).alloc (Nat.le_refl _) _⟩
  case round =>
    obtain ⟨k, hk, rfl, hr, hbw⟩ := hrel
    have HR := hide hr
    clear hr
    by_cases hp : k < zs.length
    · have hpi : (k : Int) < (zs.length : Int) := by omega
      obtain ⟨_, a9, c9, e9, hc⟩ := view_below (unhide HV) hbw
      cases e9
      obtain ⟨b, off, rfl, hcell⟩ := hc (by omega)
      have hck := hcell k hp
      have hyk := unhide HY k hp
      have C := hide (unhide CC k hp)
      have HR2 : Hid (smlB (zs.getD k ByteArray.empty) = true → smK zs (k + 1)) := hide (fun hx j hj => by
        by_cases ej : j = k
        · rw [ej]; exact hx
        · exact unhide HR j (by omega))
      clear hcell hc
      cases he : (zs.getD k ByteArray.empty).toList.isEmpty with
      | true =>
        have H := hide (hyk (by unfold smlB; rw [he]; rfl))
        clear hyk HR2 C
        generalize zs.getD k ByteArray.empty = y at *
        go_wp2
        go_ret
        exact ⟨by rw [unhide H]; rfl, hbw⟩
      | false =>
        by_cases hlo : lowL (zs.getD k ByteArray.empty).data.toList = (zs.getD k ByteArray.empty).data.toList
        · have H := hide (unhide HR2 (by unfold smlB; rw [he, decide_eq_true hlo]; rfl))
          have hx : bs (lowL (zs.getD k ByteArray.empty).data.toList) = zs.getD k ByteArray.empty := by rw [hlo, bs_self]
          rw [hx] at C
          clear hyk HR2 hlo hx
          generalize zs.getD k ByteArray.empty = y at *
          have hyy := beq_yes (rfl : y = y)
          go_wp2_with fail
          refine (unhide C _).mono ?_
          rintro e1 w1 ⟨rfl, hb1⟩
          go_wp2
          go_roundw
          case rel => exact ⟨k + 1, by omega, by go_num, unhide H, tr2 hbw hb1⟩
          case measure => simp [intOf]; omega
        · have H := hide (hyk (by unfold smlB; rw [he, decide_eq_false hlo]; rfl))
          have hx : ¬ bs (lowL (zs.getD k ByteArray.empty).data.toList) = zs.getD k ByteArray.empty := fun e => hlo (by have := congrArg (fun x : ByteArray => x.data.toList) e; simpa [bs_toList] using this)
          have hyy := beq_no hx
          clear hyk HR2 hlo
          generalize bs (lowL (zs.getD k ByteArray.empty).data.toList) = z at *
          generalize zs.getD k ByteArray.empty = y at *
          clear hx
          go_wp2_with fail
          refine (unhide C _).mono ?_
          rintro e1 w1 ⟨rfl, hb1⟩
          go_wp2
          go_ret
          exact ⟨by rw [unhide H]; rfl, tr2 hbw hb1⟩
    · have hkn : k = zs.length := by omega
      have hn := unhide HN (by rw [← hkn]; exact unhide HR)
      have H := hide hn
      clear hn
      go_wp2
      go_ret
      exact ⟨by rw [unhide H]; rfl, hbw⟩
end Go.Proofs.Ytfdhmhdemfbfeaa
