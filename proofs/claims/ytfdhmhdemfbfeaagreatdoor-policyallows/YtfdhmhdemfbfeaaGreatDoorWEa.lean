/-
  'policy.ofEachRule$1': a demand that each rule must meet (made by mk_wea.py).
-/
import Derived.Test.YtfdhmhdemfbfeaaGreatDoorMgAN
import Derived.Test.YtfdhmhdemfbfeaaGreatDoorMgAO
import Derived.Test.YtfdhmhdemfbfeaaGreatDoorWCc
import Derived.Laws.EntriesVeiled
namespace Go.Proofs.YtfdhmhdemfbfeaaGreatDoor
open Go.RowKit
set_option linter.unusedVariables false
set_option linter.unusedSimpArgs false

theorem all_yes {P : PRul → Bool} {rs : List PRul} (h : ∀ j, j < rs.length → P (rs.getD j noR) = true) : rs.all P = true := by
  rw [List.all_eq_true]
  intro x hx
  obtain ⟨j, hj, e⟩ := List.getElem_of_mem hx
  have := h j hj
  rw [List.getD, List.getElem?_eq_getElem hj] at this
  rw [← e]; exact this
theorem all_no {P : PRul → Bool} {rs : List PRul} {k : Nat} (hk : k < rs.length) (h : P (rs.getD k noR) = false) : rs.all P = false := by
  rw [List.all_eq_false]
  exact ⟨rs.getD k noR, getD_in _ _ _ hk, by rw [h]; decide⟩
def onceB (r : PRul) : Bool := !twB (r.ats ++ r.lks)

set_option maxHeartbeats 2000000 in
theorem each_few (v : Value) (p : PPol) (c : Nat) (w : World) (hv : PolV w v p) (ho : ∀ r ∈ p.rs, True) (hc : Blk w c #[.func (Fn.func 61) #[] #[]] 95) :
    Calls Tryz.prog 63 #[v, .pointer (some ⟨c, 0, none⟩)] w fun e w' => e = .returned (.bool (p.rs.all fewB)) ∧ Below w.heap.size w w' := by
  obtain ⟨vr, vs, rfl, h1, h2⟩ := hv
  have HRV := hide h1
  obtain ⟨a2, c2, rfl⟩ := h2.slice
  obtain ⟨hrl, a1, c1, rfl, _⟩ := h1
  unfold polC
  clear h2
  obtain ⟨rs, sc, ot, st⟩ := p
  dsimp only at *
  generalize sc.length = n2 at *
  have HC := hide hc
  have HY := hide (@all_yes fewB rs)
  have HN := hide (fun k hk h => @all_no fewB rs k hk h)
  have CM := hide (fun (v : Value) (r : PRul) (W : World) (hr : r ∈ rs) (h : RulV W v r) => show Calls Tryz.prog 61 #[v] W fun e w' => e = .returned (.bool (fewB r)) ∧ Below W.heap.size W w' from by
    have ho := ho r hr
    exact few_any v r W h)
  clear hc ho
  go_enter Tryz.func63, Tryz.ntmps63
  go_wp2
  go_loopw [9] (fun i wr => ∃ k : Nat, k ≤ rs.length ∧ i = .int .i64 k ∧ (∀ j, j < k → fewB (rs.getD j noR) = true) ∧ Below w.heap.size w wr) (fun i _ => rs.length - (intOf i).toNat)
  case atStart => exact ⟨0, Nat.zero_le _, rfl, fun j hj => absurd hj (Nat.not_lt_zero _), (Below.refl _ _).alloc (Nat.le_refl _) _⟩
  case round =>
    obtain ⟨k, hk, rfl, hr, hbw⟩ := hrel
    have HR := hide hr
    clear hr
    have hsz := hbw.size
    by_cases hp : k < rs.length
    · have hpi : (k : Int) < (rs.length : Int) := by omega
      obtain ⟨_, a9, c9, e9, hcs⟩ := (unhide HRV).below hbw
      cases e9
      obtain ⟨b, off, rfl, hcell⟩ := hcs (by omega)
      obtain ⟨va, vl, d0, d1, d2, d3, hva, hvl⟩ := hcell k hp
      have kc : wr.cell? ⟨c, 0, none⟩ = some (.func (Fn.func 61) #[] #[]) := ((unhide HC).later hbw).cell 0
      have hclt : c < wr.heap.size := cell_lt kc
      have al := (Below.refl wr.heap.size wr).alloc (Nat.le_refl _) (Obj.cells (rulC (rs.getD k noR) va vl) 41)
      have C := hide (unhide CM _ (rs.getD k noR) _ (getD_in _ _ _ hp) (RulV.below (w := wr) ⟨va, vl, rfl, hva, hvl⟩ al))
      obtain ⟨q1, m1, rfl⟩ := hva.1.slice
      obtain ⟨q2, m2, rfl⟩ := hvl.1.slice
      have hyk := unhide HN k hp
      have HR2 : Hid (fewB (rs.getD k noR) = true → ∀ j, j < k + 1 → fewB (rs.getD j noR) = true) := hide (fun hx j hj => by
        by_cases ej : j = k
        · rw [ej]; exact hx
        · exact unhide HR j (by omega))
      have HBA := hide (hbw.trans (al.mono hsz))
      clear hcell hva hvl hcs al
      cases hx : fewB (rs.getD k noR) with
      | true =>
        have H := hide (unhide HR2 hx)
        rw [hx] at C
        unfold rulC at C HBA
        clear hyk HR2 hx
        generalize rs.getD k noR = r at *
        obtain ⟨nm, ac, ats, lks⟩ := r
        dsimp only at *
        generalize ats.length = l1 at *
        generalize lks.length = l2 at *
        go_wp2_with fail
        refine (unhide C).mono ?_
        rintro e1 w1 ⟨rfl, hb1⟩
        have HB2 := hide ((unhide HBA).trans (hb1.mono (unhide HBA).size))
        go_wp2
        go_roundw
        case rel => exact ⟨k + 1, by omega, by go_num, unhide H, unhide HB2⟩
        case measure => simp [intOf]; omega
      | false =>
        have H := hide (hyk hx)
        rw [hx] at C
        unfold rulC at C HBA
        clear hyk HR2 hx
        generalize rs.getD k noR = r at *
        obtain ⟨nm, ac, ats, lks⟩ := r
        dsimp only at *
        generalize ats.length = l1 at *
        generalize lks.length = l2 at *
        go_wp2_with fail
        refine (unhide C).mono ?_
        rintro e1 w1 ⟨rfl, hb1⟩
        have HB2 := hide ((unhide HBA).trans (hb1.mono (unhide HBA).size))
        go_wp2
        go_ret
        exact ⟨by rw [unhide H]; rfl, unhide HB2⟩
    · have hkn : k = rs.length := by omega
      have hn := unhide HY (by rw [← hkn]; exact unhide HR)
      have H := hide hn
      clear hn
      go_wp2
      go_ret
      exact ⟨by rw [unhide H]; rfl, hbw⟩

set_option maxHeartbeats 2000000 in
theorem each_nonce (v : Value) (p : PPol) (c : Nat) (w : World) (hv : PolV w v p) (ho : ∀ r ∈ p.rs, r.ats.length ≤ 30 ∧ r.lks.length ≤ 30) (hc : Blk w c #[.func (Fn.func 46) #[] #[]] 95) :
    Calls Tryz.prog 63 #[v, .pointer (some ⟨c, 0, none⟩)] w fun e w' => e = .returned (.bool (p.rs.all onceB)) ∧ Below w.heap.size w w' := by
  obtain ⟨vr, vs, rfl, h1, h2⟩ := hv
  have HRV := hide h1
  obtain ⟨a2, c2, rfl⟩ := h2.slice
  obtain ⟨hrl, a1, c1, rfl, _⟩ := h1
  unfold polC
  clear h2
  obtain ⟨rs, sc, ot, st⟩ := p
  dsimp only at *
  generalize sc.length = n2 at *
  have HC := hide hc
  have HY := hide (@all_yes onceB rs)
  have HN := hide (fun k hk h => @all_no onceB rs k hk h)
  have CM := hide (fun (v : Value) (r : PRul) (W : World) (hr : r ∈ rs) (h : RulV W v r) => show Calls Tryz.prog 46 #[v] W fun e w' => e = .returned (.bool (onceB r)) ∧ Below W.heap.size W w' from by
    have ho := ho r hr
    exact nonce_any v r W h ho.1 ho.2)
  clear hc ho
  go_enter Tryz.func63, Tryz.ntmps63
  go_wp2
  go_loopw [9] (fun i wr => ∃ k : Nat, k ≤ rs.length ∧ i = .int .i64 k ∧ (∀ j, j < k → onceB (rs.getD j noR) = true) ∧ Below w.heap.size w wr) (fun i _ => rs.length - (intOf i).toNat)
  case atStart => exact ⟨0, Nat.zero_le _, rfl, fun j hj => absurd hj (Nat.not_lt_zero _), (Below.refl _ _).alloc (Nat.le_refl _) _⟩
  case round =>
    obtain ⟨k, hk, rfl, hr, hbw⟩ := hrel
    have HR := hide hr
    clear hr
    have hsz := hbw.size
    by_cases hp : k < rs.length
    · have hpi : (k : Int) < (rs.length : Int) := by omega
      obtain ⟨_, a9, c9, e9, hcs⟩ := (unhide HRV).below hbw
      cases e9
      obtain ⟨b, off, rfl, hcell⟩ := hcs (by omega)
      obtain ⟨va, vl, d0, d1, d2, d3, hva, hvl⟩ := hcell k hp
      have kc : wr.cell? ⟨c, 0, none⟩ = some (.func (Fn.func 46) #[] #[]) := ((unhide HC).later hbw).cell 0
      have hclt : c < wr.heap.size := cell_lt kc
      have al := (Below.refl wr.heap.size wr).alloc (Nat.le_refl _) (Obj.cells (rulC (rs.getD k noR) va vl) 41)
      have C := hide (unhide CM _ (rs.getD k noR) _ (getD_in _ _ _ hp) (RulV.below (w := wr) ⟨va, vl, rfl, hva, hvl⟩ al))
      obtain ⟨q1, m1, rfl⟩ := hva.1.slice
      obtain ⟨q2, m2, rfl⟩ := hvl.1.slice
      have hyk := unhide HN k hp
      have HR2 : Hid (onceB (rs.getD k noR) = true → ∀ j, j < k + 1 → onceB (rs.getD j noR) = true) := hide (fun hx j hj => by
        by_cases ej : j = k
        · rw [ej]; exact hx
        · exact unhide HR j (by omega))
      have HBA := hide (hbw.trans (al.mono hsz))
      clear hcell hva hvl hcs al
      cases hx : onceB (rs.getD k noR) with
      | true =>
        have H := hide (unhide HR2 hx)
        rw [hx] at C
        unfold rulC at C HBA
        clear hyk HR2 hx
        generalize rs.getD k noR = r at *
        obtain ⟨nm, ac, ats, lks⟩ := r
        dsimp only at *
        generalize ats.length = l1 at *
        generalize lks.length = l2 at *
        go_wp2_with fail
        refine (unhide C).mono ?_
        rintro e1 w1 ⟨rfl, hb1⟩
        have HB2 := hide ((unhide HBA).trans (hb1.mono (unhide HBA).size))
        go_wp2
        go_roundw
        case rel => exact ⟨k + 1, by omega, by go_num, unhide H, unhide HB2⟩
        case measure => simp [intOf]; omega
      | false =>
        have H := hide (hyk hx)
        rw [hx] at C
        unfold rulC at C HBA
        clear hyk HR2 hx
        generalize rs.getD k noR = r at *
        obtain ⟨nm, ac, ats, lks⟩ := r
        dsimp only at *
        generalize ats.length = l1 at *
        generalize lks.length = l2 at *
        go_wp2_with fail
        refine (unhide C).mono ?_
        rintro e1 w1 ⟨rfl, hb1⟩
        have HB2 := hide ((unhide HBA).trans (hb1.mono (unhide HBA).size))
        go_wp2
        go_ret
        exact ⟨by rw [unhide H]; rfl, unhide HB2⟩
    · have hkn : k = rs.length := by omega
      have hn := unhide HY (by rw [← hkn]; exact unhide HR)
      have H := hide hn
      clear hn
      go_wp2
      go_ret
      exact ⟨by rw [unhide H]; rfl, hbw⟩

set_option maxHeartbeats 2000000 in
theorem each_names (v : Value) (p : PPol) (c : Nat) (w : World) (hv : PolV w v p) (ho : ∀ r ∈ p.rs, RulOk r) (hc : Blk w c #[.func (Fn.func 47) #[] #[]] 95) :
    Calls Tryz.prog 63 #[v, .pointer (some ⟨c, 0, none⟩)] w fun e w' => e = .returned (.bool (p.rs.all nmsB)) ∧ Below w.heap.size w w' := by
  obtain ⟨vr, vs, rfl, h1, h2⟩ := hv
  have HRV := hide h1
  obtain ⟨a2, c2, rfl⟩ := h2.slice
  obtain ⟨hrl, a1, c1, rfl, _⟩ := h1
  unfold polC
  clear h2
  obtain ⟨rs, sc, ot, st⟩ := p
  dsimp only at *
  generalize sc.length = n2 at *
  have HC := hide hc
  have HY := hide (@all_yes nmsB rs)
  have HN := hide (fun k hk h => @all_no nmsB rs k hk h)
  have CM := hide (fun (v : Value) (r : PRul) (W : World) (hr : r ∈ rs) (h : RulV W v r) => show Calls Tryz.prog 47 #[v] W fun e w' => e = .returned (.bool (nmsB r)) ∧ Below W.heap.size W w' from by
    have ho := ho r hr
    exact names_any v r W h ho)
  clear hc ho
  go_enter Tryz.func63, Tryz.ntmps63
  go_wp2
  go_loopw [9] (fun i wr => ∃ k : Nat, k ≤ rs.length ∧ i = .int .i64 k ∧ (∀ j, j < k → nmsB (rs.getD j noR) = true) ∧ Below w.heap.size w wr) (fun i _ => rs.length - (intOf i).toNat)
  case atStart => exact ⟨0, Nat.zero_le _, rfl, fun j hj => absurd hj (Nat.not_lt_zero _), (Below.refl _ _).alloc (Nat.le_refl _) _⟩
  case round =>
    obtain ⟨k, hk, rfl, hr, hbw⟩ := hrel
    have HR := hide hr
    clear hr
    have hsz := hbw.size
    by_cases hp : k < rs.length
    · have hpi : (k : Int) < (rs.length : Int) := by omega
      obtain ⟨_, a9, c9, e9, hcs⟩ := (unhide HRV).below hbw
      cases e9
      obtain ⟨b, off, rfl, hcell⟩ := hcs (by omega)
      obtain ⟨va, vl, d0, d1, d2, d3, hva, hvl⟩ := hcell k hp
      have kc : wr.cell? ⟨c, 0, none⟩ = some (.func (Fn.func 47) #[] #[]) := ((unhide HC).later hbw).cell 0
      have hclt : c < wr.heap.size := cell_lt kc
      have al := (Below.refl wr.heap.size wr).alloc (Nat.le_refl _) (Obj.cells (rulC (rs.getD k noR) va vl) 41)
      have C := hide (unhide CM _ (rs.getD k noR) _ (getD_in _ _ _ hp) (RulV.below (w := wr) ⟨va, vl, rfl, hva, hvl⟩ al))
      obtain ⟨q1, m1, rfl⟩ := hva.1.slice
      obtain ⟨q2, m2, rfl⟩ := hvl.1.slice
      have hyk := unhide HN k hp
      have HR2 : Hid (nmsB (rs.getD k noR) = true → ∀ j, j < k + 1 → nmsB (rs.getD j noR) = true) := hide (fun hx j hj => by
        by_cases ej : j = k
        · rw [ej]; exact hx
        · exact unhide HR j (by omega))
      have HBA := hide (hbw.trans (al.mono hsz))
      clear hcell hva hvl hcs al
      cases hx : nmsB (rs.getD k noR) with
      | true =>
        have H := hide (unhide HR2 hx)
        rw [hx] at C
        unfold rulC at C HBA
        clear hyk HR2 hx
        generalize rs.getD k noR = r at *
        obtain ⟨nm, ac, ats, lks⟩ := r
        dsimp only at *
        generalize ats.length = l1 at *
        generalize lks.length = l2 at *
        go_wp2_with fail
        refine (unhide C).mono ?_
        rintro e1 w1 ⟨rfl, hb1⟩
        have HB2 := hide ((unhide HBA).trans (hb1.mono (unhide HBA).size))
        go_wp2
        go_roundw
        case rel => exact ⟨k + 1, by omega, by go_num, unhide H, unhide HB2⟩
        case measure => simp [intOf]; omega
      | false =>
        have H := hide (hyk hx)
        rw [hx] at C
        unfold rulC at C HBA
        clear hyk HR2 hx
        generalize rs.getD k noR = r at *
        obtain ⟨nm, ac, ats, lks⟩ := r
        dsimp only at *
        generalize ats.length = l1 at *
        generalize lks.length = l2 at *
        go_wp2_with fail
        refine (unhide C).mono ?_
        rintro e1 w1 ⟨rfl, hb1⟩
        have HB2 := hide ((unhide HBA).trans (hb1.mono (unhide HBA).size))
        go_wp2
        go_ret
        exact ⟨by rw [unhide H]; rfl, unhide HB2⟩
    · have hkn : k = rs.length := by omega
      have hn := unhide HY (by rw [← hkn]; exact unhide HR)
      have H := hide hn
      clear hn
      go_wp2
      go_ret
      exact ⟨by rw [unhide H]; rfl, hbw⟩

set_option maxHeartbeats 2000000 in
theorem each_act (v : Value) (p : PPol) (c : Nat) (w : World) (hv : PolV w v p) (ho : ∀ r ∈ p.rs, True) (hc : Blk w c #[.func (Fn.func 48) #[] #[]] 95) :
    Calls Tryz.prog 63 #[v, .pointer (some ⟨c, 0, none⟩)] w fun e w' => e = .returned (.bool (p.rs.all actB)) ∧ Below w.heap.size w w' := by
  obtain ⟨vr, vs, rfl, h1, h2⟩ := hv
  have HRV := hide h1
  obtain ⟨a2, c2, rfl⟩ := h2.slice
  obtain ⟨hrl, a1, c1, rfl, _⟩ := h1
  unfold polC
  clear h2
  obtain ⟨rs, sc, ot, st⟩ := p
  dsimp only at *
  generalize sc.length = n2 at *
  have HC := hide hc
  have HY := hide (@all_yes actB rs)
  have HN := hide (fun k hk h => @all_no actB rs k hk h)
  have CM := hide (fun (v : Value) (r : PRul) (W : World) (hr : r ∈ rs) (h : RulV W v r) => show Calls Tryz.prog 48 #[v] W fun e w' => e = .returned (.bool (actB r)) ∧ Below W.heap.size W w' from by
    have ho := ho r hr
    exact act_any v r W h)
  clear hc ho
  go_enter Tryz.func63, Tryz.ntmps63
  go_wp2
  go_loopw [9] (fun i wr => ∃ k : Nat, k ≤ rs.length ∧ i = .int .i64 k ∧ (∀ j, j < k → actB (rs.getD j noR) = true) ∧ Below w.heap.size w wr) (fun i _ => rs.length - (intOf i).toNat)
  case atStart => exact ⟨0, Nat.zero_le _, rfl, fun j hj => absurd hj (Nat.not_lt_zero _), (Below.refl _ _).alloc (Nat.le_refl _) _⟩
  case round =>
    obtain ⟨k, hk, rfl, hr, hbw⟩ := hrel
    have HR := hide hr
    clear hr
    have hsz := hbw.size
    by_cases hp : k < rs.length
    · have hpi : (k : Int) < (rs.length : Int) := by omega
      obtain ⟨_, a9, c9, e9, hcs⟩ := (unhide HRV).below hbw
      cases e9
      obtain ⟨b, off, rfl, hcell⟩ := hcs (by omega)
      obtain ⟨va, vl, d0, d1, d2, d3, hva, hvl⟩ := hcell k hp
      have kc : wr.cell? ⟨c, 0, none⟩ = some (.func (Fn.func 48) #[] #[]) := ((unhide HC).later hbw).cell 0
      have hclt : c < wr.heap.size := cell_lt kc
      have al := (Below.refl wr.heap.size wr).alloc (Nat.le_refl _) (Obj.cells (rulC (rs.getD k noR) va vl) 41)
      have C := hide (unhide CM _ (rs.getD k noR) _ (getD_in _ _ _ hp) (RulV.below (w := wr) ⟨va, vl, rfl, hva, hvl⟩ al))
      obtain ⟨q1, m1, rfl⟩ := hva.1.slice
      obtain ⟨q2, m2, rfl⟩ := hvl.1.slice
      have hyk := unhide HN k hp
      have HR2 : Hid (actB (rs.getD k noR) = true → ∀ j, j < k + 1 → actB (rs.getD j noR) = true) := hide (fun hx j hj => by
        by_cases ej : j = k
        · rw [ej]; exact hx
        · exact unhide HR j (by omega))
      have HBA := hide (hbw.trans (al.mono hsz))
      clear hcell hva hvl hcs al
      cases hx : actB (rs.getD k noR) with
      | true =>
        have H := hide (unhide HR2 hx)
        rw [hx] at C
        unfold rulC at C HBA
        clear hyk HR2 hx
        generalize rs.getD k noR = r at *
        obtain ⟨nm, ac, ats, lks⟩ := r
        dsimp only at *
        generalize ats.length = l1 at *
        generalize lks.length = l2 at *
        go_wp2_with fail
        refine (unhide C).mono ?_
        rintro e1 w1 ⟨rfl, hb1⟩
        have HB2 := hide ((unhide HBA).trans (hb1.mono (unhide HBA).size))
        go_wp2
        go_roundw
        case rel => exact ⟨k + 1, by omega, by go_num, unhide H, unhide HB2⟩
        case measure => simp [intOf]; omega
      | false =>
        have H := hide (hyk hx)
        rw [hx] at C
        unfold rulC at C HBA
        clear hyk HR2 hx
        generalize rs.getD k noR = r at *
        obtain ⟨nm, ac, ats, lks⟩ := r
        dsimp only at *
        generalize ats.length = l1 at *
        generalize lks.length = l2 at *
        go_wp2_with fail
        refine (unhide C).mono ?_
        rintro e1 w1 ⟨rfl, hb1⟩
        have HB2 := hide ((unhide HBA).trans (hb1.mono (unhide HBA).size))
        go_wp2
        go_ret
        exact ⟨by rw [unhide H]; rfl, unhide HB2⟩
    · have hkn : k = rs.length := by omega
      have hn := unhide HY (by rw [← hkn]; exact unhide HR)
      have H := hide hn
      clear hn
      go_wp2
      go_ret
      exact ⟨by rw [unhide H]; rfl, hbw⟩

set_option maxHeartbeats 2000000 in
theorem each_kept (v : Value) (p : PPol) (c : Nat) (w : World) (hv : PolV w v p) (ho : ∀ r ∈ p.rs, True) (hc : Blk w c #[.func (Fn.func 49) #[] #[]] 95) :
    Calls Tryz.prog 63 #[v, .pointer (some ⟨c, 0, none⟩)] w fun e w' => e = .returned (.bool (p.rs.all kepB)) ∧ Below w.heap.size w w' := by
  obtain ⟨vr, vs, rfl, h1, h2⟩ := hv
  have HRV := hide h1
  obtain ⟨a2, c2, rfl⟩ := h2.slice
  obtain ⟨hrl, a1, c1, rfl, _⟩ := h1
  unfold polC
  clear h2
  obtain ⟨rs, sc, ot, st⟩ := p
  dsimp only at *
  generalize sc.length = n2 at *
  have HC := hide hc
  have HY := hide (@all_yes kepB rs)
  have HN := hide (fun k hk h => @all_no kepB rs k hk h)
  have CM := hide (fun (v : Value) (r : PRul) (W : World) (hr : r ∈ rs) (h : RulV W v r) => show Calls Tryz.prog 49 #[v] W fun e w' => e = .returned (.bool (kepB r)) ∧ Below W.heap.size W w' from by
    have ho := ho r hr
    exact kept_any v r W h)
  clear hc ho
  go_enter Tryz.func63, Tryz.ntmps63
  go_wp2
  go_loopw [9] (fun i wr => ∃ k : Nat, k ≤ rs.length ∧ i = .int .i64 k ∧ (∀ j, j < k → kepB (rs.getD j noR) = true) ∧ Below w.heap.size w wr) (fun i _ => rs.length - (intOf i).toNat)
  case atStart => exact ⟨0, Nat.zero_le _, rfl, fun j hj => absurd hj (Nat.not_lt_zero _), (Below.refl _ _).alloc (Nat.le_refl _) _⟩
  case round =>
    obtain ⟨k, hk, rfl, hr, hbw⟩ := hrel
    have HR := hide hr
    clear hr
    have hsz := hbw.size
    by_cases hp : k < rs.length
    · have hpi : (k : Int) < (rs.length : Int) := by omega
      obtain ⟨_, a9, c9, e9, hcs⟩ := (unhide HRV).below hbw
      cases e9
      obtain ⟨b, off, rfl, hcell⟩ := hcs (by omega)
      obtain ⟨va, vl, d0, d1, d2, d3, hva, hvl⟩ := hcell k hp
      have kc : wr.cell? ⟨c, 0, none⟩ = some (.func (Fn.func 49) #[] #[]) := ((unhide HC).later hbw).cell 0
      have hclt : c < wr.heap.size := cell_lt kc
      have al := (Below.refl wr.heap.size wr).alloc (Nat.le_refl _) (Obj.cells (rulC (rs.getD k noR) va vl) 41)
      have C := hide (unhide CM _ (rs.getD k noR) _ (getD_in _ _ _ hp) (RulV.below (w := wr) ⟨va, vl, rfl, hva, hvl⟩ al))
      obtain ⟨q1, m1, rfl⟩ := hva.1.slice
      obtain ⟨q2, m2, rfl⟩ := hvl.1.slice
      have hyk := unhide HN k hp
      have HR2 : Hid (kepB (rs.getD k noR) = true → ∀ j, j < k + 1 → kepB (rs.getD j noR) = true) := hide (fun hx j hj => by
        by_cases ej : j = k
        · rw [ej]; exact hx
        · exact unhide HR j (by omega))
      have HBA := hide (hbw.trans (al.mono hsz))
      clear hcell hva hvl hcs al
      cases hx : kepB (rs.getD k noR) with
      | true =>
        have H := hide (unhide HR2 hx)
        rw [hx] at C
        unfold rulC at C HBA
        clear hyk HR2 hx
        generalize rs.getD k noR = r at *
        obtain ⟨nm, ac, ats, lks⟩ := r
        dsimp only at *
        generalize ats.length = l1 at *
        generalize lks.length = l2 at *
        go_wp2_with fail
        refine (unhide C).mono ?_
        rintro e1 w1 ⟨rfl, hb1⟩
        have HB2 := hide ((unhide HBA).trans (hb1.mono (unhide HBA).size))
        go_wp2
        go_roundw
        case rel => exact ⟨k + 1, by omega, by go_num, unhide H, unhide HB2⟩
        case measure => simp [intOf]; omega
      | false =>
        have H := hide (hyk hx)
        rw [hx] at C
        unfold rulC at C HBA
        clear hyk HR2 hx
        generalize rs.getD k noR = r at *
        obtain ⟨nm, ac, ats, lks⟩ := r
        dsimp only at *
        generalize ats.length = l1 at *
        generalize lks.length = l2 at *
        go_wp2_with fail
        refine (unhide C).mono ?_
        rintro e1 w1 ⟨rfl, hb1⟩
        have HB2 := hide ((unhide HBA).trans (hb1.mono (unhide HBA).size))
        go_wp2
        go_ret
        exact ⟨by rw [unhide H]; rfl, unhide HB2⟩
    · have hkn : k = rs.length := by omega
      have hn := unhide HY (by rw [← hkn]; exact unhide HR)
      have H := hide hn
      clear hn
      go_wp2
      go_ret
      exact ⟨by rw [unhide H]; rfl, hbw⟩
end Go.Proofs.YtfdhmhdemfbfeaaGreatDoor
