/-
  The reference's times and long of layer 16.
-/
import Derived.Test.YtfdhmhdemfbfeaaGreatDoorMgAT
namespace Go.Proofs.YtfdhmhdemfbfeaaGreatDoor
open Go.RowKit
set_option linter.unusedVariables false
set_option linter.unusedSimpArgs false

/-- How often a text stands among the first k. -/
def cntK (zs : List ByteArray) (x : ByteArray) (k : Nat) : Nat := ((zs.take k).filter fun y => sameS y x).length
theorem cntK_yes {zs : List ByteArray} {x : ByteArray} {k : Nat} (hk : k < zs.length) (h : sameS (zs.getD k ByteArray.empty) x = true) : cntK zs x (k + 1) = cntK zs x k + 1 := by
  rw [List.getD, List.getElem?_eq_getElem hk] at h
  rw [cntK, List.take_add_one, List.getElem?_eq_getElem hk, List.filter_append, List.length_append]
  have : List.filter (fun y => sameS y x) (some zs[k]).toList = [zs[k]] := by
    have h' : sameS zs[k] x = true := h
    simp [h']
  rw [this]; rfl
theorem cntK_no {zs : List ByteArray} {x : ByteArray} {k : Nat} (hk : k < zs.length) (h : sameS (zs.getD k ByteArray.empty) x = false) : cntK zs x (k + 1) = cntK zs x k := by
  rw [List.getD, List.getElem?_eq_getElem hk] at h
  rw [cntK, List.take_add_one, List.getElem?_eq_getElem hk, List.filter_append, List.length_append]
  have : List.filter (fun y => sameS y x) (some zs[k]).toList = [] := by
    have h' : sameS zs[k] x = false := h
    simp [h']
  rw [this]; rfl
theorem cntK_le (zs : List ByteArray) (x : ByteArray) (k : Nat) : cntK zs x k ≤ zs.length := by
  have h1 : cntK zs x k ≤ (zs.take k).length := List.length_filter_le _ _
  rw [List.length_take] at h1; omega

set_option maxHeartbeats 1000000 in
theorem times_any (v : Value) (zs : List ByteArray) (x : ByteArray) (w : World) (hv : View w v zs) :
    Calls Tryz.prog 35 #[v, .string x] w fun e w' => e = .returned (.int .i64 (cntK zs x zs.length : Int)) ∧ w' = w := by
  obtain ⟨hl, a, cap, rfl, hc⟩ := hv
  have HC := hide hc
  have HY := hide (fun k hk h => @cntK_yes zs x k hk h)
  have HN := hide (fun k hk h => @cntK_no zs x k hk h)
  clear hc
  go_enter Tryz.func35, Tryz.ntmps35
  go_wp2
  go_loopw [5, 10] (fun c i wr => ∃ k : Nat, k ≤ zs.length ∧ i = .int .i64 k ∧ c = .int .i64 (cntK zs x k : Int) ∧ wr = w) (fun _ i _ => zs.length - (intOf i).toNat)
  case atStart => exact ⟨0, Nat.zero_le _, rfl, rfl, rfl⟩
  case round =>
    obtain ⟨k, hk, rfl, rfl, hw⟩ := hrel
    have hw' := hw.symm
    subst hw'
    clear hw
    by_cases hp : k < zs.length
    · have hpi : (k : Int) < (zs.length : Int) := by omega
      obtain ⟨b, off, rfl, hcell⟩ := unhide HC (by omega)
      have hck := hcell k hp
      have hy := unhide HY k hp
      have hn := unhide HN k hp
      have hle : cntK zs x k ≤ k := by
        have h1 : cntK zs x k ≤ (zs.take k).length := List.length_filter_le _ _
        rw [List.length_take] at h1; omega
      clear hcell
      cases hx : sameS (zs.getD k ByteArray.empty) x with
      | true =>
        have H := hide (hy hx)
        unfold sameS at hx
        clear hy hn
        generalize cntK zs x k = c at *
        have hci : (c : Int) ≤ (zs.length : Int) := by omega
        have hci2 : (c : Int) < (zs.length : Int) := by omega
        generalize zs.getD k ByteArray.empty = y at *
        go_wp2
        go_roundw
        case rel => exact ⟨k + 1, by omega, by go_num, by rw [unhide H]; go_num, by first | rfl | trivial⟩
        case measure => simp [intOf]; omega
      | false =>
        have H := hide (hn hx)
        unfold sameS at hx
        clear hy hn
        generalize cntK zs x k = c at *
        generalize zs.getD k ByteArray.empty = y at *
        go_wp2
        go_roundw
        case rel => exact ⟨k + 1, by omega, by go_num, by rw [unhide H], by first | rfl | trivial⟩
        case measure => simp [intOf]; omega
    · have hkn : k = zs.length := by omega
      rw [hkn]
      go_wp2
      go_ret
      exact ⟨rfl, rfl⟩
def longB (p : PPol) : Bool := !shB p
set_option maxHeartbeats 2000000 in
theorem long16_any (v : Value) (p : PPol) (w : World) (hv : PolV w v p) (ho : PolOk p) :
    Calls Tryz.prog 20 #[v] w fun e w' => e = .returned (.bool (longB p)) ∧ Below w.heap.size w w' := by
  obtain ⟨vr, vs, rfl, h1, h2⟩ := hv
  have HRV := hide h1
  obtain ⟨a2, c2, rfl⟩ := h2.slice
  obtain ⟨hrl, a1, c1, rfl, _⟩ := h1
  unfold polC
  have hsl := h2.1
  have HO := hide ho.1
  clear h2 ho
  obtain ⟨rs, sc, ot, st⟩ := p
  dsimp only at *
  generalize hn2 : sc.length = n2 at *
  have HN2 := hide hn2
  clear hn2
  have al := (Below.refl w.heap.size w).alloc (Nat.le_refl _) (Obj.cells #[.slice a1 rs.length c1, .slice a2 n2 c2, .int .i64 ot, .int .i64 st] 32)
  have HY' := hide (@all_yes fewB rs)
  have HY := hide (fun k hk h => @all_no fewB rs k hk h)
  go_enter Tryz.func20, Tryz.ntmps20
  go_wp2
  go_loopw [8] (fun i wr => ∃ k : Nat, k ≤ rs.length ∧ i = .int .i64 k ∧ (∀ j, j < k → fewB (rs.getD j noR) = true) ∧ Blk wr w.heap.size #[.slice a1 rs.length c1, .slice a2 n2 c2, .int .i64 ot, .int .i64 st] 32 ∧ Below w.heap.size w wr) (fun i _ => rs.length - (intOf i).toNat)
  case atStart => exact ⟨0, Nat.zero_le _, rfl, fun j hj => absurd hj (Nat.not_lt_zero _), Blk.new w _ _, al⟩
  case round =>
    clear al
    obtain ⟨k, hk, rfl, hr, kp, hbw⟩ := hrel
    have HR := hide hr
    clear hr
    have hsz := hbw.size
    by_cases hp : k < rs.length
    · have hpi : (k : Int) < (rs.length : Int) := by omega
      obtain ⟨_, a9, c9, e9, hcs⟩ := (unhide HRV).below hbw
      cases e9
      obtain ⟨b, off, rfl, hcell⟩ := hcs (by omega)
      obtain ⟨va, vl, d0, d1, d2, d3, hva, hvl⟩ := hcell k hp
      have hro := unhide HO _ (getD_in _ noR k hp)
      obtain ⟨q1, m1, rfl⟩ := hva.1.slice
      obtain ⟨q2, m2, rfl⟩ := hvl.1.slice
      have hyk := unhide HY k hp
      have HR2 : Hid (fewB (rs.getD k noR) = true → ∀ j, j < k + 1 → fewB (rs.getD j noR) = true) := hide (fun hx j hj => by
        by_cases ej : j = k
        · rw [ej]; exact hx
        · exact unhide HR j (by omega))
      have KP := hide kp
      clear hcell hva hvl hcs kp
      have hbg : fewB (rs.getD k noR) = decide ((rs.getD k noR).ats.length ≤ 20 ∧ (rs.getD k noR).lks.length ≤ 20) := rfl
      rw [hbg] at hyk HR2
      obtain ⟨z1, _, _, z2, z3⟩ := hro
      clear hbg
      generalize rs.getD k noR = r at *
      obtain ⟨nm, ac, ats, lks⟩ := r
      dsimp only at *
      generalize ats.length = l1 at *
      generalize lks.length = l2 at *
      by_cases i1 : 20 < l1
      · have g1 : (20 : Int) < (l1 : Int) := by omega
        have H := hide (hyk (decide_eq_false (fun h => by omega)))
        clear hyk HR2
        go_wp2
        go_ret
        exact ⟨by unfold longB shB; dsimp only; rw [unhide H]; simp, hbw.alloc hsz _⟩
      have g1 : ¬ (20 : Int) < (l1 : Int) := by omega
      by_cases i2 : 20 < l2
      · have g2 : (20 : Int) < (l2 : Int) := by omega
        have H := hide (hyk (decide_eq_false (fun h => by omega)))
        clear hyk HR2
        go_wp2
        go_ret
        exact ⟨by unfold longB shB; dsimp only; rw [unhide H]; simp, hbw.alloc hsz _⟩
      have g2 : ¬ (20 : Int) < (l2 : Int) := by omega
      have H := hide (unhide HR2 (decide_eq_true (by omega)))
      clear hyk HR2 i1 i2
      go_wp2
      go_roundw
      case rel => exact ⟨k + 1, by omega, by go_num, unhide H, (unhide KP).alloc _, hbw.alloc hsz _⟩
      case measure => simp [intOf]; omega
    · have hkn : k = rs.length := by omega
      have H := hide (unhide HY' (by rw [← hkn]; exact unhide HR))
      have x0 : wr.cell? ⟨w.heap.size, 0, none⟩ = some (.slice a1 rs.length c1) := kp.cell 0
      have x1 : wr.cell? ⟨w.heap.size, 1, none⟩ = some (.slice a2 n2 c2) := kp.cell 1
      clear kp
      by_cases i1 : rs.length ≤ 60
      · have g1 : ¬ (60 : Int) < (rs.length : Int) := by omega
        by_cases i2 : n2 ≤ 20
        · have g2 : ¬ (20 : Int) < (n2 : Int) := by omega
          have hd : longB ⟨rs, sc, ot, st⟩ = false := by unfold longB shB; dsimp only; rw [unhide HN2, unhide H, decide_eq_true i1, decide_eq_true i2]; rfl
          have HD := hide hd
          clear hd i1 i2
          go_wp2
          go_ret
          exact ⟨by rw [unhide HD]; rfl, hbw⟩
        · have g2 : (20 : Int) < (n2 : Int) := by omega
          have hd : longB ⟨rs, sc, ot, st⟩ = true := by unfold longB shB; dsimp only; rw [unhide HN2, decide_eq_false i2]; simp
          have HD := hide hd
          clear hd i1 i2
          go_wp2
          go_ret
          exact ⟨by rw [unhide HD]; rfl, hbw⟩
      · have g1 : (60 : Int) < (rs.length : Int) := by omega
        have hd : longB ⟨rs, sc, ot, st⟩ = true := by unfold longB shB; dsimp only; rw [decide_eq_false i1]; simp
        have HD := hide hd
        clear hd i1
        go_wp2
        go_ret
        exact ⟨by rw [unhide HD]; rfl, hbw⟩
end Go.Proofs.YtfdhmhdemfbfeaaGreatDoor
