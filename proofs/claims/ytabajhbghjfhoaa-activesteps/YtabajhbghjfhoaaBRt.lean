/-
  The reference's Cut.
-/
import Derived.Test.YtabajhbghjfhoaaBRb
namespace Go.Proofs.Ytabajhbghjfhoaa
open Go.RowKit
set_option linter.unusedVariables false
set_option linter.unusedSimpArgs false

def midN (ym : Bool) (yi : Int) (zs : List Int) (k : Nat) (x : Int) (j : Nat) : Int := if (ym || hasK zs yi j) = true then (k : Int) + 1 else x
set_option maxHeartbeats 4000000 in
set_option maxRecDepth 100000 in
theorem rcut_loop (g cap p : Nat) (q : Option Addr) (n' cap' : Nat) (zs : List Int) (L : List AEnt) (n : Nat) (f m : Nat) (w : World) (hn : Hid (L.length = n)) (h0 : 0 < n) (hn2 : n ≤ 1000) (hb : Blk w p #[.slice (some ⟨g, 0, none⟩) n cap] 55) (hc : Cells4 g 0 L w) (hk : IntsV q n' zs w) (hf : plN (cutZ zs) 1 L 0 0 = (f : Int)) (hfm : f + m = n) :
    Calls Try.prog 31 #[ptr p, .slice q n' cap'] w (CutSaid f m w) := by
  obtain ⟨i0, hi0, hi1, hi2, hi3⟩ := infoI
  have c0 : w.cell? ⟨p, 0, none⟩ = some (.slice (some ⟨g, 0, none⟩) n cap) := hb.cell 0
  have HC := hide hc
  have HK := hide hk
  have HF := hide hf
  have HBL := hide hb
  obtain ⟨hzl, hz1, hz2⟩ := hk
  have HZ := hide hzl
  clear hb hc hf hz2 hzl
  unfold ptr CutSaid at *
  go_enter Try.func31, Try.ntmps31
  go_wp2
  go_loopw [5, 17] (fun a i wr => ∃ (k : Nat) (x : Int), k ≤ n ∧ i = .int .i64 k ∧ a = .int .i64 x ∧ Below w.heap.size w wr ∧ plN (cutZ zs) 1 L 0 0 = plN (cutZ zs) 1 (L.drop k) k x) (fun _ i _ => n - (intOf i).toNat)
  case atStart => exact ⟨0, 0, Nat.zero_le _, rfl, rfl, Below.refl _ _, by simp⟩
  case round =>
    obtain ⟨k, x, hk, rfl, rfl, hbw, hr⟩ := hrel
    obtain ⟨wr, hbw1, hwr⟩ : ∃ wr', Below w.heap.size w wr' ∧ wr' = _ := ⟨_, hbw, rfl⟩
    subst hwr
    clear hbw1
    have HR := hide hr
    have HB := hide hbw
    clear hr
    by_cases hlt : k < n
    · have hlti : (k : Int) < (n : Int) := by omega
      have hkl : k < L.length := by rw [unhide hn]; exact hlt
      obtain ⟨c1, c2, c3, c4⟩ := (unhide HC).below hbw k hkl
      have HE := hide ((unhide HR).trans (plN_step (cutZ zs) 1 L k x hkl))
      rw [Nat.zero_add] at c1 c2 c3 c4
      generalize L.getD k e0 = y at *
      obtain ⟨ym, yi, yn, yq, yl, yc⟩ := y
      dsimp only at *
      have HA : Hid (Below w.heap.size w (wr.alloc (Obj.cells #[.bool ym, .int .i64 yi, .string yn, .slice yq yl yc] 65))) := hide (hbw.alloc hbw.size _)
      have KY : Hid (Blk (wr.alloc (Obj.cells #[.bool ym, .int .i64 yi, .string yn, .slice yq yl yc] 65)) wr.heap.size #[.bool ym, .int .i64 yi, .string yn, .slice yq yl yc] 65) := hide (Blk.new wr _ _)
      have hk1 : (k : Int) + 1 ≤ 9223372036854775807 := by omega
      have HM : Hid (midN ym yi zs k x n' = if cutZ zs ⟨ym, yi, yn, yq, yl, yc⟩ = true then (k : Int) + 1 else x) := hide (by unfold midN cutZ hasZ; rw [unhide HZ])
      clear hkl hbw
      cases ym
      case true =>
        go_wp2
        go_loopw [5, 28] (fun a i wx => ∃ (j : Nat), j ≤ n' ∧ i = .int .i64 j ∧ a = .int .i64 (midN true yi zs k x j) ∧ wx = wr.alloc (Obj.cells #[.bool true, .int .i64 yi, .string yn, .slice yq yl yc] 65)) (fun _ i _ => n' - (intOf i).toNat)
        case atStart => exact ⟨0, Nat.zero_le _, rfl, by simp [midN, hasK], rfl⟩
        case round =>
          obtain ⟨j, hj, rfl, rfl, rfl⟩ := hrel
          by_cases hjl : j < n'
          · have hjl2 : (j : Int) < (n' : Int) := by omega
            have hjz : j < zs.length := by rw [← unhide HZ]; exact hjl
            obtain ⟨gz, oz, rfl, hcz⟩ : ∃ gz oz, q = some ⟨gz, oz, none⟩ ∧ ∀ j, j < zs.length → w.cell? ⟨gz, oz + j, none⟩ = some (.int .i64 (zs.getD j 0)) := by
              rcases (unhide HK).2.2 with h | ⟨gz, oz, h1, h2⟩
              · omega
              · exact ⟨gz, oz, h1, h2⟩
            have z0 := hcz j hjz
            have z1 := ((unhide HA).cell (p := ⟨gz, oz + j, none⟩) (World.block_lt_of_cell? w _ z0)).trans z0
            have MS : Hid (midN true yi zs k x (j + 1) = if (true || (yi == zs.getD j 0)) = true then (k : Int) + 1 else midN true yi zs k x j) := hide (by
              unfold midN
              rw [hasK]
              cases hasK zs yi j <;> simp)
            have y0 := (unhide KY).cell 0
            have y1 := (unhide KY).cell 1
            generalize zs.getD j 0 = zj at *
            generalize hmid : midN true yi zs k x j = mj at *
            clear hcz z0 hjz
            have MT : Hid (midN true yi zs k x (j + 1) = mj) := hide (by rw [← hmid]; simp [midN])
            clear hmid
            go_wp2
            go_roundw
            case rel => exact ⟨j + 1, by omega, by go_num, by rw [unhide MT], by first | rfl | trivial⟩
            case measure => simp [intOf]; omega
          · have hjl2 : ¬ (j : Int) < (n' : Int) := by omega
            obtain rfl : j = n' := by omega
            go_wp2
            go_roundw
            case rel => exact ⟨k + 1, _, by omega, by go_num, rfl, unhide HA, by rw [unhide HM]; exact unhide HE⟩
            case measure => simp [intOf]; omega
      
      case false =>
        go_wp2
        go_loopw [5, 28] (fun a i wx => ∃ (j : Nat), j ≤ n' ∧ i = .int .i64 j ∧ a = .int .i64 (midN false yi zs k x j) ∧ wx = wr.alloc (Obj.cells #[.bool false, .int .i64 yi, .string yn, .slice yq yl yc] 65)) (fun _ i _ => n' - (intOf i).toNat)
        case atStart => exact ⟨0, Nat.zero_le _, rfl, by simp [midN, hasK], rfl⟩
        case round =>
          obtain ⟨j, hj, rfl, rfl, rfl⟩ := hrel
          by_cases hjl : j < n'
          · have hjl2 : (j : Int) < (n' : Int) := by omega
            have hjz : j < zs.length := by rw [← unhide HZ]; exact hjl
            obtain ⟨gz, oz, rfl, hcz⟩ : ∃ gz oz, q = some ⟨gz, oz, none⟩ ∧ ∀ j, j < zs.length → w.cell? ⟨gz, oz + j, none⟩ = some (.int .i64 (zs.getD j 0)) := by
              rcases (unhide HK).2.2 with h | ⟨gz, oz, h1, h2⟩
              · omega
              · exact ⟨gz, oz, h1, h2⟩
            have z0 := hcz j hjz
            have z1 := ((unhide HA).cell (p := ⟨gz, oz + j, none⟩) (World.block_lt_of_cell? w _ z0)).trans z0
            have MS : Hid (midN false yi zs k x (j + 1) = if (false || (yi == zs.getD j 0)) = true then (k : Int) + 1 else midN false yi zs k x j) := hide (by
              unfold midN
              rw [hasK]
              cases hasK zs yi j <;> simp)
            have y0 := (unhide KY).cell 0
            have y1 := (unhide KY).cell 1
            generalize zs.getD j 0 = zj at *
            generalize hmid : midN false yi zs k x j = mj at *
            clear hcz z0 hjz
            clear hmid
            by_cases hyz : yi = zj
            · have f1 : (yi == zj) = true := by simp [hyz]
              have MT : Hid (midN false yi zs k x (j + 1) = (k : Int) + 1) := hide (by rw [unhide MS]; simp [hyz])
              clear hyz
              go_wp2
              go_roundw
              case rel => exact ⟨j + 1, by omega, by go_num, by rw [unhide MT], by first | rfl | trivial⟩
              case measure => simp [intOf]; omega
            · have f1 : (yi == zj) = false := beq_eq_false_iff_ne.2 hyz
              have MT : Hid (midN false yi zs k x (j + 1) = mj) := hide (by rw [unhide MS]; simp [hyz])
              go_wp2
              go_roundw
              case rel => exact ⟨j + 1, by omega, by go_num, by rw [unhide MT], by first | rfl | trivial⟩
              case measure => simp [intOf]; omega
          · have hjl2 : ¬ (j : Int) < (n' : Int) := by omega
            obtain rfl : j = n' := by omega
            go_wp2
            go_roundw
            case rel => exact ⟨k + 1, _, by omega, by go_num, rfl, unhide HA, by rw [unhide HM]; exact unhide HE⟩
            case measure => simp [intOf]; omega
    · have hlti : ¬ (k : Int) < (n : Int) := by omega
      have hxf : x = (f : Int) := by
        have := unhide HR
        rw [List.drop_eq_nil_of_le (by rw [unhide hn]; omega), plN] at this
        rw [← this]; exact unhide HF
      subst hxf
      have d0 : wr.cell? ⟨p, 0, none⟩ = some (.slice (some ⟨g, 0, none⟩) n cap) := ((unhide HBL).later (unhide HB)).cell 0
      clear hlt hbw HR
      have hz1' := (unhide HB).size
      go_wp2
      go_loopw [10, 50] (fun u i wx => ∃ k : Nat, k ≤ n ∧ i = .int .i64 k ∧ wx.ownsRow w.heap.size 3 1 u (k - f) (upFrom f (k - f)) ∧ Below w.heap.size w wx) (fun _ i _ => n - (intOf i).toNat)
      case atStart => exact ⟨0, Nat.zero_le _, rfl, by rw [Nat.zero_sub]; exact World.ownsRow_nil _ _ _ _, unhide HB⟩
      case round =>
        obtain ⟨t, ht, rfl, hrow, hbx⟩ := hrel
        obtain ⟨wx, hbx1, hwx⟩ : ∃ wr', Below w.heap.size w wr' ∧ wr' = _ := ⟨_, hbx, rfl⟩
        subst hwx
        clear hbx1
        have HRW := hide hrow
        have HBX := hide hbx
        have hsz := hbx.size
        obtain ⟨qu, nu, cu, rfl⟩ := slice_of hrow
        by_cases hlt : t < n
        · have hlti : (t : Int) < (n : Int) := by omega
          clear hrow hbx
          by_cases hft : f ≤ t
          · have hfti : (f : Int) ≤ (t : Int) := by omega
            go_wp2_with (at_builtin; refine wpList_append_own_at _ rfl _ _ 49 rfl w.heap.size 3 i0 (.int .i64 0) 1 8 Try.underlying49 hi0 hi1 hi2 hi3 rfl (by decide) _ _ _ rfl ((unhide HRW).alloc _) ⟨wx.heap.size, 0, none⟩ 1 1 [.int .i64 (t : Int)] rfl rfl ?c1 ?c2 ?c3 ?c4 ?c5 ?_)
            case c1 => exact cell_one_new _ _ _
            case c2 => simp [Value.oneCell']
            case c3 => simp only [maxLen]; omega
            case c4 => omega
            case c5 => simp; omega
            intro u' w3 hown hgr _ hat
            obtain ⟨q3, n3, c3, rfl⟩ := slice_of hown
            have HOW := hide hown
            have B3 := hide (((unhide HBX).alloc (unhide HBX).size _).grown hgr (by simp; omega) (fun j hj => ((unhide HRW).lt j hj).1))
            clear hown hgr hat
            go_wp2
            go_roundw
            case rel =>
              refine ⟨t + 1, by omega, by go_num, ?_, unhide B3⟩
              have := unhide HOW
              rw [show t + 1 - f = (t - f) + 1 by omega]
              unfold upFrom
              rw [show f + (t - f) = t by omega]
              exact this
            case measure => simp [intOf]; omega
          · have hfti : ¬ (f : Int) ≤ (t : Int) := by omega
            have hfti2 : (t : Int) < (f : Int) := by omega
            go_wp2
            go_roundw
            case rel =>
              refine ⟨t + 1, by omega, by go_num, ?_, unhide HBX⟩
              have := unhide HRW
              rw [show t - f = 0 by omega] at this
              rw [show t + 1 - f = 0 by omega]
              exact this
            case measure => simp [intOf]; omega
        · have htn : t = n := by omega
          subst htn
          have hlti : ¬ (t : Int) < (t : Int) := by omega
          clear hrow hbx hlt
          go_wp2
          go_ret
          exact ⟨_, rfl, by have := unhide HRW; rw [show t - f = m by omega] at this; exact this, unhide HBX⟩
set_option maxHeartbeats 1000000 in
theorem rcut_zero (p : Nat) (c : Option Addr) (cap : Nat) (q : Option Addr) (n' cap' : Nat) (w : World) (hb : Blk w p #[.slice c 0 cap] 55) :
    Calls Try.prog 31 #[ptr p, .slice q n' cap'] w (CutSaid 0 0 w) := by
  have c0 : w.cell? ⟨p, 0, none⟩ = some (.slice c 0 cap) := hb.cell 0
  clear hb
  unfold ptr CutSaid
  go_enter Try.func31, Try.ntmps31
  go_wp2
  refine wp_loop_rounds 1 ?_
  rw [rounds_succ]; go_wp2
  refine wp_loop_rounds 1 ?_
  rw [rounds_succ]; go_wp2
  go_ret
  exact ⟨_, rfl, World.ownsRow_nil _ _ _ _, Below.refl _ _⟩
def rfrom (zs : List Int) (L : List AEnt) : Nat := (lastE (cutZ zs) L + 1).toNat
theorem rcut_any (base p : Nat) (v : Value) (q : Option Addr) (n' cap' : Nat) (zs : List Int) (L : List AEnt) (w : World) (h : RStk base p v L w) (hk : IntsV q n' zs w) (hN : L.length ≤ 1000) :
    Calls Try.prog 31 #[ptr p, .slice q n' cap'] w (CutSaid (rfrom zs L) (L.length - rfrom zs L) w) := by
  have hlt := lastE_lt (cutZ zs) L
  obtain ⟨q', cap, rfl, hc, hm, hg⟩ := h.slice
  by_cases h0 : L.length = 0
  · obtain rfl := List.eq_nil_of_length_eq_zero h0
    exact rcut_zero p q' cap q n' cap' w h.1
  · obtain ⟨g, rfl, hgl⟩ := hg (by omega)
    have e : plN (cutZ zs) 1 L 0 0 = ((rfrom zs L : Nat) : Int) := by
      have := plN_eq (cutZ zs) 1 L
      rw [show (-1 : Int) + 1 = 0 from rfl] at this
      rw [this]; unfold rfrom; omega
    exact rcut_loop g cap p q n' cap' zs L L.length (rfrom zs L) (L.length - rfrom zs L) w (hide rfl) (by omega) hN h.1 h.cells hk e (by unfold rfrom; omega)
end Go.Proofs.Ytabajhbghjfhoaa
