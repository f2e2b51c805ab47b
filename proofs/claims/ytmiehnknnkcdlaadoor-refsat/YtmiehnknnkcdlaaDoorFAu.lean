/-
  What the reference's 'At' of layer 4 does where no & stands.
-/
import Derived.Test.YtmiehnknnkcdlaaDoorFAt
import Derived.Test.YtmiehnknnkcdlaaDoorLPl
import Derived.Deep.RegionWith
import Derived.Laws.Runes
namespace Go.Proofs.YtmiehnknnkcdlaaDoor
open Go.RowKit
set_option linter.unusedVariables false

set_option maxHeartbeats 4000000 in
set_option maxRecDepth 100000 in
theorem rat_other (s : ByteArray) (i : Nat) (v : Bool) (w : World) (hs : s.size ≤ 100000) (hi : i < s.size) (h38 : ¬ dgt s.data.toList i = 38) :
    Calls Tryd.prog 11 #[.string s, .int .i64 (i : Int), .bool v] w fun e w' => e = .returned (rAtV s i v) ∧ Below w.heap.size w w' := by
  have i0 : ¬ (i : Int) < 0 := by omega
  have i1 : (i : Int) < (s.size : Int) := by omega
  have i2 : ¬ (s.size : Int) ≤ (i : Int) := by omega
  have e := dgt_at s i hi
  have hne : s.data.toList.drop i ≠ [] := by
    intro h; have := congrArg List.length h; rw [List.length_drop, data_len] at this; simp at this; omega
  have hok := step_ok hne
  have CA := hide (fun w => rat_any s i w (by omega) (by omega) hi)
  unfold gotStep got at CA
  have CB := hide (fun w => rbytes_char (step (s.data.toList.drop i)).1 w hok.2.2.2)
  have hV : rAtV s i v = gotR (ub (step (s.data.toList.drop i)).1) ((i : Int) + ((step (s.data.toList.drop i)).2.1 : Int)) := by
    unfold rAtV; rw [at_plain v (by rw [dgt_drop, Nat.add_zero]; exact h38)]
  have HV := hide hV
  have hn4 : (step (s.data.toList.drop i)).2.1 ≤ 4 := hok.2.2.1
  clear hV hok hne
  generalize dgt s.data.toList i = b at *
  have n38 : ((b : Int) == 38) = false := bneI (by omega)
  have m38 : ((b : Int) != 38) = true := by simp; omega
  generalize (step (s.data.toList.drop i)).1 = c at *
  generalize (step (s.data.toList.drop i)).2.1 = n at *
  generalize (step (s.data.toList.drop i)).2.2 = r at *
  clear h38
  have hw := wrap_small ((i : Int) + (n : Int)) (by omega) (by omega)
  go_enter Tryd.func11, Tryd.ntmps11
  go_wp2_with fail
  refine (unhide CA _).mono ?_
  rintro e1 w2 ⟨rfl, hb2⟩
  have k0 : (w2.alloc (.cells #[.int .i64 c, .int .i64 (n : Int), .bool r] 44)).cell? ⟨w2.heap.size, 0, none⟩ = some (.int .i64 c) := World.cell?_alloc_at _ _ _ _ rfl
  have k1 : (w2.alloc (.cells #[.int .i64 c, .int .i64 (n : Int), .bool r] 44)).cell? ⟨w2.heap.size, 1, none⟩ = some (.int .i64 (n : Int)) := World.cell?_alloc_at _ _ _ _ rfl
  have hbX := tr2 (bel_of hb2) ((Below.refl _ w2).alloc (Nat.le_refl _) (.cells #[.int .i64 c, .int .i64 (n : Int), .bool r] 44))
  go_wp2_with fail
  generalize w2.alloc (.cells #[.int .i64 c, .int .i64 (n : Int), .bool r] 44) = wx at *
  generalize w2.heap.size = g at *
  have hzx : w.heap.size < wx.heap.size := by have := hbX.size; simp at this; omega
  obtain ⟨hcx, hfx⟩ := bcell hbX
  go_region_with (go_at_call 27; refine (unhide CB _).mono ?_; rintro e1 w3 ⟨rfl, hb3⟩; have d0 : w3.cell? ⟨g, 0, none⟩ = some (.int .i64 c) := cell_later hb3 k0; have d1 : w3.cell? ⟨g, 1, none⟩ = some (.int .i64 (n : Int)) := cell_later hb3 k1; have hbz := tr2 (Below.drew hbX) hb3; have hz3 : w.heap.size < w3.heap.size := (by have := hbz.size; simp at this; omega); obtain ⟨hc3, hf3⟩ := bcell hbz)
  all_goals
    go_wp2
    exact bodyPost_ret (v := gotR (ub c) ((i : Int) + (n : Int))) (by simp [results, Tryd.results11, go_sem, gotR, hc3, str_ub]) rfl ⟨by rw [unhide HV], ((bel_of hbz).setCell (by simp) _).setCell (by simp) _⟩
end Go.Proofs.YtmiehnknnkcdlaaDoor
