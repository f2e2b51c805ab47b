/-
  What 'toks.tag' does at a tag that ends an element and has nothing but its name.
-/
import Derived.Test.YtakjlolmmoladaaGreatDoorTNc
import Derived.Maps.OwnSet
import Derived.WalkMore
namespace Go.Proofs.YtakjlolmmoladaaGreatDoor
open Go.RowKit Go.Maps Go.WideMaps
set_option linter.unusedVariables false

def enP (s : ByteArray) (i : Nat) : Bool := enB (dgt s.data.toList i)
theorem tag1_any (s : ByteArray) (i g : Nat) (w : World) (hg : w.cell? ⟨g, 0, none⟩ = some (.string s)) (hi : i < s.size) :
    Calls Tryz.prog 45 #[.int .i64 (i : Int), .pointer (some ⟨g, 0, none⟩)] w fun e w' => e = .returned (.bool (enP s i)) ∧ w' = w := by
  have hii : (i : Int) < (s.size : Int) := by omega
  have e0 := dgt_at s i hi
  have C := hide (fun w => endsName_tag (dgt s.data.toList i) w)
  unfold enP
  generalize dgt s.data.toList i = b at *
  generalize enB b = eb at *
  go_enter Tryz.func45, Tryz.ntmps45
  go_wp2_with fail
  refine (unhide C _).mono ?_
  rintro e w1 ⟨rfl, rfl⟩
  go_wp2
  go_ret
  exact ⟨rfl, rfl⟩

set_option maxHeartbeats 1000000 in
theorem seek_tag (s : ByteArray) (i g : Nat) (w : World) (hg : w.cell? ⟨g, 0, none⟩ = some (.string s)) (hi : i ≤ s.size) (hs : s.size ≤ 9223372036854775800) :
    Calls Tryz.prog 21 #[.string s, .int .i64 (i : Int), .func (.func 45) #[] #[.pointer (some ⟨g, 0, none⟩)]] w fun e w' => e = .returned (.int .i64 (seekN (enP s) s.size i : Int)) ∧ w' = w := by
  have HG := hide hg
  clear hg
  go_enter Tryz.func21, Tryz.ntmps21
  go_wp2
  go_loopw [1] (fun a wr => ∃ k : Nat, k ≤ s.size ∧ a = .int .i64 (k : Int) ∧ seekN (enP s) s.size i = seekN (enP s) s.size k ∧ wr = w) (fun a _ => s.size - (intOf a).toNat)
  case atStart => exact ⟨i, hi, rfl, rfl, rfl⟩
  case round =>
    obtain ⟨k, hk, rfl, hr, rfl⟩ := hrel
    have HR := hide hr
    clear hr
    by_cases hp : k < s.size
    · have hpi : (k : Int) < (s.size : Int) := by omega
      have C := hide (fun w h => tag1_any s k g w h hp)
      have hh := @seek_hit (enP s) s.size k
      have hn := @seek_next (enP s) s.size k hp
      generalize enP s k = b at *
      cases b with
      | true =>
        have HV := hide (hh rfl)
        clear hh hn
        go_wp2_with (go_at_call 45; refine (unhide C _ (unhide HG)).mono ?_; rintro e1 w1 ⟨rfl, rfl⟩)
        go_ret
        exact ⟨by rw [unhide HR, unhide HV]; rfl, rfl⟩
      | false =>
        have HV := hide (hn rfl)
        clear hh hn
        go_wp2_with (go_at_call 45; refine (unhide C _ (unhide HG)).mono ?_; rintro e1 w1 ⟨rfl, rfl⟩)
        go_roundw
        case rel => exact ⟨k + 1, by omega, by go_num, by rw [unhide HR, unhide HV], by first | exact rfl | trivial⟩
        case measure => simp [intOf]; omega
    · have HV := hide (@seek_end (enP s) s.size k (by omega))
      go_wp2
      go_ret
      exact ⟨by rw [unhide HR, unhide HV]; rfl, rfl⟩

theorem cell_away (w : World) (b b' o o' : Nat) (v : Value) (h : b ≠ b') : (w.setCell ⟨b, o, none⟩ v).cell? ⟨b', o', none⟩ = w.cell? ⟨b', o', none⟩ := by
  have h' : ¬ b = b' := h
  simp [World.cell?, World.setCell, Array.getElem?_modify, h']
def endV (n : ByteArray) : Value := .agg #[.int .i64 2, .string n, .slice none 0 0, .bool false, .string ⟨#[]⟩]
set_option maxHeartbeats 8000000 in
set_option maxRecDepth 100000 in
theorem tag_end (s : ByteArray) (i e : Nat) (w : World) (hs : s.size ≤ 100000) (hi : i + 1 < s.size) (h47 : dgt s.data.toList (i + 1) = 47) (he : seekN (enP s) s.size (i + 2) = e) (hel : e < s.size) (h62 : dgt s.data.toList e = 62) :
    Calls Tryz.prog 24 #[.string s, .int .i64 (i : Int)] w fun r w' => r = .returned (.tuple #[endV (bs (lowL ((s.data.toList.drop (i + 2)).take (e - (i + 2))))), .int .i64 ((e : Int) + 1)]) ∧ Below w.heap.size w w' := by
  have hmm := @run_makeMap Tryz.prog
  have i1 : (i : Int) + 1 < (s.size : Int) := by omega
  have e1 := dgt_at s (i + 1) hi
  rw [h47] at e1
  have e2 := dgt_at s e hel
  rw [h62] at e2
  have hle := seekN_le (enP s) (n := s.size) (k := i + 2) (by omega)
  rw [he] at hle
  have CS : Hid (∀ (w : World) (g : Nat), w.cell? ⟨g, 0, none⟩ = some (.string s) → Calls Tryz.prog 21 #[.string s, .int .i64 ((i : Int) + 2), .func (.func 45) #[] #[.pointer (some ⟨g, 0, none⟩)]] w fun r w' => r = .returned (.int .i64 (e : Int)) ∧ w' = w) := fun w g hg => by
    have := seek_tag s (i + 2) g w hg (by omega) (by omega)
    rw [he, Int.natCast_add] at this; exact this
  have hcx := extract_take s (i + 2) (e - (i + 2))
  rw [show i + 2 + (e - (i + 2)) = e by omega] at hcx
  have hyz : (s.extract (i + 2) e).size ≤ 100000 := by simp; omega
  have CL := hide (fun w => lower_any (s.extract (i + 2) e) w (by omega))
  have hyd : (s.extract (i + 2) e).data.toList = (s.data.toList.drop (i + 2)).take (e - (i + 2)) := by rw [hcx, bs_toList]
  rw [hyd] at CL
  generalize bs (lowL ((s.data.toList.drop (i + 2)).take (e - (i + 2)))) = y at *
  have CP := hide (space_any 62)
  have hsp : spN 62 = false := by decide
  rw [hsp] at CP
  have hel1 : (e : Int) < (s.size : Int) := by omega
  have hel2 : (e : Int) ≤ (s.size : Int) := by omega
  have hie : (i : Int) + 2 ≤ (e : Int) := by omega
  have hel3 : ¬ (s.size : Int) ≤ (e : Int) := by omega
  clear hcx hyd he h47 h62 hsp
  go_enter Tryz.func24, Tryz.ntmps24
  go_wp2_with fail
  go_step3
  go_wp2_with fail
  refine (unhide CS _ w.heap.size (by simp [go_sem])).mono ?_
  rintro r w1 ⟨rfl, rfl⟩
  go_wp2_with fail
  refine (unhide CL _).mono ?_
  rintro r w2 ⟨rfl, hb2⟩
  have hz2 : w.heap.size + 1 + 1 < w2.heap.size := by have := hb2.size; simp at this; omega
  have hz1 : w.heap.size + 1 < w2.heap.size := by omega
  have hz0 : w.heap.size < w2.heap.size := by omega
  obtain ⟨hc, hf⟩ := bcell hb2
  have fX0 : ∀ A B C, (((w2.setCell ⟨w.heap.size + 1 + 1, 1, none⟩ A).setCell ⟨w.heap.size + 1 + 1, 2, none⟩ B).setCell ⟨w.heap.size + 1 + 1, 3, none⟩ C).cell? ⟨w.heap.size + 1, 0, none⟩ = some (.int .i64 0) := fun A B C => by
    rw [cell_away _ _ _ _ _ _ (by omega), cell_away _ _ _ _ _ _ (by omega), cell_away _ _ _ _ _ _ (by omega), hc (w.heap.size + 1) 0 (by simp <;> omega)]; simp [go_sem]
  have FX0 := hide fX0
  clear fX0
  have fX1 : ∀ A B C, (((w2.setCell ⟨w.heap.size + 1 + 1, 1, none⟩ A).setCell ⟨w.heap.size + 1 + 1, 2, none⟩ B).setCell ⟨w.heap.size + 1 + 1, 3, none⟩ C).cell? ⟨w.heap.size + 1, 1, none⟩ = some (.string ⟨#[]⟩) := fun A B C => by
    rw [cell_away _ _ _ _ _ _ (by omega), cell_away _ _ _ _ _ _ (by omega), cell_away _ _ _ _ _ _ (by omega), hc (w.heap.size + 1) 1 (by simp <;> omega)]; simp [go_sem]
  have FX1 := hide fX1
  clear fX1
  have fX2 : ∀ A B C, (((w2.setCell ⟨w.heap.size + 1 + 1, 1, none⟩ A).setCell ⟨w.heap.size + 1 + 1, 2, none⟩ B).setCell ⟨w.heap.size + 1 + 1, 3, none⟩ C).cell? ⟨w.heap.size + 1, 2, none⟩ = some (.slice none 0 0) := fun A B C => by
    rw [cell_away _ _ _ _ _ _ (by omega), cell_away _ _ _ _ _ _ (by omega), cell_away _ _ _ _ _ _ (by omega), hc (w.heap.size + 1) 2 (by simp <;> omega)]; simp [go_sem]
  have FX2 := hide fX2
  clear fX2
  have fX3 : ∀ A B C, (((w2.setCell ⟨w.heap.size + 1 + 1, 1, none⟩ A).setCell ⟨w.heap.size + 1 + 1, 2, none⟩ B).setCell ⟨w.heap.size + 1 + 1, 3, none⟩ C).cell? ⟨w.heap.size + 1, 3, none⟩ = some (.bool false) := fun A B C => by
    rw [cell_away _ _ _ _ _ _ (by omega), cell_away _ _ _ _ _ _ (by omega), cell_away _ _ _ _ _ _ (by omega), hc (w.heap.size + 1) 3 (by simp <;> omega)]; simp [go_sem]
  have FX3 := hide fX3
  clear fX3
  have fX4 : ∀ A B C, (((w2.setCell ⟨w.heap.size + 1 + 1, 1, none⟩ A).setCell ⟨w.heap.size + 1 + 1, 2, none⟩ B).setCell ⟨w.heap.size + 1 + 1, 3, none⟩ C).cell? ⟨w.heap.size + 1, 4, none⟩ = some (.string ⟨#[]⟩) := fun A B C => by
    rw [cell_away _ _ _ _ _ _ (by omega), cell_away _ _ _ _ _ _ (by omega), cell_away _ _ _ _ _ _ (by omega), hc (w.heap.size + 1) 4 (by simp <;> omega)]; simp [go_sem]
  have FX4 := hide fX4
  clear fX4
  have hb02 : Below w.heap.size w w2 := ((((Below.refl w.heap.size w).alloc (Nat.le_refl _) _).alloc (by simp) _).alloc (by simp; omega) _).trans (hb2.mono (by simp; omega))
  go_wp2
  go_step3
  go_wp2
  refine wp_loop_rounds 1 ?_
  rw [rounds_succ]
  go_wp2_with fail
  refine (unhide CP _).mono ?_
  rintro r w3 ⟨rfl, rfl⟩
  go_wp2
  rw [Exit.noGoto_ret]
  have fX0 := unhide FX0
  have fX1 := unhide FX1
  have fX2 := unhide FX2
  have fX3 := unhide FX3
  have fX4 := unhide FX4
  have hb03 : Below w.heap.size w ((((((((w2.setCell ⟨w.heap.size + 1 + 1, 1, none⟩ (.string y)).setCell ⟨w.heap.size + 1 + 1, 2, none⟩ (.slice none 0 0)).setCell ⟨w.heap.size + 1 + 1, 3, none⟩ (.bool false)).setCell ⟨w.heap.size + 1, 0, none⟩ (.int .i64 2)).setCell ⟨w.heap.size + 1, 1, none⟩ (.string y)).setCell ⟨w.heap.size + 1, 2, none⟩ (.slice none 0 0)).setCell ⟨w.heap.size + 1, 3, none⟩ (.bool false)).setCell ⟨w.heap.size + 1, 4, none⟩ (.string ⟨#[]⟩)) :=
    (((((((hb02.setCell (by simp <;> omega) _).setCell (by simp <;> omega) _).setCell (by simp <;> omega) _).setCell (by simp <;> omega) _).setCell (by simp <;> omega) _).setCell (by simp <;> omega) _).setCell (by simp <;> omega) _).setCell (by simp <;> omega) _
  have ha : ∀ k, (((((((((w2.setCell ⟨w.heap.size + 1 + 1, 1, none⟩ (.string y)).setCell ⟨w.heap.size + 1 + 1, 2, none⟩ (.slice none 0 0)).setCell ⟨w.heap.size + 1 + 1, 3, none⟩ (.bool false)).setCell ⟨w.heap.size + 1, 0, none⟩ (.int .i64 2)).setCell ⟨w.heap.size + 1, 1, none⟩ (.string y)).setCell ⟨w.heap.size + 1, 2, none⟩ (.slice none 0 0)).setCell ⟨w.heap.size + 1, 3, none⟩ (.bool false)).setCell ⟨w.heap.size + 1, 4, none⟩ (.string ⟨#[]⟩)).alloc (Obj.map #[] 0)).cell? ⟨w.heap.size + 1, k, none⟩ = ((((((((w2.setCell ⟨w.heap.size + 1 + 1, 1, none⟩ (.string y)).setCell ⟨w.heap.size + 1 + 1, 2, none⟩ (.slice none 0 0)).setCell ⟨w.heap.size + 1 + 1, 3, none⟩ (.bool false)).setCell ⟨w.heap.size + 1, 0, none⟩ (.int .i64 2)).setCell ⟨w.heap.size + 1, 1, none⟩ (.string y)).setCell ⟨w.heap.size + 1, 2, none⟩ (.slice none 0 0)).setCell ⟨w.heap.size + 1, 3, none⟩ (.bool false)).setCell ⟨w.heap.size + 1, 4, none⟩ (.string ⟨#[]⟩)).cell? ⟨w.heap.size + 1, k, none⟩ := fun k => World.cell?_alloc_old _ _ _ (by simp; omega)
  exact bodyPost_ret (v := .tuple #[endV y, .int .i64 ((e : Int) + 1)]) (by simp [results, Tryz.results24, go_sem, endV, ha, fX0, fX1, fX2, fX3, fX4]) rfl ⟨rfl, hb03.alloc hb03.size _⟩
end Go.Proofs.YtakjlolmmoladaaGreatDoor
