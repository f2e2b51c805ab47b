/-
  What 'words.Split' does.
-/
import Derived.Test.YtfbgpodcdgmpjaaXWe
import Derived.Test.YtfbgpodcdgmpjaaVw
namespace Go.Proofs.Ytfbgpodcdgmpjaa
open Go.RowKit
set_option linter.unusedVariables false
set_option linter.unusedSimpArgs false

theorem upto_w (s : ByteArray) (n : Nat) : s.extract 0 n = bs (s.data.toList.take n) := by
  have := extract_take s 0 n
  rw [Nat.zero_add, List.drop_zero] at this
  exact this
def bsL (gs : List (List UInt8)) : List ByteArray := gs.map bs
theorem bsL_len (gs : List (List UInt8)) : (bsL gs).length = gs.length := by unfold bsL; rw [List.length_map]
def SplitSaid (l : List UInt8) (w : World) (e : Ending) (w' : World) : Prop := ∃ v, e = .returned v ∧ w'.ownsRow w.heap.size 9 1 v (bsL (grp l)).length ((bsL (grp l)).map Value.string) ∧ Below w.heap.size w w'
set_option maxHeartbeats 1000000 in
theorem split_any (s : ByteArray) (w : World) (hs : s.size ≤ 100000) :
    Calls Try.prog 10 #[.string s] w (SplitSaid s.data.toList w) := by
  have C := hide wordEnd_any
  obtain ⟨i0, hi, hz0, hz1, hz2⟩ := info_parts Try.infoStr
  unfold SplitSaid
  go_enter Try.func10, Try.ntmps10
  go_wp2
  go_loopw [0, 3] (fun t v wr => ∃ (x : ByteArray) (ws : List (List UInt8)), t = .string x ∧ x.size + ws.length ≤ s.size ∧ grp s.data.toList = ws ++ grp x.data.toList ∧ wr.ownsRow w.heap.size 9 1 v (bsL ws).length ((bsL ws).map Value.string) ∧ Below w.heap.size w wr) (fun t _ _ => match t with | .string x => x.size | _ => 0)
  case atStart => exact ⟨s, [], rfl, Nat.le_refl _, rfl, World.ownsRow_nil _ _ _ _, Below.refl _ _⟩
  case round =>
    obtain ⟨x, ws, rfl, hx, hr, hown, hbw⟩ := hrel
    have HR := hide hr
    have HW := hide hown
    have HB := hide hbw
    clear hr
    by_cases h0 : x.size = 0
    · have he := is_empty x h0
      have hz : grp s.data.toList = ws := by
        have : x.data.toList = [] := List.eq_nil_of_length_eq_zero (by rw [data_len]; exact h0)
        rw [unhide HR, this]; simp [grp]
      have HZ := hide hz
      obtain ⟨q, n, c, hv⟩ := slice_of hown
      subst hv
      clear hz hown hbw
      go_wp2
      go_ret
      exact ⟨_, rfl, by rw [unhide HZ]; exact unhide HW, unhide HB⟩
    · have he := not_empty x (by omega)
      have hxl : x.data.toList ≠ [] := fun e => h0 (by rw [← data_len, e]; rfl)
      have CX := hide (unhide C x wr (by omega))
      have hle := weL_le x.data.toList
      have hpos := weL_pos hxl
      rw [data_len] at hle
      have HS := hide (grp_step x.data.toList hxl)
      have HX := hide (rest_of x (weL x.data.toList))
      have HU := hide (upto_w x (weL x.data.toList))
      generalize weL x.data.toList = n at *
      have hni : (n : Int) ≤ (x.size : Int) := by omega
      have hn0 : (0 : Int) ≤ (n : Int) := by omega
      obtain ⟨y, hy⟩ : ∃ y, x.extract 0 n = y := ⟨_, rfl⟩
      have HY := hide hy
      clear hxl hy hown hbw
      go_wp2_with fail
      refine (unhide CX).mono ?_
      rintro e1 w1 ⟨rfl, hb1⟩
      have HB1 := hide (tr2 (unhide HB) hb1)
      have hown1 := ownsRow_below (unhide HW) hb1
      clear hb1
      go_wp2_with (at_builtin; refine wpList_append_own _ rfl _ _ 24 rfl w.heap.size 9 i0 (.string ⟨#[]⟩) 1 16 Try.underlying24 hi hz0 hz1 hz2 rfl (by decide) _ _ _ rfl (hown1.alloc _) ⟨w1.heap.size, 0, none⟩ 1 1 [.string (x.extract 0 n)] rfl rfl ?c1 ?c2 ?c3 ?c4 ?c5 ?_)
      case c1 => exact cell_one_new _ _ _
      case c2 => first | rfl | (intro u hu; simp at hu; subst hu; rfl)
      case c3 => rw [bsL_len]; first | (unfold maxLen; omega) | (simp; unfold maxLen; omega) | (simp [maxLen]; omega)
      case c4 => first | omega | (simp; omega) | (simp [bsL_len]; omega)
      case c5 => have := (unhide HB1).size; simp; omega
      intro v' w2 hown' hgrow _
      have hbig : Below w.heap.size w w2 := ((unhide HB1).alloc (by have := (unhide HB1).size; omega) _).grown hgrow (by have := (unhide HB1).size; simp; omega) (fun j hj => (hown1.lt j hj).1)
      clear hgrow
      go_wp2
      go_roundw
      case rel => exact ⟨x.extract n x.size, ws ++ [y.data.toList], rfl, by simp; omega, by
        rw [unhide HR, unhide HS, unhide HX, bs_toList, List.append_assoc]
        have : x.data.toList.take n = y.data.toList := by rw [← unhide HY, unhide HU, bs_toList]
        rw [this]; rfl, by
        have e1 : bsL (ws ++ [y.data.toList]) = bsL ws ++ [x.extract 0 n] := by unfold bsL; rw [List.map_append, unhide HY]; simp [bs_self]
        rw [e1]; simpa using hown', hbig⟩
      case measure => simp; omega
end Go.Proofs.Ytfbgpodcdgmpjaa
