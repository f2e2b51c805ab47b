/-
  What 'chars.Blank' and the reference's do: of every text, whether all its bytes are spaces.
-/
import Derived.Test.YtgdhnpjblnhjmaaDoorCKd
import Derived.Laws.RangeAny
namespace Go.Proofs.YtgdhnpjblnhjmaaDoor
open Go.RowKit
set_option linter.unusedVariables false

theorem iter_below (w : World) (s : ByteArray) (pos : Nat) : Below w.heap.size w (w.iter s pos) := (Below.refl _ _).alloc (Nat.le_refl _) _
theorem spN_ascii {b : Nat} (h : spN b = true) : b < 128 := by have := spN_true h; omega

theorem blank_step {l : List UInt8} {k : Nat} (h : k < l.length) : blankL (l.drop k) = (spN (dgt l k) && blankL (l.drop (k + 1))) := by
  obtain ⟨c, hc, hn⟩ := drop_at l k h
  rw [hc, blankL_cons, sp, hn]

set_option maxHeartbeats 400000 in
theorem blank_any (s : ByteArray) (w : World) (hs : s.size ≤ 9223372036854775807) :
    Calls Tryd.prog 18 #[.string s] w fun e w' => e = .returned (.bool (blankL s.data.toList)) ∧ Below w.heap.size w w' := by
  have C := hide space_any
  go_enter Tryd.func18, Tryd.ntmps18
  go_wp2
  go_loopw [3] (fun _ wr => ∃ pos : Nat, wr = w.iter s pos ∧ pos ≤ s.size ∧ blankL s.data.toList = blankL (s.data.toList.drop pos)) (fun _ wr => s.size - wr.iterPos w.heap.size)
  case atStart => exact ⟨0, rfl, Nat.zero_le _, rfl⟩
  case round =>
    obtain ⟨pos, rfl, hps, hr⟩ := hrel
    have HR := hide hr
    clear hr
    by_cases hp : pos < s.size
    · have hpi : (pos : Int) < (s.size : Int) := by omega
      have e := dgt_at s pos hp
      have hst := blank_step (l := s.data.toList) (k := pos) (by rw [data_len]; exact hp)
      have hasc := fun h ty => run_next_ascii (P := Tryd.prog) w s pos ty hp h
      have hany := fun ty => run_next_any (P := Tryd.prog) w s pos ty hp
      rw [e] at hasc
      have CB := hide (unhide C (dgt s.data.toList pos))
      generalize dgt s.data.toList pos = b at *
      cases hb : spN b with
      | true =>
        have hnx := hasc (spN_ascii hb)
        rw [hb] at hst CB
        have HS := hide hst
        clear hasc hany hst hb
        go_wp2_with fail
        refine (unhide CB _).mono ?_
        rintro e1 w1 ⟨rfl, rfl⟩
        go_wp2
        go_roundw
        case rel => exact ⟨pos + 1, rfl, by omega, by rw [unhide HR, unhide HS]; rfl⟩
        case measure => simp; omega
      | false =>
        rw [hb] at hst CB
        have HS := hide hst
        clear hasc hst hb
        go_wp2_with fail
        refine (unhide CB _).mono ?_
        rintro e1 w1 ⟨rfl, rfl⟩
        go_wp2
        go_ret
        exact ⟨by rw [unhide HR, unhide HS]; rfl, iter_below _ _ _⟩
    · have hnx := fun ty => run_next_end (P := Tryd.prog) w s pos ty hp
      have he : blankL s.data.toList = true := by
        rw [unhide HR, List.drop_eq_nil_of_le (by rw [data_len]; omega)]; rfl
      have HE := hide he
      clear he
      go_wp2
      go_ret
      exact ⟨by rw [unhide HE]; rfl, iter_below _ _ _⟩

set_option maxHeartbeats 400000 in
theorem rblank_any (s : ByteArray) (w : World) (hs : s.size ≤ 9223372036854775807) :
    Calls Tryd.prog 19 #[.string s] w fun e w' => e = .returned (.bool (blankL s.data.toList)) ∧ w' = w := by
  have C := hide rspace_any
  go_enter Tryd.func19, Tryd.ntmps19
  go_wp2
  go_loopw [3] (fun i wr => ∃ k : Nat, k ≤ s.size ∧ i = .int .i64 k ∧ wr = w ∧ blankL s.data.toList = blankL (s.data.toList.drop k)) (fun i _ => s.size - (intOf i).toNat)
  case atStart => exact ⟨0, Nat.zero_le _, rfl, rfl, rfl⟩
  case round =>
    obtain ⟨k, hk, rfl, rfl, hr⟩ := hrel
    have HR := hide hr
    clear hr
    by_cases hp : k < s.size
    · have hpi : (k : Int) < (s.size : Int) := by omega
      have e := dgt_at s k hp
      have hst := blank_step (l := s.data.toList) (k := k) (by rw [data_len]; exact hp)
      have CB := hide (unhide C (dgt s.data.toList k))
      generalize dgt s.data.toList k = b at *
      cases hb : spN b with
      | true =>
        rw [hb] at hst CB
        have HS := hide hst
        clear hst hb
        go_wp2_with fail
        refine (unhide CB _).mono ?_
        rintro e1 w1 ⟨rfl, rfl⟩
        go_wp2
        go_roundw
        case rel => exact ⟨k + 1, by omega, by go_num, by first | exact rfl | trivial, by rw [unhide HR, unhide HS]; rfl⟩
        case measure => simp [intOf]; omega
      | false =>
        rw [hb] at hst CB
        have HS := hide hst
        clear hst hb
        go_wp2_with fail
        refine (unhide CB _).mono ?_
        rintro e1 w1 ⟨rfl, rfl⟩
        go_wp2
        go_ret
        exact ⟨by rw [unhide HR, unhide HS]; rfl, rfl⟩
    · have he : blankL s.data.toList = true := by
        rw [unhide HR, List.drop_eq_nil_of_le (by rw [data_len]; omega)]; rfl
      have HE := hide he
      clear he
      go_wp2
      go_ret
      exact ⟨by rw [unhide HE]; rfl, rfl⟩
end Go.Proofs.YtgdhnpjblnhjmaaDoor
