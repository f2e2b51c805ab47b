/-
  What the reference's Split of layer 24 does.
-/
import Derived.Test.YtfbgpodcdgmpjaaXSp
namespace Go.Proofs.Ytfbgpodcdgmpjaa
open Go.RowKit
set_option linter.unusedVariables false
set_option linter.unusedSimpArgs false

theorem one_snoc {p : Bool} {wd : List UInt8} {c : UInt8} (h : OneS p wd) (hc : sp c = p) : OneS p (wd ++ [c]) := fun b hb => by
  rcases List.mem_append.1 hb with hb | hb
  · exact h b hb
  · rw [List.mem_singleton.1 hb]; exact hc
theorem off_drop (l : List UInt8) (k : Nat) (p : Bool) (h : k = l.length ∨ (k < l.length ∧ spN (dgt l k) ≠ p)) : OffS p (l.drop k) := fun b hb => by
  rcases h with h | ⟨h1, h2⟩
  · rw [List.drop_eq_nil_of_le (by omega)] at hb; cases hb
  · obtain ⟨c, hc, hn⟩ := drop_at l k h1
    rw [hc] at hb
    simp only [List.head?_cons, Option.some.injEq] at hb
    subst hb
    rw [sp, hn]; exact h2
/-- Where the reference's loop is: what is told, the word under way. -/
def RsAt (l : List UInt8) (i : Nat) (os : List (List UInt8)) (wd : List UInt8) : Prop :=
  grp l = os ++ grp (wd ++ l.drop i) ∧ (wd = [] ∨ (i < l.length ∧ OneS (spN (dgt l i)) wd)) ∧ os.length + wd.length ≤ i
theorem RsAt.ends {l : List UInt8} {i : Nat} {os : List (List UInt8)} {wd : List UInt8} (h : RsAt l i os wd) (hi : i < l.length) (he : i + 1 = l.length ∨ (i + 1 < l.length ∧ spN (dgt l (i + 1)) ≠ spN (dgt l i))) (c : UInt8) (hc : l.drop i = c :: l.drop (i + 1)) (hn : c.toNat = dgt l i) : RsAt l (i + 1) (os ++ [wd ++ [c]]) [] := by
  obtain ⟨h1, h2, h3⟩ := h
  have hsc : sp c = spN (dgt l i) := by rw [sp, hn]
  have ho : OneS (spN (dgt l i)) (wd ++ [c]) := by
    rcases h2 with h2 | ⟨_, h2⟩
    · rw [h2]; exact one_snoc (fun b hb => by cases hb) hsc
    · exact one_snoc h2 hsc
  refine ⟨?_, Or.inl rfl, by rw [List.length_append]; simp; omega⟩
  rw [h1, hc]
  have : wd ++ c :: l.drop (i + 1) = (wd ++ [c]) ++ l.drop (i + 1) := by simp
  rw [this, grp_one (by simp) ho (off_drop l (i + 1) _ he), List.append_assoc]; rfl
theorem RsAt.goes {l : List UInt8} {i : Nat} {os : List (List UInt8)} {wd : List UInt8} (h : RsAt l i os wd) (hi : i + 1 < l.length) (he : spN (dgt l (i + 1)) = spN (dgt l i)) (c : UInt8) (hc : l.drop i = c :: l.drop (i + 1)) (hn : c.toNat = dgt l i) : RsAt l (i + 1) os (wd ++ [c]) := by
  obtain ⟨h1, h2, h3⟩ := h
  have hsc : sp c = spN (dgt l i) := by rw [sp, hn]
  have ho : OneS (spN (dgt l i)) (wd ++ [c]) := by
    rcases h2 with h2 | ⟨_, h2⟩
    · rw [h2]; exact one_snoc (fun b hb => by cases hb) hsc
    · exact one_snoc h2 hsc
  refine ⟨by rw [h1, hc]; simp, Or.inr ⟨hi, by rw [he]; exact ho⟩, by rw [List.length_append]; simp; omega⟩
theorem RsAt.last {l : List UInt8} {os : List (List UInt8)} {wd : List UInt8} (h : RsAt l l.length os wd) : grp l = os := by
  obtain ⟨h1, h2, _⟩ := h
  rcases h2 with h2 | ⟨h2, _⟩
  · rw [h1, h2, List.drop_length]; simp [grp]
  · omega
set_option maxHeartbeats 4000000 in
set_option maxRecDepth 100000 in
theorem rsplit_any (s : ByteArray) (w : World) (hs : s.size ≤ 100000) :
    Calls Try.prog 11 #[.string s] w (SplitSaid s.data.toList w) := by
  have C := hide rspace_any
  obtain ⟨i0, hi0, hz0, hz1, hz2⟩ := info_parts Try.infoStr
  unfold SplitSaid
  go_enter Try.func11, Try.ntmps11
  go_wp2
  go_loopw [5, 4, 3] (fun i t v wr => ∃ (k : Nat) (os : List (List UInt8)) (wd : List UInt8), k ≤ s.size ∧ i = .int .i64 (k : Int) ∧ t = .string (bs wd) ∧ RsAt s.data.toList k os wd ∧ wr.ownsRow w.heap.size 9 1 v (bsL os).length ((bsL os).map Value.string) ∧ Below w.heap.size w wr) (fun i _ _ _ => s.size - (intOf i).toNat)
  case atStart => exact ⟨0, [], [], Nat.zero_le _, rfl, rfl, ⟨rfl, Or.inl rfl, Nat.le_refl _⟩, World.ownsRow_nil _ _ _ _, Below.refl _ _⟩
  case round =>
    obtain ⟨k, os, wd, hk, rfl, rfl, hat, hown, hbw⟩ := hrel
    have HAT := hide hat
    have HW := hide hown
    have HB := hide hbw
    obtain ⟨vq, vn, vc, hv⟩ := slice_of hown
    subst hv
    have hzw := hbw.size
    have hol := hat.2.2
    by_cases hp : k < s.size
    · have hki : (k : Int) < (s.size : Int) := by omega
      have hkl : k < s.data.toList.length := by rw [data_len]; exact hp
      obtain ⟨c, hc, hn⟩ := drop_at s.data.toList k hkl
      have e1 := dgt_at s k hp
      have HC := hide hc
      have HN := hide hn
      have hx : s.extract k (k + 1) = bs [c] := by rw [extract_take s k 1, hc]; rfl
      have hx2 : bs wd ++ bs [c] = bs (wd ++ [c]) := bs_bs _ _
      have hcat : ¬ 9223372036854775807 < (bs wd).size + (bs [c]).size := by rw [bs_size, bs_size]; simp; omega
      by_cases hend : k + 1 = s.size
      · have hd1 : ((k : Int) == (s.size : Int) - 1) = true := by rw [beq_iff_eq]; omega
        have hds : (s.size : Int) - 1 = (k : Int) := by omega
        have hwr : IntKind.i64.wrap (k : Int) = (k : Int) := by rw [IntKind.wrap_i64]; omega
        have HE := hide (hat.ends hkl (Or.inl (by rw [data_len]; exact hend)) c hc hn)
        have HEND := hide hend
        generalize dgt s.data.toList k = b at *
        clear hat hown hbw hc hn hend
        go_wp2
        go_quiet (fail)
        go_wp2_with (at_builtin; refine wpList_append_own_at _ rfl _ _ 24 rfl w.heap.size 9 i0 (.string ⟨#[]⟩) 1 16 Try.underlying24 hi0 hz0 hz1 hz2 rfl (by decide) (.slice vq vn vc) _ _ rfl ((unhide HW).alloc _) ⟨wr.heap.size, 0, none⟩ 1 1 [.string (bs (wd ++ [c]))] rfl rfl (cell_one_new _ _ _) (by simp [Value.oneCell']) (by rw [bsL_len]; simp only [maxLen]; omega) (by rw [bsL_len]; omega) (by simp; omega) ?_)
        intro u' w3 hown' hgr _ _
        have HO : Hid (w3.ownsRow w.heap.size 9 1 u' (bsL (os ++ [wd ++ [c]])).length ((bsL (os ++ [wd ++ [c]])).map Value.string)) := hide (by
          have e : bsL (os ++ [wd ++ [c]]) = bsL os ++ [bs (wd ++ [c])] := by unfold bsL; rw [List.map_append]; rfl
          rw [e, List.length_append, List.map_append]
          exact hown')
        have HB3 : Hid (Below w.heap.size w w3) := hide (((below_drewN (unhide HB) _).alloc (by show w.heap.size ≤ wr.heap.size; omega) _).grown hgr (by simp; omega) (fun q hq => ((unhide HW).lt q hq).1))
        clear hown' hgr
        go_wp2
        go_roundw
        case rel => exact ⟨k + 1, _, [], by omega, by go_num, rfl, unhide HE, unhide HO, unhide HB3⟩
        case measure => simp [intOf]; omega
      · have hlt : k + 1 < s.size := by omega
        have hki2 : (k : Int) + 1 < (s.size : Int) := by omega
        have e2 := dgt_at s (k + 1) hlt
        obtain ⟨N1, hN1⟩ : ∃ N1, s.size = N1 + 1 := ⟨s.size - 1, by omega⟩
        have hds : (s.size : Int) - 1 = (N1 : Int) := by omega
        have hwr : IntKind.i64.wrap (N1 : Int) = (N1 : Int) := by rw [IntKind.wrap_i64]; omega
        have hkn : ((k : Int) == (N1 : Int)) = false := beq_eq_false_iff_ne.2 (by omega)
        have h1 := fun h => hat.ends hkl (Or.inr ⟨by rw [data_len]; exact hlt, h⟩) c hc hn
        have h2 := fun h => hat.goes (by rw [data_len]; exact hlt) h c hc hn
        have HLT := hide hlt
        have HN1 := hide hN1
        generalize dgt s.data.toList k = b at *
        generalize dgt s.data.toList (k + 1) = b2 at *
        by_cases hsp : spN b2 = spN b
        · have HE := hide (h2 hsp)
          obtain ⟨p, hpp⟩ : ∃ p, spN b = p := ⟨_, rfl⟩
          rw [hpp] at hsp
          have hbb : (p != p) = false := by simp
          clear hat hown hbw hc hn hend h1 h2 hN1
          go_wp2
          go_quiet ((go_at_call 25; exact Calls.quiet_of_same (unhide C _ _)))
          go_wp2
          go_roundw
          case rel => exact ⟨k + 1, os, wd ++ [c], by omega, by go_num, rfl, unhide HE, unhide HW, below_drewN (unhide HB) _⟩
          case measure => simp [intOf]; omega
        · have HE := hide (h1 hsp)
          obtain ⟨p, hpp⟩ : ∃ p, spN b = p := ⟨_, rfl⟩
          obtain ⟨p2, hpp2⟩ : ∃ p2, spN b2 = p2 := ⟨_, rfl⟩
          rw [hpp, hpp2] at hsp
          have hp2 : p2 = !p := by cases p <;> cases p2 <;> simp_all
          subst hp2
          clear hat hown hbw hc hn hend h1 h2 hN1 hsp
          cases p with
          | true =>
            go_wp2
            go_quiet ((go_at_call 25; exact Calls.quiet_of_same (unhide C _ _)))
            go_wp2_with (at_builtin; refine wpList_append_own_at _ rfl _ _ 24 rfl w.heap.size 9 i0 (.string ⟨#[]⟩) 1 16 Try.underlying24 hi0 hz0 hz1 hz2 rfl (by decide) (.slice vq vn vc) _ _ rfl ((unhide HW).alloc _) ⟨wr.heap.size, 0, none⟩ 1 1 [.string (bs (wd ++ [c]))] rfl rfl (cell_one_new _ _ _) (by simp [Value.oneCell']) (by rw [bsL_len]; simp only [maxLen]; omega) (by rw [bsL_len]; omega) (by simp; omega) ?_)
            intro u' w3 hown' hgr _ _
            have HO : Hid (w3.ownsRow w.heap.size 9 1 u' (bsL (os ++ [wd ++ [c]])).length ((bsL (os ++ [wd ++ [c]])).map Value.string)) := hide (by
              have e : bsL (os ++ [wd ++ [c]]) = bsL os ++ [bs (wd ++ [c])] := by unfold bsL; rw [List.map_append]; rfl
              rw [e, List.length_append, List.map_append]
              exact hown')
            have HB3 : Hid (Below w.heap.size w w3) := hide (((below_drewN (unhide HB) _).alloc (by show w.heap.size ≤ wr.heap.size; omega) _).grown hgr (by simp; omega) (fun q hq => ((unhide HW).lt q hq).1))
            clear hown' hgr
            go_wp2
            go_roundw
            case rel => exact ⟨k + 1, _, [], by omega, by go_num, rfl, unhide HE, unhide HO, unhide HB3⟩
            case measure => simp [intOf]; omega
          | false =>
            go_wp2
            go_quiet ((go_at_call 25; exact Calls.quiet_of_same (unhide C _ _)))
            go_wp2_with (at_builtin; refine wpList_append_own_at _ rfl _ _ 24 rfl w.heap.size 9 i0 (.string ⟨#[]⟩) 1 16 Try.underlying24 hi0 hz0 hz1 hz2 rfl (by decide) (.slice vq vn vc) _ _ rfl ((unhide HW).alloc _) ⟨wr.heap.size, 0, none⟩ 1 1 [.string (bs (wd ++ [c]))] rfl rfl (cell_one_new _ _ _) (by simp [Value.oneCell']) (by rw [bsL_len]; simp only [maxLen]; omega) (by rw [bsL_len]; omega) (by simp; omega) ?_)
            intro u' w3 hown' hgr _ _
            have HO : Hid (w3.ownsRow w.heap.size 9 1 u' (bsL (os ++ [wd ++ [c]])).length ((bsL (os ++ [wd ++ [c]])).map Value.string)) := hide (by
              have e : bsL (os ++ [wd ++ [c]]) = bsL os ++ [bs (wd ++ [c])] := by unfold bsL; rw [List.map_append]; rfl
              rw [e, List.length_append, List.map_append]
              exact hown')
            have HB3 : Hid (Below w.heap.size w w3) := hide (((below_drewN (unhide HB) _).alloc (by show w.heap.size ≤ wr.heap.size; omega) _).grown hgr (by simp; omega) (fun q hq => ((unhide HW).lt q hq).1))
            clear hown' hgr
            go_wp2
            go_roundw
            case rel => exact ⟨k + 1, _, [], by omega, by go_num, rfl, unhide HE, unhide HO, unhide HB3⟩
            case measure => simp [intOf]; omega
    · have hke : k = s.data.toList.length := by rw [data_len]; omega
      have hpi : ¬ (k : Int) < (s.size : Int) := by omega
      have HF : Hid (grp s.data.toList = os) := hide (by rw [hke] at hat; exact hat.last)
      clear hat hown hbw hke
      go_wp2
      go_ret
      exact ⟨_, rfl, by rw [unhide HF]; exact unhide HW, unhide HB⟩
end Go.Proofs.Ytfbgpodcdgmpjaa
