/-
  What the reference's Words does: of every text, its words, in new memory.
-/
import Derived.Test.YtgdhnpjblnhjmaaDoorCWo
namespace Go.Proofs.YtgdhnpjblnhjmaaDoor
open Go.RowKit
set_option linter.unusedVariables false

/-- What is still to be told, from a place on: at a word's beginning all, within a word what is behind it. -/
def restW (l : List UInt8) (k : Nat) : List (List UInt8) :=
  if k = 0 ∨ spN (dgt l (k - 1)) = true then wordsG [] (l.drop k) else wordsG [] ((l.drop k).dropWhile nsp)
theorem restW_0 (l : List UInt8) : restW l 0 = wordsL l := by rw [restW, if_pos (.inl rfl)]; rfl
theorem restW_behind {l : List UInt8} {k : Nat} (h : spN (dgt l k) = true) : restW l (k + 1) = wordsG [] (l.drop (k + 1)) := by
  rw [restW, if_pos (.inr (by simpa using h))]
theorem restW_in {l : List UInt8} {k : Nat} (h : spN (dgt l k) = false) : restW l (k + 1) = wordsG [] ((l.drop (k + 1)).dropWhile nsp) := by
  rw [restW, if_neg (by simp [h])]
theorem restW_sp {l : List UInt8} {k : Nat} (hk : k < l.length) (hs : spN (dgt l k) = true) : restW l k = restW l (k + 1) := by
  obtain ⟨c, hc, hn⟩ := drop_at l k hk
  have h1 : sp c = true := by rw [sp, hn]; exact hs
  rw [restW_behind hs, restW, hc]
  have h2 : nsp c = false := by simp [nsp, h1]
  split
  · rw [wordsG_sp0 h1]
  · rw [List.dropWhile_cons, h2, if_neg (by decide), wordsG_sp0 h1]
theorem restW_go {l : List UInt8} {k : Nat} (hk : k < l.length) (hs : spN (dgt l k) = false) (h0 : 0 < k) (hp : spN (dgt l (k - 1)) = false) : restW l k = restW l (k + 1) := by
  obtain ⟨c, hc, hn⟩ := drop_at l k hk
  have h1 : sp c = false := by rw [sp, hn]; exact hs
  have h2 : nsp c = true := by simp [nsp, h1]
  have h3 : ¬ (k = 0 ∨ spN (dgt l (k - 1)) = true) := by rw [hp]; simp; omega
  rw [restW_in hs, restW, if_neg h3, hc, List.dropWhile_cons, h2, if_pos rfl]
theorem run_of : ∀ (n : Nat) (l : List UInt8), n ≤ l.length → (∀ j, j < n → spN (dgt l j) = false) → (n = l.length ∨ spN (dgt l n) = true) → l.takeWhile nsp = l.take n
  | 0, l, h, h1, h2 => by
    cases l with
    | nil => rfl
    | cons c l =>
      rcases h2 with h2 | h2
      · simp at h2
      · have h3 : nsp c = false := by simp [nsp, sp]; exact h2
        rw [List.takeWhile_cons, h3]; rfl
  | n + 1, [], h, _, _ => by simp at h
  | n + 1, c :: l, h, h1, h2 => by
    have h3 : nsp c = true := by simp [nsp, sp]; exact h1 0 (by omega)
    rw [List.takeWhile_cons, h3, if_pos rfl, run_of n l (by simpa using h) (fun j hj => h1 (j + 1) (by omega)) (by
      rcases h2 with h2 | h2
      · exact .inl (by simpa using h2)
      · exact .inr h2)]
    rfl
theorem restW_word {l : List UInt8} {k z : Nat} (hk : k < l.length) (hs : spN (dgt l k) = false) (h0 : k = 0 ∨ spN (dgt l (k - 1)) = true) (hkz : k ≤ z) (hz : z ≤ l.length) (h1 : ∀ j, k ≤ j → j < z → spN (dgt l j) = false) (h2 : z = l.length ∨ spN (dgt l z) = true) :
    restW l k = cur l k z :: restW l (k + 1) := by
  obtain ⟨c, hc, hn⟩ := drop_at l k hk
  have h3 : sp c = false := by rw [sp, hn]; exact hs
  have h4 : nsp c = true := by simp [nsp, h3]
  have hrun := run_of (z - k) (l.drop k) (by simp; omega) (fun j hj => by rw [dgt_drop]; exact h1 (k + j) (by omega) (by omega)) (by
    rcases h2 with h2 | h2
    · exact .inl (by simp; omega)
    · exact .inr (by rw [dgt_drop, show k + (z - k) = z from by omega]; exact h2))
  have hne : [] ++ (l.drop k).takeWhile nsp ≠ [] := by rw [hc, List.takeWhile_cons, h4]; simp
  rw [restW, if_pos h0, wordsG_run _ _ hne, hrun, List.nil_append, restW_in hs]
  congr 1
  rw [hc, List.dropWhile_cons, h4, if_pos rfl]
theorem restW_end {l : List UInt8} {k : Nat} (h : l.length ≤ k) : restW l k = [] := by
  rw [restW, List.drop_eq_nil_of_le h]
  split <;> simp [wordsG]

set_option maxHeartbeats 4000000 in
theorem rwords_any (s : ByteArray) (w : World) (hs : s.size ≤ 100000) :
    Calls Tryd.prog 26 #[.string s] w fun e w' => WordsPost w s.data.toList e w' := by
  have C := hide rspace_any
  obtain ⟨i0, hi, hz0, hz1, hz2⟩ := info_parts Tryd.infoStr
  obtain ⟨cap, CA, hcv, hC1, hC2⟩ := bytes_conv s w
  clear hC1 hC2
  go_enter Tryd.func26, Tryd.ntmps26
  go_wp2
  go_loopw [3, 9] (fun v i wr => ∃ (k : Nat) (ws : List ByteArray), k ≤ s.size ∧ i = .int .i64 k ∧ ws.length ≤ k ∧
      txt (wordsL s.data.toList) = ws ++ txt (restW s.data.toList k) ∧ wr.ownsRow w.heap.size 9 1 v ws.length (ws.map Value.string) ∧ Below w.heap.size w wr) (fun _ i _ => s.size - (intOf i).toNat)
  case atStart => exact ⟨0, [], Nat.zero_le _, rfl, Nat.le_refl _, by rw [restW_0]; rfl, World.ownsRow_nil _ _ _ _, ((Below.refl _ _).alloc (Nat.le_refl _) _).drew⟩
  case round =>
    obtain ⟨k, ws, hk, rfl, hwl, hr, hown, hbw⟩ := hrel
    have HR := hide hr
    have HL := hide hwl
    clear hr hwl
    by_cases hp : k < s.size
    · have hpi : (k : Int) < (s.size : Int) := by omega
      have hkl : k < s.data.toList.length := by rw [data_len]; exact hp
      have e := dgt_at s k hp
      have n1 := restW_sp hkl
      have n2 := restW_go hkl
      have n3 := fun (z : Nat) h1 h2 h3 h4 h5 h6 => restW_word (z := z) hkl h1 h2 h3 h4 h5 h6
      have CB := hide (unhide C (dgt s.data.toList k))
      have CP := hide (unhide C (dgt s.data.toList (k - 1)))
      have e2 := dgt_at s (k - 1) (by omega)
      generalize hdk : dgt s.data.toList k = b at *
      generalize hdp : dgt s.data.toList (k - 1) = b2 at *
      have HDK := hide hdk
      clear hdk hdp
      cases hb : spN b with
      | true =>
        have N := hide (n1 hb)
        rw [hb] at CB
        clear n1 n2 n3 hb CP e2
        go_wp2_with fail
        refine (unhide CB _).mono ?_
        rintro e1 w1 ⟨rfl, rfl⟩
        go_wp2
        go_roundw
        case rel => exact ⟨k + 1, ws, by omega, by go_num, by have := unhide HL; omega, by rw [unhide HR, unhide N], hown, hbw⟩
        case measure => simp [intOf]; omega
      | false =>
        rw [hb] at CB
        by_cases h0 : 0 < k
        · have h0i : (0 : Int) < (k : Int) := by omega
          have hi0 : (0 : Int) ≤ (k : Int) - 1 := by omega
          have hi1 : (k : Int) - 1 < (s.size : Int) := by omega
          have hi2 : ((k : Int) - 1).toNat = k - 1 := by omega
          cases hb2 : spN b2 with
          | false =>
            have N := hide (n2 hb h0 hb2)
            rw [hb2] at CP
            clear n1 n2 n3 hb hb2
            go_wp2_with fail
            refine (unhide CB _).mono ?_
            rintro e1 w1 ⟨rfl, rfl⟩
            go_wp2_with fail
            refine (unhide CP _).mono ?_
            rintro e1 w1 ⟨rfl, rfl⟩
            go_wp2
            go_roundw
            case rel => exact ⟨k + 1, ws, by omega, by go_num, by have := unhide HL; omega, by rw [unhide HR, unhide N], hown, hbw⟩
            case measure => simp [intOf]; omega
          | true =>
            have N := hide (fun z => n3 z hb (.inr hb2))
            rw [hb2] at CP
            have HB := hide hb
            clear n1 n2 n3 hb hb2
            go_wp2_with fail
            refine (unhide CB _).mono ?_
            rintro e1 w1 ⟨rfl, rfl⟩
            go_wp2_with fail
            refine (unhide CP _).mono ?_
            rintro e1 w1 ⟨rfl, rfl⟩
            go_wp2
            clear hi0 hi1 hi2 e2 e CP CB
            go_loopw [5] (fun vz wr => ∃ z : Nat, k ≤ z ∧ z ≤ s.size ∧ vz = .int .i64 z ∧ wr = w1 ∧ ∀ j, k ≤ j → j < z → spN (dgt s.data.toList j) = false) (fun vz _ => s.size - (intOf vz).toNat)
            case atStart => exact ⟨k, Nat.le_refl _, by omega, rfl, rfl, fun j h1 h2 => by omega⟩
            case round =>
              obtain ⟨z, hz1', hz2', rfl, rfl, hall⟩ := hrel
              have HA := hide hall
              have hkz : (k : Int) ≤ (z : Int) := by omega
              have hzs : (z : Int) ≤ (s.size : Int) := by omega
              have hk0 : (0 : Int) ≤ (k : Int) := by omega
              clear hall
              by_cases hzp : z < s.size
              · have hzi : (z : Int) < (s.size : Int) := by omega
                have e := dgt_at s z hzp
                have CB := hide (unhide C (dgt s.data.toList z))
                generalize hdz : dgt s.data.toList z = bz at *
                have HDZ := hide hdz
                clear hdz
                cases hbz : spN bz with
                | false =>
                  rw [hbz] at CB
                  have HBZ := hide hbz
                  clear hbz
                  go_wp2_with fail
                  refine (unhide CB _).mono ?_
                  rintro e1 w1 ⟨rfl, rfl⟩
                  go_wp2
                  go_roundw
                  case rel => exact ⟨z + 1, by omega, by omega, by go_num, by first | exact rfl | trivial, fun j h1 h2 => by
                    by_cases hj : j = z
                    · rw [hj, unhide HDZ]; exact unhide HBZ
                    · exact unhide HA j h1 (by omega)⟩
                  case measure => simp [intOf]; omega
                | true =>
                  rw [hbz] at CB
                  have N2 := hide (unhide N z hz1' (by rw [data_len]; omega) (unhide HA) (.inr (by rw [unhide HDZ]; exact hbz)))
                  have X := hide (cur_extract s k z hz1')
                  clear hbz
                  go_wp2_with fail
                  refine (unhide CB _).mono ?_
                  rintro e1 w1 ⟨rfl, rfl⟩
                  go_wp2_with (at_builtin; refine wpList_append_own _ rfl _ _ 32 rfl w.heap.size 9 i0 (.string ⟨#[]⟩) 1 16 Tryd.underlying32 hi hz0 hz1 hz2 rfl (by decide) _ _ _ rfl (hown.alloc _) ⟨w1.heap.size, 0, none⟩ 1 1 [.string (s.extract k z)] rfl rfl ?c1 ?c2 ?c3 ?c4 ?c5 ?_)
                  case c1 => exact cell_one_new _ _ _
                  case c2 => first | rfl | (intro u hu; simp at hu; subst hu; rfl)
                  case c3 => have := unhide HL; first | (unfold maxLen; omega) | (simp; unfold maxLen; omega) | (simp [maxLen]; omega)
                  case c4 => have := unhide HL; first | omega | (simp; omega)
                  case c5 => have := hbw.size; simp; omega
                  intro v' w2 hown' hgrow _
                  have hbig : Below w.heap.size w w2 := (hbw.alloc (by have := hbw.size; omega) _).grown hgrow (by have := hbw.size; simp; omega) (fun j hj => (hown.lt j hj).1)
                  clear hgrow
                  go_wp2
                  go_roundw
                  case rel => exact ⟨k + 1, ws ++ [s.extract k z], by omega, by go_num, by have := unhide HL; simp; omega, by rw [unhide HR, unhide N2, txt_cons, unhide X, List.append_assoc]; rfl, by simpa using hown', hbig⟩
                  case measure => simp [intOf]; omega
              · have hzi : ¬ (z : Int) < (s.size : Int) := by omega
                have hd : decide ((z : Int) < (s.size : Int)) = false := by simp; omega
                have N2 := hide (unhide N z hz1' (by rw [data_len]; omega) (unhide HA) (.inl (by rw [data_len]; omega)))
                have X := hide (cur_extract s k z hz1')
                go_wp2_with (at_builtin; refine wpList_append_own _ rfl _ _ 32 rfl w.heap.size 9 i0 (.string ⟨#[]⟩) 1 16 Tryd.underlying32 hi hz0 hz1 hz2 rfl (by decide) _ _ _ rfl (hown.alloc _) ⟨wr.heap.size, 0, none⟩ 1 1 [.string (s.extract k z)] rfl rfl ?e1 ?e2 ?e3 ?e4 ?e5 ?_)
                case e2 => first | rfl | (intro u hu; simp at hu; subst hu; rfl)
                case e3 => have := unhide HL; first | (unfold maxLen; omega) | (simp; unfold maxLen; omega) | (simp [maxLen]; omega)
                case e4 => have := unhide HL; first | omega | (simp; omega)
                case e5 => have := hbw.size; simp; omega
                intro v' w2 hown' hgrow _
                have hbig : Below w.heap.size w w2 := (hbw.alloc (by have := hbw.size; omega) _).grown hgrow (by have := hbw.size; simp; omega) (fun j hj => (hown.lt j hj).1)
                clear hgrow
                go_wp2
                go_roundw
                case rel => exact ⟨k + 1, ws ++ [s.extract k z], by omega, by go_num, by have := unhide HL; simp; omega, by rw [unhide HR, unhide N2, txt_cons, unhide X, List.append_assoc]; rfl, by simpa using hown', hbig⟩
                case measure => simp [intOf]; omega
        · have N := hide (fun z => n3 z hb (.inl (by omega)))
          have HB := hide hb
          have hd0 : decide ((0 : Int) < (k : Int)) = false := by simp; omega
          have hd1 : ¬ (0 : Int) < (k : Int) := by omega
          have hd2 : ¬ 0 < k := by omega
          clear n1 n2 n3 hb h0 CP e2
          go_wp2_with fail
          refine (unhide CB _).mono ?_
          rintro e1 w1 ⟨rfl, rfl⟩
          go_wp2
          clear e CB hd0 hd1 hd2
          go_loopw [5] (fun vz wr => ∃ z : Nat, k ≤ z ∧ z ≤ s.size ∧ vz = .int .i64 z ∧ wr = w1 ∧ ∀ j, k ≤ j → j < z → spN (dgt s.data.toList j) = false) (fun vz _ => s.size - (intOf vz).toNat)
          case atStart => exact ⟨k, Nat.le_refl _, by omega, rfl, rfl, fun j h1 h2 => by omega⟩
          case round =>
            obtain ⟨z, hz1', hz2', rfl, rfl, hall⟩ := hrel
            have HA := hide hall
            have hkz : (k : Int) ≤ (z : Int) := by omega
            have hzs : (z : Int) ≤ (s.size : Int) := by omega
            have hk0 : (0 : Int) ≤ (k : Int) := by omega
            clear hall
            by_cases hzp : z < s.size
            · have hzi : (z : Int) < (s.size : Int) := by omega
              have e := dgt_at s z hzp
              have CB := hide (unhide C (dgt s.data.toList z))
              generalize hdz : dgt s.data.toList z = bz at *
              have HDZ := hide hdz
              clear hdz
              cases hbz : spN bz with
              | false =>
                rw [hbz] at CB
                have HBZ := hide hbz
                clear hbz
                go_wp2_with fail
                refine (unhide CB _).mono ?_
                rintro ez w1 ⟨rfl, rfl⟩
                go_wp2
                go_roundw
                case rel => exact ⟨z + 1, by omega, by omega, by go_num, by first | exact rfl | trivial, fun j h1 h2 => by
                  by_cases hj : j = z
                  · rw [hj, unhide HDZ]; exact unhide HBZ
                  · exact unhide HA j h1 (by omega)⟩
                case measure => simp [intOf]; omega
              | true =>
                rw [hbz] at CB
                have N2 := hide (unhide N z hz1' (by rw [data_len]; omega) (unhide HA) (.inr (by rw [unhide HDZ]; exact hbz)))
                have X := hide (cur_extract s k z hz1')
                clear hbz
                go_wp2_with fail
                refine (unhide CB _).mono ?_
                rintro ez w1 ⟨rfl, rfl⟩
                go_wp2_with (at_builtin; refine wpList_append_own _ rfl _ _ 32 rfl w.heap.size 9 i0 (.string ⟨#[]⟩) 1 16 Tryd.underlying32 hi hz0 hz1 hz2 rfl (by decide) _ _ _ rfl (hown.alloc _) ⟨w1.heap.size, 0, none⟩ 1 1 [.string (s.extract k z)] rfl rfl ?cx1 ?cx2 ?cx3 ?cx4 ?cx5 ?_)
                case cx1 => exact cell_one_new _ _ _
                case cx2 => first | rfl | (intro u hu; simp at hu; subst hu; rfl)
                case cx3 => have := unhide HL; first | (unfold maxLen; omega) | (simp; unfold maxLen; omega) | (simp [maxLen]; omega)
                case cx4 => have := unhide HL; first | omega | (simp; omega)
                case cx5 => have := hbw.size; simp; omega
                intro v' w2 hown' hgrow _
                have hbig : Below w.heap.size w w2 := (hbw.alloc (by have := hbw.size; omega) _).grown hgrow (by have := hbw.size; simp; omega) (fun j hj => (hown.lt j hj).1)
                clear hgrow
                go_wp2
                go_roundw
                case rel => exact ⟨k + 1, ws ++ [s.extract k z], by omega, by go_num, by have := unhide HL; simp; omega, by rw [unhide HR, unhide N2, txt_cons, unhide X, List.append_assoc]; rfl, by simpa using hown', hbig⟩
                case measure => simp [intOf]; omega
            · have hzi : ¬ (z : Int) < (s.size : Int) := by omega
              have hd : decide ((z : Int) < (s.size : Int)) = false := by simp; omega
              have N2 := hide (unhide N z hz1' (by rw [data_len]; omega) (unhide HA) (.inl (by rw [data_len]; omega)))
              have X := hide (cur_extract s k z hz1')
              go_wp2_with (at_builtin; refine wpList_append_own _ rfl _ _ 32 rfl w.heap.size 9 i0 (.string ⟨#[]⟩) 1 16 Tryd.underlying32 hi hz0 hz1 hz2 rfl (by decide) _ _ _ rfl (hown.alloc _) ⟨wr.heap.size, 0, none⟩ 1 1 [.string (s.extract k z)] rfl rfl ?ex1 ?ex2 ?ex3 ?ex4 ?ex5 ?_)
              case ex2 => first | rfl | (intro u hu; simp at hu; subst hu; rfl)
              case ex3 => have := unhide HL; first | (unfold maxLen; omega) | (simp; unfold maxLen; omega) | (simp [maxLen]; omega)
              case ex4 => have := unhide HL; first | omega | (simp; omega)
              case ex5 => have := hbw.size; simp; omega
              intro v' w2 hown' hgrow _
              have hbig : Below w.heap.size w w2 := (hbw.alloc (by have := hbw.size; omega) _).grown hgrow (by have := hbw.size; simp; omega) (fun j hj => (hown.lt j hj).1)
              clear hgrow
              go_wp2
              go_roundw
              case rel => exact ⟨k + 1, ws ++ [s.extract k z], by omega, by go_num, by have := unhide HL; simp; omega, by rw [unhide HR, unhide N2, txt_cons, unhide X, List.append_assoc]; rfl, by simpa using hown', hbig⟩
              case measure => simp [intOf]; omega
    · have hw : txt (wordsL s.data.toList) = ws := by rw [unhide HR, restW_end (by rw [data_len]; omega), txt_nil, List.append_nil]
      have W := hide hw
      clear hw
      go_wp2
      go_ret
      exact ⟨_, rfl, by rw [unhide W]; exact hown, hbw⟩
end Go.Proofs.YtgdhnpjblnhjmaaDoor
