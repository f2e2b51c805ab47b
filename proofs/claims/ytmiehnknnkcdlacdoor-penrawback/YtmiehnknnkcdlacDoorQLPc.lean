/-
  The law PenCharsBack walked: characters that were written are read as just those, if a tag, or nothing, is behind them.
-/
import Derived.Test.YtmiehnknnkcdlacDoorQLLk
import Derived.Test.YtmiehnknnkcdlacDoorQTNc
import Derived.Test.YtmiehnknnkcdlacDoorQEBk
namespace Go.Proofs.YtmiehnknnkcdlacDoor
open Go.RowKit
set_option linter.unusedVariables false

theorem esc_ne {l : List UInt8} (v : Bool) (h : l ≠ []) : escL v l ≠ [] := by
  intro e
  have := all_esc v l.length l (Nat.le_refl _)
  rw [e, allL_nil, cleanL_cons h] at this
  exact ub_ne _ _ this.symm
theorem dgt_app2 (a b : List UInt8) (k : Nat) : dgt (a ++ b) (a.length + k) = dgt b k := by
  unfold dgt; rw [List.getD, List.getD, List.getElem?_append_right (by omega), Nat.add_sub_cancel_left]
/-- Up to the end of what was escaped no < stands. -/
theorem esc_low {l C : List UInt8} {j : Nat} (h : j < (escL false l).length) : ¬ dgt (escL false l ++ C) j = 60 := by
  rw [dgt_app _ _ _ h]; exact (esc_safe_at false l j h).1
theorem low_name {l : List UInt8} (h : nameB l = true) : lowL l = l := by
  unfold nameB at h
  rw [Bool.and_eq_true, Bool.and_eq_true] at h
  have ha := List.all_eq_true.1 h.2.2
  unfold lowL
  have : l.map lowB = l.map id := List.map_congr_left (fun c hc => by
    have hk := ha c hc
    show lowB c = c
    unfold lowB
    have hu : upN c.toNat = false := by
      apply upN_no
      intro hu
      unfold okN smN dgN at hk
      simp at hk
      omega
    rw [hu]; rfl)
  rw [this, List.map_id]
theorem name_pos {l : List UInt8} (h : nameB l = true) : 0 < l.length ∧ l.length ≤ 24 := by
  unfold nameB at h
  rw [Bool.and_eq_true] at h
  exact of_decide_eq_true h.1
theorem seek_esc {l C : List UInt8} {X : ByteArray} (hX : X.data.toList = escL false l ++ C) (hC : C = [] ∨ beginsB C = true) : seekN (begP X) X.size 0 = (escL false l).length := by
  have hz : X.size = (escL false l).length + C.length := by rw [← data_len, hX, List.length_append]
  refine seek_to (begP X) X.size (escL false l).length (by omega) (fun h => ?_) (escL false l).length 0 (by omega) (fun j _ hj => ?_)
  · unfold begP
    rw [hX, List.drop_left]
    rcases hC with hC | hC
    · rw [hC] at hz; simp at hz; omega
    · exact hC
  · unfold begP
    rw [hX]
    exact begins_no (fun h => by rw [dgt_drop, Nat.add_zero] at h; exact esc_low hj h.2)
theorem begin_esc {l C : List UInt8} {X : ByteArray} (hX : X.data.toList = escL false l ++ C) (hl : l ≠ []) : begP X 0 = false := by
  unfold begP
  rw [hX, List.drop_zero]
  exact begins_no (fun h => esc_low (List.length_pos_iff.2 (esc_ne false hl)) h.2)
theorem begins_close {n : List UInt8} (h : nameB n = true) : beginsB (closeL n) = true := by
  have := name_pos h
  rw [begins_is ⟨by unfold closeL; simp <;> omega, rfl⟩]
  have e : dgt (closeL n) 1 = 47 := rfl
  have e2 : 2 < (closeL n).length := by unfold closeL; simp <;> omega
  rw [e, decide_eq_true (show (47 : Nat) = 47 ∧ 2 < (closeL n).length from ⟨rfl, e2⟩)]
  simp
theorem last_close {n : List UInt8} (h : nameB n = true) : lastB (closeL n) n = true := by
  have hp := name_pos h
  unfold lastB
  have e1 : [60, 47].isPrefixOf (closeL n) = true := rfl
  have e2 : n ≠ [] ∧ n.length + 2 < (closeL n).length := ⟨List.length_pos_iff.1 hp.1, by unfold closeL; simp <;> omega⟩
  have e3 : dgt (closeL n) (2 + n.length) = 62 := by
    have : closeL n = ([60, 47] ++ n) ++ [62] := by unfold closeL; simp
    rw [this, show 2 + n.length = ([60, 47] ++ n).length + 0 by simp; omega, dgt_app2]; rfl
  have e4 : ((closeL n).drop 2).take n.length = n := by unfold closeL; simp
  rw [e1, decide_eq_true e2, e3, e4, low_name h]
  simp [enB]
theorem seek_last {l n : List UInt8} {X N : ByteArray} (hX : X.data.toList = escL false l ++ closeL n) (hN : N.data.toList = n) (hn : nameB n = true) : seekN (lastP X N) X.size 0 = (escL false l).length := by
  have hz : X.size = (escL false l).length + (closeL n).length := by rw [← data_len, hX, List.length_append]
  refine seek_to (lastP X N) X.size (escL false l).length (by omega) (fun h => ?_) (escL false l).length 0 (by omega) (fun j _ hj => ?_)
  · unfold lastP
    rw [hX, List.drop_left, hN]; exact last_close hn
  · unfold lastP lastB
    have : [60, 47].isPrefixOf (X.data.toList.drop j) = false := by
      cases e : [60, 47].isPrefixOf (X.data.toList.drop j) with
      | false => rfl
      | true =>
        exfalso
        obtain ⟨t, ht⟩ := List.isPrefixOf_iff_prefix.1 e
        have h0 : dgt (X.data.toList.drop j) 0 = 60 := by rw [← ht]; rfl
        rw [dgt_drop, Nat.add_zero, hX] at h0
        exact esc_low hj h0
    rw [this]; rfl
/-- What stands up to there is, all of it, the text. -/
theorem all_there {s : ByteArray} {C : List UInt8} {X : ByteArray} (hX : X.data.toList = escL false s.data.toList ++ C) (hg : goodB s.data.toList = true) : bs (allL false ((X.data.toList.drop 0).take ((escL false s.data.toList).length - 0))) = s := by
  unfold goodB at hg
  rw [Bool.and_eq_true] at hg
  rw [List.drop_zero, hX, Nat.sub_zero, List.take_left, all_esc false _ _ (Nat.le_refl _), clean_right _ _ (Nat.le_refl _) hg.1, bs_self]

set_option maxHeartbeats 4000000 in
theorem penCharsBack_main (s n x c : ByteArray) (w : World) (ht : Tab4 w) (hm : Mx w) (hs : s.size ≤ 1500) (hn : n.size ≤ 200) (hx : x.size ≤ 10000) (hc : c.size ≤ 10000)
    (A1 : Hid (∀ w, Tab4 w → Calls Tryd.prog 18 #[.string s] w fun e w' => e = .returned (.tuple #[.string x, .int .i64 0]) ∧ Below w.heap.size w w'))
    (A2 : Hid (∀ w, Calls Tryd.prog 12 #[.string n] w fun e w' => e = .returned (.tuple #[.string c, .int .i64 0]) ∧ Below w.heap.size w w'))
    (A3 : Hid (∀ w, Tab4 w → Calls Tryd.prog 24 #[.string (x ++ c), .int .i64 0, .agg #[.int .i64 0, .string ⟨#[]⟩, .bool false]] w fun e w' => e = .returned (.tuple #[.agg #[.int .i64 3, .string ⟨#[]⟩, .slice none 0 0, .bool false, .string s], .int .i64 (x.size : Int)]) ∧ Below w.heap.size w w'))
    (A4 : Hid (∀ w, Tab4 w → Calls Tryd.prog 24 #[.string x, .int .i64 0, .agg #[.int .i64 0, .string ⟨#[]⟩, .bool false]] w fun e w' => e = .returned (.tuple #[.agg #[.int .i64 3, .string ⟨#[]⟩, .slice none 0 0, .bool false, .string s], .int .i64 (x.size : Int)]) ∧ Below w.heap.size w w'))
    (A5 : Hid (∀ w, Tab4 w → Calls Tryd.prog 24 #[.string (x ++ c), .int .i64 0, .agg #[.int .i64 1, .string n, .bool false]] w fun e w' => e = .returned (.tuple #[.agg #[.int .i64 3, .string ⟨#[]⟩, .slice none 0 0, .bool false, .string s], .int .i64 (x.size : Int)]) ∧ Below w.heap.size w w')) :
    Calls Tryd.prog 6 #[.string s, .string n] w fun e w' => e = .returned (.bool true) ∧ Below w.heap.size w w' := by
  have HT := hide ht
  have HM := hide hm
  have E := hide link_any
  have hi : ¬ (1500 : Int) < (s.size : Int) := by omega
  have hi2 : ¬ (200 : Int) < (n.size : Int) := by omega
  have qs : (s.toList == s.toList) = true := by simp
  have qx : ((x.size : Int) == (x.size : Int)) = true := by simp
  clear ht hm
  go_enter Tryd.func6, Tryd.ntmps6
  go_wp2_with fail
  refine (unhide A1 _ (unhide HT)).mono ?_
  rintro e w1 ⟨rfl, hb1⟩
  go_wp2_with fail
  refine (unhide A2 _).mono ?_
  rintro e w2 ⟨rfl, hb2⟩
  have hb02 := tr2 hb1 hb2
  go_wp2_with fail
  refine (unhide A3 _ ((unhide HT).below hb02)).mono ?_
  rintro e w3 ⟨rfl, hb3⟩
  have hb03 := tr2 hb02 hb3
  have hbT : Below w3.heap.size w3 (w3.alloc (.cells #[.int .i64 3, .string ⟨#[]⟩, .slice none 0 0, .bool false, .string s] 38)) := (Below.refl _ _).alloc (Nat.le_refl _) _
  have t0 : (w3.alloc (.cells #[.int .i64 3, .string ⟨#[]⟩, .slice none 0 0, .bool false, .string s] 38)).cell? ⟨w3.heap.size, 0, none⟩ = some (.int .i64 3) := World.cell?_alloc_at _ _ _ _ rfl
  have t4 : (w3.alloc (.cells #[.int .i64 3, .string ⟨#[]⟩, .slice none 0 0, .bool false, .string s] 38)).cell? ⟨w3.heap.size, 4, none⟩ = some (.string s) := World.cell?_alloc_at _ _ _ _ rfl
  have T0 := hide t0
  have T4 := hide t4
  clear t0 t4
  have hbT' := tr2 hb03 hbT
  go_wp2_with fail
  refine (unhide A4 _ ((unhide HT).below hbT')).mono ?_
  rintro e w4 ⟨rfl, hb4⟩
  have hb04 := tr2 hbT' hb4
  have T0 := hide (cell_later hb4 (unhide T0))
  have T4 := hide (cell_later hb4 (unhide T4))
  have hbU : Below w4.heap.size w4 (w4.alloc (.cells #[.int .i64 3, .string ⟨#[]⟩, .slice none 0 0, .bool false, .string s] 38)) := (Below.refl _ _).alloc (Nat.le_refl _) _
  have u4 : (w4.alloc (.cells #[.int .i64 3, .string ⟨#[]⟩, .slice none 0 0, .bool false, .string s] 38)).cell? ⟨w4.heap.size, 4, none⟩ = some (.string s) := World.cell?_alloc_at _ _ _ _ rfl
  have U4 := hide u4
  clear u4
  have hbU' := tr2 hb04 hbU
  have hz34 : w3.heap.size < w4.heap.size := by have := hb4.size; simp at this; omega
  go_wp2_with fail
  refine (unhide A5 _ ((unhide HT).below hbU')).mono ?_
  rintro e w5 ⟨rfl, hb5⟩
  have hb05 := tr2 hbU' hb5
  have t0 := cell_later hb5 (cell_later hbU (unhide T0))
  have t4 := cell_later hb5 (cell_later hbU (unhide T4))
  have u4 := cell_later hb5 (unhide U4)
  have hbV : Below w5.heap.size w5 (w5.alloc (.cells #[.int .i64 3, .string ⟨#[]⟩, .slice none 0 0, .bool false, .string s] 38)) := (Below.refl _ _).alloc (Nat.le_refl _) _
  have hbV' := tr2 hb05 hbV
  have hz45 : w4.heap.size < w5.heap.size := by have := hb5.size; simp at this; omega
  have hz35 : w3.heap.size < w5.heap.size := by omega
  go_wp2_with fail
  refine (unhide E _ ((unhide HT).below hbV').1 ((unhide HM).below hbV')).mono ?_
  rintro e w6 ⟨rfl, hb6⟩
  go_wp2
  go_ret
  exact ⟨rfl, tr2 hbV' hb6⟩

theorem penCharsBack_walk (s n : ByteArray) (w : World) (ht : Tab4 w) (hm : Mx w) (hs : s.size ≤ 9223372036854775807) (hn : n.size ≤ 9223372036854775807) :
    Calls Tryd.prog 6 #[.string s, .string n] w fun e w' => e = .returned (.bool true) ∧ Below w.heap.size w w' := by
  have HT := hide ht
  have HM := hide hm
  have E := hide link_any
  by_cases h1 : 1500 < s.size
  · have hi : (1500 : Int) < (s.size : Int) := by omega
    clear ht hm
    go_enter Tryd.func6, Tryd.ntmps6
    go_wp2_with fail
    refine (unhide E _ (unhide HT).1 (unhide HM)).mono ?_
    rintro e w2 ⟨rfl, hb2⟩
    go_wp2
    go_ret
    exact ⟨rfl, hb2⟩
  have hi : ¬ (1500 : Int) < (s.size : Int) := by omega
  by_cases h2 : 200 < n.size
  · have hi2 : (200 : Int) < (n.size : Int) := by omega
    clear ht hm
    go_enter Tryd.func6, Tryd.ntmps6
    go_wp2_with fail
    refine (unhide E _ (unhide HT).1 (unhide HM)).mono ?_
    rintro e w2 ⟨rfl, hb2⟩
    go_wp2
    go_ret
    exact ⟨rfl, hb2⟩
  have hi2 : ¬ (200 : Int) < (n.size : Int) := by omega
  have C1 := hide (fun w (h : Tab4 w) => pchars_any s w h.1 (by omega))
  have C2 := hide (fun w => pclose_any n w (by omega))
  cases hcb : charsB s.data.toList with
  | false =>
    rw [hcb] at C1
    have e1 : toldV false (bs (escL false s.data.toList)) = .tuple #[.string ⟨#[]⟩, .int .i64 4] := rfl
    rw [e1] at C1
    have hv : ∃ y k, toldV (nameB n.data.toList) (bs (closeL n.data.toList)) = .tuple #[.string y, .int .i64 k] := ⟨_, _, rfl⟩
    obtain ⟨y, k, e2⟩ := hv
    rw [e2] at C2
    clear e1 e2 hcb ht hm
    go_enter Tryd.func6, Tryd.ntmps6
    go_wp2_with fail
    refine (unhide C1 _ (unhide HT)).mono ?_
    rintro e w1 ⟨rfl, hb1⟩
    go_wp2_with fail
    refine (unhide C2 _).mono ?_
    rintro e w2 ⟨rfl, hb2⟩
    have hb02 := tr2 hb1 hb2
    go_wp2_with fail
    refine (unhide E _ ((unhide HT).below hb02).1 ((unhide HM).below hb02)).mono ?_
    rintro e w3 ⟨rfl, hb3⟩
    go_wp2
    go_ret
    exact ⟨rfl, tr2 hb02 hb3⟩
  | true =>
    rw [hcb] at C1
    have e1 : toldV true (bs (escL false s.data.toList)) = .tuple #[.string (bs (escL false s.data.toList)), .int .i64 0] := rfl
    rw [e1] at C1
    cases hnb : nameB n.data.toList with
    | false =>
      rw [hnb] at C2
      have e2 : toldV false (bs (closeL n.data.toList)) = .tuple #[.string ⟨#[]⟩, .int .i64 4] := rfl
      rw [e2] at C2
      generalize bs (escL false s.data.toList) = x at *
      clear e1 e2 hcb hnb ht hm
      go_enter Tryd.func6, Tryd.ntmps6
      go_wp2_with fail
      refine (unhide C1 _ (unhide HT)).mono ?_
      rintro e w1 ⟨rfl, hb1⟩
      go_wp2_with fail
      refine (unhide C2 _).mono ?_
      rintro e w2 ⟨rfl, hb2⟩
      have hb02 := tr2 hb1 hb2
      go_wp2_with fail
      refine (unhide E _ ((unhide HT).below hb02).1 ((unhide HM).below hb02)).mono ?_
      rintro e w3 ⟨rfl, hb3⟩
      go_wp2
      go_ret
      exact ⟨rfl, tr2 hb02 hb3⟩
    | true =>
      rw [hnb] at C2
      have e2 : toldV true (bs (closeL n.data.toList)) = .tuple #[.string (bs (closeL n.data.toList)), .int .i64 0] := rfl
      rw [e2] at C2
      have hl : s.data.toList ≠ [] := by intro e; rw [charsB_no e] at hcb; cases hcb
      have hg : goodB s.data.toList = true := by rw [charsB_ok hl] at hcb; exact hcb
      have hel := esc_len false s.data.toList false
      have hel' : (escL false s.data.toList).length ≤ 6 * s.size := by rw [data_len] at hel; exact hel
      have hxz : (bs (escL false s.data.toList)).size = (escL false s.data.toList).length := bs_size _
      have hx0 : 0 < (escL false s.data.toList).length := List.length_pos_iff.2 (esc_ne false hl)
      have hcz : (bs (closeL n.data.toList)).size = n.size + 3 := by rw [bs_size]; unfold closeL; simp
      have hX1 : (bs (escL false s.data.toList) ++ bs (closeL n.data.toList)).data.toList = escL false s.data.toList ++ closeL n.data.toList := by rw [bs_bs, bs_toList]
      have hX2 : (bs (escL false s.data.toList)).data.toList = escL false s.data.toList ++ [] := by rw [bs_toList, List.append_nil]
      have hz1 : (bs (escL false s.data.toList) ++ bs (closeL n.data.toList)).size = (escL false s.data.toList).length + (n.size + 3) := by rw [ByteArray.size_append, hxz, hcz]
      have k1 := seek_esc hX1 (.inr (begins_close hnb))
      have k2 := seek_esc hX2 (.inl rfl)
      have k3 := seek_last hX1 rfl hnb
      refine penCharsBack_main s n (bs (escL false s.data.toList)) (bs (closeL n.data.toList)) w ht hm (by omega) (by omega) (by omega) (by omega) C1 C2 (hide fun w h => ?_) (hide fun w h => ?_) (hide fun w h => ?_)
      · have hd := fun w h => data_chars (bs (escL false s.data.toList) ++ bs (closeL n.data.toList)) 0 false w h (by omega) (by omega) (begin_esc hX1 hl)
        rw [k1, all_there hX1 hg] at hd
        rw [hxz]
        exact next_data _ 0 w h s _ (by omega) (by omega) (hide hd)
      · have hd := fun w h => data_chars (bs (escL false s.data.toList)) 0 false w h (by omega) (by omega) (begin_esc hX2 hl)
        rw [k2, all_there hX2 hg] at hd
        rw [hxz]
        exact next_data _ 0 w h s _ (by omega) (by omega) (hide hd)
      · have hd := fun w h => enc_chars (bs (escL false s.data.toList) ++ bs (closeL n.data.toList)) n 0 1 false w h (by omega) (by omega) (by omega) rfl (by rw [k3]; omega)
        rw [k3, all_there hX1 hg] at hd
        rw [hxz]
        exact next_title _ n 0 w h s _ (by omega) (by omega) (hide hd)
end Go.Proofs.YtmiehnknnkcdlacDoor
