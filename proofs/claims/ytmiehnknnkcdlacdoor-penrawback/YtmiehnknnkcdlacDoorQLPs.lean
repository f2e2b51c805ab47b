/-
  The law PenRawBack walked.
-/
import Derived.Test.YtmiehnknnkcdlacDoorQLPr
namespace Go.Proofs.YtmiehnknnkcdlacDoor
open Go.RowKit
set_option linter.unusedVariables false

set_option maxHeartbeats 4000000 in
theorem penRawBack_main (s n b c : ByteArray) (w : World) (ht : Tabs w) (hm : Mx w) (hs : s.size ≤ 1500) (hn : n.size ≤ 200) (hb : b.size ≤ 500) (hc : c.size ≤ 1000) (k : Int) (nm y : ByteArray) (m : Int)
    (A1 : Hid (∀ w, Tabs w → Mx w → Calls Tryd.prog 20 #[.string s, .string n] w fun e w' => e = .returned (.tuple #[.string s, .int .i64 0]) ∧ Below w.heap.size w w'))
    (A2 : Hid (∀ w, Calls Tryd.prog 12 #[.string n] w fun e w' => e = .returned (.tuple #[.string c, .int .i64 0]) ∧ Below w.heap.size w w'))
    (A3 : Hid (∀ w, Calls Tryd.prog 24 #[.string (s ++ c ++ b), .int .i64 0, .agg #[.int .i64 2, .string n, .bool false]] w fun e w' => e = .returned (.tuple #[.agg #[.int .i64 k, .string nm, .slice none 0 0, .bool false, .string y], .int .i64 m]) ∧ Below w.heap.size w w'))
    (hcs : (s.size = 0 ∧ k = 2 ∧ nm = n ∧ m = (c.size : Int)) ∨ (0 < s.size ∧ k = 3 ∧ y = s ∧ m = (s.size : Int))) :
    Calls Tryd.prog 7 #[.string s, .string n, .string b] w fun e w' => e = .returned (.bool true) ∧ Below w.heap.size w w' := by
  have HT := hide ht
  have HM := hide hm
  have E := hide link_any
  have hi : ¬ (1500 : Int) < (s.size : Int) := by omega
  have hi2 : ¬ (200 : Int) < (n.size : Int) := by omega
  have hi3 : ¬ (500 : Int) < (b.size : Int) := by omega
  clear ht hm
  rcases hcs with ⟨h0, rfl, rfl, rfl⟩ | ⟨h0, rfl, rfl, rfl⟩
  · have he := is_empty s h0
    have qs : (nm.toList == nm.toList) = true := by simp
    have qx : ((c.size : Int) == (c.size : Int)) = true := by simp
    go_enter Tryd.func7, Tryd.ntmps7
    go_wp2_with fail
    refine (unhide A1 _ (unhide HT) (unhide HM)).mono ?_
    rintro e w1 ⟨rfl, hb1⟩
    go_wp2_with fail
    refine (unhide A2 _).mono ?_
    rintro e w2 ⟨rfl, hb2⟩
    have hb02 := tr2 hb1 hb2
    go_wp2_with fail
    refine (unhide A3 _).mono ?_
    rintro e w3 ⟨rfl, hb3⟩
    have hb03 := tr2 hb02 hb3
    have hbT := tr2 hb03 ((Below.refl w3.heap.size w3).alloc (Nat.le_refl _) (.cells #[.int .i64 2, .string nm, .slice none 0 0, .bool false, .string y] 38))
    go_wp2_with fail
    refine (unhide E _ ((unhide HT).below hbT) ((unhide HM).below hbT)).mono ?_
    rintro e w6 ⟨rfl, hb6⟩
    go_wp2
    go_ret
    exact ⟨rfl, tr2 hbT hb6⟩
  · have he := not_empty y h0
    have qs : (y.toList == y.toList) = true := by simp
    have qx : ((y.size : Int) == (y.size : Int)) = true := by simp
    go_enter Tryd.func7, Tryd.ntmps7
    go_wp2_with fail
    refine (unhide A1 _ (unhide HT) (unhide HM)).mono ?_
    rintro e w1 ⟨rfl, hb1⟩
    go_wp2_with fail
    refine (unhide A2 _).mono ?_
    rintro e w2 ⟨rfl, hb2⟩
    have hb02 := tr2 hb1 hb2
    go_wp2_with fail
    refine (unhide A3 _).mono ?_
    rintro e w3 ⟨rfl, hb3⟩
    have hb03 := tr2 hb02 hb3
    have hbT := tr2 hb03 ((Below.refl w3.heap.size w3).alloc (Nat.le_refl _) (.cells #[.int .i64 3, .string nm, .slice none 0 0, .bool false, .string y] 38))
    go_wp2_with fail
    refine (unhide E _ ((unhide HT).below hbT) ((unhide HM).below hbT)).mono ?_
    rintro e w6 ⟨rfl, hb6⟩
    go_wp2
    go_ret
    exact ⟨rfl, tr2 hbT hb6⟩

theorem penRawBack_walk (s n b : ByteArray) (w : World) (ht4 : Tab4 w) (hm : Mx w) (hs : s.size ≤ 9223372036854775807) (hn : n.size ≤ 9223372036854775807) (hbb : b.size ≤ 9223372036854775807) :
    Calls Tryd.prog 7 #[.string s, .string n, .string b] w fun e w' => e = .returned (.bool true) ∧ Below w.heap.size w w' := by
  have ht := ht4.1
  have HT := hide ht
  have HM := hide hm
  have E := hide link_any
  by_cases h1 : 1500 < s.size
  · have hi : (1500 : Int) < (s.size : Int) := by omega
    clear ht hm ht4
    go_enter Tryd.func7, Tryd.ntmps7
    go_wp2_with fail
    refine (unhide E _ (unhide HT) (unhide HM)).mono ?_
    rintro e w2 ⟨rfl, hb2⟩
    go_wp2
    go_ret
    exact ⟨rfl, hb2⟩
  have hi : ¬ (1500 : Int) < (s.size : Int) := by omega
  by_cases h2 : 200 < n.size
  · have hi2 : (200 : Int) < (n.size : Int) := by omega
    clear ht hm ht4
    go_enter Tryd.func7, Tryd.ntmps7
    go_wp2_with fail
    refine (unhide E _ (unhide HT) (unhide HM)).mono ?_
    rintro e w2 ⟨rfl, hb2⟩
    go_wp2
    go_ret
    exact ⟨rfl, hb2⟩
  have hi2 : ¬ (200 : Int) < (n.size : Int) := by omega
  by_cases h3 : 500 < b.size
  · have hi3 : (500 : Int) < (b.size : Int) := by omega
    clear ht hm ht4
    go_enter Tryd.func7, Tryd.ntmps7
    go_wp2_with fail
    refine (unhide E _ (unhide HT) (unhide HM)).mono ?_
    rintro e w2 ⟨rfl, hb2⟩
    go_wp2
    go_ret
    exact ⟨rfl, hb2⟩
  have hi3 : ¬ (500 : Int) < (b.size : Int) := by omega
  have C1 := hide (fun w h1 h2 => praw_any s n w h1 h2 (by omega) (by omega))
  have C2 := hide (fun w => pclose_any n w (by omega))
  cases hrb : rawB s.data.toList n.data.toList with
  | false =>
    rw [hrb] at C1
    have e1 : toldV false s = .tuple #[.string ⟨#[]⟩, .int .i64 4] := rfl
    rw [e1] at C1
    have hv : ∃ y k, toldV (nameB n.data.toList) (bs (closeL n.data.toList)) = .tuple #[.string y, .int .i64 k] := ⟨_, _, rfl⟩
    obtain ⟨y, k, e2⟩ := hv
    rw [e2] at C2
    clear e1 e2 hrb ht hm ht4
    go_enter Tryd.func7, Tryd.ntmps7
    go_wp2_with fail
    refine (unhide C1 _ (unhide HT) (unhide HM)).mono ?_
    rintro e w1 ⟨rfl, hb1⟩
    go_wp2_with fail
    refine (unhide C2 _).mono ?_
    rintro e w2 ⟨rfl, hb2⟩
    have hb02 := tr2 hb1 hb2
    go_wp2_with fail
    refine (unhide E _ ((unhide HT).below hb02) ((unhide HM).below hb02)).mono ?_
    rintro e w3 ⟨rfl, hb3⟩
    go_wp2
    go_ret
    exact ⟨rfl, tr2 hb02 hb3⟩
  | true =>
    rw [hrb] at C1
    have e1 : toldV true s = .tuple #[.string s, .int .i64 0] := rfl
    rw [e1] at C1
    unfold rawB at hrb
    rw [Bool.and_eq_true, Bool.and_eq_true] at hrb
    obtain ⟨hg, hnb, hen⟩ := hrb
    have hen' : endB (sepL n.data.toList) (lowL s.data.toList) = false := by
      cases h : endB (sepL n.data.toList) (lowL s.data.toList) with
      | false => rfl
      | true => rw [h] at hen; cases hen
    rw [hnb] at C2
    have e2 : toldV true (bs (closeL n.data.toList)) = .tuple #[.string (bs (closeL n.data.toList)), .int .i64 0] := rfl
    rw [e2] at C2
    have hcz : (bs (closeL n.data.toList)).size = n.size + 3 := by rw [bs_size]; unfold closeL; simp
    have hX : (s ++ bs (closeL n.data.toList) ++ b).data.toList = s.data.toList ++ (closeL n.data.toList ++ b.data.toList) := by
      rw [add_bs, bs_toList, add_bs, bs_toList, bs_toList, List.append_assoc]
    have hz : (s ++ bs (closeL n.data.toList) ++ b).size = s.size + (n.size + 3) + b.size := by rw [ByteArray.size_append, ByteArray.size_append, hcz]
    have hsk := seek_raw hX rfl hnb hen'
    rw [data_len] at hsk
    by_cases h0 : s.size = 0
    · have hs0 : s.data.toList = [] := List.eq_nil_of_length_eq_zero (by rw [data_len]; exact h0)
      rw [hs0, List.nil_append] at hX
      have hsn := seek_name hX hnb
      rw [data_len] at hsn
      have ec : closeL n.data.toList ++ b.data.toList = [60, 47] ++ (n.data.toList ++ (62 :: b.data.toList)) := by unfold closeL; simp
      have h62 : dgt (s ++ bs (closeL n.data.toList) ++ b).data.toList (2 + n.size) = 62 := by
        have : closeL n.data.toList ++ b.data.toList = ([60, 47] ++ n.data.toList) ++ (62 :: b.data.toList) := by rw [ec]; simp
        rw [hX, this, show 2 + n.size = ([60, 47] ++ n.data.toList).length + 0 by simp; omega, dgt_app2]; rfl
      have h47 : dgt (s ++ bs (closeL n.data.toList) ++ b).data.toList (0 + 1) = 47 := by rw [hX]; rfl
      have hnm : bs (lowL (((s ++ bs (closeL n.data.toList) ++ b).data.toList.drop (0 + 2)).take (2 + n.size - (0 + 2)))) = n := by
        rw [hX, ec, show 2 + n.size - (0 + 2) = n.data.toList.length by rw [data_len]; omega]
        have : (([60, 47] ++ (n.data.toList ++ (62 :: b.data.toList))).drop (0 + 2)).take n.data.toList.length = n.data.toList := by simp
        rw [this, low_name hnb, bs_self]
      have CT := hide (fun w => tag_end (s ++ bs (closeL n.data.toList) ++ b) 0 (2 + n.size) w (by omega) (by omega) h47 hsn (by omega) h62)
      rw [hnm] at CT
      refine penRawBack_main s n b (bs (closeL n.data.toList)) w ht hm (by omega) (by omega) (by omega) (by omega) 2 n ⟨#[]⟩ ((2 + n.size : Nat) + 1 : Int) C1 C2 (hide fun w => ?_) (.inl ⟨h0, rfl, rfl, by rw [hcz]; omega⟩)
      exact next_raw _ n 0 w 2 n ⟨#[]⟩ _ (by omega) (by omega) (hide fun w => enc_tag _ n 0 w n _ (by omega) (by omega) (by omega) (by rw [hsk]; exact h0) CT)
    · have hxt : (s ++ bs (closeL n.data.toList) ++ b).extract 0 s.size = s := by
        have := extract_take (s ++ bs (closeL n.data.toList) ++ b) 0 s.size
        rw [Nat.zero_add] at this
        rw [this, hX, List.drop_zero, ← data_len s, List.take_left, bs_self]
      have hd := fun w => enc_raw (s ++ bs (closeL n.data.toList) ++ b) n 0 w (by omega) (by omega) (by omega) (by rw [hsk]; exact h0)
      rw [hsk, hxt] at hd
      refine penRawBack_main s n b (bs (closeL n.data.toList)) w ht hm (by omega) (by omega) (by omega) (by omega) 3 ⟨#[]⟩ s (s.size : Int) C1 C2 (hide fun w => ?_) (.inr ⟨by omega, rfl, rfl, rfl⟩)
      exact next_raw _ n 0 w 3 ⟨#[]⟩ s _ (by omega) (by omega) (hide hd)
end Go.Proofs.YtmiehnknnkcdlacDoor
