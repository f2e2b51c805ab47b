/-
  What 'toks.enclosed' and 'toks.Next' do in Title and Raw where characters stand.
-/
import Derived.Test.YtakjlolmmoladaaGreatDoorTEn
import Derived.Test.YtakjlolmmoladaaGreatDoorTDa
import Derived.Deep.RegionWith
namespace Go.Proofs.YtakjlolmmoladaaGreatDoor
open Go.RowKit
set_option linter.unusedVariables false

def lastP (s n : ByteArray) (i : Nat) : Bool := lastB (s.data.toList.drop i) n.data.toList
/-- The two variables that the test captures: the text, and the mode. -/
def Cap2 (gs gm : Nat) (s n : ByteArray) (w : World) : Prop := w.cell? ⟨gs, 0, none⟩ = some (.string s) ∧ w.cell? ⟨gm, 1, none⟩ = some (.string n)
theorem Cap2.below {gs gm : Nat} {s n : ByteArray} {w w' : World} (h : Cap2 gs gm s n w) (hb : Below w.heap.size w w') : Cap2 gs gm s n w' := ⟨cell_later hb h.1, cell_later hb h.2⟩

set_option maxHeartbeats 2000000 in
theorem enc1_any (s n : ByteArray) (i gs gm : Nat) (w : World) (hg : Cap2 gs gm s n w) (hi : i ≤ s.size) (hs : s.size ≤ 100000) (hn : n.size ≤ 100000) :
    Calls Tryz.prog 22 #[.int .i64 (i : Int), .pointer (some ⟨gs, 0, none⟩), .pointer (some ⟨gm, 0, none⟩)] w fun e w' => e = .returned (.bool (lastP s n i)) ∧ Below w.heap.size w w' := by
  obtain ⟨c0, c1⟩ := hg
  have hii : (i : Int) ≤ (s.size : Int) := by omega
  have hx := rest_of s i
  have hxs : (s.extract i s.size).size = s.size - i := by simp
  have C := hide (fun w => endsLast_any (s.extract i s.size) n w (by omega) hn)
  have hxd : (s.extract i s.size).data.toList = s.data.toList.drop i := by rw [hx, bs_toList]
  rw [hxd] at C
  unfold lastP
  generalize lastB (s.data.toList.drop i) n.data.toList = b at *
  clear hx hxd
  go_enter Tryz.func22, Tryz.ntmps22
  go_wp2_with fail
  go_region_with (go_at_call 23; refine (unhide C _).mono ?_; rintro e1 w3 ⟨rfl, hb3⟩)
  all_goals
    go_wp2
    go_ret
    exact ⟨rfl, tr2 (Below.drew (Below.refl _ _)) hb3⟩

set_option maxHeartbeats 2000000 in
theorem seek_enc (s n : ByteArray) (i gs gm : Nat) (w : World) (hg : Cap2 gs gm s n w) (hi : i ≤ s.size) (hs : s.size ≤ 100000) (hn : n.size ≤ 100000) :
    Calls Tryz.prog 21 #[.string s, .int .i64 (i : Int), .func (.func 22) #[] #[.pointer (some ⟨gs, 0, none⟩), .pointer (some ⟨gm, 0, none⟩)]] w fun e w' => e = .returned (.int .i64 (seekN (lastP s n) s.size i : Int)) ∧ Below w.heap.size w w' := by
  have HG := hide hg
  clear hg
  go_enter Tryz.func21, Tryz.ntmps21
  go_wp2
  go_loopw [1] (fun a wr => ∃ k : Nat, k ≤ s.size ∧ a = .int .i64 (k : Int) ∧ seekN (lastP s n) s.size i = seekN (lastP s n) s.size k ∧ Below w.heap.size w wr) (fun a _ => s.size - (intOf a).toNat)
  case atStart => exact ⟨i, hi, rfl, rfl, Below.refl _ _⟩
  case round =>
    obtain ⟨k, hk, rfl, hr, hbw⟩ := hrel
    have HR := hide hr
    clear hr
    by_cases hp : k < s.size
    · have hpi : (k : Int) < (s.size : Int) := by omega
      have C := hide (fun w h => enc1_any s n k gs gm w h hk hs hn)
      have hh := @seek_hit (lastP s n) s.size k
      have hn' := @seek_next (lastP s n) s.size k hp
      generalize lastP s n k = b at *
      cases b with
      | true =>
        have HV := hide (hh rfl)
        clear hh hn'
        go_wp2_with (go_at_call 22; refine (unhide C _ ((unhide HG).below hbw)).mono ?_; rintro e1 w1 ⟨rfl, hb1⟩)
        go_ret
        exact ⟨by rw [unhide HR, unhide HV]; rfl, tr2 hbw hb1⟩
      | false =>
        have HV := hide (hn' rfl)
        clear hh hn'
        go_wp2_with (go_at_call 22; refine (unhide C _ ((unhide HG).below hbw)).mono ?_; rintro e1 w1 ⟨rfl, hb1⟩)
        go_roundw
        case rel => exact ⟨k + 1, by omega, by go_num, by rw [unhide HR, unhide HV], tr2 hbw hb1⟩
        case measure => simp [intOf]; omega
    · have HV := hide (@seek_end (lastP s n) s.size k (by omega))
      go_wp2
      go_ret
      exact ⟨by rw [unhide HR, unhide HV]; rfl, hbw⟩

set_option maxHeartbeats 4000000 in
set_option maxRecDepth 100000 in
theorem enc_chars (s n : ByteArray) (i : Nat) (kind : Int) (cd : Bool) (w : World) (ht : Tab4 w) (hs : s.size ≤ 100000) (hn : n.size ≤ 100000) (hi : i < s.size) (hk : kind = 1) (hb : ¬ seekN (lastP s n) s.size i = i) :
    Calls Tryz.prog 12 #[.string s, .int .i64 (i : Int), modeV kind n cd] w fun e w' => e = .returned (.tuple #[charsV (bs (allL false ((s.data.toList.drop i).take (seekN (lastP s n) s.size i - i)))), .int .i64 (seekN (lastP s n) s.size i : Int)]) ∧ Below w.heap.size w w' := by
  subst hk
  have HT := hide ht
  have CS := hide (fun w gs gm hg => seek_enc s n i gs gm w hg (by omega) hs hn)
  have hle := seekN_le (lastP s n) (n := s.size) (k := i) (by omega)
  have hcx := extract_take s i (seekN (lastP s n) s.size i - i)
  rw [show i + (seekN (lastP s n) s.size i - i) = seekN (lastP s n) s.size i by omega] at hcx
  generalize seekN (lastP s n) s.size i = e at *
  have hel : (e : Int) ≤ (s.size : Int) := by omega
  have hie : (i : Int) ≤ (e : Int) := by omega
  have hne : ((e : Int) == (i : Int)) = false := bneI (by omega)
  have hyz : (s.extract i e).size ≤ 100000 := by simp; omega
  have CA := hide (fun w h => all_any (s.extract i e) false w h hyz)
  have hyd : (s.extract i e).data.toList = (s.data.toList.drop i).take (e - i) := by rw [hcx, bs_toList]
  rw [hyd] at CA
  generalize bs (allL false ((s.data.toList.drop i).take (e - i))) = y at *
  unfold modeV
  clear hcx hyd hb ht
  have hb0 : Below w.heap.size w (((w.alloc (.cells #[.string s] 9)).alloc (.cells #[.int .i64 1, .string n, .bool cd] 23)).alloc (.cells #[.int .i64 0, .string ⟨#[]⟩, .slice none 0 0, .bool false, .string ⟨#[]⟩] 27)) := (((Below.refl _ _).alloc (Nat.le_refl _) _).alloc (by simp) _).alloc (by simp; omega) _
  have hcap : Cap2 w.heap.size (w.heap.size + 1) s n (((w.alloc (.cells #[.string s] 9)).alloc (.cells #[.int .i64 1, .string n, .bool cd] 23)).alloc (.cells #[.int .i64 0, .string ⟨#[]⟩, .slice none 0 0, .bool false, .string ⟨#[]⟩] 27)) := ⟨by simp [go_sem], by simp [go_sem]⟩
  have HCAP := hide hcap
  clear hcap
  go_enter Tryz.func12, Tryz.ntmps12
  go_wp2_with fail
  refine (unhide CS _ w.heap.size (w.heap.size + 1) (unhide HCAP)).mono ?_
  rintro e1 w1 ⟨rfl, hb1⟩
  have hb01 : Below w.heap.size w w1 := hb0.trans (hb1.mono hb0.size)
  have hz1 : w.heap.size + 1 + 1 < w1.heap.size := by have := hb1.size; simp at this; omega
  obtain ⟨hc1, hf1⟩ := bcell hb1
  go_wp2_with fail
  refine (unhide CA _ ((unhide HT).below hb01)).mono ?_
  rintro e1 w2 ⟨rfl, hb2⟩
  have hb12 := tr2 hb1 hb2
  have hb02 := tr2 hb01 hb2
  have hz2 : w.heap.size + 1 + 1 < w2.heap.size := by have := hb2.size; omega
  clear hc1 hf1
  obtain ⟨hc, hf⟩ := bcell hb12
  go_wp2
  exact bodyPost_ret (v := .tuple #[charsV y, .int .i64 (e : Int)]) (by simp [results, Tryz.results12, go_sem, charsV, hc]) rfl ⟨rfl, ((((hb02.setCell (by simp <;> omega) _).setCell (by simp <;> omega) _).setCell (by simp <;> omega) _).setCell (by simp <;> omega) _).setCell (by simp <;> omega) _⟩

set_option maxHeartbeats 4000000 in
set_option maxRecDepth 100000 in
theorem next_title (s n : ByteArray) (i : Nat) (w : World) (ht : Tab4 w) (y : ByteArray) (m : Int) (hs : s.size ≤ 100000) (hi : i < s.size)
    (CD : Hid (∀ w, Tab4 w → Calls Tryz.prog 12 #[.string s, .int .i64 (i : Int), modeV 1 n false] w fun e w' => e = .returned (.tuple #[charsV y, .int .i64 m]) ∧ Below w.heap.size w w')) :
    Calls Tryz.prog 6 #[.string s, .int .i64 (i : Int), modeV 1 n false] w fun e w' => e = .returned (.tuple #[charsV y, .int .i64 m]) ∧ Below w.heap.size w w' := by
  have HT := hide ht
  have i0 : ¬ (i : Int) < 0 := by omega
  have i1 : (i : Int) < (s.size : Int) := by omega
  have i2 : ¬ (s.size : Int) ≤ (i : Int) := by omega
  unfold charsV modeV at CD
  unfold modeV
  clear ht
  have hb0 : Below w.heap.size w ((w.alloc (.cells #[.int .i64 1, .string n, .bool false] 23)).alloc (.cells #[.int .i64 0, .string ⟨#[]⟩, .slice none 0 0, .bool false, .string ⟨#[]⟩] 27)) := ((Below.refl _ _).alloc (Nat.le_refl _) _).alloc (by simp) _
  go_enter Tryz.func6, Tryz.ntmps6
  go_wp2_with fail
  refine (unhide CD _ ((unhide HT).below hb0)).mono ?_
  rintro e1 w2 ⟨rfl, hb2⟩
  have hz2 : w.heap.size + 1 < w2.heap.size := by have := hb2.size; simp at this; omega
  obtain ⟨hc, hf⟩ := bcell hb2
  have hb02 : Below w.heap.size w w2 := hb0.trans (hb2.mono hb0.size)
  go_wp2
  exact bodyPost_ret (v := .tuple #[charsV y, .int .i64 m]) (by simp [results, Tryz.results6, go_sem, charsV, hc]) rfl ⟨rfl, ((((hb02.setCell (by simp) _).setCell (by simp) _).setCell (by simp) _).setCell (by simp) _).setCell (by simp) _⟩
end Go.Proofs.YtakjlolmmoladaaGreatDoor
