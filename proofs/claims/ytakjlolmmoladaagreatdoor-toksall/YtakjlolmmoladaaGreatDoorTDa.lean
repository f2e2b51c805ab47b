/-
  What 'toks.data' and 'toks.Next' do where characters stand.
-/
import Derived.Test.YtakjlolmmoladaaGreatDoorTBe
import Derived.Test.YtakjlolmmoladaaGreatDoorEAl
namespace Go.Proofs.YtakjlolmmoladaaGreatDoor
open Go.RowKit
set_option linter.unusedVariables false

def charsV (x : ByteArray) : Value := .agg #[.int .i64 3, .string ⟨#[]⟩, .slice none 0 0, .bool false, .string x]
theorem seek_le (p : Nat → Bool) (n : Nat) : ∀ (f k : Nat), k + f ≤ n → skF p f k ≤ n ∧ k ≤ skF p f k
  | 0, k, h => ⟨by rw [skF]; omega, by rw [skF]; exact Nat.le_refl _⟩
  | f + 1, k, h => by
    rw [skF]
    split
    · exact ⟨by omega, Nat.le_refl _⟩
    · have := seek_le p n f (k + 1) (by omega); exact ⟨this.1, by omega⟩
theorem seekN_le (p : Nat → Bool) {n k : Nat} (h : k ≤ n) : seekN p n k ≤ n ∧ k ≤ seekN p n k := seek_le p n (n - k) k (by omega)

set_option maxHeartbeats 4000000 in
set_option maxRecDepth 100000 in
theorem data_chars (s : ByteArray) (i : Nat) (cd : Bool) (w : World) (ht : Tab4 w) (hs : s.size ≤ 100000) (hi : i < s.size) (hb : begP s i = false) :
    Calls Tryz.prog 13 #[.string s, .int .i64 (i : Int), .bool cd] w fun e w' => e = .returned (.tuple #[charsV (bs (allL false ((s.data.toList.drop i).take (seekN (begP s) s.size i - i)))), .int .i64 (seekN (begP s) s.size i : Int)]) ∧ Below w.heap.size w w' := by
  have HT := hide ht
  have hii : (i : Int) < (s.size : Int) := by omega
  have hii2 : (i : Int) ≤ (s.size : Int) := by omega
  have hx := rest_of s i
  have hxs : (s.extract i s.size).size = s.size - i := by simp
  have hxd : (s.extract i s.size).data.toList = s.data.toList.drop i := by rw [hx, bs_toList]
  have CB := hide (fun w => begins_any (s.extract i s.size) w (by omega))
  rw [hxd] at CB
  have hb' : beginsB (s.data.toList.drop i) = false := hb
  rw [hb'] at CB
  have CS := hide (fun w g hg => seek_data s i g w hg (by omega) (by omega))
  have hle := seekN_le (begP s) (n := s.size) (k := i) (by omega)
  have hcx := extract_take s i (seekN (begP s) s.size i - i)
  rw [show i + (seekN (begP s) s.size i - i) = seekN (begP s) s.size i by omega] at hcx
  generalize seekN (begP s) s.size i = e at *
  have hel : (e : Int) ≤ (s.size : Int) := by omega
  have hie : (i : Int) ≤ (e : Int) := by omega
  have hyz : (s.extract i e).size ≤ 100000 := by simp; omega
  have CA := hide (fun w h => all_any (s.extract i e) false w h hyz)
  have hyd : (s.extract i e).data.toList = (s.data.toList.drop i).take (e - i) := by rw [hcx, bs_toList]
  rw [hyd] at CA
  generalize bs (allL false ((s.data.toList.drop i).take (e - i))) = y at *
  clear hx hxd hcx hyd hb hb' ht
  go_enter Tryz.func13, Tryz.ntmps13
  go_wp2
  refine wp_loop_rounds 1 ?_
  rw [rounds_succ]
  go_wp2_with fail
  refine (unhide CB _).mono ?_
  rintro e1 w1 ⟨rfl, rfl⟩
  go_wp2_with fail
  refine (unhide CS _ w.heap.size (by simp [go_sem])).mono ?_
  rintro e1 w1 ⟨rfl, rfl⟩
  have hb0 : Below w.heap.size w ((w.alloc (.cells #[.string s] 9)).alloc (.cells #[.int .i64 0, .string ⟨#[]⟩, .slice none 0 0, .bool false, .string ⟨#[]⟩] 27)) := ((Below.refl _ _).alloc (Nat.le_refl _) _).alloc (by simp) _
  go_wp2_with fail
  refine (unhide CA _ ((unhide HT).below hb0)).mono ?_
  rintro e1 w2 ⟨rfl, hb2⟩
  have hz2 : w.heap.size + 1 < w2.heap.size := by have := hb2.size; simp at this; omega
  obtain ⟨hc, hf⟩ := bcell hb2
  have hb02 : Below w.heap.size w w2 := hb0.trans (hb2.mono hb0.size)
  go_wp2
  exact bodyPost_ret (v := .tuple #[charsV y, .int .i64 (e : Int)]) (by simp [results, Tryz.results13, go_sem, charsV, hc]) rfl ⟨rfl, ((((hb02.setCell (by simp) _).setCell (by simp) _).setCell (by simp) _).setCell (by simp) _).setCell (by simp) _⟩

def modeV (k : Int) (l : ByteArray) (c : Bool) : Value := .agg #[.int .i64 k, .string l, .bool c]
set_option maxHeartbeats 4000000 in
set_option maxRecDepth 100000 in
theorem next_data (s : ByteArray) (i : Nat) (w : World) (ht : Tab4 w) (y : ByteArray) (n : Int) (hs : s.size ≤ 100000) (hi : i < s.size)
    (CD : Hid (∀ w, Tab4 w → Calls Tryz.prog 13 #[.string s, .int .i64 (i : Int), .bool false] w fun e w' => e = .returned (.tuple #[charsV y, .int .i64 n]) ∧ Below w.heap.size w w')) :
    Calls Tryz.prog 6 #[.string s, .int .i64 (i : Int), modeV 0 ⟨#[]⟩ false] w fun e w' => e = .returned (.tuple #[charsV y, .int .i64 n]) ∧ Below w.heap.size w w' := by
  have HT := hide ht
  have i0 : ¬ (i : Int) < 0 := by omega
  have i1 : (i : Int) < (s.size : Int) := by omega
  have i2 : ¬ (s.size : Int) ≤ (i : Int) := by omega
  unfold charsV at CD
  unfold modeV
  clear ht
  have hb0 : Below w.heap.size w ((w.alloc (.cells #[.int .i64 0, .string ⟨#[]⟩, .bool false] 23)).alloc (.cells #[.int .i64 0, .string ⟨#[]⟩, .slice none 0 0, .bool false, .string ⟨#[]⟩] 27)) := ((Below.refl _ _).alloc (Nat.le_refl _) _).alloc (by simp) _
  go_enter Tryz.func6, Tryz.ntmps6
  go_wp2_with fail
  refine (unhide CD _ ((unhide HT).below hb0)).mono ?_
  rintro e1 w2 ⟨rfl, hb2⟩
  have hz2 : w.heap.size + 1 < w2.heap.size := by have := hb2.size; simp at this; omega
  obtain ⟨hc, hf⟩ := bcell hb2
  have hb02 : Below w.heap.size w w2 := hb0.trans (hb2.mono hb0.size)
  go_wp2
  exact bodyPost_ret (v := .tuple #[charsV y, .int .i64 n]) (by simp [results, Tryz.results6, go_sem, charsV, hc]) rfl ⟨rfl, ((((hb02.setCell (by simp) _).setCell (by simp) _).setCell (by simp) _).setCell (by simp) _).setCell (by simp) _⟩
end Go.Proofs.YtakjlolmmoladaaGreatDoor
