/-
  What 'toks.enclosed' and 'toks.Next' do in Raw.
-/
import Derived.Test.YtmiehnknnkcdlacDoorQTTg
namespace Go.Proofs.YtmiehnknnkcdlacDoor
open Go.RowKit
set_option linter.unusedVariables false

set_option maxHeartbeats 4000000 in
set_option maxRecDepth 100000 in
theorem enc_raw (s n : ByteArray) (i : Nat) (w : World) (hs : s.size ≤ 100000) (hn : n.size ≤ 100000) (hi : i < s.size) (hb : ¬ seekN (lastP s n) s.size i = i) :
    Calls Tryd.prog 47 #[.string s, .int .i64 (i : Int), modeV 2 n false] w fun e w' => e = .returned (.tuple #[charsV (s.extract i (seekN (lastP s n) s.size i)), .int .i64 (seekN (lastP s n) s.size i : Int)]) ∧ Below w.heap.size w w' := by
  have CS := hide (fun w gs gm hg => seek_enc s n i gs gm w hg (by omega) hs hn)
  have hle := seekN_le (lastP s n) (n := s.size) (k := i) (by omega)
  generalize seekN (lastP s n) s.size i = e at *
  have hel : (e : Int) ≤ (s.size : Int) := by omega
  have hie : (i : Int) ≤ (e : Int) := by omega
  have hne : ((e : Int) == (i : Int)) = false := bneI (by omega)
  unfold modeV
  clear hb
  have hb0 : Below w.heap.size w (((w.alloc (.cells #[.string s] 9)).alloc (.cells #[.int .i64 2, .string n, .bool false] 42)).alloc (.cells #[.int .i64 0, .string ⟨#[]⟩, .slice none 0 0, .bool false, .string ⟨#[]⟩] 38)) := (((Below.refl _ _).alloc (Nat.le_refl _) _).alloc (by simp) _).alloc (by simp; omega) _
  have hcap : Cap2 w.heap.size (w.heap.size + 1) s n (((w.alloc (.cells #[.string s] 9)).alloc (.cells #[.int .i64 2, .string n, .bool false] 42)).alloc (.cells #[.int .i64 0, .string ⟨#[]⟩, .slice none 0 0, .bool false, .string ⟨#[]⟩] 38)) := ⟨by simp [go_sem], by simp [go_sem]⟩
  have HCAP := hide hcap
  clear hcap
  go_enter Tryd.func47, Tryd.ntmps47
  go_wp2_with fail
  refine (unhide CS _ w.heap.size (w.heap.size + 1) (unhide HCAP)).mono ?_
  rintro e1 w1 ⟨rfl, hb1⟩
  have hb01 : Below w.heap.size w w1 := hb0.trans (hb1.mono hb0.size)
  have hz1 : w.heap.size + 1 + 1 < w1.heap.size := by have := hb1.size; simp at this; omega
  obtain ⟨hc, hf⟩ := bcell hb1
  go_wp2
  exact bodyPost_ret (v := .tuple #[charsV (s.extract i e), .int .i64 (e : Int)]) (by simp [results, Tryd.results47, go_sem, charsV, hc]) rfl ⟨rfl, ((((hb01.setCell (by simp <;> omega) _).setCell (by simp <;> omega) _).setCell (by simp <;> omega) _).setCell (by simp <;> omega) _).setCell (by simp <;> omega) _⟩

set_option maxHeartbeats 4000000 in
set_option maxRecDepth 100000 in
theorem enc_tag (s n : ByteArray) (i : Nat) (w : World) (y : ByteArray) (m : Int) (hs : s.size ≤ 100000) (hn : n.size ≤ 100000) (hi : i < s.size) (hb : seekN (lastP s n) s.size i = i)
    (CT : Hid (∀ w, Calls Tryd.prog 65 #[.string s, .int .i64 (i : Int)] w fun r w' => r = .returned (.tuple #[endV y, .int .i64 m]) ∧ Below w.heap.size w w')) :
    Calls Tryd.prog 47 #[.string s, .int .i64 (i : Int), modeV 2 n false] w fun e w' => e = .returned (.tuple #[endV y, .int .i64 m]) ∧ Below w.heap.size w w' := by
  have CS := hide (fun w gs gm hg => seek_enc s n i gs gm w hg (by omega) hs hn)
  rw [hb] at CS
  have hne : ((i : Int) == (i : Int)) = true := by simp
  unfold modeV
  unfold endV at CT
  clear hb
  have hb0 : Below w.heap.size w (((w.alloc (.cells #[.string s] 9)).alloc (.cells #[.int .i64 2, .string n, .bool false] 42)).alloc (.cells #[.int .i64 0, .string ⟨#[]⟩, .slice none 0 0, .bool false, .string ⟨#[]⟩] 38)) := (((Below.refl _ _).alloc (Nat.le_refl _) _).alloc (by simp) _).alloc (by simp; omega) _
  have hcap : Cap2 w.heap.size (w.heap.size + 1) s n (((w.alloc (.cells #[.string s] 9)).alloc (.cells #[.int .i64 2, .string n, .bool false] 42)).alloc (.cells #[.int .i64 0, .string ⟨#[]⟩, .slice none 0 0, .bool false, .string ⟨#[]⟩] 38)) := ⟨by simp [go_sem], by simp [go_sem]⟩
  have HCAP := hide hcap
  clear hcap
  go_enter Tryd.func47, Tryd.ntmps47
  go_wp2_with fail
  refine (unhide CS _ w.heap.size (w.heap.size + 1) (unhide HCAP)).mono ?_
  rintro e1 w1 ⟨rfl, hb1⟩
  have hb01 : Below w.heap.size w w1 := hb0.trans (hb1.mono hb0.size)
  have hz1 : w.heap.size + 1 + 1 < w1.heap.size := by have := hb1.size; simp at this; omega
  obtain ⟨hc1, hf1⟩ := bcell hb1
  go_wp2_with fail
  refine (unhide CT _).mono ?_
  rintro e1 w2 ⟨rfl, hb2⟩
  have hb12 := tr2 hb1 hb2
  have hb02 := tr2 hb01 hb2
  have hz2 : w.heap.size + 1 + 1 < w2.heap.size := by have := hb2.size; omega
  clear hc1 hf1
  obtain ⟨hc, hf⟩ := bcell hb12
  go_wp2
  exact bodyPost_ret (v := .tuple #[endV y, .int .i64 m]) (by simp [results, Tryd.results47, go_sem, endV, hc]) rfl ⟨rfl, ((((hb02.setCell (by simp <;> omega) _).setCell (by simp <;> omega) _).setCell (by simp <;> omega) _).setCell (by simp <;> omega) _).setCell (by simp <;> omega) _⟩

set_option maxHeartbeats 4000000 in
set_option maxRecDepth 100000 in
theorem next_raw (s n : ByteArray) (i : Nat) (w : World) (k : Int) (nm y : ByteArray) (m : Int) (hs : s.size ≤ 100000) (hi : i < s.size)
    (CD : Hid (∀ w, Calls Tryd.prog 47 #[.string s, .int .i64 (i : Int), .agg #[.int .i64 2, .string n, .bool false]] w fun e w' => e = .returned (.tuple #[.agg #[.int .i64 k, .string nm, .slice none 0 0, .bool false, .string y], .int .i64 m]) ∧ Below w.heap.size w w')) :
    Calls Tryd.prog 24 #[.string s, .int .i64 (i : Int), .agg #[.int .i64 2, .string n, .bool false]] w fun e w' => e = .returned (.tuple #[.agg #[.int .i64 k, .string nm, .slice none 0 0, .bool false, .string y], .int .i64 m]) ∧ Below w.heap.size w w' := by
  have i0 : ¬ (i : Int) < 0 := by omega
  have i1 : (i : Int) < (s.size : Int) := by omega
  have i2 : ¬ (s.size : Int) ≤ (i : Int) := by omega
  have hb0 : Below w.heap.size w ((w.alloc (.cells #[.int .i64 2, .string n, .bool false] 42)).alloc (.cells #[.int .i64 0, .string ⟨#[]⟩, .slice none 0 0, .bool false, .string ⟨#[]⟩] 38)) := ((Below.refl _ _).alloc (Nat.le_refl _) _).alloc (by simp) _
  go_enter Tryd.func24, Tryd.ntmps24
  go_wp2_with fail
  refine (unhide CD _).mono ?_
  rintro e1 w2 ⟨rfl, hb2⟩
  have hz2 : w.heap.size + 1 < w2.heap.size := by have := hb2.size; simp at this; omega
  obtain ⟨hc, hf⟩ := bcell hb2
  have hb02 : Below w.heap.size w w2 := hb0.trans (hb2.mono hb0.size)
  go_wp2
  exact bodyPost_ret (v := .tuple #[.agg #[.int .i64 k, .string nm, .slice none 0 0, .bool false, .string y], .int .i64 m]) (by simp [results, Tryd.results24, go_sem, hc]) rfl ⟨rfl, ((((hb02.setCell (by simp) _).setCell (by simp) _).setCell (by simp) _).setCell (by simp) _).setCell (by simp) _⟩
end Go.Proofs.YtmiehnknnkcdlacDoor
