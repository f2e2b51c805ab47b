/-
  What 'rectoref01.TakeNum' does, and the law QuillNums walked: of every text the number that 'quill.TakeNum' answers is the document's, and what is behind it, and the error.
-/
import Derived.Test.YtekkgmgdihlefaaRn
import Derived.Test.YtekkgmgdihlefaaSz
namespace Go.Proofs.Ytekkgmgdihlefaa
open Go.RowKit
set_option linter.unusedVariables false

theorem bcell {W w1 : World} (hb : Below W.heap.size W w1) : (∀ b o, b < W.heap.size → w1.cell? ⟨b, o, none⟩ = W.cell? ⟨b, o, none⟩) ∧ (∀ b o, b < W.heap.size → w1.frozen? ⟨b, o, none⟩ = W.frozen? ⟨b, o, none⟩) :=
  ⟨fun b o h => hb.cell (p := ⟨b, o, none⟩) h, fun b o h => hb.frozen (p := ⟨b, o, none⟩) h⟩

/-- What 'Taken' holds. -/
def takenV (n : Int) (s : ByteArray) (rest : ByteArray) (e : Int) : Value := .agg #[.int .i64 n, .string s, .slice none 0 0, .string rest, .int .i64 e]

theorem rtake_none (s : ByteArray) (w : World)
    (hcall : Hid (∀ w, Calls Try.prog 30 #[.string s, .int .i64 0] w fun e w' => e = .returned (.agg #[.int .i64 0, .int .i64 (-1)]) ∧ Below w.heap.size w w')) :
    Calls Try.prog 18 #[.string s] w fun e w' => e = .returned (takenV 0 ⟨#[]⟩ ⟨#[]⟩ 4) ∧ Below w.heap.size w w' := by
  go_enter Try.func18, Try.ntmps18
  go_wp2_with fail
  refine (unhide hcall _).mono ?_
  rintro e w1 ⟨rfl, hb1⟩
  have hz : w.heap.size < w1.heap.size := by have := hb1.size; simp at this; omega
  obtain ⟨hc, hf⟩ := bcell hb1
  go_wp2
  exact bodyPost_ret (v := .agg #[.int .i64 0, .string ⟨#[]⟩, .slice none 0 0, .string ⟨#[]⟩, .int .i64 4]) (by simp [results, Try.results18, go_sem, hc, hz]) rfl
    ⟨rfl, ((((((bel_of hb1).setCell (by simp) _).setCell (by simp) _).setCell (by simp) _).setCell (by simp) _).setCell (by simp) _).alloc (by simp; omega) _⟩

theorem rtake_some (s : ByteArray) (w : World) (v : Int) (k : Nat) (hs : s.size ≤ 9223372036854775807) (hk : k ≤ s.size)
    (hcall : Hid (∀ w, Calls Try.prog 30 #[.string s, .int .i64 0] w fun e w' => e = .returned (.agg #[.int .i64 v, .int .i64 k]) ∧ Below w.heap.size w w')) :
    Calls Try.prog 18 #[.string s] w fun e w' => e = .returned (takenV v ⟨#[]⟩ (s.extract k s.size) 0) ∧ Below w.heap.size w w' := by
  have hk1 : (0 : Int) ≤ (k : Int) := by omega
  have hk2 : (k : Int) ≤ (s.size : Int) := by omega
  go_enter Try.func18, Try.ntmps18
  go_wp2_with fail
  refine (unhide hcall _).mono ?_
  rintro e w1 ⟨rfl, hb1⟩
  have hz : w.heap.size < w1.heap.size := by have := hb1.size; simp at this; omega
  obtain ⟨hc, hf⟩ := bcell hb1
  go_wp2
  go_region
  go_wp2
  exact bodyPost_ret (v := .agg #[.int .i64 v, .string ⟨#[]⟩, .slice none 0 0, .string (s.extract k s.size), .int .i64 0]) (by simp [results, Try.results18, go_sem, hc, hz]) rfl
    ⟨rfl, (((((((bel_of hb1).setCell (by simp) _).setCell (by simp) _).setCell (by simp) _).setCell (by simp) _).setCell (by simp) _).alloc (by simp; omega) _).drew⟩

theorem nums_walk (s : ByteArray) (w : World) (hs : s.size ≤ 9223372036854775807) :
    Calls Try.prog 4 #[.string s] w fun e w' => e = .returned (.bool true) ∧ Below w.heap.size w w' := by
  have hab := ab_ok
  have hc := fun w => takeNum_any s w hs
  have hn := fun w => rnum_any s w hs
  have hl : s.data.toList.length = s.size := by simp
  cases ht : takeN s.data.toList with
  | none =>
    have C1 : Hid (∀ w, Calls Try.prog 17 #[.string s] w fun e w' => e = .returned (.tuple #[.int .i64 0, .string ⟨#[]⟩, .int .i64 4]) ∧ Below w.heap.size w w') := by
      exact hide (by simpa only [takeNV, ht, numErr] using hc)
    have C2 : Hid (∀ w, Calls Try.prog 18 #[.string s] w fun e w' => e = .returned (.agg #[.int .i64 0, .string ⟨#[]⟩, .slice none 0 0, .string ⟨#[]⟩, .int .i64 4]) ∧ Below w.heap.size w w') := by
      intro w
      exact rtake_none s w (hide (by simpa only [gotOf, ht, gotV] using hn))
    clear hc hn hl ht
    go_enter Try.func4, Try.ntmps4
    go_wp2_with fail
    refine (unhide C1 _).mono ?_
    rintro e w1 ⟨rfl, hb1⟩
    go_wp2_with fail
    refine (unhide C2 _).mono ?_
    rintro e w2 ⟨rfl, hb2⟩
    go_wp2_with fail
    refine (hab _).mono ?_
    rintro e w3 ⟨rfl, hb3⟩
    go_wp2
    go_ret
    exact ⟨rfl, tr3 hb1 hb2 (bel_of hb3)⟩
  | some x =>
    obtain ⟨v, k⟩ := x
    have hb := takeN_some ht
    have C1 : Hid (∀ w, Calls Try.prog 17 #[.string s] w fun e w' => e = .returned (.tuple #[.int .i64 v, .string (bs (s.data.toList.drop k)), .int .i64 0]) ∧ Below w.heap.size w w') := by
      exact hide (by simpa only [takeNV, ht] using hc)
    have C2 : Hid (∀ w, Calls Try.prog 18 #[.string s] w fun e w' => e = .returned (.agg #[.int .i64 v, .string ⟨#[]⟩, .slice none 0 0, .string (bs (s.data.toList.drop k)), .int .i64 0]) ∧ Below w.heap.size w w') := by
      intro w
      have := rtake_some s w v k hs (by omega) (hide (by simpa only [gotOf, ht, gotV] using hn))
      rw [Lib.Pa.extract_from] at this
      exact this
    clear hc hn hl ht hb
    go_enter Try.func4, Try.ntmps4
    go_wp2_with fail
    refine (unhide C1 _).mono ?_
    rintro e w1 ⟨rfl, hb1⟩
    go_wp2_with fail
    refine (unhide C2 _).mono ?_
    rintro e w2 ⟨rfl, hb2⟩
    go_wp2_with fail
    refine (hab _).mono ?_
    rintro e w3 ⟨rfl, hb3⟩
    go_wp2
    go_ret
    exact ⟨rfl, tr3 hb1 hb2 (bel_of hb3)⟩
end Go.Proofs.Ytekkgmgdihlefaa
