/-
  The law QuillTexts walked: of every text the text, and the list, that 'quill.TakeText' and 'quill.TakeList' answer are the document's.
-/
import Derived.Test.YtekkgmgdihlefaaRm
namespace Go.Proofs.Ytekkgmgdihlefaa
open Go.RowKit
set_option linter.unusedVariables false

theorem view_of_owns {w : World} {base : Nat} {v : Value} {ts : List ByteArray} (h : w.ownsRow base 9 1 v ts.length (ts.map Value.string)) : View w v ts := by
  obtain ⟨_, h⟩ := h
  rcases h with ⟨rfl, h0⟩ | ⟨g, cap, cur, rfl, h1, h2, h3, h4, h5, h6⟩
  · exact ⟨by rw [h0]; decide, none, 0, by rw [h0], fun h => by omega⟩
  · refine ⟨Nat.le_trans h3 h4, some ⟨g, 0, none⟩, cap, rfl, fun _ => ⟨g, 0, rfl, fun i hi => ?_⟩⟩
    rw [Joins.cell_of_block h2]
    have e : cur.toList[i]? = some (.string (ts.getD i ByteArray.empty)) := by
      have : (cur.toList.take (ts.length * 1))[i]? = some (.string (ts.getD i ByteArray.empty)) := by
        rw [h6, List.getElem?_map, List.getD, List.getElem?_eq_getElem hi]; rfl
      rw [List.getElem?_take] at this
      rw [if_pos (by omega)] at this
      exact this
    simpa using e

/-- What the two TakeTexts answer of a text, at once. -/
theorem texts_both (s : ByteArray) (hs : s.size ≤ 9223372036854775807) : ∃ (x y : ByteArray) (er : Int),
    (∀ w, Calls Try.prog 19 #[.string s] w fun e w' => e = .returned (.tuple #[.string x, .string y, .int .i64 er]) ∧ Below w.heap.size w w') ∧
    (∀ w, Calls Try.prog 20 #[.string s] w fun e w' => e = .returned (.agg #[.int .i64 0, .string x, .slice none 0 0, .string y, .int .i64 er]) ∧ Below w.heap.size w w') := by
  have h1 := fun w => takeText_any s w hs
  have h2 := fun w => rtext_any s w hs
  cases ht : takeT s.data.toList with
  | none =>
    exact ⟨⟨#[]⟩, ⟨#[]⟩, 4, by simpa only [takeTV, ht, textErr] using h1, by simpa only [rtextV, ht, takenV] using h2⟩
  | some x =>
    obtain ⟨k, n⟩ := x
    exact ⟨_, _, 0, by simpa only [takeTV, ht] using h1, by simpa only [rtextV, ht, takenV] using h2⟩

/-- What the two TakeLists answer of a text, at once. -/
theorem lists_both (s : ByteArray) (hs : s.size ≤ 9223372036854775807) : ∃ (ts : List ByteArray) (r : ByteArray) (er : Int),
    (∀ w, Calls Try.prog 21 #[.string s] w fun e w' => ∃ v, e = .returned (.tuple #[v, .string r, .int .i64 er]) ∧ w'.ownsRow w.heap.size 9 1 v ts.length (ts.map Value.string) ∧ Below w.heap.size w w') ∧
    (∀ w, Calls Try.prog 22 #[.string s] w fun e w' => ∃ v, e = .returned (.agg #[.int .i64 0, .string ⟨#[]⟩, v, .string r, .int .i64 er]) ∧ w'.ownsRow w.heap.size 9 1 v ts.length (ts.map Value.string) ∧ Below w.heap.size w w') := by
  have h1 := fun w => takeList_any s w hs
  have h2 := fun w => rlist_any s w hs
  cases ht : takeL s.data.toList with
  | none =>
    refine ⟨[], ⟨#[]⟩, 4, fun w => (h1 w).mono fun e w' h => ?_, fun w => (h2 w).mono fun e w' h => ?_⟩
    · rw [ht] at h; exact ⟨_, h.1, World.ownsRow_nil _ _ _ _, h.2⟩
    · rw [ht] at h; exact ⟨_, h.1, World.ownsRow_nil _ _ _ _, h.2⟩
  | some x =>
    obtain ⟨ts, r⟩ := x
    refine ⟨ts, bs r, 0, fun w => (h1 w).mono fun e w' h => ?_, fun w => (h2 w).mono fun e w' h => ?_⟩
    · rw [ht] at h; exact h
    · rw [ht] at h; exact h

set_option maxHeartbeats 1000000 in
theorem texts_walk (s : ByteArray) (w : World) (hs : s.size ≤ 9223372036854775807) :
    Calls Try.prog 5 #[.string s] w fun e w' => e = .returned (.bool true) ∧ Below w.heap.size w w' := by
  have hab := ab_ok
  by_cases h5 : 5000 < s.size
  · go_enter Try.func5, Try.ntmps5
    go_wp2_with fail
    refine (hab _).mono ?_
    rintro e w1 ⟨rfl, hb1⟩
    go_wp2
    go_ret
    exact ⟨rfl, hb1⟩
  obtain ⟨x, y, e1, c1, c2⟩ := texts_both s hs
  obtain ⟨ts, r, e2, c3, c4⟩ := lists_both s hs
  have C1 := hide c1
  have C2 := hide c2
  have C3 := hide c3
  have C4 := hide c4
  clear c1 c2 c3 c4
  have h6 : s.size ≤ 5000 := by omega
  clear h5
  go_enter Try.func5, Try.ntmps5
  go_wp2_with fail
  refine (unhide C1 _).mono ?_
  rintro e w1 ⟨rfl, hb1⟩
  go_wp2_with fail
  refine (unhide C2 _).mono ?_
  rintro e w2 ⟨rfl, hb2⟩
  go_wp2_with fail
  refine (unhide C3 _).mono ?_
  rintro e w3 ⟨v, rfl, ho3, hb3⟩
  go_wp2_with fail
  refine (unhide C4 _).mono ?_
  rintro e w4 ⟨v2, rfl, ho4, hb4⟩
  obtain ⟨va, vn, vc, hvs⟩ := slice_of ho4
  subst hvs
  have ho3' := ownsRow_below ho3 hb4
  have b2 := hb2.size
  have b3 := hb3.size
  have b4 := hb4.size
  simp only [World.size_alloc] at b3
  have d : ∀ o, w4.cell? ⟨w2.heap.size, o, none⟩ = (#[.int .i64 0, .string x, .slice none 0 0, .string y, .int .i64 e1] : Array Value)[o]? := fun o => by
    rw [hb4.cell (p := ⟨w2.heap.size, o, none⟩) (by show w2.heap.size < _; omega), hb3.cell (p := ⟨w2.heap.size, o, none⟩) (by simp), World.cell?_alloc_at _ _ _ _ rfl]
  have d1 := d 1
  have d3 := d 3
  have d4 := d 4
  simp at d1 d3 d4
  have hz : w2.heap.size < w4.heap.size := by omega
  clear d
  go_wp2_with fail
  refine (texts_any _ _ ts ts _ (view_of_owns (ho3'.alloc _)) (view_of_owns (ho4.alloc _))).mono ?_
  rw [sameT_refl]
  rintro e w5 ⟨rfl, hb5⟩
  have q : ∀ o, w5.cell? ⟨w4.heap.size, o, none⟩ = (#[.int .i64 0, .string ⟨#[]⟩, .slice va vn vc, .string r, .int .i64 e2] : Array Value)[o]? := fun o => by
    rw [hb5.cell (p := ⟨w4.heap.size, o, none⟩) (by simp), World.cell?_alloc_at _ _ _ _ rfl]
  have q3 := q 3
  have q4 := q 4
  simp at q3 q4
  clear q
  go_wp2_with fail
  refine (hab _).mono ?_
  rintro e w6 ⟨rfl, hb6⟩
  go_wp2
  go_ret
  exact ⟨rfl, tr3 (tr3 hb1 hb2 (bel_of hb3)) hb4 (tr3 (bel_of hb5) hb6 (Below.refl _ _))⟩
end Go.Proofs.Ytekkgmgdihlefaa
