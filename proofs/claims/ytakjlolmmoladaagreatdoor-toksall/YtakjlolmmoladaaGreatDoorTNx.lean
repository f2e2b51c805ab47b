/-
  What 'toks.Next' does: of any text, from any place on, in any mode.
-/
import Derived.Test.YtakjlolmmoladaaGreatDoorTEc
namespace Go.Proofs.YtakjlolmmoladaaGreatDoor
open Go.RowKit
set_option linter.unusedVariables false

def nextT (s n : ByteArray) (kind : Int) (cd : Bool) (a : Int) : PTok × Nat :=
  if a < 0 ∨ (s.size : Int) ≤ a then (noT, s.size)
  else if kind = 1 ∨ kind = 2 then (encT s n kind a.toNat, encE s n a.toNat)
  else dataF s cd (s.size - a.toNat + 1) a.toNat

set_option maxHeartbeats 4000000 in
set_option maxRecDepth 100000 in
theorem next_none (s n : ByteArray) (kind : Int) (cd : Bool) (a : Int) (w : World) (ht : Tab4 w) (hm : Mx w) (hs : s.size ≤ 100000) (hn : n.size ≤ 100000) (h : a < 0 ∨ (s.size : Int) ≤ a) :
    Calls Tryz.prog 6 #[.string s, .int .i64 a, .agg #[.int .i64 kind, .string n, .bool cd]] w (Told w noT s.size) := by
  have HT := hide ht
  have HM := hide hm
  clear ht hm
  have hbb : Below w.heap.size w ((w.alloc (Obj.cells #[.int .i64 kind, .string n, .bool cd] 23)).alloc (Obj.cells #[.int .i64 0, .string ⟨#[]⟩, .slice none 0 0, .bool false, .string ⟨#[]⟩] 27)) := ((Below.refl w.heap.size w).alloc (Nat.le_refl _) _).alloc (by simp) _
  have kk1 : Blk ((w.alloc (Obj.cells #[.int .i64 kind, .string n, .bool cd] 23)).alloc (Obj.cells #[.int .i64 0, .string ⟨#[]⟩, .slice none 0 0, .bool false, .string ⟨#[]⟩] 27)) (w.heap.size + 1) #[.int .i64 0, .string ⟨#[]⟩, .slice none 0 0, .bool false, .string ⟨#[]⟩] 27 := by
    have := Blk.new (w.alloc (Obj.cells #[.int .i64 kind, .string n, .bool cd] 23)) #[.int .i64 0, .string ⟨#[]⟩, .slice none 0 0, .bool false, .string ⟨#[]⟩] 27
    simpa using this
  have KK := hide kk1
  clear kk1
  by_cases h0 : a < 0
  · go_enter Tryz.func6, Tryz.ntmps6
    go_wp2
    have d0 := (unhide KK).cell 0
    have d1 := (unhide KK).cell 1
    have d2 := (unhide KK).cell 2
    have d3 := (unhide KK).cell 3
    have d4 := (unhide KK).cell 4
    exact bodyPost_ret (v := .tuple #[.agg #[.int .i64 0, .string ⟨#[]⟩, .slice none 0 0, .bool false, .string ⟨#[]⟩], .int .i64 (s.size : Int)]) (by simp [results, Tryz.results6, go_sem, d0, d1, d2, d3, d4]) rfl ⟨none, 0, rfl, slN_nil _ _ _, hbb⟩
  · have h1 : (s.size : Int) ≤ a := h.resolve_left h0
    have h0' : ¬ a < 0 := h0
    clear h h0
    go_enter Tryz.func6, Tryz.ntmps6
    go_wp2
    have d0 := (unhide KK).cell 0
    have d1 := (unhide KK).cell 1
    have d2 := (unhide KK).cell 2
    have d3 := (unhide KK).cell 3
    have d4 := (unhide KK).cell 4
    exact bodyPost_ret (v := .tuple #[.agg #[.int .i64 0, .string ⟨#[]⟩, .slice none 0 0, .bool false, .string ⟨#[]⟩], .int .i64 (s.size : Int)]) (by simp [results, Tryz.results6, go_sem, d0, d1, d2, d3, d4]) rfl ⟨none, 0, rfl, slN_nil _ _ _, hbb⟩

set_option maxHeartbeats 4000000 in
set_option maxRecDepth 100000 in
theorem next_one (s n : ByteArray) (kind : Int) (cd : Bool) (i : Nat) (w : World) (ht : Tab4 w) (hm : Mx w) (hs : s.size ≤ 100000) (hn : n.size ≤ 100000) (hi : i < s.size) (hk : kind = 1) :
    Calls Tryz.prog 6 #[.string s, .int .i64 (i : Int), .agg #[.int .i64 kind, .string n, .bool cd]] w (Told w (encT s n kind i) (encE s n i)) := by
  have HT := hide ht
  have HM := hide hm
  clear ht hm
  have CT := hide (fun w ht hm => enclosed_any s n kind cd i w ht hm hs hn hi)
  generalize encT s n kind i = t at *
  generalize encE s n i = E at *
  obtain ⟨tk, tn, ta, tf, tx⟩ := t
  subst hk
  have i0 : ¬ (i : Int) < 0 := by omega
  have i1 : (i : Int) < (s.size : Int) := by omega
  have i2 : ¬ (s.size : Int) ≤ (i : Int) := by omega
  have kk1 : Blk ((w.alloc (Obj.cells #[.int .i64 1, .string n, .bool cd] 23)).alloc (Obj.cells #[.int .i64 0, .string ⟨#[]⟩, .slice none 0 0, .bool false, .string ⟨#[]⟩] 27)) (w.heap.size + 1) #[.int .i64 0, .string ⟨#[]⟩, .slice none 0 0, .bool false, .string ⟨#[]⟩] 27 := by
    have := Blk.new (w.alloc (Obj.cells #[.int .i64 1, .string n, .bool cd] 23)) #[.int .i64 0, .string ⟨#[]⟩, .slice none 0 0, .bool false, .string ⟨#[]⟩] 27
    simpa using this
  have hbb : Below w.heap.size w ((w.alloc (Obj.cells #[.int .i64 1, .string n, .bool cd] 23)).alloc (Obj.cells #[.int .i64 0, .string ⟨#[]⟩, .slice none 0 0, .bool false, .string ⟨#[]⟩] 27)) := ((Below.refl w.heap.size w).alloc (Nat.le_refl _) _).alloc (by simp) _
  go_enter Tryz.func6, Tryz.ntmps6
  go_wp2_with fail
  refine calls_from (fun W => Blk W (w.heap.size + 1) #[.int .i64 0, .string ⟨#[]⟩, .slice none 0 0, .bool false, .string ⟨#[]⟩] 27 ∧ Below w.heap.size w W) ⟨kk1, hbb⟩ ?_
  clear kk1 hbb
  rintro W ⟨k1, hb⟩
  refine (unhide CT _ ((unhide HT).below hb) ((unhide HM).below hb)).mono ?_
  rintro e W4 ⟨q, cap, rfl, hsl, hb'⟩
  have hsl2 := hide (hsl.mono (b' := w.heap.size + 1 + 1) (by have := k1.lt; omega))
  clear hsl
  replace k1 := k1.later hb'
  replace hb := tr2 hb hb'
  clear hb'
  have c0 : W4.cell? ⟨w.heap.size + 1, 0, none⟩ = some (.int .i64 0) := k1.cell 0
  have c1 : W4.cell? ⟨w.heap.size + 1, 1, none⟩ = some (.string ⟨#[]⟩) := k1.cell 1
  have c2 : W4.cell? ⟨w.heap.size + 1, 2, none⟩ = some (.slice none 0 0) := k1.cell 2
  have c3 : W4.cell? ⟨w.heap.size + 1, 3, none⟩ = some (.bool false) := k1.cell 3
  have c4 : W4.cell? ⟨w.heap.size + 1, 4, none⟩ = some (.string ⟨#[]⟩) := k1.cell 4
  have f0 : W4.frozen? ⟨w.heap.size + 1, 0, none⟩ = false := k1.frozen 0
  have f1 : W4.frozen? ⟨w.heap.size + 1, 1, none⟩ = false := k1.frozen 1
  have f2 : W4.frozen? ⟨w.heap.size + 1, 2, none⟩ = false := k1.frozen 2
  have f3 : W4.frozen? ⟨w.heap.size + 1, 3, none⟩ = false := k1.frozen 3
  have f4 : W4.frozen? ⟨w.heap.size + 1, 4, none⟩ = false := k1.frozen 4
  have K1 := hide k1
  clear k1
  go_wp2
  have k1 := (((((unhide K1).set 0 (by simp) (.int .i64 tk)).set 1 (by simp) (.string tn)).set 2 (by simp) (.slice q ta.length cap)).set 3 (by simp) (.bool tf)).set 4 (by simp) (.string tx)
  have d0 := k1.cell 0
  have d1 := k1.cell 1
  have d2 := k1.cell 2
  have d3 := k1.cell 3
  have d4 := k1.cell 4
  exact bodyPost_ret (v := .tuple #[.agg #[.int .i64 tk, .string tn, .slice q ta.length cap, .bool tf, .string tx], .int .i64 (E : Int)]) (by simp [results, Tryz.results6, go_sem, d0, d1, d2, d3, d4]) rfl ⟨q, cap, rfl, ((((((unhide hsl2).away (Nat.lt_succ_self _) _).away (Nat.lt_succ_self _) _).away (Nat.lt_succ_self _) _).away (Nat.lt_succ_self _) _).away (Nat.lt_succ_self _) _).mono (by omega), ((((hb.setCell (by simp) _).setCell (by simp) _).setCell (by simp) _).setCell (by simp) _).setCell (by simp) _⟩

set_option maxHeartbeats 4000000 in
set_option maxRecDepth 100000 in
theorem next_two (s n : ByteArray) (kind : Int) (cd : Bool) (i : Nat) (w : World) (ht : Tab4 w) (hm : Mx w) (hs : s.size ≤ 100000) (hn : n.size ≤ 100000) (hi : i < s.size) (hk : kind = 2) :
    Calls Tryz.prog 6 #[.string s, .int .i64 (i : Int), .agg #[.int .i64 kind, .string n, .bool cd]] w (Told w (encT s n kind i) (encE s n i)) := by
  have HT := hide ht
  have HM := hide hm
  clear ht hm
  have CT := hide (fun w ht hm => enclosed_any s n kind cd i w ht hm hs hn hi)
  generalize encT s n kind i = t at *
  generalize encE s n i = E at *
  obtain ⟨tk, tn, ta, tf, tx⟩ := t
  subst hk
  have i0 : ¬ (i : Int) < 0 := by omega
  have i1 : (i : Int) < (s.size : Int) := by omega
  have i2 : ¬ (s.size : Int) ≤ (i : Int) := by omega
  have kk1 : Blk ((w.alloc (Obj.cells #[.int .i64 2, .string n, .bool cd] 23)).alloc (Obj.cells #[.int .i64 0, .string ⟨#[]⟩, .slice none 0 0, .bool false, .string ⟨#[]⟩] 27)) (w.heap.size + 1) #[.int .i64 0, .string ⟨#[]⟩, .slice none 0 0, .bool false, .string ⟨#[]⟩] 27 := by
    have := Blk.new (w.alloc (Obj.cells #[.int .i64 2, .string n, .bool cd] 23)) #[.int .i64 0, .string ⟨#[]⟩, .slice none 0 0, .bool false, .string ⟨#[]⟩] 27
    simpa using this
  have hbb : Below w.heap.size w ((w.alloc (Obj.cells #[.int .i64 2, .string n, .bool cd] 23)).alloc (Obj.cells #[.int .i64 0, .string ⟨#[]⟩, .slice none 0 0, .bool false, .string ⟨#[]⟩] 27)) := ((Below.refl w.heap.size w).alloc (Nat.le_refl _) _).alloc (by simp) _
  go_enter Tryz.func6, Tryz.ntmps6
  go_wp2_with fail
  refine calls_from (fun W => Blk W (w.heap.size + 1) #[.int .i64 0, .string ⟨#[]⟩, .slice none 0 0, .bool false, .string ⟨#[]⟩] 27 ∧ Below w.heap.size w W) ⟨kk1, hbb⟩ ?_
  clear kk1 hbb
  rintro W ⟨k1, hb⟩
  refine (unhide CT _ ((unhide HT).below hb) ((unhide HM).below hb)).mono ?_
  rintro e W4 ⟨q, cap, rfl, hsl, hb'⟩
  have hsl2 := hide (hsl.mono (b' := w.heap.size + 1 + 1) (by have := k1.lt; omega))
  clear hsl
  replace k1 := k1.later hb'
  replace hb := tr2 hb hb'
  clear hb'
  have c0 : W4.cell? ⟨w.heap.size + 1, 0, none⟩ = some (.int .i64 0) := k1.cell 0
  have c1 : W4.cell? ⟨w.heap.size + 1, 1, none⟩ = some (.string ⟨#[]⟩) := k1.cell 1
  have c2 : W4.cell? ⟨w.heap.size + 1, 2, none⟩ = some (.slice none 0 0) := k1.cell 2
  have c3 : W4.cell? ⟨w.heap.size + 1, 3, none⟩ = some (.bool false) := k1.cell 3
  have c4 : W4.cell? ⟨w.heap.size + 1, 4, none⟩ = some (.string ⟨#[]⟩) := k1.cell 4
  have f0 : W4.frozen? ⟨w.heap.size + 1, 0, none⟩ = false := k1.frozen 0
  have f1 : W4.frozen? ⟨w.heap.size + 1, 1, none⟩ = false := k1.frozen 1
  have f2 : W4.frozen? ⟨w.heap.size + 1, 2, none⟩ = false := k1.frozen 2
  have f3 : W4.frozen? ⟨w.heap.size + 1, 3, none⟩ = false := k1.frozen 3
  have f4 : W4.frozen? ⟨w.heap.size + 1, 4, none⟩ = false := k1.frozen 4
  have K1 := hide k1
  clear k1
  go_wp2
  have k1 := (((((unhide K1).set 0 (by simp) (.int .i64 tk)).set 1 (by simp) (.string tn)).set 2 (by simp) (.slice q ta.length cap)).set 3 (by simp) (.bool tf)).set 4 (by simp) (.string tx)
  have d0 := k1.cell 0
  have d1 := k1.cell 1
  have d2 := k1.cell 2
  have d3 := k1.cell 3
  have d4 := k1.cell 4
  exact bodyPost_ret (v := .tuple #[.agg #[.int .i64 tk, .string tn, .slice q ta.length cap, .bool tf, .string tx], .int .i64 (E : Int)]) (by simp [results, Tryz.results6, go_sem, d0, d1, d2, d3, d4]) rfl ⟨q, cap, rfl, ((((((unhide hsl2).away (Nat.lt_succ_self _) _).away (Nat.lt_succ_self _) _).away (Nat.lt_succ_self _) _).away (Nat.lt_succ_self _) _).away (Nat.lt_succ_self _) _).mono (by omega), ((((hb.setCell (by simp) _).setCell (by simp) _).setCell (by simp) _).setCell (by simp) _).setCell (by simp) _⟩

set_option maxHeartbeats 4000000 in
set_option maxRecDepth 100000 in
theorem next_zero (s n : ByteArray) (kind : Int) (cd : Bool) (i : Nat) (w : World) (ht : Tab4 w) (hm : Mx w) (hs : s.size ≤ 100000) (hn : n.size ≤ 100000) (hi : i < s.size) (hk : ¬ kind = 1) (hk2 : ¬ kind = 2) :
    Calls Tryz.prog 6 #[.string s, .int .i64 (i : Int), .agg #[.int .i64 kind, .string n, .bool cd]] w (Told w (dataF s cd (s.size - i + 1) i).1 (dataF s cd (s.size - i + 1) i).2) := by
  have HT := hide ht
  have HM := hide hm
  clear ht hm
  have CT := hide (fun w ht hm => data_any s i cd w ht hm hs (by omega))
  have nk : (kind == 1) = false := beq_eq_false_iff_ne.2 hk
  have nk2 : (kind == 2) = false := beq_eq_false_iff_ne.2 hk2
  clear hk hk2
  generalize (dataF s cd (s.size - i + 1) i).1 = t at *
  generalize (dataF s cd (s.size - i + 1) i).2 = E at *
  obtain ⟨tk, tn, ta, tf, tx⟩ := t
  have i0 : ¬ (i : Int) < 0 := by omega
  have i1 : (i : Int) < (s.size : Int) := by omega
  have i2 : ¬ (s.size : Int) ≤ (i : Int) := by omega
  have kk1 : Blk ((w.alloc (Obj.cells #[.int .i64 kind, .string n, .bool cd] 23)).alloc (Obj.cells #[.int .i64 0, .string ⟨#[]⟩, .slice none 0 0, .bool false, .string ⟨#[]⟩] 27)) (w.heap.size + 1) #[.int .i64 0, .string ⟨#[]⟩, .slice none 0 0, .bool false, .string ⟨#[]⟩] 27 := by
    have := Blk.new (w.alloc (Obj.cells #[.int .i64 kind, .string n, .bool cd] 23)) #[.int .i64 0, .string ⟨#[]⟩, .slice none 0 0, .bool false, .string ⟨#[]⟩] 27
    simpa using this
  have hbb : Below w.heap.size w ((w.alloc (Obj.cells #[.int .i64 kind, .string n, .bool cd] 23)).alloc (Obj.cells #[.int .i64 0, .string ⟨#[]⟩, .slice none 0 0, .bool false, .string ⟨#[]⟩] 27)) := ((Below.refl w.heap.size w).alloc (Nat.le_refl _) _).alloc (by simp) _
  go_enter Tryz.func6, Tryz.ntmps6
  go_wp2_with fail
  refine calls_from (fun W => Blk W (w.heap.size + 1) #[.int .i64 0, .string ⟨#[]⟩, .slice none 0 0, .bool false, .string ⟨#[]⟩] 27 ∧ Below w.heap.size w W) ⟨kk1, hbb⟩ ?_
  clear kk1 hbb
  rintro W ⟨k1, hb⟩
  refine (unhide CT _ ((unhide HT).below hb) ((unhide HM).below hb)).mono ?_
  rintro e W4 ⟨q, cap, rfl, hsl, hb'⟩
  have hsl2 := hide (hsl.mono (b' := w.heap.size + 1 + 1) (by have := k1.lt; omega))
  clear hsl
  replace k1 := k1.later hb'
  replace hb := tr2 hb hb'
  clear hb'
  have c0 : W4.cell? ⟨w.heap.size + 1, 0, none⟩ = some (.int .i64 0) := k1.cell 0
  have c1 : W4.cell? ⟨w.heap.size + 1, 1, none⟩ = some (.string ⟨#[]⟩) := k1.cell 1
  have c2 : W4.cell? ⟨w.heap.size + 1, 2, none⟩ = some (.slice none 0 0) := k1.cell 2
  have c3 : W4.cell? ⟨w.heap.size + 1, 3, none⟩ = some (.bool false) := k1.cell 3
  have c4 : W4.cell? ⟨w.heap.size + 1, 4, none⟩ = some (.string ⟨#[]⟩) := k1.cell 4
  have f0 : W4.frozen? ⟨w.heap.size + 1, 0, none⟩ = false := k1.frozen 0
  have f1 : W4.frozen? ⟨w.heap.size + 1, 1, none⟩ = false := k1.frozen 1
  have f2 : W4.frozen? ⟨w.heap.size + 1, 2, none⟩ = false := k1.frozen 2
  have f3 : W4.frozen? ⟨w.heap.size + 1, 3, none⟩ = false := k1.frozen 3
  have f4 : W4.frozen? ⟨w.heap.size + 1, 4, none⟩ = false := k1.frozen 4
  have K1 := hide k1
  clear k1
  go_wp2
  have k1 := (((((unhide K1).set 0 (by simp) (.int .i64 tk)).set 1 (by simp) (.string tn)).set 2 (by simp) (.slice q ta.length cap)).set 3 (by simp) (.bool tf)).set 4 (by simp) (.string tx)
  have d0 := k1.cell 0
  have d1 := k1.cell 1
  have d2 := k1.cell 2
  have d3 := k1.cell 3
  have d4 := k1.cell 4
  exact bodyPost_ret (v := .tuple #[.agg #[.int .i64 tk, .string tn, .slice q ta.length cap, .bool tf, .string tx], .int .i64 (E : Int)]) (by simp [results, Tryz.results6, go_sem, d0, d1, d2, d3, d4]) rfl ⟨q, cap, rfl, ((((((unhide hsl2).away (Nat.lt_succ_self _) _).away (Nat.lt_succ_self _) _).away (Nat.lt_succ_self _) _).away (Nat.lt_succ_self _) _).away (Nat.lt_succ_self _) _).mono (by omega), ((((hb.setCell (by simp) _).setCell (by simp) _).setCell (by simp) _).setCell (by simp) _).setCell (by simp) _⟩

theorem next_any (s n : ByteArray) (kind : Int) (cd : Bool) (a : Int) (w : World) (ht : Tab4 w) (hm : Mx w) (hs : s.size ≤ 100000) (hn : n.size ≤ 100000) :
    Calls Tryz.prog 6 #[.string s, .int .i64 a, .agg #[.int .i64 kind, .string n, .bool cd]] w (Told w (nextT s n kind cd a).1 (nextT s n kind cd a).2) := by
  unfold nextT
  by_cases h : a < 0 ∨ (s.size : Int) ≤ a
  · rw [if_pos h]; exact next_none s n kind cd a w ht hm hs hn h
  · rw [if_neg h]
    obtain ⟨i, rfl⟩ : ∃ i : Nat, a = (i : Int) := ⟨a.toNat, by omega⟩
    have hi : i < s.size := by omega
    rw [Int.toNat_natCast]
    by_cases hk : kind = 1 ∨ kind = 2
    · rw [if_pos hk]
      rcases hk with hk | hk
      · exact next_one s n kind cd i w ht hm hs hn hi hk
      · exact next_two s n kind cd i w ht hm hs hn hi hk
    · rw [if_neg hk]; exact next_zero s n kind cd i w ht hm hs hn hi (fun e => hk (Or.inl e)) (fun e => hk (Or.inr e))
end Go.Proofs.YtakjlolmmoladaaGreatDoor
