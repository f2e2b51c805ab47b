/-
  The statement ToksGoes, walked.
-/
import Derived.Test.YtakjlolmmoladaaDoorTTs
namespace Go.Proofs.YtakjlolmmoladaaDoor
open Go.RowKit
set_option linter.unusedVariables false

theorem tagT_goes (s : ByteArray) (i : Nat) (h : (tagT s i).1 = 0) : tagE s i = s.size := by
  unfold tagT at h
  unfold tagE
  split
  · rename_i hl
    rw [if_pos hl] at h
    split at h <;> cases h
  · rfl
theorem dataF_goes (s : ByteArray) (cd : Bool) : ∀ (k i : Nat), (dataF s cd k i).1.1 = 0 → (dataF s cd k i).2 = s.size
  | 0, i => fun _ => rfl
  | k + 1, i => by
    intro h
    rw [dataF] at h ⊢
    split
    · rename_i hl
      rw [if_pos hl] at h
      split
      · rename_i hb
        rw [if_pos hb] at h
        cases h
      · rename_i hb
        rw [if_neg hb] at h
        split
        · rename_i hk
          rw [if_pos hk] at h
          exact dataF_goes s cd k _ h
        · rename_i hk
          rw [if_neg hk] at h
          exact absurd h hk
    · rfl
theorem nextT_goes (s n : ByteArray) (kind : Int) (cd : Bool) (i : Nat) (hi : i < s.size) :
    i < (nextT s n kind cd (i : Int)).2 ∧ (nextT s n kind cd (i : Int)).2 ≤ s.size ∧ ((nextT s n kind cd (i : Int)).1.1 = 0 → (nextT s n kind cd (i : Int)).2 = s.size) := by
  unfold nextT
  rw [if_neg (by omega), Int.toNat_natCast]
  split
  · unfold encT encE
    have hz := seekN_le (lastP s n) (n := s.size) (k := i) (by omega)
    have e : seekN (lastP s n) s.size i = encZ s n i := rfl
    rw [e] at hz
    by_cases h : encZ s n i = i
    · rw [if_pos h, if_pos h]
      have hl := last_bounds (seek_now hi (e.trans h))
      have ht := tagE_le s i (by omega)
      exact ⟨by show i < tagE s i; omega, ht.1, tagT_goes s i⟩
    · rw [if_neg h, if_neg h]
      exact ⟨by show i < encZ s n i; omega, hz.1, fun e => by cases e⟩
  · have := dataF_le s cd (s.size - i + 1) i (by omega) hi
    exact ⟨this.2, this.1, dataF_goes s cd _ i⟩
theorem nextT_out (s n : ByteArray) (kind : Int) (cd : Bool) (a : Int) (h : a < 0 ∨ (s.size : Int) ≤ a) : nextT s n kind cd a = (noT, s.size) := by
  unfold nextT; rw [if_pos h]

set_option maxHeartbeats 4000000 in
set_option maxRecDepth 100000 in
theorem goes_long (s n : ByteArray) (kind a : Int) (cd : Bool) (w : World) (ht : Tab4 w) (hm : Mx w) (h : ¬ (s.size ≤ 2000 ∧ n.size ≤ 2000)) :
    Calls Tryd.prog 3 #[.string s, .int .i64 a, .agg #[.int .i64 kind, .string n, .bool cd]] w fun e w' => e = .returned (.bool true) ∧ Below w.heap.size w w' := by
  have hbA : Below w.heap.size w (w.alloc (Obj.cells #[.int .i64 kind, .string n, .bool cd] 23)) := (Below.refl _ _).alloc (Nat.le_refl _) _
  have C := hide (tags_ok _ (ht.below hbA) (hm.below hbA))
  by_cases h1 : 2000 < s.size
  · have i1 : (2000 : Int) < (s.size : Int) := by omega
    clear h h1 ht hm
    go_enter Tryd.func3, Tryd.ntmps3
    go_wp2_with fail
    refine (unhide C).mono ?_
    rintro e w1 ⟨rfl, hb⟩
    go_wp2
    go_ret
    exact ⟨rfl, tr2 hbA hb⟩
  · have i1 : decide ((2000 : Int) < (s.size : Int)) = false := decide_eq_false (by omega)
    have i2 : (2000 : Int) < (n.size : Int) := by omega
    clear h h1 ht hm
    go_enter Tryd.func3, Tryd.ntmps3
    go_wp2_with fail
    refine (unhide C).mono ?_
    rintro e w1 ⟨rfl, hb⟩
    go_wp2
    go_ret
    exact ⟨rfl, tr2 hbA hb⟩

set_option maxHeartbeats 4000000 in
set_option maxRecDepth 100000 in
theorem goes_main (s n : ByteArray) (kind a : Int) (cd : Bool) (w : World) (ht : Tab4 w) (hm : Mx w) (h1 : s.size ≤ 2000) (h2 : n.size ≤ 2000) :
    Calls Tryd.prog 3 #[.string s, .int .i64 a, .agg #[.int .i64 kind, .string n, .bool cd]] w fun e w' => e = .returned (.bool true) ∧ Below w.heap.size w w' := by
  have i1 : decide ((2000 : Int) < (s.size : Int)) = false := decide_eq_false (by omega)
  have i2 : decide ((2000 : Int) < (n.size : Int)) = false := decide_eq_false (by omega)
  have HT := hide ht
  have HM := hide hm
  have hbA : Below w.heap.size w (w.alloc (Obj.cells #[.int .i64 kind, .string n, .bool cd] 23)) := (Below.refl _ _).alloc (Nat.le_refl _) _
  have CN := hide (fun w ht hm => next_any s n kind cd a w ht hm (by omega) (by omega))
  have CT := hide tags_ok
  clear ht hm
  by_cases ho : a < 0 ∨ (s.size : Int) ≤ a
  · rw [nextT_out s n kind cd a ho] at CN
    unfold noT at CN
    by_cases h0 : a < 0
    · clear ho
      go_enter Tryd.func3, Tryd.ntmps3
      go_wp2_with fail
      refine (unhide CN _ ((unhide HT).below hbA) ((unhide HM).below hbA)).mono ?_
      rintro e w1 ⟨q, cap, rfl, hsl, hb1⟩
      have hb := tr2 hbA hb1
      clear hsl hb1 hbA
      go_wp2_with fail
      have hb' := hb.alloc hb.size (Obj.cells #[.int .i64 0, .string ⟨#[]⟩, .slice q 0 cap, .bool false, .string ⟨#[]⟩] 27)
      refine (unhide CT _ ((unhide HT).below hb') ((unhide HM).below hb')).mono ?_
      rintro e w2 ⟨rfl, hb2⟩
      go_wp2
      go_ret
      exact ⟨rfl, tr2 hb' hb2⟩
    · have h3 : (s.size : Int) ≤ a := ho.resolve_left h0
      have h0' : decide (a < 0) = false := decide_eq_false h0
      clear ho h0
      go_enter Tryd.func3, Tryd.ntmps3
      go_wp2_with fail
      refine (unhide CN _ ((unhide HT).below hbA) ((unhide HM).below hbA)).mono ?_
      rintro e w1 ⟨q, cap, rfl, hsl, hb1⟩
      have hb := tr2 hbA hb1
      clear hsl hb1 hbA
      go_wp2_with fail
      have hb' := hb.alloc hb.size (Obj.cells #[.int .i64 0, .string ⟨#[]⟩, .slice q 0 cap, .bool false, .string ⟨#[]⟩] 27)
      refine (unhide CT _ ((unhide HT).below hb') ((unhide HM).below hb')).mono ?_
      rintro e w2 ⟨rfl, hb2⟩
      go_wp2
      go_ret
      exact ⟨rfl, tr2 hb' hb2⟩
  · obtain ⟨i, rfl⟩ : ∃ i : Nat, a = (i : Int) := ⟨a.toNat, by omega⟩
    have hi : i < s.size := by omega
    obtain ⟨g1, g2, g3⟩ := nextT_goes s n kind cd i hi
    generalize nextT s n kind cd (i : Int) = r at *
    obtain ⟨⟨tk, tn, ta, tf, tx⟩, E⟩ := r
    have j0 : decide ((i : Int) < 0) = false := decide_eq_false (by omega)
    have j1 : decide ((s.size : Int) ≤ (i : Int)) = false := decide_eq_false (by omega)
    have j2 : (i : Int) < (E : Int) := by have g1' : i < E := g1; omega
    have j3 : (E : Int) ≤ (s.size : Int) := by have g2' : E ≤ s.size := g2; omega
    by_cases hk : tk = 0
    · have hE : E = s.size := g3 hk
      have j4 : ((E : Int) == (s.size : Int)) = true := by rw [hE]; simp
      subst hk
      clear g1 g2 g3 ho hE
      go_enter Tryd.func3, Tryd.ntmps3
      go_wp2_with fail
      refine (unhide CN _ ((unhide HT).below hbA) ((unhide HM).below hbA)).mono ?_
      rintro e w1 ⟨q, cap, rfl, hsl, hb1⟩
      have hb := tr2 hbA hb1
      clear hsl hb1 hbA
      go_wp2_with fail
      have hb' := hb.alloc hb.size (Obj.cells #[.int .i64 0, .string tn, .slice q ta.length cap, .bool tf, .string tx] 27)
      refine (unhide CT _ ((unhide HT).below hb') ((unhide HM).below hb')).mono ?_
      rintro e w2 ⟨rfl, hb2⟩
      go_wp2
      go_ret
      exact ⟨rfl, tr2 hb' hb2⟩
    · have j4 : (tk == 0) = false := beq_eq_false_iff_ne.2 hk
      clear g1 g2 g3 ho
      go_enter Tryd.func3, Tryd.ntmps3
      go_wp2_with fail
      refine (unhide CN _ ((unhide HT).below hbA) ((unhide HM).below hbA)).mono ?_
      rintro e w1 ⟨q, cap, rfl, hsl, hb1⟩
      have hb := tr2 hbA hb1
      clear hsl hb1 hbA
      go_wp2_with fail
      have hb' := hb.alloc hb.size (Obj.cells #[.int .i64 tk, .string tn, .slice q ta.length cap, .bool tf, .string tx] 27)
      refine (unhide CT _ ((unhide HT).below hb') ((unhide HM).below hb')).mono ?_
      rintro e w2 ⟨rfl, hb2⟩
      go_wp2
      go_ret
      exact ⟨rfl, tr2 hb' hb2⟩
theorem goes_walk (s n : ByteArray) (kind a : Int) (cd : Bool) (w : World) (ht : Tab4 w) (hm : Mx w) :
    Calls Tryd.prog 3 #[.string s, .int .i64 a, .agg #[.int .i64 kind, .string n, .bool cd]] w fun e w' => e = .returned (.bool true) ∧ Below w.heap.size w w' := by
  by_cases h : s.size ≤ 2000 ∧ n.size ≤ 2000
  · exact goes_main s n kind a cd w ht hm h.1 h.2
  · exact goes_long s n kind a cd w ht hm h
end Go.Proofs.YtakjlolmmoladaaDoor
