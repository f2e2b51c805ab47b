/-
  What the reference's 'At' and 'All' of layer 4 do.
-/
import Derived.Test.YtmiehnknnkcdlaaDoorFNw
import Derived.Test.YtmiehnknnkcdlaaDoorRAtt
namespace Go.Proofs.YtmiehnknnkcdlaaDoor
open Go.RowKit
set_option linter.unusedVariables false

theorem at_num {l : List UInt8} {v : Bool} (h0 : dgt l 0 = 38) (hn : 0 < (numAt l).2) : atL l v = (ub (numC (numAt l).1), (numAt l).2) := by
  rw [atL]; unfold atWith; rw [if_neg (by simp [h0]), if_pos hn]
theorem at_name {l : List UInt8} {v : Bool} (h0 : dgt l 0 = 38) (hn : ¬ 0 < (numAt l).2) {c : Int} {n : Nat} (hb : BF (l.drop 1) v 28 c n) : atL l v = if 0 < n then (ub c, (n : Int)) else ([38], 1) := by
  rw [atL, hb.2]; unfold atWith; rw [if_neg (by simp [h0]), if_neg hn]
theorem no_name {m : List UInt8} {v : Bool} (h : dgt m 0 = 35) {c : Int} {n : Nat} (hb : BF m v 28 c n) : n = 0 := by
  rcases hb.1 with ⟨h1, _⟩ | ⟨h0, i, hi, hc, _⟩
  · exact h1
  · exfalso
    have hf := nm_facts i hi
    have key : m.take (nmName i).length = nmName i → False := by
      intro ht
      have hm : 0 < m.length := by
        rcases Nat.eq_zero_or_pos m.length with g | g
        · rw [List.eq_nil_of_length_eq_zero g, List.take_nil] at ht
          have := congrArg List.length ht; simp at this; omega
        · exact g
      obtain ⟨x, hx, hxn⟩ := dgt_take (m := m) (n := 1) (by omega) (by omega)
      have hx2 : x ∈ nmName i := by
        rw [← ht]
        have : m.take 1 <+: m.take (nmName i).length := List.take_prefix_take_left (by omega)
        exact this.subset hx
      have := ltN_true (nm_plain i hi x hx2)
      rw [hxn] at this
      simp only [Nat.sub_self] at this
      omega
    rcases cand_hit hi (by rw [hc]; exact h0) with ⟨_, h2, h3⟩ | ⟨_, h2, h3⟩
    · exact key (by rw [h2, show (nmName i).length + 2 - 2 = (nmName i).length by omega] at h3; exact h3)
    · exact key (by rw [h2, show (nmName i).length + 1 - 1 = (nmName i).length by omega] at h3; exact h3)

theorem atB_drop (l : List UInt8) (i k : Nat) : atB l (i + k) = dgt (l.drop i) k := by
  rw [atB_dgt, dgt_drop]
theorem dgt_pos {l : List UInt8} {k : Nat} (h : dgt l k ≠ 0) : k < l.length := by
  rcases Nat.lt_or_ge k l.length with g | g
  · exact g
  · exfalso; apply h; unfold dgt; rw [List.getD, List.getElem?_eq_none g]; rfl
theorem pre_two {l : List UInt8} (h0 : dgt l 0 = 38) (h1 : dgt l 1 = 35) : [38, 35].isPrefixOf l = true := by
  have hl := dgt_pos (l := l) (k := 1) (by omega)
  match l, hl, h0, h1 with
  | a :: b :: r, _, h0, h1 =>
    have ea : a = 38 := UInt8.toNat.inj h0
    have eb : b = 35 := UInt8.toNat.inj h1
    subst ea; subst eb; rfl
theorem two_pre {l : List UInt8} (h : [38, 35].isPrefixOf l = true) : dgt l 1 = 35 := by
  obtain ⟨t, rfl⟩ := List.isPrefixOf_iff_prefix.1 h
  rfl
theorem at_named {l : List UInt8} {v : Bool} (h0 : dgt l 0 = 38) (h1 : ¬ dgt l 1 = 35) : match refL (l.drop 1) v with | none => atL l v = ([38], 1) | some (c, n) => atL l v = (ub c, (n : Int) + 1) := by
  have hn : ¬ 0 < (numAt l).2 := by
    unfold numAt
    rw [if_neg (fun h => h1 (two_pre h))]; simp
  obtain ⟨c, n, hb⟩ := best_ex (l.drop 1) v 28
  rw [at_name h0 hn hb, refL_best hb.1]
  by_cases e : n = 0
  · rw [if_pos e, if_neg (by omega)]
  · rw [if_neg e, if_pos (by omega)]
    simp only []
    congr 1; omega
theorem at_hash {l : List UInt8} {v : Bool} (h0 : dgt l 0 = 38) (h1 : dgt l 1 = 35) {fr base : Nat} (hn : numAt l = numEnd l fr (numG base 0 (l.drop fr))) (hb1 : 1 ≤ base) (hf : 1 ≤ fr) :
    ((numR base 0 (l.drop fr)).2 = 0 → atL l v = ([38], 1)) ∧ ((numR base 0 (l.drop fr)).2 ≠ 0 → atL l v = (ub (numC ((numR base 0 (l.drop fr)).1 : Int)), ((fr + (numR base 0 (l.drop fr)).2 + semiN (l.drop (fr + (numR base 0 (l.drop fr)).2)) : Nat) : Int))) := by
  have hc := num_char hb1 (l.drop fr)
  rw [hc.1, hc.2]
  unfold numEnd at hn
  constructor
  · intro hz
    rw [if_pos hz] at hn
    obtain ⟨c, n, hb⟩ := best_ex (l.drop 1) v 28
    rw [at_name h0 (by rw [hn]; simp) hb, if_neg]
    have := no_name (by rw [dgt_drop]; exact h1) hb
    omega
  · intro hz
    rw [if_neg hz] at hn
    have h2 : 0 < (numAt l).2 := by rw [hn]; simp only []; omega
    rw [at_num h0 h2, hn]
theorem numAt_hex {l : List UInt8} (h0 : dgt l 0 = 38) (h1 : dgt l 1 = 35) (h2 : dgt l 2 = 120 ∨ dgt l 2 = 88) : numAt l = numEnd l 3 (numG 16 0 (l.drop 3)) := by
  have hl := dgt_pos (l := l) (k := 2) (by omega)
  have hx : isHex l = true := decide_eq_true ⟨hl, h2⟩
  unfold numAt
  rw [if_pos (pre_two h0 h1), if_pos hx]
theorem numAt_ten {l : List UInt8} (h0 : dgt l 0 = 38) (h1 : dgt l 1 = 35) (h2 : ¬ (dgt l 2 = 120 ∨ dgt l 2 = 88)) : numAt l = numEnd l 2 (numG 10 0 (l.drop 2)) := by
  have hx : ¬ isHex l = true := fun h => h2 (of_decide_eq_true h).2
  unfold numAt
  rw [if_pos (pre_two h0 h1), if_neg hx]

def rAtV (s : ByteArray) (i : Nat) (v : Bool) : Value := gotR (atL (s.data.toList.drop i) v).1 ((i : Int) + (atL (s.data.toList.drop i) v).2)
theorem rat_none (s : ByteArray) (a : Int) (v : Bool) (w : World) (hs : s.size ≤ 9223372036854775000) (h : a < 0 ∨ (s.size : Int) ≤ a) :
    Calls Tryd.prog 11 #[.string s, .int .i64 a, .bool v] w fun e w' => e = .returned (gotR [] (s.size : Int)) ∧ Below w.heap.size w w' := by
  by_cases h1 : a < 0
  · clear h
    go_enter Tryd.func11, Tryd.ntmps11
    go_wp2
    exact bodyPost_ret (v := gotR [] (s.size : Int)) (by simp [results, Tryd.results11, go_sem, gotR, bs]) rfl ⟨rfl, (Below.refl _ _).alloc (Nat.le_refl _) _⟩
  · have h2 : (s.size : Int) ≤ a := by omega
    clear h
    go_enter Tryd.func11, Tryd.ntmps11
    go_wp2
    exact bodyPost_ret (v := gotR [] (s.size : Int)) (by simp [results, Tryd.results11, go_sem, gotR, bs]) rfl ⟨rfl, (Below.refl _ _).alloc (Nat.le_refl _) _⟩
end Go.Proofs.YtmiehnknnkcdlaaDoor
