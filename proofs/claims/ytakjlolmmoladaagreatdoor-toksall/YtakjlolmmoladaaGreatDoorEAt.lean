/-
  What 'refs.At' does: what stands at a place of a text, and the place behind it.
-/
import Derived.Test.YtakjlolmmoladaaGreatDoorENu
import Derived.Test.YtakjlolmmoladaaGreatDoorEBy
import Derived.Test.YtakjlolmmoladaaGreatDoorUByt
import Derived.Test.YtakjlolmmoladaaGreatDoorUFst
namespace Go.Proofs.YtakjlolmmoladaaGreatDoor
open Go.RowKit
set_option linter.unusedVariables false

/-- What stands at the beginning of a text that isn't empty, and how many bytes it has; the longest name's character and bytes are handed in. -/
def atWith (l : List UInt8) (c : Int) (n : Nat) : List UInt8 × Int :=
  if ¬ dgt l 0 = 38 then (ub (step l).1, ((step l).2.1 : Int))
  else if 0 < (numAt l).2 then (ub (numC (numAt l).1), (numAt l).2)
  else if 0 < n then (ub c, (n : Int)) else ([38], 1)
/-- Some character and some number of bytes are the longest name's, and the answer is of these. -/
def AtIs (l : List UInt8) (v : Bool) (x : List UInt8) (m : Int) : Prop := ∃ c n, BF (l.drop 1) v 28 c n ∧ atWith l c n = (x, m)

theorem best_ex (m : List UInt8) (v : Bool) : ∀ k, ∃ c n, BF m v k c n
  | 0 => ⟨0, 0, .inl ⟨rfl, rfl, fun j hj => by omega⟩, rfl⟩
  | k + 1 => by
    obtain ⟨c, n, h⟩ := best_ex m v k
    by_cases hn : n < candN k m v
    · exact ⟨_, _, bf_more h hn⟩
    · exact ⟨_, _, bf_same h hn⟩
theorem numG_len (base : Nat) : ∀ (l : List UInt8) (n : Nat), (numG base n l).2 ≤ l.length
  | [], n => by simp [numG]
  | c :: l, n => by
    rw [numG]
    split
    · have := numG_len base l (min (n * base + (digV c.toNat).toNat) 1114112); simp; omega
    · simp
theorem numAt_le (l : List UInt8) : (numAt l).2 ≤ l.length + 4 := by
  unfold numAt
  split
  · split
    · have h1 := numG_len 16 (l.drop 3) 0
      have h2 := semi_le (l.drop (3 + (numG 16 0 (l.drop 3)).2))
      rw [List.length_drop] at h1
      unfold numEnd; split
      · simp; omega
      · simp only []; omega
    · have h1 := numG_len 10 (l.drop 2) 0
      have h2 := semi_le (l.drop (2 + (numG 10 0 (l.drop 2)).2))
      rw [List.length_drop] at h1
      unfold numEnd; split
      · simp; omega
      · simp only []; omega
  · simp; omega
theorem best_isC {m : List UInt8} {v : Bool} {c : Int} {n : Nat} (h : BF m v 28 c n) (hn : 0 < n) : isC c = true := by
  rcases h.1 with ⟨h1, _⟩ | ⟨_, i, hi, _, hc, _⟩
  · omega
  · rw [hc]; exact (nm_facts i hi).2.2.2.2
theorem bytesC (c : Int) (w : World) (ht : Tabs w) (h : isC c = true) : Calls Tryz.prog 69 #[.int .i64 c] w fun e w' => e = .returned (.string (bs (ub c))) ∧ Below w.heap.size w w' := by
  have := bytes_any c w ht
  rw [utfI, h, if_pos rfl] at this
  exact this

theorem at_none (s : ByteArray) (a : Int) (v : Bool) (w : World) (hs : s.size ≤ 9223372036854775000) (h : a < 0 ∨ (s.size : Int) ≤ a) :
    Calls Tryz.prog 49 #[.string s, .int .i64 a, .bool v] w fun e w' => e = .returned (.tuple #[.string ⟨#[]⟩, .int .i64 (s.size : Int)]) ∧ w' = w := by
  by_cases h1 : a < 0
  · clear h
    go_enter Tryz.func49, Tryz.ntmps49
    go_wp2
    go_ret2
    exact ⟨rfl, rfl⟩
  · have h2 : (s.size : Int) ≤ a := by omega
    clear h
    go_enter Tryz.func49, Tryz.ntmps49
    go_wp2
    go_ret2
    exact ⟨rfl, rfl⟩

set_option maxHeartbeats 2000000 in
theorem at_some (s : ByteArray) (k : Nat) (v : Bool) (w : World) (ht : Tab4 w) (hs : s.size ≤ 9223372036854775000) (hk : k < s.size) :
    Calls Tryz.prog 49 #[.string s, .int .i64 (k : Int), .bool v] w fun e w' => (∃ x m, e = .returned (.tuple #[.string (bs x), .int .i64 ((k : Int) + m)]) ∧ AtIs (s.data.toList.drop k) v x m) ∧ Below w.heap.size w w' := by
  have HT := hide ht
  have i0 : ¬ (k : Int) < 0 := by omega
  have i1 : (k : Int) < (s.size : Int) := by omega
  have i2 : ¬ (s.size : Int) ≤ (k : Int) := by omega
  have i3 : (k : Int) ≤ (s.size : Int) := by omega
  have hx := rest_of s k
  have hxs : (s.extract k s.size).size = s.size - k := by simp
  have hxd : (s.extract k s.size).data.toList = s.data.toList.drop k := by rw [hx, bs_toList]
  generalize s.data.toList.drop k = l at *
  clear hx
  obtain ⟨y, hy⟩ : ∃ y, s.extract k s.size = y := ⟨_, rfl⟩
  rw [hy] at hxs hxd
  have hy0 : 0 < y.size := by omega
  have hy0i : (0 : Int) < (y.size : Int) := by omega
  have hyl : y.size ≤ 9223372036854775000 := by omega
  have e := dgt_at y 0 hy0
  have CF := hide (fun w h => first_any y w h (by omega) hy0)
  have CN := hide (fun w => numberAt_any y w hyl)
  have CA := hide (fun w h => nameAt_any y v w h hy0 (by omega))
  unfold firstV at CF
  unfold numV at CN
  have hokc := (step_ok (l := l) (by rw [← hxd]; exact ne_of_size hy0))
  rw [hxd] at CF CN CA e
  have hsn : (step l).2.1 ≤ 4 := hokc.2.2.1
  have BFi := hide (fun w h => bytesC (step l).1 w h hokc.2.2.2)
  have BN := hide (fun w h => bytesC (numC (numAt l).1) w h (numC_isC _))
  have NN := hide (fun w h => number_any (numAt l).1 w h)
  have hnb := numAt_le l
  have hll : l.length = s.size - k := by rw [← hxd, data_len]; exact hxs
  rw [hll] at hnb
  have hat : ∀ c n, BF (l.drop 1) v 28 c n → ∀ x m, atWith l c n = (x, m) → AtIs l v x m := fun c n hb x m h => ⟨c, n, hb, h⟩
  have HA := hide hat
  clear hat hxd hxs hll ht
  by_cases h38 : dgt l 0 = 38
  · rw [h38] at e
    have e38 : (38 : Int) == 38 := rfl
    by_cases hn : 0 < (numAt l).2
    · obtain ⟨c0, n0, hb0⟩ := best_ex (l.drop 1) v 28
      have hw : atWith l c0 n0 = (ub (numC (numAt l).1), (numAt l).2) := by unfold atWith; rw [if_neg (by simp [h38]), if_pos hn]
      have R := hide (unhide HA c0 n0 hb0 _ _ hw)
      generalize (numAt l).1 = na at *
      generalize (numAt l).2 = nb at *
      clear hw hb0 h38
      go_enter Tryz.func49, Tryz.ntmps49
      go_wp2_with fail
      refine (unhide CN _).mono ?_
      rintro e1 w1 ⟨rfl, rfl⟩
      go_wp2_with fail
      refine (unhide NN _ (unhide HT).2.2).mono ?_
      rintro e1 w2 ⟨rfl, hb2⟩
      go_wp2_with fail
      refine (unhide BN _ ((unhide HT).below hb2).1).mono ?_
      rintro e1 w3 ⟨rfl, hb3⟩
      go_wp2
      go_ret2
      exact ⟨⟨_, _, rfl, unhide R⟩, tr2 hb2 hb3⟩
    · have hn' : ¬ 0 < (numAt l).2 := hn
      have hw1 : ∀ c n, 0 < n → atWith l c n = (ub c, (n : Int)) := fun c n h => by unfold atWith; rw [if_neg (by simp [h38]), if_neg hn, if_pos h]
      have hw2 : ∀ c n, ¬ 0 < n → atWith l c n = ([38], 1) := fun c n h => by unfold atWith; rw [if_neg (by simp [h38]), if_neg hn, if_neg h]
      have W1 := hide hw1
      have W2 := hide hw2
      generalize (numAt l).1 = na at *
      generalize (numAt l).2 = nb at *
      clear hw1 hw2 h38 NN BN BFi CF
      go_enter Tryz.func49, Tryz.ntmps49
      go_wp2_with fail
      refine (unhide CN _).mono ?_
      rintro e1 w1 ⟨rfl, rfl⟩
      go_wp2_with fail
      refine (unhide CA _ (unhide HT).2.1).mono ?_
      rintro e1 w2 ⟨⟨c, n, rfl, hB⟩, hb2⟩
      have hn8 := best_le (Nat.le_refl 28) hB.1
      by_cases hnn : 0 < n
      · have hni : (0 : Int) < (n : Int) := by omega
        have BC := hide (fun w h => bytesC c w h (best_isC hB hnn))
        have R := hide (unhide HA c n hB _ _ (unhide W1 c n hnn))
        clear hB
        go_wp2_with fail
        refine (unhide BC _ ((unhide HT).below hb2).1).mono ?_
        rintro e1 w3 ⟨rfl, hb3⟩
        go_wp2
        go_ret2
        exact ⟨⟨_, _, rfl, unhide R⟩, tr2 hb2 hb3⟩
      · have hni : ¬ (0 : Int) < (n : Int) := by omega
        have R := hide (unhide HA c n hB _ _ (unhide W2 c n hnn))
        clear hB
        go_wp2
        go_ret2
        exact ⟨⟨_, _, rfl, unhide R⟩, hb2⟩
  · obtain ⟨c0, n0, hb0⟩ := best_ex (l.drop 1) v 28
    have hw : atWith l c0 n0 = (ub (step l).1, ((step l).2.1 : Int)) := by unfold atWith; rw [if_pos h38]
    have R := hide (unhide HA c0 n0 hb0 _ _ hw)
    generalize dgt l 0 = b at *
    have n38 : ((b : Int) == 38) = false := bneI (by omega)
    generalize (step l).1 = sc at *
    generalize (step l).2.1 = sn at *
    clear hw hb0 h38 CN CA NN BN hnb
    go_enter Tryz.func49, Tryz.ntmps49
    go_wp2_with fail
    refine (unhide CF _ (unhide HT).1).mono ?_
    rintro e1 w1 ⟨rfl, hb1⟩
    go_wp2_with fail
    refine (unhide BFi _ ((unhide HT).below hb1).1).mono ?_
    rintro e1 w2 ⟨rfl, hb2⟩
    go_wp2
    go_ret2
    exact ⟨⟨_, _, rfl, unhide R⟩, tr2 hb1 hb2⟩

def atL (l : List UInt8) (v : Bool) : List UInt8 × Int := atWith l (bestF (l.drop 1) v 28).1 (bestF (l.drop 1) v 28).2
theorem atIs_eq {l : List UInt8} {v : Bool} {x : List UInt8} {m : Int} (h : AtIs l v x m) : atL l v = (x, m) := by
  obtain ⟨c, n, hb, h⟩ := h
  rw [atL, hb.2]; exact h
theorem at_at (s : ByteArray) (k : Nat) (v : Bool) (w : World) (ht : Tab4 w) (hs : s.size ≤ 9223372036854775000) (hk : k < s.size) :
    Calls Tryz.prog 49 #[.string s, .int .i64 (k : Int), .bool v] w fun e w' => e = .returned (.tuple #[.string (bs (atL (s.data.toList.drop k) v).1), .int .i64 ((k : Int) + (atL (s.data.toList.drop k) v).2)]) ∧ Below w.heap.size w w' := by
  refine (at_some s k v w ht hs hk).mono ?_
  rintro e w' ⟨⟨x, m, rfl, h⟩, hb⟩
  rw [atIs_eq h]
  exact ⟨rfl, hb⟩

/-! ### how far it goes -/
theorem pre_len {a b : List UInt8} (h : a.isPrefixOf b = true) : a.length ≤ b.length := (List.isPrefixOf_iff_prefix.1 h).length_le
theorem semi_len (l : List UInt8) : semiN l ≤ l.length := by
  unfold semiN
  split
  · rename_i h; have := pre_len h; simpa using this
  · omega
theorem cand_len (k : Nat) (m : List UInt8) (v : Bool) : candN k m v ≤ m.length + 1 := by
  unfold candN
  split
  · rename_i h
    have h1 := pre_len h
    split
    · rename_i h2
      have h3 := semi_len (m.drop (nmName k).length)
      rw [List.length_drop] at h3; omega
    · split <;> omega
  · omega
theorem numAt_len (l : List UInt8) : (numAt l).2 ≤ l.length := by
  unfold numAt
  split
  · rename_i hp
    have hl := pre_len hp
    simp at hl
    split
    · rename_i hx
      have hx' : 2 < l.length ∧ (dgt l 2 = 120 ∨ dgt l 2 = 88) := by simpa [isHex] using hx
      have h1 := numG_len 16 (l.drop 3) 0
      have h2 := semi_len (l.drop (3 + (numG 16 0 (l.drop 3)).2))
      rw [List.length_drop] at h1 h2
      unfold numEnd; split
      · simp
      · simp only []; omega
    · have h1 := numG_len 10 (l.drop 2) 0
      have h2 := semi_len (l.drop (2 + (numG 10 0 (l.drop 2)).2))
      rw [List.length_drop] at h1 h2
      unfold numEnd; split
      · simp
      · simp only []; omega
  · simp
theorem at_bd {l : List UInt8} (v : Bool) (h : l ≠ []) : 1 ≤ (atL l v).2 ∧ (atL l v).2 ≤ l.length ∧ (atL l v).1.length ≤ 4 := by
  have hok := step_ok h
  have hl : 0 < l.length := List.length_pos_iff.2 h
  obtain ⟨c, n, hb⟩ := best_ex (l.drop 1) v 28
  rw [atL, hb.2]
  have hn : n ≤ l.length := by
    rcases hb.1 with ⟨h1, _⟩ | ⟨_, i, hi, hc, _⟩
    · omega
    · have := cand_len i (l.drop 1) v; rw [List.length_drop] at this; omega
  unfold atWith
  split
  · have := sz_le (step l).1
    simp only []; rw [ub_len]; omega
  · split
    · have := numAt_len l
      have := sz_le (numC (numAt l).1)
      simp only []; rw [ub_len]; omega
    · split
      · have := sz_le c
        simp only []; rw [ub_len]; omega
      · simp; omega
theorem at_ne {l : List UInt8} (v : Bool) (h : l ≠ []) : (atL l v).1 ≠ [] := by
  rw [atL]; unfold atWith
  have hu : ∀ c, ub c ≠ [] := fun c => by have := ub_ne c []; simpa using this
  split
  · exact hu _
  · split
    · exact hu _
    · split
      · exact hu _
      · simp

def allF (v : Bool) : Nat → List UInt8 → List UInt8
  | 0, _ => []
  | f + 1, l => if l = [] then [] else (atL l v).1 ++ allF v f (l.drop (atL l v).2.toNat)
def allL (v : Bool) (l : List UInt8) : List UInt8 := allF v l.length l
theorem allF_fuel (v : Bool) : ∀ (f g : Nat) (l : List UInt8), l.length ≤ f → l.length ≤ g → allF v f l = allF v g l
  | 0, 0, l, _, _ => rfl
  | 0, g + 1, l, h, _ => by
    have : l = [] := List.eq_nil_of_length_eq_zero (by omega)
    subst this; simp [allF]
  | f + 1, 0, l, _, h => by
    have : l = [] := List.eq_nil_of_length_eq_zero (by omega)
    subst this; simp [allF]
  | f + 1, g + 1, l, h1, h2 => by
    rw [allF, allF]
    by_cases e : l = []
    · rw [if_pos e, if_pos e]
    · have hb := at_bd v e
      rw [if_neg e, if_neg e, allF_fuel v f g _ (by rw [List.length_drop]; omega) (by rw [List.length_drop]; omega)]
theorem allL_nil (v : Bool) : allL v [] = [] := rfl
theorem allL_cons (v : Bool) {l : List UInt8} (h : l ≠ []) : allL v l = (atL l v).1 ++ allL v (l.drop (atL l v).2.toNat) := by
  have hb := at_bd v h
  have hl : 0 < l.length := List.length_pos_iff.2 h
  rw [allL, show l.length = (l.length - 1) + 1 from by omega, allF, if_neg h, allL]
  congr 1
  exact allF_fuel v _ _ _ (by rw [List.length_drop]; omega) (Nat.le_refl _)
end Go.Proofs.YtakjlolmmoladaaGreatDoor
