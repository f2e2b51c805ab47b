/-
  Several texts in one: what the functions of the program and of the document's answer do.
-/
import Derived.Test.YtakjlolmmoladaaGreatDoorTDt

/-
  The reference's way through a text (layer 5), held against the program's: plain facts.
-/
namespace Go.Proofs.YtakjlolmmoladaaGreatDoor
open Go.RowKit
set_option linter.unusedVariables false

/-! ### the parts of a tag, without fuel -/
theorem parts_fuel (s : ByteArray) : ∀ (k k' i : Nat) (ats : List (ByteArray × ByteArray)) (f : Bool), s.size < i + k → s.size < i + k' → partsF s k i ats f = partsF s k' i ats f
  | 0, k', i, ats, f, h, h' => by rw [parts_end (by omega), parts_end (by omega)]
  | k + 1, k', i, ats, f, h, h' => by
    by_cases hi : i < s.size
    · obtain ⟨m, rfl⟩ : ∃ m, k' = m + 1 := ⟨k' - 1, by omega⟩
      have hq := aqB_le s i hi
      by_cases h1 : dgt s.data.toList i = 47
      · rw [parts_slash hi h1, parts_slash hi h1]; exact parts_fuel s k m _ _ _ (by omega) (by omega)
      by_cases h2 : spN (dgt s.data.toList i) = true
      · rw [parts_space hi h1 h2, parts_space hi h1 h2]; exact parts_fuel s k m _ _ _ (by omega) (by omega)
      have h2' : spN (dgt s.data.toList i) = false := Bool.eq_false_iff.2 h2
      by_cases h3 : dgt s.data.toList i = 62
      · rw [parts_gt hi h3, parts_gt hi h3]
      cases h4 : hasN ats (naN s i) with
      | true => rw [parts_twice hi h1 h2' h3 h4, parts_twice hi h1 h2' h3 h4]; exact parts_fuel s k m _ _ _ (by omega) (by omega)
      | false => rw [parts_new hi h1 h2' h3 h4, parts_new hi h1 h2' h3 h4]; exact parts_fuel s k m _ _ _ (by omega) (by omega)
    · rw [parts_end (by omega), parts_end (by omega)]
def partsG (s : ByteArray) (i : Nat) (ats : List (ByteArray × ByteArray)) (f : Bool) : Nat × List (ByteArray × ByteArray) × Bool := partsF s (s.size - i + 1) i ats f
theorem pg_of {s : ByteArray} {k i : Nat} {ats : List (ByteArray × ByteArray)} {f : Bool} (h : s.size < i + k) : partsF s k i ats f = partsG s i ats f := parts_fuel s _ _ _ _ _ h (by omega)
theorem pg_end {s : ByteArray} {i : Nat} {ats : List (ByteArray × ByteArray)} {f : Bool} (h : s.size ≤ i) : partsG s i ats f = (i, ats, f) := parts_end h
theorem pg_slash {s : ByteArray} {i : Nat} {ats : List (ByteArray × ByteArray)} {f : Bool} (h : i < s.size) (hb : dgt s.data.toList i = 47) : partsG s i ats f = partsG s (i + 1) ats ([47, 62].isPrefixOf (s.data.toList.drop i)) := (parts_slash h hb).trans (pg_of (by omega))
theorem pg_space {s : ByteArray} {i : Nat} {ats : List (ByteArray × ByteArray)} {f : Bool} (h : i < s.size) (hb : spN (dgt s.data.toList i) = true) : partsG s i ats f = partsG s (i + 1) ats f :=
  (parts_space h (fun e => by rw [e] at hb; exact absurd hb (by decide)) hb).trans (pg_of (by omega))
theorem pg_gt {s : ByteArray} {i : Nat} {ats : List (ByteArray × ByteArray)} {f : Bool} (h : i < s.size) (hb : dgt s.data.toList i = 62) : partsG s i ats f = (i, ats, f) := parts_gt h hb
theorem pg_twice {s : ByteArray} {i : Nat} {ats : List (ByteArray × ByteArray)} {f : Bool} (h : i < s.size) (h1 : ¬ dgt s.data.toList i = 47) (h2 : spN (dgt s.data.toList i) = false) (h3 : ¬ dgt s.data.toList i = 62) (hb : hasN ats (naN s i) = true) : partsG s i ats f = partsG s (aqB s i) ats f :=
  (parts_twice h h1 h2 h3 hb).trans (pg_of (by have := aqB_le s i h; omega))
theorem pg_new {s : ByteArray} {i : Nat} {ats : List (ByteArray × ByteArray)} {f : Bool} (h : i < s.size) (h1 : ¬ dgt s.data.toList i = 47) (h2 : spN (dgt s.data.toList i) = false) (h3 : ¬ dgt s.data.toList i = 62) (hb : hasN ats (naN s i) = false) : partsG s i ats f = partsG s (aqB s i) (ats ++ [(naN s i, aqV s i)]) f :=
  (parts_new h h1 h2 h3 hb).trans (pg_of (by have := aqB_le s i h; omega))
def skipN (s : ByteArray) (i : Nat) : Nat := seekN (nsP s) s.size i
theorem skip_le (s : ByteArray) {i : Nat} (h : i ≤ s.size) : skipN s i ≤ s.size ∧ i ≤ skipN s i := seekN_le (nsP s) h
theorem seek_is (p : Nat → Bool) (n : Nat) : ∀ (d k : Nat), n - k = d → seekN p n k < n → p (seekN p n k) = true
  | 0, k, hd, h => by rw [seek_end p (by omega)] at h; omega
  | d + 1, k, hd, h => by
    cases hp : p k with
    | true => rw [seek_hit p hp]; exact hp
    | false =>
      rw [seek_next p (by omega) hp] at h ⊢
      exact seek_is p n d (k + 1) (by omega) h
theorem skip_no (s : ByteArray) (i : Nat) (h : skipN s i < s.size) : spN (dgt s.data.toList (skipN s i)) = false := by
  have := seek_is (nsP s) s.size _ i rfl h
  unfold nsP at this
  unfold skipN nsP
  simpa using this
theorem pg_skip (s : ByteArray) (ats : List (ByteArray × ByteArray)) (f : Bool) : ∀ (d i : Nat), s.size - i = d → partsG s i ats f = partsG s (skipN s i) ats f
  | 0, i, h => by unfold skipN; rw [seek_end (nsP s) (by omega)]
  | d + 1, i, h => by
    cases hp : nsP s i with
    | true => unfold skipN; rw [seek_hit (nsP s) hp]
    | false =>
      have : skipN s i = skipN s (i + 1) := seek_next (nsP s) (by omega) hp
      rw [this, pg_space (by omega) (by unfold nsP at hp; simpa using hp)]
      exact pg_skip s ats f d (i + 1) (by omega)

/-! ### a text that is sought -/
def occP (s : ByteArray) (x : List UInt8) (i : Nat) : Bool := x.isPrefixOf (s.data.toList.drop i)
def fdN (s : ByteArray) (x : List UInt8) (i : Nat) : Nat := seekN (occP s x) s.size i
theorem occ_room {s : ByteArray} {x : List UInt8} {i : Nat} (h : occP s x i = true) (hx : x ≠ []) : i + x.length ≤ s.size := by
  rcases Lib.occAt_room (s := s.data.toList) (sub := x) (i := i) h with h | h
  · rw [data_len] at h; exact h
  · exact absurd h hx
theorem fd_le (s : ByteArray) (x : List UInt8) {i : Nat} (h : i ≤ s.size) : fdN s x i ≤ s.size ∧ i ≤ fdN s x i := seekN_le _ h
theorem seek_before (p : Nat → Bool) (n : Nat) : ∀ (d k : Nat), n - k = d → ∀ j, k ≤ j → j < seekN p n k → p j = false
  | 0, k, hd, j, h1, h2 => by rw [seek_end p (by omega)] at h2; omega
  | d + 1, k, hd, j, h1, h2 => by
    cases hp : p k with
    | true => rw [seek_hit p hp] at h2; omega
    | false =>
      rw [seek_next p (by omega) hp] at h2
      by_cases e : j = k
      · rw [e]; exact hp
      · exact seek_before p n d (k + 1) (by omega) j (by omega) h2
theorem index_fd (s : ByteArray) (x : List UInt8) (i : Nat) (hi : i ≤ s.size) (hx : x ≠ []) : Lib.index (s.data.toList.drop i) x = if fdN s x i < s.size then ((fdN s x i - i : Nat) : Int) else -1 := by
  have hle := fd_le s x hi
  have hoc : ∀ j, Lib.occAt (s.data.toList.drop i) x j = occP s x (i + j) := fun j => by unfold Lib.occAt occP; rw [List.drop_drop]
  split
  · rename_i h
    refine Lib.index_first (by rw [List.length_drop, data_len]; omega) ?_ (fun j hj => ?_)
    · rw [hoc, show i + (fdN s x i - i) = fdN s x i by omega]; exact seek_is _ _ _ i rfl h
    · rw [hoc]; exact seek_before _ _ _ i rfl _ (by omega) (by have : i + j < fdN s x i := by omega
                                                               exact this)
  · rename_i h
    refine Lib.index_none (fun j hj => ?_)
    rw [List.length_drop, data_len] at hj
    rw [hoc]
    by_cases hj2 : i + j < s.size
    · exact seek_before _ _ _ i rfl _ (by omega) (by have : i + j < fdN s x i := by omega
                                                     exact this)
    · cases e : occP s x (i + j) with
      | false => rfl
      | true =>
        have := occ_room e hx
        have : 0 < x.length := List.length_pos_iff.2 hx
        omega
theorem cutL_fd (s : ByteArray) (x : List UInt8) (i : Nat) (hi : i ≤ s.size) (hx : x ≠ []) : cutL s i x = (s.data.toList.drop i).take (fdN s x i - i) := by
  have hle := fd_le s x hi
  unfold cutL Lib.cut
  rw [index_fd s x i hi hx]
  by_cases h : fdN s x i < s.size
  · rw [if_pos h, if_pos (by omega)]
    simp only [Int.toNat_natCast]
  · rw [if_neg h, if_neg (by omega)]
    have : fdN s x i = s.size := by omega
    rw [this, List.take_of_length_le (by rw [List.length_drop, data_len]; exact Nat.le_refl _)]
theorem cutE_fd (s : ByteArray) (x : List UInt8) (i : Nat) (hi : i ≤ s.size) (hx : x ≠ []) : cutE s i x = if fdN s x i < s.size then fdN s x i + x.length else s.size := by
  have hle := fd_le s x hi
  have hc : (Lib.cut (s.data.toList.drop i) x).2.2 = decide (fdN s x i < s.size) := by
    unfold Lib.cut
    rw [index_fd s x i hi hx]
    by_cases h : fdN s x i < s.size
    · rw [if_pos h, if_pos (by omega), decide_eq_true h]
    · rw [if_neg h, if_neg (by omega), decide_eq_false h]
  unfold cutE
  rw [hc, cutL_fd s x i hi hx, List.length_take, List.length_drop, data_len]
  by_cases h : fdN s x i < s.size
  · rw [decide_eq_true h, if_pos rfl, if_pos h]; omega
  · rw [decide_eq_false h, if_neg (by decide), if_neg h]

/-! ### a comment's end -/
theorem seek_or (p q r : Nat → Bool) (hr : ∀ k, r k = (p k || q k)) (n : Nat) : ∀ (d k : Nat), n - k = d → seekN r n k = min (seekN p n k) (seekN q n k)
  | 0, k, hd => by rw [seek_end r (by omega), seek_end p (by omega), seek_end q (by omega)]; omega
  | d + 1, k, hd => by
    have hk : k < n := by omega
    cases hp : p k with
    | true =>
      have : r k = true := by rw [hr, hp]; rfl
      rw [seek_hit r this, seek_hit p hp]
      have := (seekN_le q (n := n) (k := k) (by omega)).2
      omega
    | false =>
      cases hq : q k with
      | true =>
        have : r k = true := by rw [hr, hp, hq]; rfl
        rw [seek_hit r this, seek_hit q hq]
        have := (seekN_le p (n := n) (k := k) (by omega)).2
        omega
      | false =>
        have : r k = false := by rw [hr, hp, hq]; rfl
        rw [seek_next r hk this, seek_next p hk hp, seek_next q hk hq]
        exact seek_or p q r hr n d (k + 1) (by omega)
theorem nePos_or (s : ByteArray) (k : Nat) : nePos s k = (occP s [45, 45, 62] k || occP s [45, 45, 33, 62] k) := by
  unfold nePos neN occP
  cases [45, 45, 62].isPrefixOf (s.data.toList.drop k) with
  | true => rfl
  | false => cases [45, 45, 33, 62].isPrefixOf (s.data.toList.drop k) <;> rfl
theorem noteZ_min (s : ByteArray) (i : Nat) : noteZ s i = min (fdN s [45, 45, 62] i) (fdN s [45, 45, 33, 62] i) := seek_or _ _ _ (nePos_or s) s.size _ i rfl
theorem not_both (l : List UInt8) (h : [45, 45, 62].isPrefixOf l = true) : [45, 45, 33, 62].isPrefixOf l = false := by
  cases e : [45, 45, 33, 62].isPrefixOf l with
  | false => rfl
  | true =>
    rw [List.isPrefixOf_iff_prefix] at h e
    obtain ⟨t, rfl⟩ := h
    obtain ⟨u, hu⟩ := e
    simp at hu
end Go.Proofs.YtakjlolmmoladaaGreatDoor

/-
  What the reference's small functions of layer 5 do: is, find, one, ends, skip, letter, Begins, past.
-/
namespace Go.Proofs.YtakjlolmmoladaaGreatDoor
open Go.RowKit
set_option linter.unusedVariables false

theorem pre_room {x l : List UInt8} (h : x.isPrefixOf l = true) : x.length ≤ l.length := by
  rw [List.isPrefixOf_iff_prefix] at h; exact h.length_le
set_option maxHeartbeats 1000000 in
theorem is_any (s x : ByteArray) (i : Nat) (w : World) (hs : s.size ≤ 100000) (hx : x.size ≤ 100000) (hx1 : 1 ≤ x.size) (hi : i ≤ 200000) :
    Calls Tryz.prog 29 #[.string s, .int .i64 (i : Int), .string x] w fun e w' => e = .returned (.bool (x.data.toList.isPrefixOf (s.data.toList.drop i))) ∧ w' = w := by
  have h0 : (0 : Int) ≤ (i : Int) := by omega
  by_cases h1 : (x.size : Int) ≤ (s.size : Int) - (i : Int)
  · have hp := Lib.occ_of_piece s x i (by omega)
    have hv : x.data.toList.isPrefixOf (s.data.toList.drop i) = ((s.extract i (i + x.size)).toList == x.toList) := by
      rw [← hp]; rfl
    rw [hv]
    have h2 : (i : Int) + (x.size : Int) ≤ (s.size : Int) := by omega
    clear hp hv
    generalize hb : ((s.extract i (i + x.size)).toList == x.toList) = b at *
    go_enter Tryz.func29, Tryz.ntmps29
    go_wp2
    go_ret
    exact ⟨rfl, rfl⟩
  · have hv : x.data.toList.isPrefixOf (s.data.toList.drop i) = false := by
      cases e : x.data.toList.isPrefixOf (s.data.toList.drop i) with
      | false => rfl
      | true => have := pre_room e; rw [List.length_drop, data_len, data_len] at this; omega
    rw [hv]
    have h1' : decide ((x.size : Int) ≤ (s.size : Int) - (i : Int)) = false := decide_eq_false h1
    clear h1 hv
    go_enter Tryz.func29, Tryz.ntmps29
    go_wp2
    go_ret
    exact ⟨rfl, rfl⟩

set_option maxHeartbeats 1000000 in
theorem find_any (s x : ByteArray) (i : Nat) (w : World) (hs : s.size ≤ 100000) (hx : x.size ≤ 100000) (hx1 : 1 ≤ x.size) (hi : i ≤ s.size) :
    Calls Tryz.prog 40 #[.string s, .int .i64 (i : Int), .string x] w fun e w' => e = .returned (.int .i64 (fdN s x.data.toList i : Nat)) ∧ w' = w := by
  go_enter Tryz.func40, Tryz.ntmps40
  go_wp2
  go_loopw [7] (fun a wr => ∃ k : Nat, k ≤ s.size ∧ a = .int .i64 k ∧ fdN s x.data.toList k = fdN s x.data.toList i ∧ wr = w) (fun a _ => s.size - (intOf a).toNat)
  case atStart => exact ⟨i, hi, rfl, rfl, rfl⟩
  case round =>
    obtain ⟨k, hk, rfl, hfd, rfl⟩ := hrel
    have HF := hide hfd
    clear hfd
    by_cases hp : k < s.size
    · have hpi : (k : Int) < (s.size : Int) := by omega
      have C := hide (fun w => is_any s x k w hs hx hx1 (by omega))
      cases ho : x.data.toList.isPrefixOf (s.data.toList.drop k) with
      | true =>
        rw [ho] at C
        have HC := hide (show fdN s x.data.toList k = k from seek_hit _ ho)
        clear ho
        go_wp2_with fail
        refine (unhide C _).mono ?_
        rintro e1 w1 ⟨rfl, rfl⟩
        go_wp2
        go_ret
        exact ⟨by rw [← unhide HF, unhide HC]; rfl, rfl⟩
      | false =>
        rw [ho] at C
        have HC := hide (show fdN s x.data.toList k = fdN s x.data.toList (k + 1) from seek_next _ hp ho)
        clear ho
        go_wp2_with fail
        refine (unhide C _).mono ?_
        rintro e1 w1 ⟨rfl, rfl⟩
        go_wp2
        go_roundw
        case rel => exact ⟨k + 1, by omega, by go_num, by rw [← unhide HC]; exact unhide HF, by first | exact rfl | trivial⟩
        case measure => simp [intOf]; omega
    · have HC := hide (show fdN s x.data.toList k = k from seek_end _ (by omega))
      have hpi : ¬ (k : Int) < (s.size : Int) := by omega
      clear hp
      go_wp2
      go_ret
      exact ⟨by rw [← unhide HF, unhide HC]; rfl, rfl⟩

set_option maxHeartbeats 1000000 in
theorem skip_any (s : ByteArray) (i : Nat) (w : World) (hs : s.size ≤ 100000) (hi : i ≤ s.size) :
    Calls Tryz.prog 33 #[.string s, .int .i64 (i : Int)] w fun e w' => e = .returned (.int .i64 (skipN s i : Nat)) ∧ w' = w := by
  go_enter Tryz.func33, Tryz.ntmps33
  go_wp2
  go_loopw [5] (fun a wr => ∃ k : Nat, k ≤ s.size ∧ a = .int .i64 k ∧ skipN s k = skipN s i ∧ wr = w) (fun a _ => s.size - (intOf a).toNat)
  case atStart => exact ⟨i, hi, rfl, rfl, rfl⟩
  case round =>
    obtain ⟨k, hk, rfl, hfd, rfl⟩ := hrel
    have HF := hide hfd
    clear hfd
    by_cases hp : k < s.size
    · have hpi : (k : Int) < (s.size : Int) := by omega
      have C := hide (fun w => rspace_any (dgt s.data.toList k) w)
      have e0 := dgt_at s k hp
      cases ho : nsP s k with
      | true =>
        have HC := hide (show skipN s k = k from seek_hit _ ho)
        unfold nsP at ho
        generalize dgt s.data.toList k = b at *
        have ho' : spN b = false := by simpa using ho
        rw [ho'] at C
        clear ho ho'
        go_wp2_with fail
        refine (unhide C _).mono ?_
        rintro e1 w1 ⟨rfl, rfl⟩
        go_wp2
        go_ret
        exact ⟨by rw [← unhide HF, unhide HC]; rfl, rfl⟩
      | false =>
        have HC := hide (show skipN s k = skipN s (k + 1) from seek_next _ hp ho)
        unfold nsP at ho
        generalize dgt s.data.toList k = b at *
        have ho' : spN b = true := by simpa using ho
        rw [ho'] at C
        clear ho ho'
        go_wp2_with fail
        refine (unhide C _).mono ?_
        rintro e1 w1 ⟨rfl, rfl⟩
        go_wp2
        go_roundw
        case rel => exact ⟨k + 1, by omega, by go_num, by rw [← unhide HC]; exact unhide HF, by first | exact rfl | trivial⟩
        case measure => simp [intOf]; omega
    · have HC := hide (show skipN s k = k from seek_end _ (by omega))
      have hpi : ¬ (k : Int) < (s.size : Int) := by omega
      clear hp
      go_wp2
      go_ret
      exact ⟨by rw [← unhide HF, unhide HC]; rfl, rfl⟩

theorem one_any (b : Nat) (w : World) (hb : b < 256) : Calls Tryz.prog 55 #[.int .u8 (b : Int)] w fun e w' => e = .returned (.string (str [(b : Int)])) ∧ Below w.heap.size w w' := by
  have hcv := convL w w.heap.size [(b : Int)] rfl
  simp only [List.map_cons, List.map_nil, List.length_cons, List.length_nil, Nat.zero_add] at hcv
  go_enter Tryz.func55, Tryz.ntmps55
  go_wp2
  go_ret
  exact ⟨rfl, (Below.refl _ _).alloc (Nat.le_refl _) _⟩

/-- Does a byte end a name, or a value? -/
def stB (z : ByteArray) (b : Nat) : Bool := spN b || decide (fdN z (str [(b : Int)]).data.toList 0 ≠ z.size)
def stP (s z : ByteArray) (i : Nat) : Bool := stB z (dgt s.data.toList i)
set_option maxHeartbeats 2000000 in
theorem ends_any (s z : ByteArray) (i : Nat) (w : World) (hs : s.size ≤ 100000) (hz : z.size ≤ 1000) (hi : i ≤ s.size) :
    Calls Tryz.prog 32 #[.string s, .int .i64 (i : Int), .string z] w fun e w' => e = .returned (.int .i64 (seekN (stP s z) s.size i : Nat)) ∧ Below w.heap.size w w' := by
  go_enter Tryz.func32, Tryz.ntmps32
  go_wp2
  go_loopw [7] (fun a wr => ∃ k : Nat, k ≤ s.size ∧ a = .int .i64 k ∧ seekN (stP s z) s.size k = seekN (stP s z) s.size i ∧ Below w.heap.size w wr) (fun a _ => s.size - (intOf a).toNat)
  case atStart => exact ⟨i, hi, rfl, rfl, Below.refl _ _⟩
  case round =>
    obtain ⟨k, hk, rfl, hfd, hbw⟩ := hrel
    have HF := hide hfd
    clear hfd
    by_cases hp : k < s.size
    · have hpi : (k : Int) < (s.size : Int) := by omega
      have C := hide (fun w => rspace_any (dgt s.data.toList k) w)
      have CO := hide (fun w => one_any (dgt s.data.toList k) w (dgt_lt _ _))
      have CF := hide (fun w => find_any z (str [(dgt s.data.toList k : Int)]) 0 w (by omega) (by rw [str_size]; exact (by decide : 1 ≤ 100000)) (by rw [str_size]; exact Nat.le_refl 1) (Nat.zero_le _))
      have e0 := dgt_at s k hp
      cases ho : stP s z k with
      | true =>
        have HC := hide (show seekN (stP s z) s.size k = k from seek_hit _ ho)
        unfold stP stB at ho
        generalize dgt s.data.toList k = b at *
        cases hsp : spN b with
        | true =>
          rw [hsp] at C
          clear ho hsp
          go_wp2_with fail
          refine (unhide C _).mono ?_
          rintro e1 w1 ⟨rfl, rfl⟩
          go_wp2
          go_ret
          exact ⟨by rw [← unhide HF, unhide HC]; rfl, hbw⟩
        | false =>
          rw [hsp] at C ho
          generalize fdN z (str [(b : Int)]).data.toList 0 = F at *
          generalize str [(b : Int)] = B at *
          have ne : ((F : Int) == (z.size : Int)) = false := bneI (by have : F ≠ z.size := by simpa using ho
                                                                      omega)
          clear ho hsp
          go_wp2_with fail
          refine (unhide C _).mono ?_
          rintro e1 w1 ⟨rfl, rfl⟩
          go_wp2_with fail
          refine (unhide CO _).mono ?_
          rintro e1 w2 ⟨rfl, hb2⟩
          go_wp2_with fail
          refine (unhide CF _).mono ?_
          rintro e1 w3 ⟨rfl, rfl⟩
          go_wp2
          go_ret
          exact ⟨by rw [← unhide HF, unhide HC]; rfl, tr2 hbw hb2⟩
      | false =>
        have HC := hide (show seekN (stP s z) s.size k = seekN (stP s z) s.size (k + 1) from seek_next _ hp ho)
        unfold stP stB at ho
        generalize dgt s.data.toList k = b at *
        rw [Bool.or_eq_false_iff] at ho
        obtain ⟨hsp, ho⟩ := ho
        rw [hsp] at C
        generalize fdN z (str [(b : Int)]).data.toList 0 = F at *
        generalize str [(b : Int)] = B at *
        have ne : ((F : Int) == (z.size : Int)) = true := by have : F = z.size := by simpa using ho
                                                             rw [this]; simp
        clear ho hsp
        go_wp2_with fail
        refine (unhide C _).mono ?_
        rintro e1 w1 ⟨rfl, rfl⟩
        go_wp2_with fail
        refine (unhide CO _).mono ?_
        rintro e1 w2 ⟨rfl, hb2⟩
        go_wp2_with fail
        refine (unhide CF _).mono ?_
        rintro e1 w3 ⟨rfl, rfl⟩
        go_wp2
        go_roundw
        case rel => exact ⟨k + 1, by omega, by go_num, by rw [← unhide HC]; exact unhide HF, tr2 hbw hb2⟩
        case measure => simp [intOf]; omega
    · have HC := hide (show seekN (stP s z) s.size k = k from seek_end _ (by omega))
      have hpi : ¬ (k : Int) < (s.size : Int) := by omega
      clear hp
      go_wp2
      go_ret
      exact ⟨by rw [← unhide HF, unhide HC]; rfl, hbw⟩
theorem st_en : ∀ b : Fin 256, stB ⟨#[47, 62]⟩ b.val = enB b.val := by decide +kernel
theorem st_ea : ∀ b : Fin 256, stB ⟨#[47, 62, 61]⟩ b.val = eaB b.val := by decide +kernel
theorem st_uv : ∀ b : Fin 256, stB ⟨#[62]⟩ b.val = (decide (b.val = 62) || spN b.val) := by decide +kernel
theorem stP_en (s : ByteArray) : stP s ⟨#[47, 62]⟩ = enP s := funext fun i => st_en ⟨_, dgt_lt s.data.toList i⟩
theorem stP_ea (s : ByteArray) : stP s ⟨#[47, 62, 61]⟩ = eaP s := funext fun i => st_ea ⟨_, dgt_lt s.data.toList i⟩
theorem stP_uv (s : ByteArray) : stP s ⟨#[62]⟩ = uvP s := funext fun i => st_uv ⟨_, dgt_lt s.data.toList i⟩

def ltP (s : ByteArray) (i : Nat) : Bool := decide (i < s.size) && ltN (dgt s.data.toList i)
set_option maxHeartbeats 1000000 in
theorem letter5_any (s : ByteArray) (i : Nat) (w : World) (hs : s.size ≤ 100000) :
    Calls Tryz.prog 37 #[.string s, .int .i64 (i : Int)] w fun e w' => e = .returned (.bool (ltP s i)) ∧ w' = w := by
  unfold ltP
  by_cases hp : i < s.size
  · have hpi : (i : Int) < (s.size : Int) := by omega
    have C := hide (fun w => rletter_any (dgt s.data.toList i) w)
    have e0 := dgt_at s i hp
    rw [decide_eq_true hp, Bool.true_and]
    generalize ltN (dgt s.data.toList i) = r at *
    generalize dgt s.data.toList i = b at *
    go_enter Tryz.func37, Tryz.ntmps37
    go_wp2_with fail
    refine (unhide C _).mono ?_
    rintro e1 w1 ⟨rfl, rfl⟩
    go_wp2
    go_ret
    exact ⟨rfl, rfl⟩
  · have hpi : ¬ (i : Int) < (s.size : Int) := by omega
    rw [decide_eq_false hp, Bool.false_and]
    clear hp
    go_enter Tryz.func37, Tryz.ntmps37
    go_wp2
    go_ret
    exact ⟨rfl, rfl⟩
theorem past_any (s x : ByteArray) (i : Nat) (w : World) (hs : s.size ≤ 100000) (hx : x.size ≤ 1000) (hi : i ≤ s.size) :
    Calls Tryz.prog 41 #[.string s, .int .i64 (i : Int), .string x] w fun e w' => e = .returned (.int .i64 ((if i < s.size then i + x.size else s.size : Nat) : Int)) ∧ w' = w := by
  by_cases hp : i < s.size
  · have hpi : ¬ (s.size : Int) ≤ (i : Int) := by omega
    rw [if_pos hp]
    clear hp
    go_enter Tryz.func41, Tryz.ntmps41
    go_wp2
    go_ret
    exact ⟨ret1 (congrArg (Value.int .i64) (by omega)), rfl⟩
  · have hpi : (s.size : Int) ≤ (i : Int) := by omega
    rw [if_neg hp]
    clear hp
    go_enter Tryz.func41, Tryz.ntmps41
    go_wp2
    go_ret
    exact ⟨rfl, rfl⟩
end Go.Proofs.YtakjlolmmoladaaGreatDoor

/-
  What the reference's Begins, odd and note of layer 5 do.
-/
namespace Go.Proofs.YtakjlolmmoladaaGreatDoor
open Go.RowKit
set_option linter.unusedVariables false

def GotIs (w : World) (t : PTok) (E : Nat) (e : Ending) (w' : World) : Prop :=
  ∃ q cap, e = .returned (.agg #[.int .i64 t.1, .string t.2.1, .slice q t.2.2.1.length cap, .bool t.2.2.2.1, .string t.2.2.2.2, .int .i64 (E : Int)]) ∧ SlN (cap := cap) w.heap.size q t.2.2.1 w' ∧ Below w.heap.size w w'
theorem cut_ext (s : ByteArray) {i F : Nat} (h : i ≤ F) : bs ((s.data.toList.drop i).take (F - i)) = s.extract i F := by
  rw [← extract_take, show i + (F - i) = F by omega]

theorem pre_one (s : ByteArray) (i : Nat) (c : UInt8) : [c].isPrefixOf (s.data.toList.drop i) = decide (i < s.size ∧ dgt s.data.toList i = c.toNat) := by
  by_cases h : i < s.size
  · obtain ⟨d, hd, hn⟩ := drop_at s.data.toList i (by rw [data_len]; exact h)
    rw [hd, ← hn]
    by_cases e : c = d
    · subst e; simp [List.isPrefixOf, h]
    · have : ¬ d.toNat = c.toNat := fun x => e (UInt8.toNat.inj x).symm
      simp [List.isPrefixOf, e, this]
  · rw [List.drop_eq_nil_of_le (by rw [data_len]; omega)]
    simp [List.isPrefixOf, h]
/-- What the reference's Begins tells is what the program's begins tells. -/
theorem begP_is (s : ByteArray) (i : Nat) : begP s i = ([60].isPrefixOf (s.data.toList.drop i) && (ltP s (i + 1) || ([33].isPrefixOf (s.data.toList.drop (i + 1)) || ([63].isPrefixOf (s.data.toList.drop (i + 1)) || ([47].isPrefixOf (s.data.toList.drop (i + 1)) && decide (i + 2 < s.size)))))) := by
  unfold begP beginsB ltP
  rw [pre_one, pre_one, pre_one, pre_one, List.length_drop, data_len, dgt_drop, dgt_drop, Nat.add_zero]
  show _ = (decide (i < s.size ∧ dgt s.data.toList i = 60) && (_ || (decide (i + 1 < s.size ∧ dgt s.data.toList (i + 1) = 33) || (decide (i + 1 < s.size ∧ dgt s.data.toList (i + 1) = 63) || (decide (i + 1 < s.size ∧ dgt s.data.toList (i + 1) = 47) && _)))))
  by_cases h1 : i + 1 < s.size
  · have a1 : 2 ≤ s.size - i := by omega
    have a2 : i < s.size := by omega
    simp only [h1, a1, a2, true_and, decide_true, Bool.true_and]
    have a3 : (2 < s.size - i) = (i + 2 < s.size) := propext ⟨fun _ => by omega, fun _ => by omega⟩
    simp only [a3, Bool.decide_and]
    generalize ltN (dgt s.data.toList (i + 1)) = l
    generalize decide (dgt s.data.toList (i + 1) = 33) = b1
    generalize decide (dgt s.data.toList (i + 1) = 63) = b2
    generalize decide (dgt s.data.toList (i + 1) = 47) = b3
    generalize decide (i + 2 < s.size) = b4
    generalize decide (dgt s.data.toList i = 60) = b5
    cases l <;> cases b1 <;> cases b2 <;> cases b3 <;> cases b4 <;> cases b5 <;> rfl
  · have a1 : ¬ 2 ≤ s.size - i := by omega
    have a4 : ¬ i + 2 < s.size := by omega
    simp [h1, a1]

set_option maxHeartbeats 2000000 in
theorem begins5_any (s : ByteArray) (i : Nat) (w : World) (hs : s.size ≤ 100000) (hi : i ≤ s.size) :
    Calls Tryz.prog 17 #[.string s, .int .i64 (i : Int)] w fun e w' => e = .returned (.bool (begP s i)) ∧ w' = w := by
  rw [begP_is]
  have C1 : Hid (∀ w, Calls Tryz.prog 29 #[.string s, .int .i64 ((i : Int)), .string ⟨#[60]⟩] w fun e w' => e = .returned (.bool ([60].isPrefixOf (s.data.toList.drop (i)))) ∧ w' = w) := hide (fun w => is_any s ⟨#[60]⟩ (i) w hs (by decide) (by decide) (by omega))
  have CL : Hid (∀ w, Calls Tryz.prog 37 #[.string s, .int .i64 ((i : Int) + 1)] w fun e w' => e = .returned (.bool (ltP s (i + 1))) ∧ w' = w) := hide (fun w => letter5_any s (i + 1) w hs)
  have C2 : Hid (∀ w, Calls Tryz.prog 29 #[.string s, .int .i64 ((i : Int) + 1), .string ⟨#[33]⟩] w fun e w' => e = .returned (.bool ([33].isPrefixOf (s.data.toList.drop (i + 1)))) ∧ w' = w) := hide (fun w => is_any s ⟨#[33]⟩ (i + 1) w hs (by decide) (by decide) (by omega))
  have C3 : Hid (∀ w, Calls Tryz.prog 29 #[.string s, .int .i64 ((i : Int) + 1), .string ⟨#[63]⟩] w fun e w' => e = .returned (.bool ([63].isPrefixOf (s.data.toList.drop (i + 1)))) ∧ w' = w) := hide (fun w => is_any s ⟨#[63]⟩ (i + 1) w hs (by decide) (by decide) (by omega))
  have C4 : Hid (∀ w, Calls Tryz.prog 29 #[.string s, .int .i64 ((i : Int) + 1), .string ⟨#[47]⟩] w fun e w' => e = .returned (.bool ([47].isPrefixOf (s.data.toList.drop (i + 1)))) ∧ w' = w) := hide (fun w => is_any s ⟨#[47]⟩ (i + 1) w hs (by decide) (by decide) (by omega))
  generalize [60].isPrefixOf (s.data.toList.drop i) = b60 at *
  generalize [33].isPrefixOf (s.data.toList.drop (i + 1)) = b33 at *
  generalize [63].isPrefixOf (s.data.toList.drop (i + 1)) = b63 at *
  generalize [47].isPrefixOf (s.data.toList.drop (i + 1)) = b47 at *
  generalize ltP s (i + 1) = bl at *
  cases b60 with
  | false =>
    go_enter Tryz.func17, Tryz.ntmps17
    go_wp2_with fail
    refine (unhide C1 _).mono ?_
    rintro e1 w1 ⟨rfl, hw1⟩
    obtain rfl : w = w1 := hw1.symm
    go_wp2
    go_ret
    exact ⟨rfl, rfl⟩
  | true =>
    cases bl with
    | true =>
      go_enter Tryz.func17, Tryz.ntmps17
      go_wp2_with fail
      refine (unhide C1 _).mono ?_
      rintro e1 w1 ⟨rfl, hw1⟩
      obtain rfl : w = w1 := hw1.symm
      go_wp2_with fail
      refine (unhide CL _).mono ?_
      rintro e1 w1 ⟨rfl, hw1⟩
      obtain rfl : w = w1 := hw1.symm
      go_wp2
      go_ret
      exact ⟨rfl, rfl⟩
    | false =>
      cases b33 with
      | true =>
        go_enter Tryz.func17, Tryz.ntmps17
        go_wp2_with fail
        refine (unhide C1 _).mono ?_
        rintro e1 w1 ⟨rfl, hw1⟩
        obtain rfl : w = w1 := hw1.symm
        go_wp2_with fail
        refine (unhide CL _).mono ?_
        rintro e1 w1 ⟨rfl, hw1⟩
        obtain rfl : w = w1 := hw1.symm
        go_wp2_with fail
        refine (unhide C2 _).mono ?_
        rintro e1 w1 ⟨rfl, hw1⟩
        obtain rfl : w = w1 := hw1.symm
        go_wp2
        go_ret
        exact ⟨rfl, rfl⟩
      | false =>
        cases b63 with
        | true =>
          go_enter Tryz.func17, Tryz.ntmps17
          go_wp2_with fail
          refine (unhide C1 _).mono ?_
          rintro e1 w1 ⟨rfl, hw1⟩
          obtain rfl : w = w1 := hw1.symm
          go_wp2_with fail
          refine (unhide CL _).mono ?_
          rintro e1 w1 ⟨rfl, hw1⟩
          obtain rfl : w = w1 := hw1.symm
          go_wp2_with fail
          refine (unhide C2 _).mono ?_
          rintro e1 w1 ⟨rfl, hw1⟩
          obtain rfl : w = w1 := hw1.symm
          go_wp2_with fail
          refine (unhide C3 _).mono ?_
          rintro e1 w1 ⟨rfl, hw1⟩
          obtain rfl : w = w1 := hw1.symm
          go_wp2
          go_ret
          exact ⟨rfl, rfl⟩
        | false =>
          cases b47 with
          | false =>
            go_enter Tryz.func17, Tryz.ntmps17
            go_wp2_with fail
            refine (unhide C1 _).mono ?_
            rintro e1 w1 ⟨rfl, hw1⟩
            obtain rfl : w = w1 := hw1.symm
            go_wp2_with fail
            refine (unhide CL _).mono ?_
            rintro e1 w1 ⟨rfl, hw1⟩
            obtain rfl : w = w1 := hw1.symm
            go_wp2_with fail
            refine (unhide C2 _).mono ?_
            rintro e1 w1 ⟨rfl, hw1⟩
            obtain rfl : w = w1 := hw1.symm
            go_wp2_with fail
            refine (unhide C3 _).mono ?_
            rintro e1 w1 ⟨rfl, hw1⟩
            obtain rfl : w = w1 := hw1.symm
            go_wp2_with fail
            refine (unhide C4 _).mono ?_
            rintro e1 w1 ⟨rfl, hw1⟩
            obtain rfl : w = w1 := hw1.symm
            go_wp2
            go_ret
            exact ⟨rfl, rfl⟩
          | true =>
            by_cases h2 : i + 2 < s.size
            · have i2 : decide ((i : Int) + 2 < (s.size : Int)) = true := decide_eq_true (by omega)
              rw [decide_eq_true h2]
              clear h2
              go_enter Tryz.func17, Tryz.ntmps17
              go_wp2_with fail
              refine (unhide C1 _).mono ?_
              rintro e1 w1 ⟨rfl, hw1⟩
              obtain rfl : w = w1 := hw1.symm
              go_wp2_with fail
              refine (unhide CL _).mono ?_
              rintro e1 w1 ⟨rfl, hw1⟩
              obtain rfl : w = w1 := hw1.symm
              go_wp2_with fail
              refine (unhide C2 _).mono ?_
              rintro e1 w1 ⟨rfl, hw1⟩
              obtain rfl : w = w1 := hw1.symm
              go_wp2_with fail
              refine (unhide C3 _).mono ?_
              rintro e1 w1 ⟨rfl, hw1⟩
              obtain rfl : w = w1 := hw1.symm
              go_wp2_with fail
              refine (unhide C4 _).mono ?_
              rintro e1 w1 ⟨rfl, hw1⟩
              obtain rfl : w = w1 := hw1.symm
              go_wp2
              go_ret
              exact ⟨rfl, rfl⟩
            · have i2 : decide ((i : Int) + 2 < (s.size : Int)) = false := decide_eq_false (by omega)
              rw [decide_eq_false h2]
              clear h2
              go_enter Tryz.func17, Tryz.ntmps17
              go_wp2_with fail
              refine (unhide C1 _).mono ?_
              rintro e1 w1 ⟨rfl, hw1⟩
              obtain rfl : w = w1 := hw1.symm
              go_wp2_with fail
              refine (unhide CL _).mono ?_
              rintro e1 w1 ⟨rfl, hw1⟩
              obtain rfl : w = w1 := hw1.symm
              go_wp2_with fail
              refine (unhide C2 _).mono ?_
              rintro e1 w1 ⟨rfl, hw1⟩
              obtain rfl : w = w1 := hw1.symm
              go_wp2_with fail
              refine (unhide C3 _).mono ?_
              rintro e1 w1 ⟨rfl, hw1⟩
              obtain rfl : w = w1 := hw1.symm
              go_wp2_with fail
              refine (unhide C4 _).mono ?_
              rintro e1 w1 ⟨rfl, hw1⟩
              obtain rfl : w = w1 := hw1.symm
              go_wp2
              go_ret
              exact ⟨rfl, rfl⟩

set_option maxHeartbeats 2000000 in
theorem odd5_any (s : ByteArray) (i : Nat) (w : World) (hs : s.size ≤ 100000) (hi : i ≤ s.size) :
    Calls Tryz.prog 38 #[.string s, .int .i64 (i : Int)] w (GotIs w (oddT s i) (cutE s i [62])) := by
  have hF := fd_le s [62] hi
  have C1 := hide (fun w => find_any s ⟨#[62]⟩ i w hs (by decide) (by decide) hi)
  have C2 := hide (fun w => past_any s ⟨#[62]⟩ (fdN s [62] i) w hs (by decide) hF.1)
  have e1 := cut_ext s hF.2
  unfold oddT
  rw [cutL_fd s [62] i hi (by simp), cutE_fd s [62] i hi (by simp), e1]
  have eD : (ByteArray.mk #[62]).data.toList = [62] := rfl
  have eS : (ByteArray.mk #[62]).size = 1 := rfl
  rw [eD] at C1
  rw [eS] at C2
  rw [show ([62] : List UInt8).length = 1 from rfl]
  generalize fdN s [62] i = F at *
  have i1 : (i : Int) ≤ (F : Int) := by omega
  have i2 : (F : Int) ≤ (s.size : Int) := by omega
  generalize (if F < s.size then F + 1 else s.size) = E at *
  clear e1 eD eS
  go_enter Tryz.func38, Tryz.ntmps38
  go_wp2_with fail
  refine (unhide C1 _).mono ?_
  rintro e1 w1 ⟨rfl, rfl⟩
  go_wp2_with fail
  go_region_with (go_at_call 41; refine (unhide C2 _).mono ?_; rintro e2 w2 ⟨rfl, rfl⟩)
  go_wp2
  have k1 := (Blk.new w #[.int .i64 4, .string ⟨#[]⟩, .slice none 0 0, .bool false, .string (s.extract i F), .int .i64 (E : Int)] 32).later (Below.drew (Below.refl _ _))
  have d0 := k1.cell 0
  have d1 := k1.cell 1
  have d2 := k1.cell 2
  have d3 := k1.cell 3
  have d4 := k1.cell 4
  have d5 := k1.cell 5
  exact bodyPost_ret (v := .agg #[.int .i64 4, .string ⟨#[]⟩, .slice none 0 0, .bool false, .string (s.extract i F), .int .i64 (E : Int)]) (by simp [results, Tryz.results38, go_sem, d0, d1, d2, d3, d4, d5]) rfl ⟨none, 0, rfl, slN_nil _ _ _, tr2 ((Below.refl _ _).alloc (Nat.le_refl _) _) (Below.drew (Below.refl _ _))⟩

theorem suf_at (s : ByteArray) (i : Nat) (p : List UInt8) (hi : i ≤ s.size) : Lib.hasSuffix (s.data.toList.drop i) p = (decide (p.length ≤ s.size - i) && p.isPrefixOf (s.data.toList.drop (s.size - p.length))) := by
  have hl := data_len s
  unfold Lib.hasSuffix
  by_cases h : p.length ≤ s.size - i
  · rw [decide_eq_true h, Bool.true_and, Bool.eq_iff_iff, List.isPrefixOf_iff_prefix, List.isSuffixOf_iff_suffix]
    have hd : (s.data.toList.drop i).drop (s.size - i - p.length) = s.data.toList.drop (s.size - p.length) := by rw [List.drop_drop]; congr 1; omega
    constructor
    · intro hs
      have e := List.suffix_iff_eq_drop.1 hs
      rw [List.length_drop, hl, hd] at e
      rw [← e]; exact List.prefix_refl _
    · intro hp
      have e : p = s.data.toList.drop (s.size - p.length) := List.IsPrefix.eq_of_length hp (by rw [List.length_drop, hl]; omega)
      have : (s.data.toList.drop i).drop (s.size - i - p.length) <:+ s.data.toList.drop i := List.drop_suffix _ _
      rw [hd, ← e] at this; exact this
  · rw [decide_eq_false h, Bool.false_and]
    cases e : p.isSuffixOf (s.data.toList.drop i) with
    | false => rfl
    | true =>
      have := (List.isSuffixOf_iff_suffix.1 e).length_le
      rw [List.length_drop, hl] at this; omega
theorem trim_at (s : ByteArray) (i : Nat) (p : List UInt8) (hi : i ≤ s.size) (h : Lib.hasSuffix (s.data.toList.drop i) p = true) : bs (Lib.trimSuffix (s.data.toList.drop i) p) = s.extract i (s.size - p.length) := by
  unfold Lib.trimSuffix
  rw [if_pos h, List.length_drop, data_len]
  have hl : p.length ≤ s.size - i := by
    rw [suf_at s i p hi, Bool.and_eq_true] at h
    exact of_decide_eq_true h.1
  rw [← cut_ext s (by omega)]
  congr 2
  omega
theorem ext_all (s : ByteArray) (i : Nat) (hi : i ≤ s.size) : bs (s.data.toList.drop i) = s.extract i s.size := (rest_of s i).symm

set_option maxHeartbeats 4000000 in
theorem note5_gt (s : ByteArray) (i : Nat) (w : World) (hs : s.size ≤ 100000) (hi : i ≤ s.size) (h1 : [62].isPrefixOf (s.data.toList.drop i) = true) :
    Calls Tryz.prog 39 #[.string s, .int .i64 (i : Int)] w (GotIs w (4, ⟨#[]⟩, [], false, noteX s i) (noteE s i)) := by
  have C1 : Hid (∀ w, Calls Tryz.prog 29 #[.string s, .int .i64 (i : Int), .string ⟨#[62]⟩] w fun e w' => e = .returned (.bool ([62].isPrefixOf (s.data.toList.drop i))) ∧ w' = w) := hide (fun w => is_any s ⟨#[62]⟩ i w hs (by decide) (by decide) (by omega))
  have C2 : Hid (∀ w, Calls Tryz.prog 29 #[.string s, .int .i64 (i : Int), .string ⟨#[45, 62]⟩] w fun e w' => e = .returned (.bool ([45, 62].isPrefixOf (s.data.toList.drop i))) ∧ w' = w) := hide (fun w => is_any s ⟨#[45, 62]⟩ i w hs (by decide) (by decide) (by omega))
  have eX : noteX s i = ⟨#[]⟩ := by unfold noteX; rw [if_pos h1]
  have eE : noteE s i = i + 1 := by unfold noteE; rw [if_pos h1]
  rw [h1] at C1
  rw [eX, eE]
  clear h1 eX eE
  go_enter Tryz.func39, Tryz.ntmps39
  go_wp2_with fail
  refine (unhide C1 _).mono ?_
  rintro e1 w1 ⟨rfl, rfl⟩
  go_wp2
  have k1 := (Blk.new w #[.int .i64 4, .string ⟨#[]⟩, .slice none 0 0, .bool false, .string ⟨#[]⟩, .int .i64 ((i : Int) + 1)] 32)
  have d0 := k1.cell 0
  have d1 := k1.cell 1
  have d2 := k1.cell 2
  have d3 := k1.cell 3
  have d4 := k1.cell 4
  have d5 := k1.cell 5
  exact bodyPost_ret (v := .agg #[.int .i64 4, .string ⟨#[]⟩, .slice none 0 0, .bool false, .string ⟨#[]⟩, .int .i64 ((i : Int) + 1)]) (by simp [results, Tryz.results39, go_sem, d0, d1, d2, d3, d4, d5]) rfl ⟨none, 0, rfl, slN_nil _ _ _, (Below.refl _ _).alloc (Nat.le_refl _) _⟩

set_option maxHeartbeats 4000000 in
theorem note5_dgt (s : ByteArray) (i : Nat) (w : World) (hs : s.size ≤ 100000) (hi : i ≤ s.size) (h1 : [62].isPrefixOf (s.data.toList.drop i) = false) (h2 : [45, 62].isPrefixOf (s.data.toList.drop i) = true) :
    Calls Tryz.prog 39 #[.string s, .int .i64 (i : Int)] w (GotIs w (4, ⟨#[]⟩, [], false, noteX s i) (noteE s i)) := by
  have C1 : Hid (∀ w, Calls Tryz.prog 29 #[.string s, .int .i64 (i : Int), .string ⟨#[62]⟩] w fun e w' => e = .returned (.bool ([62].isPrefixOf (s.data.toList.drop i))) ∧ w' = w) := hide (fun w => is_any s ⟨#[62]⟩ i w hs (by decide) (by decide) (by omega))
  have C2 : Hid (∀ w, Calls Tryz.prog 29 #[.string s, .int .i64 (i : Int), .string ⟨#[45, 62]⟩] w fun e w' => e = .returned (.bool ([45, 62].isPrefixOf (s.data.toList.drop i))) ∧ w' = w) := hide (fun w => is_any s ⟨#[45, 62]⟩ i w hs (by decide) (by decide) (by omega))
  have eX : noteX s i = ⟨#[]⟩ := by unfold noteX; rw [if_neg (by rw [h1]; decide), if_pos h2]
  have eE : noteE s i = i + 2 := by unfold noteE; rw [if_neg (by rw [h1]; decide), if_pos h2]
  rw [h1] at C1
  rw [h2] at C2
  rw [eX, eE]
  clear h1 h2 eX eE
  go_enter Tryz.func39, Tryz.ntmps39
  go_wp2_with fail
  refine (unhide C1 _).mono ?_
  rintro e1 w1 ⟨rfl, rfl⟩
  go_wp2_with fail
  refine (unhide C2 _).mono ?_
  rintro e1 w2 ⟨rfl, rfl⟩
  go_wp2
  have k1 := (Blk.new w #[.int .i64 4, .string ⟨#[]⟩, .slice none 0 0, .bool false, .string ⟨#[]⟩, .int .i64 ((i : Int) + 2)] 32)
  have d0 := k1.cell 0
  have d1 := k1.cell 1
  have d2 := k1.cell 2
  have d3 := k1.cell 3
  have d4 := k1.cell 4
  have d5 := k1.cell 5
  exact bodyPost_ret (v := .agg #[.int .i64 4, .string ⟨#[]⟩, .slice none 0 0, .bool false, .string ⟨#[]⟩, .int .i64 ((i : Int) + 2)]) (by simp [results, Tryz.results39, go_sem, d0, d1, d2, d3, d4, d5]) rfl ⟨none, 0, rfl, slN_nil _ _ _, (Below.refl _ _).alloc (Nat.le_refl _) _⟩

set_option maxHeartbeats 4000000 in
theorem note5_lt (s : ByteArray) (i : Nat) (w : World) (hs : s.size ≤ 100000) (hi : i ≤ s.size) (h1 : [62].isPrefixOf (s.data.toList.drop i) = false) (h2 : [45, 62].isPrefixOf (s.data.toList.drop i) = false) (h3 : fdN s [45, 45, 62] i < fdN s [45, 45, 33, 62] i) :
    Calls Tryz.prog 39 #[.string s, .int .i64 (i : Int)] w (GotIs w (4, ⟨#[]⟩, [], false, noteX s i) (noteE s i)) := by
  have C1 : Hid (∀ w, Calls Tryz.prog 29 #[.string s, .int .i64 (i : Int), .string ⟨#[62]⟩] w fun e w' => e = .returned (.bool ([62].isPrefixOf (s.data.toList.drop i))) ∧ w' = w) := hide (fun w => is_any s ⟨#[62]⟩ i w hs (by decide) (by decide) (by omega))
  have C2 : Hid (∀ w, Calls Tryz.prog 29 #[.string s, .int .i64 (i : Int), .string ⟨#[45, 62]⟩] w fun e w' => e = .returned (.bool ([45, 62].isPrefixOf (s.data.toList.drop i))) ∧ w' = w) := hide (fun w => is_any s ⟨#[45, 62]⟩ i w hs (by decide) (by decide) (by omega))
  have C3 : Hid (∀ w, Calls Tryz.prog 40 #[.string s, .int .i64 (i : Int), .string ⟨#[45, 45, 62]⟩] w fun e w' => e = .returned (.int .i64 (fdN s [45, 45, 62] i : Nat)) ∧ w' = w) := hide (fun w => find_any s ⟨#[45, 45, 62]⟩ i w hs (by decide) (by decide) hi)
  have C4 : Hid (∀ w, Calls Tryz.prog 40 #[.string s, .int .i64 (i : Int), .string ⟨#[45, 45, 33, 62]⟩] w fun e w' => e = .returned (.int .i64 (fdN s [45, 45, 33, 62] i : Nat)) ∧ w' = w) := hide (fun w => find_any s ⟨#[45, 45, 33, 62]⟩ i w hs (by decide) (by decide) hi)
  have ha := fd_le s [45, 45, 62] hi
  have hb := fd_le s [45, 45, 33, 62] hi
  have hz := noteZ_min s i
  rw [h1] at C1
  rw [h2] at C2
  have n1 : ¬ [62].isPrefixOf (s.data.toList.drop i) = true := by rw [h1]; decide
  have n2 : ¬ [45, 62].isPrefixOf (s.data.toList.drop i) = true := by rw [h2]; decide
  have ez : noteZ s i = fdN s [45, 45, 62] i := by omega
  have hoc : [45, 45, 62].isPrefixOf (s.data.toList.drop (fdN s [45, 45, 62] i)) = true := seek_is (occP s [45, 45, 62]) s.size _ i rfl (show fdN s [45, 45, 62] i < s.size by omega)
  have eX : noteX s i = s.extract i (fdN s [45, 45, 62] i) := by unfold noteX; rw [if_neg n1, if_neg n2, if_neg (by omega), ez, cut_ext s ha.2]
  have eE : noteE s i = fdN s [45, 45, 62] i + 3 := by unfold noteE; rw [if_neg n1, if_neg n2, ez]; unfold neN; rw [if_pos hoc]
  rw [eX, eE]
  generalize fdN s [45, 45, 62] i = a at *
  generalize fdN s [45, 45, 33, 62] i = b at *
  have i1 : (a : Int) < (b : Int) := by omega
  have i2 : (i : Int) ≤ (a : Int) := by omega
  have i3 : (a : Int) ≤ (s.size : Int) := by omega
  clear h1 h2 h3 eX eE hoc ez hz n1 n2 ha hb
  go_enter Tryz.func39, Tryz.ntmps39
  go_wp2_with fail
  refine (unhide C1 _).mono ?_
  rintro e1 w1 ⟨rfl, rfl⟩
  go_wp2_with fail
  refine (unhide C2 _).mono ?_
  rintro e2 w2 ⟨rfl, rfl⟩
  go_wp2_with fail
  refine (unhide C3 _).mono ?_
  rintro e3 w3 ⟨rfl, rfl⟩
  go_wp2_with fail
  refine (unhide C4 _).mono ?_
  rintro e4 w4 ⟨rfl, rfl⟩
  go_wp2
  have k1 := (Blk.new w #[.int .i64 4, .string ⟨#[]⟩, .slice none 0 0, .bool false, .string (s.extract i a), .int .i64 ((a : Int) + 3)] 32)
  have d0 := k1.cell 0
  have d1 := k1.cell 1
  have d2 := k1.cell 2
  have d3 := k1.cell 3
  have d4 := k1.cell 4
  have d5 := k1.cell 5
  exact bodyPost_ret (v := .agg #[.int .i64 4, .string ⟨#[]⟩, .slice none 0 0, .bool false, .string (s.extract i a), .int .i64 ((a : Int) + 3)]) (by simp [results, Tryz.results39, go_sem, d0, d1, d2, d3, d4, d5]) rfl ⟨none, 0, rfl, slN_nil _ _ _, (Below.refl _ _).alloc (Nat.le_refl _) _⟩

set_option maxHeartbeats 4000000 in
theorem note5_gtx (s : ByteArray) (i : Nat) (w : World) (hs : s.size ≤ 100000) (hi : i ≤ s.size) (h1 : [62].isPrefixOf (s.data.toList.drop i) = false) (h2 : [45, 62].isPrefixOf (s.data.toList.drop i) = false) (h3 : fdN s [45, 45, 33, 62] i < fdN s [45, 45, 62] i) :
    Calls Tryz.prog 39 #[.string s, .int .i64 (i : Int)] w (GotIs w (4, ⟨#[]⟩, [], false, noteX s i) (noteE s i)) := by
  have C1 : Hid (∀ w, Calls Tryz.prog 29 #[.string s, .int .i64 (i : Int), .string ⟨#[62]⟩] w fun e w' => e = .returned (.bool ([62].isPrefixOf (s.data.toList.drop i))) ∧ w' = w) := hide (fun w => is_any s ⟨#[62]⟩ i w hs (by decide) (by decide) (by omega))
  have C2 : Hid (∀ w, Calls Tryz.prog 29 #[.string s, .int .i64 (i : Int), .string ⟨#[45, 62]⟩] w fun e w' => e = .returned (.bool ([45, 62].isPrefixOf (s.data.toList.drop i))) ∧ w' = w) := hide (fun w => is_any s ⟨#[45, 62]⟩ i w hs (by decide) (by decide) (by omega))
  have C3 : Hid (∀ w, Calls Tryz.prog 40 #[.string s, .int .i64 (i : Int), .string ⟨#[45, 45, 62]⟩] w fun e w' => e = .returned (.int .i64 (fdN s [45, 45, 62] i : Nat)) ∧ w' = w) := hide (fun w => find_any s ⟨#[45, 45, 62]⟩ i w hs (by decide) (by decide) hi)
  have C4 : Hid (∀ w, Calls Tryz.prog 40 #[.string s, .int .i64 (i : Int), .string ⟨#[45, 45, 33, 62]⟩] w fun e w' => e = .returned (.int .i64 (fdN s [45, 45, 33, 62] i : Nat)) ∧ w' = w) := hide (fun w => find_any s ⟨#[45, 45, 33, 62]⟩ i w hs (by decide) (by decide) hi)
  have ha := fd_le s [45, 45, 62] hi
  have hb := fd_le s [45, 45, 33, 62] hi
  have hz := noteZ_min s i
  rw [h1] at C1
  rw [h2] at C2
  have n1 : ¬ [62].isPrefixOf (s.data.toList.drop i) = true := by rw [h1]; decide
  have n2 : ¬ [45, 62].isPrefixOf (s.data.toList.drop i) = true := by rw [h2]; decide
  have ez : noteZ s i = fdN s [45, 45, 33, 62] i := by omega
  have hoc : [45, 45, 33, 62].isPrefixOf (s.data.toList.drop (fdN s [45, 45, 33, 62] i)) = true := seek_is (occP s [45, 45, 33, 62]) s.size _ i rfl (show fdN s [45, 45, 33, 62] i < s.size by omega)
  have hno : [45, 45, 62].isPrefixOf (s.data.toList.drop (fdN s [45, 45, 33, 62] i)) = false := seek_before (occP s [45, 45, 62]) s.size _ i rfl _ hb.2 h3
  have eX : noteX s i = s.extract i (fdN s [45, 45, 33, 62] i) := by unfold noteX; rw [if_neg n1, if_neg n2, if_neg (by omega), ez, cut_ext s hb.2]
  have eE : noteE s i = fdN s [45, 45, 33, 62] i + 4 := by unfold noteE; rw [if_neg n1, if_neg n2, ez]; unfold neN; rw [if_neg (by rw [hno]; decide), if_pos hoc]
  rw [eX, eE]
  generalize fdN s [45, 45, 62] i = a at *
  generalize fdN s [45, 45, 33, 62] i = b at *
  have i0 : ¬ (a : Int) < (b : Int) := by omega
  have i1 : (b : Int) < (a : Int) := by omega
  have i2 : (i : Int) ≤ (b : Int) := by omega
  have i3 : (b : Int) ≤ (s.size : Int) := by omega
  clear h1 h2 h3 eX eE hoc hno ez hz n1 n2 ha hb
  go_enter Tryz.func39, Tryz.ntmps39
  go_wp2_with fail
  refine (unhide C1 _).mono ?_
  rintro e1 w1 ⟨rfl, rfl⟩
  go_wp2_with fail
  refine (unhide C2 _).mono ?_
  rintro e2 w2 ⟨rfl, rfl⟩
  go_wp2_with fail
  refine (unhide C3 _).mono ?_
  rintro e3 w3 ⟨rfl, rfl⟩
  go_wp2_with fail
  refine (unhide C4 _).mono ?_
  rintro e4 w4 ⟨rfl, rfl⟩
  go_wp2
  have k1 := (Blk.new w #[.int .i64 4, .string ⟨#[]⟩, .slice none 0 0, .bool false, .string (s.extract i b), .int .i64 ((b : Int) + 4)] 32)
  have d0 := k1.cell 0
  have d1 := k1.cell 1
  have d2 := k1.cell 2
  have d3 := k1.cell 3
  have d4 := k1.cell 4
  have d5 := k1.cell 5
  exact bodyPost_ret (v := .agg #[.int .i64 4, .string ⟨#[]⟩, .slice none 0 0, .bool false, .string (s.extract i b), .int .i64 ((b : Int) + 4)]) (by simp [results, Tryz.results39, go_sem, d0, d1, d2, d3, d4, d5]) rfl ⟨none, 0, rfl, slN_nil _ _ _, (Below.refl _ _).alloc (Nat.le_refl _) _⟩

theorem fd_both (s : ByteArray) (i : Nat) (hi : i ≤ s.size) (h : fdN s [45, 45, 62] i = fdN s [45, 45, 33, 62] i) : fdN s [45, 45, 62] i = s.size := by
  have ha := fd_le s [45, 45, 62] hi
  by_cases hl : fdN s [45, 45, 62] i < s.size
  · have q1 : [45, 45, 62].isPrefixOf (s.data.toList.drop (fdN s [45, 45, 62] i)) = true := seek_is (occP s [45, 45, 62]) s.size _ i rfl hl
    have q2 : [45, 45, 33, 62].isPrefixOf (s.data.toList.drop (fdN s [45, 45, 62] i)) = true := by
      rw [h] at hl ⊢
      exact seek_is (occP s [45, 45, 33, 62]) s.size _ i rfl hl
    rw [not_both _ q1] at q2; cases q2
  · omega

set_option maxHeartbeats 4000000 in
theorem note5_s3 (s : ByteArray) (i : Nat) (w : World) (hs : s.size ≤ 100000) (hi : i ≤ s.size) (h1 : [62].isPrefixOf (s.data.toList.drop i) = false) (h2 : [45, 62].isPrefixOf (s.data.toList.drop i) = false) (h3 : fdN s [45, 45, 62] i = fdN s [45, 45, 33, 62] i) (l3 : 3 ≤ s.size - i) (q5 : [45, 45, 33].isPrefixOf (s.data.toList.drop (s.size - 3)) = true) :
    Calls Tryz.prog 39 #[.string s, .int .i64 (i : Int)] w (GotIs w (4, ⟨#[]⟩, [], false, noteX s i) (noteE s i)) := by
  have C1 : Hid (∀ w, Calls Tryz.prog 29 #[.string s, .int .i64 (i : Int), .string ⟨#[62]⟩] w fun e w' => e = .returned (.bool ([62].isPrefixOf (s.data.toList.drop i))) ∧ w' = w) := hide (fun w => is_any s ⟨#[62]⟩ i w hs (by decide) (by decide) (by omega))
  have C2 : Hid (∀ w, Calls Tryz.prog 29 #[.string s, .int .i64 (i : Int), .string ⟨#[45, 62]⟩] w fun e w' => e = .returned (.bool ([45, 62].isPrefixOf (s.data.toList.drop i))) ∧ w' = w) := hide (fun w => is_any s ⟨#[45, 62]⟩ i w hs (by decide) (by decide) (by omega))
  have C3 : Hid (∀ w, Calls Tryz.prog 40 #[.string s, .int .i64 (i : Int), .string ⟨#[45, 45, 62]⟩] w fun e w' => e = .returned (.int .i64 (fdN s [45, 45, 62] i : Nat)) ∧ w' = w) := hide (fun w => find_any s ⟨#[45, 45, 62]⟩ i w hs (by decide) (by decide) hi)
  have C4 : Hid (∀ w, Calls Tryz.prog 40 #[.string s, .int .i64 (i : Int), .string ⟨#[45, 45, 33, 62]⟩] w fun e w' => e = .returned (.int .i64 (fdN s [45, 45, 33, 62] i : Nat)) ∧ w' = w) := hide (fun w => find_any s ⟨#[45, 45, 33, 62]⟩ i w hs (by decide) (by decide) hi)
  have ha := fd_le s [45, 45, 62] hi
  have hb := fd_le s [45, 45, 33, 62] hi
  have hz := noteZ_min s i
  rw [h1] at C1
  rw [h2] at C2
  have n1 : ¬ [62].isPrefixOf (s.data.toList.drop i) = true := by rw [h1]; decide
  have n2 : ¬ [45, 62].isPrefixOf (s.data.toList.drop i) = true := by rw [h2]; decide
  have hsz := fd_both s i hi h3
  have ez : noteZ s i = s.size := by omega
  have eE : noteE s i = s.size := by unfold noteE; rw [if_neg n1, if_neg n2, ez, List.drop_eq_nil_of_le (by rw [data_len]; exact Nat.le_refl _)]; rfl
  have eX0 : noteX s i = bs (woL (s.data.toList.drop i)) := by unfold noteX; rw [if_neg n1, if_neg n2, if_pos ez, ez, List.take_of_length_le (by rw [List.length_drop, data_len]; exact Nat.le_refl _)]
  rw [h3] at C3
  rw [← h3, hsz] at C4
  rw [← h3, hsz] at C3
  rw [eX0, eE]
  have i0 : ¬ (s.size : Int) < (s.size : Int) := by omega
  have i3 : (i : Int) ≤ (s.size : Int) := by omega
  have g3 : Lib.hasSuffix (s.data.toList.drop i) [45, 45, 33] = true := by rw [suf_at s i _ hi, decide_eq_true (show ([45, 45, 33] : List UInt8).length ≤ s.size - i from l3), Bool.true_and]; exact q5
  have eX : bs (woL (s.data.toList.drop i)) = s.extract i (s.size - 3) := by unfold woL; rw [if_pos g3, trim_at s i _ hi g3]; rfl
  rw [eX]
  have C8 : Hid (∀ w, Calls Tryz.prog 29 #[.string s, .int .i64 ((s.size : Int) - 3), .string ⟨#[45, 45, 33]⟩] w fun e w' => e = .returned (.bool true) ∧ w' = w) := hide (fun w => by
    have := is_any s ⟨#[45, 45, 33]⟩ (s.size - 3) w hs (by decide) (by decide) (by omega)
    rw [show (((s.size - 3 : Nat)) : Int) = (s.size : Int) - 3 by omega, show (ByteArray.mk #[45, 45, 33]).data.toList.isPrefixOf (s.data.toList.drop (s.size - 3)) = true from q5] at this
    exact this)
  have j3 : (3 : Int) ≤ (s.size : Int) - (i : Int) := by omega
  have j9 : (i : Int) ≤ (s.size : Int) - 3 := by omega
  clear h1 h2 h3 eE eX0 ez hz n1 n2 ha hb hsz eX q5 l3 g3
  go_enter Tryz.func39, Tryz.ntmps39
  go_wp2_with fail
  refine (unhide C1 _).mono ?_
  rintro e1 w1 ⟨rfl, rfl⟩
  go_wp2_with fail
  refine (unhide C2 _).mono ?_
  rintro e2 w2 ⟨rfl, rfl⟩
  go_wp2_with fail
  refine (unhide C3 _).mono ?_
  rintro e3 w3 ⟨rfl, rfl⟩
  go_wp2_with fail
  refine (unhide C4 _).mono ?_
  rintro e4 w4 ⟨rfl, rfl⟩
  go_wp2_with fail
  refine (unhide C8 _).mono ?_
  rintro e5 w5 ⟨rfl, rfl⟩
  go_wp2
  have k1 := (Blk.new w #[.int .i64 4, .string ⟨#[]⟩, .slice none 0 0, .bool false, .string (s.extract i (s.size - 3)), .int .i64 (s.size : Int)] 32)
  have d0 := k1.cell 0
  have d1 := k1.cell 1
  have d2 := k1.cell 2
  have d3 := k1.cell 3
  have d4 := k1.cell 4
  have d5 := k1.cell 5
  exact bodyPost_ret (v := .agg #[.int .i64 4, .string ⟨#[]⟩, .slice none 0 0, .bool false, .string (s.extract i (s.size - 3)), .int .i64 (s.size : Int)]) (by simp [results, Tryz.results39, go_sem, d0, d1, d2, d3, d4, d5]) rfl ⟨none, 0, rfl, slN_nil _ _ _, (Below.refl _ _).alloc (Nat.le_refl _) _⟩

set_option maxHeartbeats 4000000 in
theorem note5_s2a (s : ByteArray) (i : Nat) (w : World) (hs : s.size ≤ 100000) (hi : i ≤ s.size) (h1 : [62].isPrefixOf (s.data.toList.drop i) = false) (h2 : [45, 62].isPrefixOf (s.data.toList.drop i) = false) (h3 : fdN s [45, 45, 62] i = fdN s [45, 45, 33, 62] i) (l3 : ¬ 3 ≤ s.size - i) (l2 : 2 ≤ s.size - i) (q4 : [45, 45].isPrefixOf (s.data.toList.drop (s.size - 2)) = true) :
    Calls Tryz.prog 39 #[.string s, .int .i64 (i : Int)] w (GotIs w (4, ⟨#[]⟩, [], false, noteX s i) (noteE s i)) := by
  have C1 : Hid (∀ w, Calls Tryz.prog 29 #[.string s, .int .i64 (i : Int), .string ⟨#[62]⟩] w fun e w' => e = .returned (.bool ([62].isPrefixOf (s.data.toList.drop i))) ∧ w' = w) := hide (fun w => is_any s ⟨#[62]⟩ i w hs (by decide) (by decide) (by omega))
  have C2 : Hid (∀ w, Calls Tryz.prog 29 #[.string s, .int .i64 (i : Int), .string ⟨#[45, 62]⟩] w fun e w' => e = .returned (.bool ([45, 62].isPrefixOf (s.data.toList.drop i))) ∧ w' = w) := hide (fun w => is_any s ⟨#[45, 62]⟩ i w hs (by decide) (by decide) (by omega))
  have C3 : Hid (∀ w, Calls Tryz.prog 40 #[.string s, .int .i64 (i : Int), .string ⟨#[45, 45, 62]⟩] w fun e w' => e = .returned (.int .i64 (fdN s [45, 45, 62] i : Nat)) ∧ w' = w) := hide (fun w => find_any s ⟨#[45, 45, 62]⟩ i w hs (by decide) (by decide) hi)
  have C4 : Hid (∀ w, Calls Tryz.prog 40 #[.string s, .int .i64 (i : Int), .string ⟨#[45, 45, 33, 62]⟩] w fun e w' => e = .returned (.int .i64 (fdN s [45, 45, 33, 62] i : Nat)) ∧ w' = w) := hide (fun w => find_any s ⟨#[45, 45, 33, 62]⟩ i w hs (by decide) (by decide) hi)
  have ha := fd_le s [45, 45, 62] hi
  have hb := fd_le s [45, 45, 33, 62] hi
  have hz := noteZ_min s i
  rw [h1] at C1
  rw [h2] at C2
  have n1 : ¬ [62].isPrefixOf (s.data.toList.drop i) = true := by rw [h1]; decide
  have n2 : ¬ [45, 62].isPrefixOf (s.data.toList.drop i) = true := by rw [h2]; decide
  have hsz := fd_both s i hi h3
  have ez : noteZ s i = s.size := by omega
  have eE : noteE s i = s.size := by unfold noteE; rw [if_neg n1, if_neg n2, ez, List.drop_eq_nil_of_le (by rw [data_len]; exact Nat.le_refl _)]; rfl
  have eX0 : noteX s i = bs (woL (s.data.toList.drop i)) := by unfold noteX; rw [if_neg n1, if_neg n2, if_pos ez, ez, List.take_of_length_le (by rw [List.length_drop, data_len]; exact Nat.le_refl _)]
  rw [h3] at C3
  rw [← h3, hsz] at C4
  rw [← h3, hsz] at C3
  rw [eX0, eE]
  have i0 : ¬ (s.size : Int) < (s.size : Int) := by omega
  have i3 : (i : Int) ≤ (s.size : Int) := by omega
  have g3 : ¬ Lib.hasSuffix (s.data.toList.drop i) [45, 45, 33] = true := by rw [suf_at s i _ hi, decide_eq_false (show ¬ ([45, 45, 33] : List UInt8).length ≤ s.size - i from l3), Bool.false_and]; decide
  have g2 : Lib.hasSuffix (s.data.toList.drop i) [45, 45] = true := by rw [suf_at s i _ hi, decide_eq_true (show ([45, 45] : List UInt8).length ≤ s.size - i from l2), Bool.true_and]; exact q4
  have eX : bs (woL (s.data.toList.drop i)) = s.extract i (s.size - 2) := by unfold woL; rw [if_neg g3]; rw [if_pos g2, trim_at s i _ hi g2]; rfl
  rw [eX]
  have j3 : decide ((3 : Int) ≤ (s.size : Int) - (i : Int)) = false := decide_eq_false (by omega)
  have C7 : Hid (∀ w, Calls Tryz.prog 29 #[.string s, .int .i64 ((s.size : Int) - 2), .string ⟨#[45, 45]⟩] w fun e w' => e = .returned (.bool true) ∧ w' = w) := hide (fun w => by
    have := is_any s ⟨#[45, 45]⟩ (s.size - 2) w hs (by decide) (by decide) (by omega)
    rw [show (((s.size - 2 : Nat)) : Int) = (s.size : Int) - 2 by omega, show (ByteArray.mk #[45, 45]).data.toList.isPrefixOf (s.data.toList.drop (s.size - 2)) = true from q4] at this
    exact this)
  have j2 : (2 : Int) ≤ (s.size : Int) - (i : Int) := by omega
  have j9 : (i : Int) ≤ (s.size : Int) - 2 := by omega
  clear h1 h2 h3 eE eX0 ez hz n1 n2 ha hb hsz eX l3 g3 q4 l2 g2
  go_enter Tryz.func39, Tryz.ntmps39
  go_wp2_with fail
  refine (unhide C1 _).mono ?_
  rintro e1 w1 ⟨rfl, rfl⟩
  go_wp2_with fail
  refine (unhide C2 _).mono ?_
  rintro e2 w2 ⟨rfl, rfl⟩
  go_wp2_with fail
  refine (unhide C3 _).mono ?_
  rintro e3 w3 ⟨rfl, rfl⟩
  go_wp2_with fail
  refine (unhide C4 _).mono ?_
  rintro e4 w4 ⟨rfl, rfl⟩
  go_wp2_with fail
  refine (unhide C7 _).mono ?_
  rintro e4 w4 ⟨rfl, rfl⟩
  go_wp2
  have k1 := (Blk.new w #[.int .i64 4, .string ⟨#[]⟩, .slice none 0 0, .bool false, .string (s.extract i (s.size - 2)), .int .i64 (s.size : Int)] 32)
  have d0 := k1.cell 0
  have d1 := k1.cell 1
  have d2 := k1.cell 2
  have d3 := k1.cell 3
  have d4 := k1.cell 4
  have d5 := k1.cell 5
  exact bodyPost_ret (v := .agg #[.int .i64 4, .string ⟨#[]⟩, .slice none 0 0, .bool false, .string (s.extract i (s.size - 2)), .int .i64 (s.size : Int)]) (by simp [results, Tryz.results39, go_sem, d0, d1, d2, d3, d4, d5]) rfl ⟨none, 0, rfl, slN_nil _ _ _, (Below.refl _ _).alloc (Nat.le_refl _) _⟩

set_option maxHeartbeats 4000000 in
theorem note5_s1aa (s : ByteArray) (i : Nat) (w : World) (hs : s.size ≤ 100000) (hi : i ≤ s.size) (h1 : [62].isPrefixOf (s.data.toList.drop i) = false) (h2 : [45, 62].isPrefixOf (s.data.toList.drop i) = false) (h3 : fdN s [45, 45, 62] i = fdN s [45, 45, 33, 62] i) (l3 : ¬ 3 ≤ s.size - i) (l2 : ¬ 2 ≤ s.size - i) (l1 : 1 ≤ s.size - i) (q3 : [45].isPrefixOf (s.data.toList.drop (s.size - 1)) = true) :
    Calls Tryz.prog 39 #[.string s, .int .i64 (i : Int)] w (GotIs w (4, ⟨#[]⟩, [], false, noteX s i) (noteE s i)) := by
  have C1 : Hid (∀ w, Calls Tryz.prog 29 #[.string s, .int .i64 (i : Int), .string ⟨#[62]⟩] w fun e w' => e = .returned (.bool ([62].isPrefixOf (s.data.toList.drop i))) ∧ w' = w) := hide (fun w => is_any s ⟨#[62]⟩ i w hs (by decide) (by decide) (by omega))
  have C2 : Hid (∀ w, Calls Tryz.prog 29 #[.string s, .int .i64 (i : Int), .string ⟨#[45, 62]⟩] w fun e w' => e = .returned (.bool ([45, 62].isPrefixOf (s.data.toList.drop i))) ∧ w' = w) := hide (fun w => is_any s ⟨#[45, 62]⟩ i w hs (by decide) (by decide) (by omega))
  have C3 : Hid (∀ w, Calls Tryz.prog 40 #[.string s, .int .i64 (i : Int), .string ⟨#[45, 45, 62]⟩] w fun e w' => e = .returned (.int .i64 (fdN s [45, 45, 62] i : Nat)) ∧ w' = w) := hide (fun w => find_any s ⟨#[45, 45, 62]⟩ i w hs (by decide) (by decide) hi)
  have C4 : Hid (∀ w, Calls Tryz.prog 40 #[.string s, .int .i64 (i : Int), .string ⟨#[45, 45, 33, 62]⟩] w fun e w' => e = .returned (.int .i64 (fdN s [45, 45, 33, 62] i : Nat)) ∧ w' = w) := hide (fun w => find_any s ⟨#[45, 45, 33, 62]⟩ i w hs (by decide) (by decide) hi)
  have ha := fd_le s [45, 45, 62] hi
  have hb := fd_le s [45, 45, 33, 62] hi
  have hz := noteZ_min s i
  rw [h1] at C1
  rw [h2] at C2
  have n1 : ¬ [62].isPrefixOf (s.data.toList.drop i) = true := by rw [h1]; decide
  have n2 : ¬ [45, 62].isPrefixOf (s.data.toList.drop i) = true := by rw [h2]; decide
  have hsz := fd_both s i hi h3
  have ez : noteZ s i = s.size := by omega
  have eE : noteE s i = s.size := by unfold noteE; rw [if_neg n1, if_neg n2, ez, List.drop_eq_nil_of_le (by rw [data_len]; exact Nat.le_refl _)]; rfl
  have eX0 : noteX s i = bs (woL (s.data.toList.drop i)) := by unfold noteX; rw [if_neg n1, if_neg n2, if_pos ez, ez, List.take_of_length_le (by rw [List.length_drop, data_len]; exact Nat.le_refl _)]
  rw [h3] at C3
  rw [← h3, hsz] at C4
  rw [← h3, hsz] at C3
  rw [eX0, eE]
  have i0 : ¬ (s.size : Int) < (s.size : Int) := by omega
  have i3 : (i : Int) ≤ (s.size : Int) := by omega
  have g3 : ¬ Lib.hasSuffix (s.data.toList.drop i) [45, 45, 33] = true := by rw [suf_at s i _ hi, decide_eq_false (show ¬ ([45, 45, 33] : List UInt8).length ≤ s.size - i from l3), Bool.false_and]; decide
  have g2 : ¬ Lib.hasSuffix (s.data.toList.drop i) [45, 45] = true := by rw [suf_at s i _ hi, decide_eq_false (show ¬ ([45, 45] : List UInt8).length ≤ s.size - i from l2), Bool.false_and]; decide
  have g1 : Lib.hasSuffix (s.data.toList.drop i) [45] = true := by rw [suf_at s i _ hi, decide_eq_true (show ([45] : List UInt8).length ≤ s.size - i from l1), Bool.true_and]; exact q3
  have eX : bs (woL (s.data.toList.drop i)) = s.extract i (s.size - 1) := by unfold woL; rw [if_neg g3]; rw [if_neg g2]; rw [if_pos g1, trim_at s i _ hi g1]; rfl
  rw [eX]
  have j3 : decide ((3 : Int) ≤ (s.size : Int) - (i : Int)) = false := decide_eq_false (by omega)
  have j2 : decide ((2 : Int) ≤ (s.size : Int) - (i : Int)) = false := decide_eq_false (by omega)
  have C6 : Hid (∀ w, Calls Tryz.prog 29 #[.string s, .int .i64 ((s.size : Int) - 1), .string ⟨#[45]⟩] w fun e w' => e = .returned (.bool true) ∧ w' = w) := hide (fun w => by
    have := is_any s ⟨#[45]⟩ (s.size - 1) w hs (by decide) (by decide) (by omega)
    rw [show (((s.size - 1 : Nat)) : Int) = (s.size : Int) - 1 by omega, show (ByteArray.mk #[45]).data.toList.isPrefixOf (s.data.toList.drop (s.size - 1)) = true from q3] at this
    exact this)
  have j1 : (1 : Int) ≤ (s.size : Int) - (i : Int) := by omega
  have j9 : (i : Int) ≤ (s.size : Int) - 1 := by omega
  clear h1 h2 h3 eE eX0 ez hz n1 n2 ha hb hsz eX l3 g3 l2 g2 q3 l1 g1
  go_enter Tryz.func39, Tryz.ntmps39
  go_wp2_with fail
  refine (unhide C1 _).mono ?_
  rintro e1 w1 ⟨rfl, rfl⟩
  go_wp2_with fail
  refine (unhide C2 _).mono ?_
  rintro e2 w2 ⟨rfl, rfl⟩
  go_wp2_with fail
  refine (unhide C3 _).mono ?_
  rintro e3 w3 ⟨rfl, rfl⟩
  go_wp2_with fail
  refine (unhide C4 _).mono ?_
  rintro e4 w4 ⟨rfl, rfl⟩
  go_wp2_with fail
  refine (unhide C6 _).mono ?_
  rintro e3 w3 ⟨rfl, rfl⟩
  go_wp2
  have k1 := (Blk.new w #[.int .i64 4, .string ⟨#[]⟩, .slice none 0 0, .bool false, .string (s.extract i (s.size - 1)), .int .i64 (s.size : Int)] 32)
  have d0 := k1.cell 0
  have d1 := k1.cell 1
  have d2 := k1.cell 2
  have d3 := k1.cell 3
  have d4 := k1.cell 4
  have d5 := k1.cell 5
  exact bodyPost_ret (v := .agg #[.int .i64 4, .string ⟨#[]⟩, .slice none 0 0, .bool false, .string (s.extract i (s.size - 1)), .int .i64 (s.size : Int)]) (by simp [results, Tryz.results39, go_sem, d0, d1, d2, d3, d4, d5]) rfl ⟨none, 0, rfl, slN_nil _ _ _, (Below.refl _ _).alloc (Nat.le_refl _) _⟩

set_option maxHeartbeats 4000000 in
theorem note5_s0aaa (s : ByteArray) (i : Nat) (w : World) (hs : s.size ≤ 100000) (hi : i ≤ s.size) (h1 : [62].isPrefixOf (s.data.toList.drop i) = false) (h2 : [45, 62].isPrefixOf (s.data.toList.drop i) = false) (h3 : fdN s [45, 45, 62] i = fdN s [45, 45, 33, 62] i) (l3 : ¬ 3 ≤ s.size - i) (l2 : ¬ 2 ≤ s.size - i) (l1 : ¬ 1 ≤ s.size - i) :
    Calls Tryz.prog 39 #[.string s, .int .i64 (i : Int)] w (GotIs w (4, ⟨#[]⟩, [], false, noteX s i) (noteE s i)) := by
  have C1 : Hid (∀ w, Calls Tryz.prog 29 #[.string s, .int .i64 (i : Int), .string ⟨#[62]⟩] w fun e w' => e = .returned (.bool ([62].isPrefixOf (s.data.toList.drop i))) ∧ w' = w) := hide (fun w => is_any s ⟨#[62]⟩ i w hs (by decide) (by decide) (by omega))
  have C2 : Hid (∀ w, Calls Tryz.prog 29 #[.string s, .int .i64 (i : Int), .string ⟨#[45, 62]⟩] w fun e w' => e = .returned (.bool ([45, 62].isPrefixOf (s.data.toList.drop i))) ∧ w' = w) := hide (fun w => is_any s ⟨#[45, 62]⟩ i w hs (by decide) (by decide) (by omega))
  have C3 : Hid (∀ w, Calls Tryz.prog 40 #[.string s, .int .i64 (i : Int), .string ⟨#[45, 45, 62]⟩] w fun e w' => e = .returned (.int .i64 (fdN s [45, 45, 62] i : Nat)) ∧ w' = w) := hide (fun w => find_any s ⟨#[45, 45, 62]⟩ i w hs (by decide) (by decide) hi)
  have C4 : Hid (∀ w, Calls Tryz.prog 40 #[.string s, .int .i64 (i : Int), .string ⟨#[45, 45, 33, 62]⟩] w fun e w' => e = .returned (.int .i64 (fdN s [45, 45, 33, 62] i : Nat)) ∧ w' = w) := hide (fun w => find_any s ⟨#[45, 45, 33, 62]⟩ i w hs (by decide) (by decide) hi)
  have ha := fd_le s [45, 45, 62] hi
  have hb := fd_le s [45, 45, 33, 62] hi
  have hz := noteZ_min s i
  rw [h1] at C1
  rw [h2] at C2
  have n1 : ¬ [62].isPrefixOf (s.data.toList.drop i) = true := by rw [h1]; decide
  have n2 : ¬ [45, 62].isPrefixOf (s.data.toList.drop i) = true := by rw [h2]; decide
  have hsz := fd_both s i hi h3
  have ez : noteZ s i = s.size := by omega
  have eE : noteE s i = s.size := by unfold noteE; rw [if_neg n1, if_neg n2, ez, List.drop_eq_nil_of_le (by rw [data_len]; exact Nat.le_refl _)]; rfl
  have eX0 : noteX s i = bs (woL (s.data.toList.drop i)) := by unfold noteX; rw [if_neg n1, if_neg n2, if_pos ez, ez, List.take_of_length_le (by rw [List.length_drop, data_len]; exact Nat.le_refl _)]
  rw [h3] at C3
  rw [← h3, hsz] at C4
  rw [← h3, hsz] at C3
  rw [eX0, eE]
  have i0 : ¬ (s.size : Int) < (s.size : Int) := by omega
  have i3 : (i : Int) ≤ (s.size : Int) := by omega
  have g3 : ¬ Lib.hasSuffix (s.data.toList.drop i) [45, 45, 33] = true := by rw [suf_at s i _ hi, decide_eq_false (show ¬ ([45, 45, 33] : List UInt8).length ≤ s.size - i from l3), Bool.false_and]; decide
  have g2 : ¬ Lib.hasSuffix (s.data.toList.drop i) [45, 45] = true := by rw [suf_at s i _ hi, decide_eq_false (show ¬ ([45, 45] : List UInt8).length ≤ s.size - i from l2), Bool.false_and]; decide
  have g1 : ¬ Lib.hasSuffix (s.data.toList.drop i) [45] = true := by rw [suf_at s i _ hi, decide_eq_false (show ¬ ([45] : List UInt8).length ≤ s.size - i from l1), Bool.false_and]; decide
  have eX : bs (woL (s.data.toList.drop i)) = s.extract i s.size := by unfold woL; rw [if_neg g3]; rw [if_neg g2]; rw [if_neg g1]; exact ext_all s i hi
  rw [eX]
  have j3 : decide ((3 : Int) ≤ (s.size : Int) - (i : Int)) = false := decide_eq_false (by omega)
  have j2 : decide ((2 : Int) ≤ (s.size : Int) - (i : Int)) = false := decide_eq_false (by omega)
  have j1 : decide ((1 : Int) ≤ (s.size : Int) - (i : Int)) = false := decide_eq_false (by omega)
  clear h1 h2 h3 eE eX0 ez hz n1 n2 ha hb hsz eX l3 g3 l2 g2 l1 g1
  go_enter Tryz.func39, Tryz.ntmps39
  go_wp2_with fail
  refine (unhide C1 _).mono ?_
  rintro e1 w1 ⟨rfl, rfl⟩
  go_wp2_with fail
  refine (unhide C2 _).mono ?_
  rintro e2 w2 ⟨rfl, rfl⟩
  go_wp2_with fail
  refine (unhide C3 _).mono ?_
  rintro e3 w3 ⟨rfl, rfl⟩
  go_wp2_with fail
  refine (unhide C4 _).mono ?_
  rintro e4 w4 ⟨rfl, rfl⟩
  go_wp2
  have k1 := (Blk.new w #[.int .i64 4, .string ⟨#[]⟩, .slice none 0 0, .bool false, .string (s.extract i s.size), .int .i64 (s.size : Int)] 32)
  have d0 := k1.cell 0
  have d1 := k1.cell 1
  have d2 := k1.cell 2
  have d3 := k1.cell 3
  have d4 := k1.cell 4
  have d5 := k1.cell 5
  exact bodyPost_ret (v := .agg #[.int .i64 4, .string ⟨#[]⟩, .slice none 0 0, .bool false, .string (s.extract i s.size), .int .i64 (s.size : Int)]) (by simp [results, Tryz.results39, go_sem, d0, d1, d2, d3, d4, d5]) rfl ⟨none, 0, rfl, slN_nil _ _ _, (Below.refl _ _).alloc (Nat.le_refl _) _⟩

set_option maxHeartbeats 4000000 in
theorem note5_s0aab (s : ByteArray) (i : Nat) (w : World) (hs : s.size ≤ 100000) (hi : i ≤ s.size) (h1 : [62].isPrefixOf (s.data.toList.drop i) = false) (h2 : [45, 62].isPrefixOf (s.data.toList.drop i) = false) (h3 : fdN s [45, 45, 62] i = fdN s [45, 45, 33, 62] i) (l3 : ¬ 3 ≤ s.size - i) (l2 : ¬ 2 ≤ s.size - i) (l1 : 1 ≤ s.size - i) (q3 : [45].isPrefixOf (s.data.toList.drop (s.size - 1)) = false) :
    Calls Tryz.prog 39 #[.string s, .int .i64 (i : Int)] w (GotIs w (4, ⟨#[]⟩, [], false, noteX s i) (noteE s i)) := by
  have C1 : Hid (∀ w, Calls Tryz.prog 29 #[.string s, .int .i64 (i : Int), .string ⟨#[62]⟩] w fun e w' => e = .returned (.bool ([62].isPrefixOf (s.data.toList.drop i))) ∧ w' = w) := hide (fun w => is_any s ⟨#[62]⟩ i w hs (by decide) (by decide) (by omega))
  have C2 : Hid (∀ w, Calls Tryz.prog 29 #[.string s, .int .i64 (i : Int), .string ⟨#[45, 62]⟩] w fun e w' => e = .returned (.bool ([45, 62].isPrefixOf (s.data.toList.drop i))) ∧ w' = w) := hide (fun w => is_any s ⟨#[45, 62]⟩ i w hs (by decide) (by decide) (by omega))
  have C3 : Hid (∀ w, Calls Tryz.prog 40 #[.string s, .int .i64 (i : Int), .string ⟨#[45, 45, 62]⟩] w fun e w' => e = .returned (.int .i64 (fdN s [45, 45, 62] i : Nat)) ∧ w' = w) := hide (fun w => find_any s ⟨#[45, 45, 62]⟩ i w hs (by decide) (by decide) hi)
  have C4 : Hid (∀ w, Calls Tryz.prog 40 #[.string s, .int .i64 (i : Int), .string ⟨#[45, 45, 33, 62]⟩] w fun e w' => e = .returned (.int .i64 (fdN s [45, 45, 33, 62] i : Nat)) ∧ w' = w) := hide (fun w => find_any s ⟨#[45, 45, 33, 62]⟩ i w hs (by decide) (by decide) hi)
  have ha := fd_le s [45, 45, 62] hi
  have hb := fd_le s [45, 45, 33, 62] hi
  have hz := noteZ_min s i
  rw [h1] at C1
  rw [h2] at C2
  have n1 : ¬ [62].isPrefixOf (s.data.toList.drop i) = true := by rw [h1]; decide
  have n2 : ¬ [45, 62].isPrefixOf (s.data.toList.drop i) = true := by rw [h2]; decide
  have hsz := fd_both s i hi h3
  have ez : noteZ s i = s.size := by omega
  have eE : noteE s i = s.size := by unfold noteE; rw [if_neg n1, if_neg n2, ez, List.drop_eq_nil_of_le (by rw [data_len]; exact Nat.le_refl _)]; rfl
  have eX0 : noteX s i = bs (woL (s.data.toList.drop i)) := by unfold noteX; rw [if_neg n1, if_neg n2, if_pos ez, ez, List.take_of_length_le (by rw [List.length_drop, data_len]; exact Nat.le_refl _)]
  rw [h3] at C3
  rw [← h3, hsz] at C4
  rw [← h3, hsz] at C3
  rw [eX0, eE]
  have i0 : ¬ (s.size : Int) < (s.size : Int) := by omega
  have i3 : (i : Int) ≤ (s.size : Int) := by omega
  have g3 : ¬ Lib.hasSuffix (s.data.toList.drop i) [45, 45, 33] = true := by rw [suf_at s i _ hi, decide_eq_false (show ¬ ([45, 45, 33] : List UInt8).length ≤ s.size - i from l3), Bool.false_and]; decide
  have g2 : ¬ Lib.hasSuffix (s.data.toList.drop i) [45, 45] = true := by rw [suf_at s i _ hi, decide_eq_false (show ¬ ([45, 45] : List UInt8).length ≤ s.size - i from l2), Bool.false_and]; decide
  have g1 : ¬ Lib.hasSuffix (s.data.toList.drop i) [45] = true := by rw [suf_at s i _ hi, show ([45] : List UInt8).isPrefixOf (s.data.toList.drop (s.size - ([45] : List UInt8).length)) = false from q3, Bool.and_false]; decide
  have eX : bs (woL (s.data.toList.drop i)) = s.extract i s.size := by unfold woL; rw [if_neg g3]; rw [if_neg g2]; rw [if_neg g1]; exact ext_all s i hi
  rw [eX]
  have j3 : decide ((3 : Int) ≤ (s.size : Int) - (i : Int)) = false := decide_eq_false (by omega)
  have j2 : decide ((2 : Int) ≤ (s.size : Int) - (i : Int)) = false := decide_eq_false (by omega)
  have C6 : Hid (∀ w, Calls Tryz.prog 29 #[.string s, .int .i64 ((s.size : Int) - 1), .string ⟨#[45]⟩] w fun e w' => e = .returned (.bool false) ∧ w' = w) := hide (fun w => by
    have := is_any s ⟨#[45]⟩ (s.size - 1) w hs (by decide) (by decide) (by omega)
    rw [show (((s.size - 1 : Nat)) : Int) = (s.size : Int) - 1 by omega, show (ByteArray.mk #[45]).data.toList.isPrefixOf (s.data.toList.drop (s.size - 1)) = false from q3] at this
    exact this)
  have j1 : (1 : Int) ≤ (s.size : Int) - (i : Int) := by omega
  clear h1 h2 h3 eE eX0 ez hz n1 n2 ha hb hsz eX l3 g3 l2 g2 q3 l1 g1
  go_enter Tryz.func39, Tryz.ntmps39
  go_wp2_with fail
  refine (unhide C1 _).mono ?_
  rintro e1 w1 ⟨rfl, rfl⟩
  go_wp2_with fail
  refine (unhide C2 _).mono ?_
  rintro e2 w2 ⟨rfl, rfl⟩
  go_wp2_with fail
  refine (unhide C3 _).mono ?_
  rintro e3 w3 ⟨rfl, rfl⟩
  go_wp2_with fail
  refine (unhide C4 _).mono ?_
  rintro e4 w4 ⟨rfl, rfl⟩
  go_wp2_with fail
  refine (unhide C6 _).mono ?_
  rintro e3 w3 ⟨rfl, rfl⟩
  go_wp2
  have k1 := (Blk.new w #[.int .i64 4, .string ⟨#[]⟩, .slice none 0 0, .bool false, .string (s.extract i s.size), .int .i64 (s.size : Int)] 32)
  have d0 := k1.cell 0
  have d1 := k1.cell 1
  have d2 := k1.cell 2
  have d3 := k1.cell 3
  have d4 := k1.cell 4
  have d5 := k1.cell 5
  exact bodyPost_ret (v := .agg #[.int .i64 4, .string ⟨#[]⟩, .slice none 0 0, .bool false, .string (s.extract i s.size), .int .i64 (s.size : Int)]) (by simp [results, Tryz.results39, go_sem, d0, d1, d2, d3, d4, d5]) rfl ⟨none, 0, rfl, slN_nil _ _ _, (Below.refl _ _).alloc (Nat.le_refl _) _⟩

set_option maxHeartbeats 4000000 in
theorem note5_s1ab (s : ByteArray) (i : Nat) (w : World) (hs : s.size ≤ 100000) (hi : i ≤ s.size) (h1 : [62].isPrefixOf (s.data.toList.drop i) = false) (h2 : [45, 62].isPrefixOf (s.data.toList.drop i) = false) (h3 : fdN s [45, 45, 62] i = fdN s [45, 45, 33, 62] i) (l3 : ¬ 3 ≤ s.size - i) (l2 : 2 ≤ s.size - i) (q4 : [45, 45].isPrefixOf (s.data.toList.drop (s.size - 2)) = false) (l1 : 1 ≤ s.size - i) (q3 : [45].isPrefixOf (s.data.toList.drop (s.size - 1)) = true) :
    Calls Tryz.prog 39 #[.string s, .int .i64 (i : Int)] w (GotIs w (4, ⟨#[]⟩, [], false, noteX s i) (noteE s i)) := by
  have C1 : Hid (∀ w, Calls Tryz.prog 29 #[.string s, .int .i64 (i : Int), .string ⟨#[62]⟩] w fun e w' => e = .returned (.bool ([62].isPrefixOf (s.data.toList.drop i))) ∧ w' = w) := hide (fun w => is_any s ⟨#[62]⟩ i w hs (by decide) (by decide) (by omega))
  have C2 : Hid (∀ w, Calls Tryz.prog 29 #[.string s, .int .i64 (i : Int), .string ⟨#[45, 62]⟩] w fun e w' => e = .returned (.bool ([45, 62].isPrefixOf (s.data.toList.drop i))) ∧ w' = w) := hide (fun w => is_any s ⟨#[45, 62]⟩ i w hs (by decide) (by decide) (by omega))
  have C3 : Hid (∀ w, Calls Tryz.prog 40 #[.string s, .int .i64 (i : Int), .string ⟨#[45, 45, 62]⟩] w fun e w' => e = .returned (.int .i64 (fdN s [45, 45, 62] i : Nat)) ∧ w' = w) := hide (fun w => find_any s ⟨#[45, 45, 62]⟩ i w hs (by decide) (by decide) hi)
  have C4 : Hid (∀ w, Calls Tryz.prog 40 #[.string s, .int .i64 (i : Int), .string ⟨#[45, 45, 33, 62]⟩] w fun e w' => e = .returned (.int .i64 (fdN s [45, 45, 33, 62] i : Nat)) ∧ w' = w) := hide (fun w => find_any s ⟨#[45, 45, 33, 62]⟩ i w hs (by decide) (by decide) hi)
  have ha := fd_le s [45, 45, 62] hi
  have hb := fd_le s [45, 45, 33, 62] hi
  have hz := noteZ_min s i
  rw [h1] at C1
  rw [h2] at C2
  have n1 : ¬ [62].isPrefixOf (s.data.toList.drop i) = true := by rw [h1]; decide
  have n2 : ¬ [45, 62].isPrefixOf (s.data.toList.drop i) = true := by rw [h2]; decide
  have hsz := fd_both s i hi h3
  have ez : noteZ s i = s.size := by omega
  have eE : noteE s i = s.size := by unfold noteE; rw [if_neg n1, if_neg n2, ez, List.drop_eq_nil_of_le (by rw [data_len]; exact Nat.le_refl _)]; rfl
  have eX0 : noteX s i = bs (woL (s.data.toList.drop i)) := by unfold noteX; rw [if_neg n1, if_neg n2, if_pos ez, ez, List.take_of_length_le (by rw [List.length_drop, data_len]; exact Nat.le_refl _)]
  rw [h3] at C3
  rw [← h3, hsz] at C4
  rw [← h3, hsz] at C3
  rw [eX0, eE]
  have i0 : ¬ (s.size : Int) < (s.size : Int) := by omega
  have i3 : (i : Int) ≤ (s.size : Int) := by omega
  have g3 : ¬ Lib.hasSuffix (s.data.toList.drop i) [45, 45, 33] = true := by rw [suf_at s i _ hi, decide_eq_false (show ¬ ([45, 45, 33] : List UInt8).length ≤ s.size - i from l3), Bool.false_and]; decide
  have g2 : ¬ Lib.hasSuffix (s.data.toList.drop i) [45, 45] = true := by rw [suf_at s i _ hi, show ([45, 45] : List UInt8).isPrefixOf (s.data.toList.drop (s.size - ([45, 45] : List UInt8).length)) = false from q4, Bool.and_false]; decide
  have g1 : Lib.hasSuffix (s.data.toList.drop i) [45] = true := by rw [suf_at s i _ hi, decide_eq_true (show ([45] : List UInt8).length ≤ s.size - i from l1), Bool.true_and]; exact q3
  have eX : bs (woL (s.data.toList.drop i)) = s.extract i (s.size - 1) := by unfold woL; rw [if_neg g3]; rw [if_neg g2]; rw [if_pos g1, trim_at s i _ hi g1]; rfl
  rw [eX]
  have j3 : decide ((3 : Int) ≤ (s.size : Int) - (i : Int)) = false := decide_eq_false (by omega)
  have C7 : Hid (∀ w, Calls Tryz.prog 29 #[.string s, .int .i64 ((s.size : Int) - 2), .string ⟨#[45, 45]⟩] w fun e w' => e = .returned (.bool false) ∧ w' = w) := hide (fun w => by
    have := is_any s ⟨#[45, 45]⟩ (s.size - 2) w hs (by decide) (by decide) (by omega)
    rw [show (((s.size - 2 : Nat)) : Int) = (s.size : Int) - 2 by omega, show (ByteArray.mk #[45, 45]).data.toList.isPrefixOf (s.data.toList.drop (s.size - 2)) = false from q4] at this
    exact this)
  have j2 : (2 : Int) ≤ (s.size : Int) - (i : Int) := by omega
  have C6 : Hid (∀ w, Calls Tryz.prog 29 #[.string s, .int .i64 ((s.size : Int) - 1), .string ⟨#[45]⟩] w fun e w' => e = .returned (.bool true) ∧ w' = w) := hide (fun w => by
    have := is_any s ⟨#[45]⟩ (s.size - 1) w hs (by decide) (by decide) (by omega)
    rw [show (((s.size - 1 : Nat)) : Int) = (s.size : Int) - 1 by omega, show (ByteArray.mk #[45]).data.toList.isPrefixOf (s.data.toList.drop (s.size - 1)) = true from q3] at this
    exact this)
  have j1 : (1 : Int) ≤ (s.size : Int) - (i : Int) := by omega
  have j9 : (i : Int) ≤ (s.size : Int) - 1 := by omega
  clear h1 h2 h3 eE eX0 ez hz n1 n2 ha hb hsz eX l3 g3 q4 l2 g2 q3 l1 g1
  go_enter Tryz.func39, Tryz.ntmps39
  go_wp2_with fail
  refine (unhide C1 _).mono ?_
  rintro e1 w1 ⟨rfl, rfl⟩
  go_wp2_with fail
  refine (unhide C2 _).mono ?_
  rintro e2 w2 ⟨rfl, rfl⟩
  go_wp2_with fail
  refine (unhide C3 _).mono ?_
  rintro e3 w3 ⟨rfl, rfl⟩
  go_wp2_with fail
  refine (unhide C4 _).mono ?_
  rintro e4 w4 ⟨rfl, rfl⟩
  go_wp2_with fail
  refine (unhide C7 _).mono ?_
  rintro e4 w4 ⟨rfl, rfl⟩
  go_wp2_with fail
  refine (unhide C6 _).mono ?_
  rintro e3 w3 ⟨rfl, rfl⟩
  go_wp2
  have k1 := (Blk.new w #[.int .i64 4, .string ⟨#[]⟩, .slice none 0 0, .bool false, .string (s.extract i (s.size - 1)), .int .i64 (s.size : Int)] 32)
  have d0 := k1.cell 0
  have d1 := k1.cell 1
  have d2 := k1.cell 2
  have d3 := k1.cell 3
  have d4 := k1.cell 4
  have d5 := k1.cell 5
  exact bodyPost_ret (v := .agg #[.int .i64 4, .string ⟨#[]⟩, .slice none 0 0, .bool false, .string (s.extract i (s.size - 1)), .int .i64 (s.size : Int)]) (by simp [results, Tryz.results39, go_sem, d0, d1, d2, d3, d4, d5]) rfl ⟨none, 0, rfl, slN_nil _ _ _, (Below.refl _ _).alloc (Nat.le_refl _) _⟩

set_option maxHeartbeats 4000000 in
theorem note5_s0abb (s : ByteArray) (i : Nat) (w : World) (hs : s.size ≤ 100000) (hi : i ≤ s.size) (h1 : [62].isPrefixOf (s.data.toList.drop i) = false) (h2 : [45, 62].isPrefixOf (s.data.toList.drop i) = false) (h3 : fdN s [45, 45, 62] i = fdN s [45, 45, 33, 62] i) (l3 : ¬ 3 ≤ s.size - i) (l2 : 2 ≤ s.size - i) (q4 : [45, 45].isPrefixOf (s.data.toList.drop (s.size - 2)) = false) (l1 : 1 ≤ s.size - i) (q3 : [45].isPrefixOf (s.data.toList.drop (s.size - 1)) = false) :
    Calls Tryz.prog 39 #[.string s, .int .i64 (i : Int)] w (GotIs w (4, ⟨#[]⟩, [], false, noteX s i) (noteE s i)) := by
  have C1 : Hid (∀ w, Calls Tryz.prog 29 #[.string s, .int .i64 (i : Int), .string ⟨#[62]⟩] w fun e w' => e = .returned (.bool ([62].isPrefixOf (s.data.toList.drop i))) ∧ w' = w) := hide (fun w => is_any s ⟨#[62]⟩ i w hs (by decide) (by decide) (by omega))
  have C2 : Hid (∀ w, Calls Tryz.prog 29 #[.string s, .int .i64 (i : Int), .string ⟨#[45, 62]⟩] w fun e w' => e = .returned (.bool ([45, 62].isPrefixOf (s.data.toList.drop i))) ∧ w' = w) := hide (fun w => is_any s ⟨#[45, 62]⟩ i w hs (by decide) (by decide) (by omega))
  have C3 : Hid (∀ w, Calls Tryz.prog 40 #[.string s, .int .i64 (i : Int), .string ⟨#[45, 45, 62]⟩] w fun e w' => e = .returned (.int .i64 (fdN s [45, 45, 62] i : Nat)) ∧ w' = w) := hide (fun w => find_any s ⟨#[45, 45, 62]⟩ i w hs (by decide) (by decide) hi)
  have C4 : Hid (∀ w, Calls Tryz.prog 40 #[.string s, .int .i64 (i : Int), .string ⟨#[45, 45, 33, 62]⟩] w fun e w' => e = .returned (.int .i64 (fdN s [45, 45, 33, 62] i : Nat)) ∧ w' = w) := hide (fun w => find_any s ⟨#[45, 45, 33, 62]⟩ i w hs (by decide) (by decide) hi)
  have ha := fd_le s [45, 45, 62] hi
  have hb := fd_le s [45, 45, 33, 62] hi
  have hz := noteZ_min s i
  rw [h1] at C1
  rw [h2] at C2
  have n1 : ¬ [62].isPrefixOf (s.data.toList.drop i) = true := by rw [h1]; decide
  have n2 : ¬ [45, 62].isPrefixOf (s.data.toList.drop i) = true := by rw [h2]; decide
  have hsz := fd_both s i hi h3
  have ez : noteZ s i = s.size := by omega
  have eE : noteE s i = s.size := by unfold noteE; rw [if_neg n1, if_neg n2, ez, List.drop_eq_nil_of_le (by rw [data_len]; exact Nat.le_refl _)]; rfl
  have eX0 : noteX s i = bs (woL (s.data.toList.drop i)) := by unfold noteX; rw [if_neg n1, if_neg n2, if_pos ez, ez, List.take_of_length_le (by rw [List.length_drop, data_len]; exact Nat.le_refl _)]
  rw [h3] at C3
  rw [← h3, hsz] at C4
  rw [← h3, hsz] at C3
  rw [eX0, eE]
  have i0 : ¬ (s.size : Int) < (s.size : Int) := by omega
  have i3 : (i : Int) ≤ (s.size : Int) := by omega
  have g3 : ¬ Lib.hasSuffix (s.data.toList.drop i) [45, 45, 33] = true := by rw [suf_at s i _ hi, decide_eq_false (show ¬ ([45, 45, 33] : List UInt8).length ≤ s.size - i from l3), Bool.false_and]; decide
  have g2 : ¬ Lib.hasSuffix (s.data.toList.drop i) [45, 45] = true := by rw [suf_at s i _ hi, show ([45, 45] : List UInt8).isPrefixOf (s.data.toList.drop (s.size - ([45, 45] : List UInt8).length)) = false from q4, Bool.and_false]; decide
  have g1 : ¬ Lib.hasSuffix (s.data.toList.drop i) [45] = true := by rw [suf_at s i _ hi, show ([45] : List UInt8).isPrefixOf (s.data.toList.drop (s.size - ([45] : List UInt8).length)) = false from q3, Bool.and_false]; decide
  have eX : bs (woL (s.data.toList.drop i)) = s.extract i s.size := by unfold woL; rw [if_neg g3]; rw [if_neg g2]; rw [if_neg g1]; exact ext_all s i hi
  rw [eX]
  have j3 : decide ((3 : Int) ≤ (s.size : Int) - (i : Int)) = false := decide_eq_false (by omega)
  have C7 : Hid (∀ w, Calls Tryz.prog 29 #[.string s, .int .i64 ((s.size : Int) - 2), .string ⟨#[45, 45]⟩] w fun e w' => e = .returned (.bool false) ∧ w' = w) := hide (fun w => by
    have := is_any s ⟨#[45, 45]⟩ (s.size - 2) w hs (by decide) (by decide) (by omega)
    rw [show (((s.size - 2 : Nat)) : Int) = (s.size : Int) - 2 by omega, show (ByteArray.mk #[45, 45]).data.toList.isPrefixOf (s.data.toList.drop (s.size - 2)) = false from q4] at this
    exact this)
  have j2 : (2 : Int) ≤ (s.size : Int) - (i : Int) := by omega
  have C6 : Hid (∀ w, Calls Tryz.prog 29 #[.string s, .int .i64 ((s.size : Int) - 1), .string ⟨#[45]⟩] w fun e w' => e = .returned (.bool false) ∧ w' = w) := hide (fun w => by
    have := is_any s ⟨#[45]⟩ (s.size - 1) w hs (by decide) (by decide) (by omega)
    rw [show (((s.size - 1 : Nat)) : Int) = (s.size : Int) - 1 by omega, show (ByteArray.mk #[45]).data.toList.isPrefixOf (s.data.toList.drop (s.size - 1)) = false from q3] at this
    exact this)
  have j1 : (1 : Int) ≤ (s.size : Int) - (i : Int) := by omega
  clear h1 h2 h3 eE eX0 ez hz n1 n2 ha hb hsz eX l3 g3 q4 l2 g2 q3 l1 g1
  go_enter Tryz.func39, Tryz.ntmps39
  go_wp2_with fail
  refine (unhide C1 _).mono ?_
  rintro e1 w1 ⟨rfl, rfl⟩
  go_wp2_with fail
  refine (unhide C2 _).mono ?_
  rintro e2 w2 ⟨rfl, rfl⟩
  go_wp2_with fail
  refine (unhide C3 _).mono ?_
  rintro e3 w3 ⟨rfl, rfl⟩
  go_wp2_with fail
  refine (unhide C4 _).mono ?_
  rintro e4 w4 ⟨rfl, rfl⟩
  go_wp2_with fail
  refine (unhide C7 _).mono ?_
  rintro e4 w4 ⟨rfl, rfl⟩
  go_wp2_with fail
  refine (unhide C6 _).mono ?_
  rintro e3 w3 ⟨rfl, rfl⟩
  go_wp2
  have k1 := (Blk.new w #[.int .i64 4, .string ⟨#[]⟩, .slice none 0 0, .bool false, .string (s.extract i s.size), .int .i64 (s.size : Int)] 32)
  have d0 := k1.cell 0
  have d1 := k1.cell 1
  have d2 := k1.cell 2
  have d3 := k1.cell 3
  have d4 := k1.cell 4
  have d5 := k1.cell 5
  exact bodyPost_ret (v := .agg #[.int .i64 4, .string ⟨#[]⟩, .slice none 0 0, .bool false, .string (s.extract i s.size), .int .i64 (s.size : Int)]) (by simp [results, Tryz.results39, go_sem, d0, d1, d2, d3, d4, d5]) rfl ⟨none, 0, rfl, slN_nil _ _ _, (Below.refl _ _).alloc (Nat.le_refl _) _⟩

set_option maxHeartbeats 4000000 in
theorem note5_s2b (s : ByteArray) (i : Nat) (w : World) (hs : s.size ≤ 100000) (hi : i ≤ s.size) (h1 : [62].isPrefixOf (s.data.toList.drop i) = false) (h2 : [45, 62].isPrefixOf (s.data.toList.drop i) = false) (h3 : fdN s [45, 45, 62] i = fdN s [45, 45, 33, 62] i) (l3 : 3 ≤ s.size - i) (q5 : [45, 45, 33].isPrefixOf (s.data.toList.drop (s.size - 3)) = false) (l2 : 2 ≤ s.size - i) (q4 : [45, 45].isPrefixOf (s.data.toList.drop (s.size - 2)) = true) :
    Calls Tryz.prog 39 #[.string s, .int .i64 (i : Int)] w (GotIs w (4, ⟨#[]⟩, [], false, noteX s i) (noteE s i)) := by
  have C1 : Hid (∀ w, Calls Tryz.prog 29 #[.string s, .int .i64 (i : Int), .string ⟨#[62]⟩] w fun e w' => e = .returned (.bool ([62].isPrefixOf (s.data.toList.drop i))) ∧ w' = w) := hide (fun w => is_any s ⟨#[62]⟩ i w hs (by decide) (by decide) (by omega))
  have C2 : Hid (∀ w, Calls Tryz.prog 29 #[.string s, .int .i64 (i : Int), .string ⟨#[45, 62]⟩] w fun e w' => e = .returned (.bool ([45, 62].isPrefixOf (s.data.toList.drop i))) ∧ w' = w) := hide (fun w => is_any s ⟨#[45, 62]⟩ i w hs (by decide) (by decide) (by omega))
  have C3 : Hid (∀ w, Calls Tryz.prog 40 #[.string s, .int .i64 (i : Int), .string ⟨#[45, 45, 62]⟩] w fun e w' => e = .returned (.int .i64 (fdN s [45, 45, 62] i : Nat)) ∧ w' = w) := hide (fun w => find_any s ⟨#[45, 45, 62]⟩ i w hs (by decide) (by decide) hi)
  have C4 : Hid (∀ w, Calls Tryz.prog 40 #[.string s, .int .i64 (i : Int), .string ⟨#[45, 45, 33, 62]⟩] w fun e w' => e = .returned (.int .i64 (fdN s [45, 45, 33, 62] i : Nat)) ∧ w' = w) := hide (fun w => find_any s ⟨#[45, 45, 33, 62]⟩ i w hs (by decide) (by decide) hi)
  have ha := fd_le s [45, 45, 62] hi
  have hb := fd_le s [45, 45, 33, 62] hi
  have hz := noteZ_min s i
  rw [h1] at C1
  rw [h2] at C2
  have n1 : ¬ [62].isPrefixOf (s.data.toList.drop i) = true := by rw [h1]; decide
  have n2 : ¬ [45, 62].isPrefixOf (s.data.toList.drop i) = true := by rw [h2]; decide
  have hsz := fd_both s i hi h3
  have ez : noteZ s i = s.size := by omega
  have eE : noteE s i = s.size := by unfold noteE; rw [if_neg n1, if_neg n2, ez, List.drop_eq_nil_of_le (by rw [data_len]; exact Nat.le_refl _)]; rfl
  have eX0 : noteX s i = bs (woL (s.data.toList.drop i)) := by unfold noteX; rw [if_neg n1, if_neg n2, if_pos ez, ez, List.take_of_length_le (by rw [List.length_drop, data_len]; exact Nat.le_refl _)]
  rw [h3] at C3
  rw [← h3, hsz] at C4
  rw [← h3, hsz] at C3
  rw [eX0, eE]
  have i0 : ¬ (s.size : Int) < (s.size : Int) := by omega
  have i3 : (i : Int) ≤ (s.size : Int) := by omega
  have g3 : ¬ Lib.hasSuffix (s.data.toList.drop i) [45, 45, 33] = true := by rw [suf_at s i _ hi, show ([45, 45, 33] : List UInt8).isPrefixOf (s.data.toList.drop (s.size - ([45, 45, 33] : List UInt8).length)) = false from q5, Bool.and_false]; decide
  have g2 : Lib.hasSuffix (s.data.toList.drop i) [45, 45] = true := by rw [suf_at s i _ hi, decide_eq_true (show ([45, 45] : List UInt8).length ≤ s.size - i from l2), Bool.true_and]; exact q4
  have eX : bs (woL (s.data.toList.drop i)) = s.extract i (s.size - 2) := by unfold woL; rw [if_neg g3]; rw [if_pos g2, trim_at s i _ hi g2]; rfl
  rw [eX]
  have C8 : Hid (∀ w, Calls Tryz.prog 29 #[.string s, .int .i64 ((s.size : Int) - 3), .string ⟨#[45, 45, 33]⟩] w fun e w' => e = .returned (.bool false) ∧ w' = w) := hide (fun w => by
    have := is_any s ⟨#[45, 45, 33]⟩ (s.size - 3) w hs (by decide) (by decide) (by omega)
    rw [show (((s.size - 3 : Nat)) : Int) = (s.size : Int) - 3 by omega, show (ByteArray.mk #[45, 45, 33]).data.toList.isPrefixOf (s.data.toList.drop (s.size - 3)) = false from q5] at this
    exact this)
  have j3 : (3 : Int) ≤ (s.size : Int) - (i : Int) := by omega
  have C7 : Hid (∀ w, Calls Tryz.prog 29 #[.string s, .int .i64 ((s.size : Int) - 2), .string ⟨#[45, 45]⟩] w fun e w' => e = .returned (.bool true) ∧ w' = w) := hide (fun w => by
    have := is_any s ⟨#[45, 45]⟩ (s.size - 2) w hs (by decide) (by decide) (by omega)
    rw [show (((s.size - 2 : Nat)) : Int) = (s.size : Int) - 2 by omega, show (ByteArray.mk #[45, 45]).data.toList.isPrefixOf (s.data.toList.drop (s.size - 2)) = true from q4] at this
    exact this)
  have j2 : (2 : Int) ≤ (s.size : Int) - (i : Int) := by omega
  have j9 : (i : Int) ≤ (s.size : Int) - 2 := by omega
  clear h1 h2 h3 eE eX0 ez hz n1 n2 ha hb hsz eX q5 l3 g3 q4 l2 g2
  go_enter Tryz.func39, Tryz.ntmps39
  go_wp2_with fail
  refine (unhide C1 _).mono ?_
  rintro e1 w1 ⟨rfl, rfl⟩
  go_wp2_with fail
  refine (unhide C2 _).mono ?_
  rintro e2 w2 ⟨rfl, rfl⟩
  go_wp2_with fail
  refine (unhide C3 _).mono ?_
  rintro e3 w3 ⟨rfl, rfl⟩
  go_wp2_with fail
  refine (unhide C4 _).mono ?_
  rintro e4 w4 ⟨rfl, rfl⟩
  go_wp2_with fail
  refine (unhide C8 _).mono ?_
  rintro e5 w5 ⟨rfl, rfl⟩
  go_wp2_with fail
  refine (unhide C7 _).mono ?_
  rintro e4 w4 ⟨rfl, rfl⟩
  go_wp2
  have k1 := (Blk.new w #[.int .i64 4, .string ⟨#[]⟩, .slice none 0 0, .bool false, .string (s.extract i (s.size - 2)), .int .i64 (s.size : Int)] 32)
  have d0 := k1.cell 0
  have d1 := k1.cell 1
  have d2 := k1.cell 2
  have d3 := k1.cell 3
  have d4 := k1.cell 4
  have d5 := k1.cell 5
  exact bodyPost_ret (v := .agg #[.int .i64 4, .string ⟨#[]⟩, .slice none 0 0, .bool false, .string (s.extract i (s.size - 2)), .int .i64 (s.size : Int)]) (by simp [results, Tryz.results39, go_sem, d0, d1, d2, d3, d4, d5]) rfl ⟨none, 0, rfl, slN_nil _ _ _, (Below.refl _ _).alloc (Nat.le_refl _) _⟩

set_option maxHeartbeats 4000000 in
theorem note5_s1bb (s : ByteArray) (i : Nat) (w : World) (hs : s.size ≤ 100000) (hi : i ≤ s.size) (h1 : [62].isPrefixOf (s.data.toList.drop i) = false) (h2 : [45, 62].isPrefixOf (s.data.toList.drop i) = false) (h3 : fdN s [45, 45, 62] i = fdN s [45, 45, 33, 62] i) (l3 : 3 ≤ s.size - i) (q5 : [45, 45, 33].isPrefixOf (s.data.toList.drop (s.size - 3)) = false) (l2 : 2 ≤ s.size - i) (q4 : [45, 45].isPrefixOf (s.data.toList.drop (s.size - 2)) = false) (l1 : 1 ≤ s.size - i) (q3 : [45].isPrefixOf (s.data.toList.drop (s.size - 1)) = true) :
    Calls Tryz.prog 39 #[.string s, .int .i64 (i : Int)] w (GotIs w (4, ⟨#[]⟩, [], false, noteX s i) (noteE s i)) := by
  have C1 : Hid (∀ w, Calls Tryz.prog 29 #[.string s, .int .i64 (i : Int), .string ⟨#[62]⟩] w fun e w' => e = .returned (.bool ([62].isPrefixOf (s.data.toList.drop i))) ∧ w' = w) := hide (fun w => is_any s ⟨#[62]⟩ i w hs (by decide) (by decide) (by omega))
  have C2 : Hid (∀ w, Calls Tryz.prog 29 #[.string s, .int .i64 (i : Int), .string ⟨#[45, 62]⟩] w fun e w' => e = .returned (.bool ([45, 62].isPrefixOf (s.data.toList.drop i))) ∧ w' = w) := hide (fun w => is_any s ⟨#[45, 62]⟩ i w hs (by decide) (by decide) (by omega))
  have C3 : Hid (∀ w, Calls Tryz.prog 40 #[.string s, .int .i64 (i : Int), .string ⟨#[45, 45, 62]⟩] w fun e w' => e = .returned (.int .i64 (fdN s [45, 45, 62] i : Nat)) ∧ w' = w) := hide (fun w => find_any s ⟨#[45, 45, 62]⟩ i w hs (by decide) (by decide) hi)
  have C4 : Hid (∀ w, Calls Tryz.prog 40 #[.string s, .int .i64 (i : Int), .string ⟨#[45, 45, 33, 62]⟩] w fun e w' => e = .returned (.int .i64 (fdN s [45, 45, 33, 62] i : Nat)) ∧ w' = w) := hide (fun w => find_any s ⟨#[45, 45, 33, 62]⟩ i w hs (by decide) (by decide) hi)
  have ha := fd_le s [45, 45, 62] hi
  have hb := fd_le s [45, 45, 33, 62] hi
  have hz := noteZ_min s i
  rw [h1] at C1
  rw [h2] at C2
  have n1 : ¬ [62].isPrefixOf (s.data.toList.drop i) = true := by rw [h1]; decide
  have n2 : ¬ [45, 62].isPrefixOf (s.data.toList.drop i) = true := by rw [h2]; decide
  have hsz := fd_both s i hi h3
  have ez : noteZ s i = s.size := by omega
  have eE : noteE s i = s.size := by unfold noteE; rw [if_neg n1, if_neg n2, ez, List.drop_eq_nil_of_le (by rw [data_len]; exact Nat.le_refl _)]; rfl
  have eX0 : noteX s i = bs (woL (s.data.toList.drop i)) := by unfold noteX; rw [if_neg n1, if_neg n2, if_pos ez, ez, List.take_of_length_le (by rw [List.length_drop, data_len]; exact Nat.le_refl _)]
  rw [h3] at C3
  rw [← h3, hsz] at C4
  rw [← h3, hsz] at C3
  rw [eX0, eE]
  have i0 : ¬ (s.size : Int) < (s.size : Int) := by omega
  have i3 : (i : Int) ≤ (s.size : Int) := by omega
  have g3 : ¬ Lib.hasSuffix (s.data.toList.drop i) [45, 45, 33] = true := by rw [suf_at s i _ hi, show ([45, 45, 33] : List UInt8).isPrefixOf (s.data.toList.drop (s.size - ([45, 45, 33] : List UInt8).length)) = false from q5, Bool.and_false]; decide
  have g2 : ¬ Lib.hasSuffix (s.data.toList.drop i) [45, 45] = true := by rw [suf_at s i _ hi, show ([45, 45] : List UInt8).isPrefixOf (s.data.toList.drop (s.size - ([45, 45] : List UInt8).length)) = false from q4, Bool.and_false]; decide
  have g1 : Lib.hasSuffix (s.data.toList.drop i) [45] = true := by rw [suf_at s i _ hi, decide_eq_true (show ([45] : List UInt8).length ≤ s.size - i from l1), Bool.true_and]; exact q3
  have eX : bs (woL (s.data.toList.drop i)) = s.extract i (s.size - 1) := by unfold woL; rw [if_neg g3]; rw [if_neg g2]; rw [if_pos g1, trim_at s i _ hi g1]; rfl
  rw [eX]
  have C8 : Hid (∀ w, Calls Tryz.prog 29 #[.string s, .int .i64 ((s.size : Int) - 3), .string ⟨#[45, 45, 33]⟩] w fun e w' => e = .returned (.bool false) ∧ w' = w) := hide (fun w => by
    have := is_any s ⟨#[45, 45, 33]⟩ (s.size - 3) w hs (by decide) (by decide) (by omega)
    rw [show (((s.size - 3 : Nat)) : Int) = (s.size : Int) - 3 by omega, show (ByteArray.mk #[45, 45, 33]).data.toList.isPrefixOf (s.data.toList.drop (s.size - 3)) = false from q5] at this
    exact this)
  have j3 : (3 : Int) ≤ (s.size : Int) - (i : Int) := by omega
  have C7 : Hid (∀ w, Calls Tryz.prog 29 #[.string s, .int .i64 ((s.size : Int) - 2), .string ⟨#[45, 45]⟩] w fun e w' => e = .returned (.bool false) ∧ w' = w) := hide (fun w => by
    have := is_any s ⟨#[45, 45]⟩ (s.size - 2) w hs (by decide) (by decide) (by omega)
    rw [show (((s.size - 2 : Nat)) : Int) = (s.size : Int) - 2 by omega, show (ByteArray.mk #[45, 45]).data.toList.isPrefixOf (s.data.toList.drop (s.size - 2)) = false from q4] at this
    exact this)
  have j2 : (2 : Int) ≤ (s.size : Int) - (i : Int) := by omega
  have C6 : Hid (∀ w, Calls Tryz.prog 29 #[.string s, .int .i64 ((s.size : Int) - 1), .string ⟨#[45]⟩] w fun e w' => e = .returned (.bool true) ∧ w' = w) := hide (fun w => by
    have := is_any s ⟨#[45]⟩ (s.size - 1) w hs (by decide) (by decide) (by omega)
    rw [show (((s.size - 1 : Nat)) : Int) = (s.size : Int) - 1 by omega, show (ByteArray.mk #[45]).data.toList.isPrefixOf (s.data.toList.drop (s.size - 1)) = true from q3] at this
    exact this)
  have j1 : (1 : Int) ≤ (s.size : Int) - (i : Int) := by omega
  have j9 : (i : Int) ≤ (s.size : Int) - 1 := by omega
  clear h1 h2 h3 eE eX0 ez hz n1 n2 ha hb hsz eX q5 l3 g3 q4 l2 g2 q3 l1 g1
  go_enter Tryz.func39, Tryz.ntmps39
  go_wp2_with fail
  refine (unhide C1 _).mono ?_
  rintro e1 w1 ⟨rfl, rfl⟩
  go_wp2_with fail
  refine (unhide C2 _).mono ?_
  rintro e2 w2 ⟨rfl, rfl⟩
  go_wp2_with fail
  refine (unhide C3 _).mono ?_
  rintro e3 w3 ⟨rfl, rfl⟩
  go_wp2_with fail
  refine (unhide C4 _).mono ?_
  rintro e4 w4 ⟨rfl, rfl⟩
  go_wp2_with fail
  refine (unhide C8 _).mono ?_
  rintro e5 w5 ⟨rfl, rfl⟩
  go_wp2_with fail
  refine (unhide C7 _).mono ?_
  rintro e4 w4 ⟨rfl, rfl⟩
  go_wp2_with fail
  refine (unhide C6 _).mono ?_
  rintro e3 w3 ⟨rfl, rfl⟩
  go_wp2
  have k1 := (Blk.new w #[.int .i64 4, .string ⟨#[]⟩, .slice none 0 0, .bool false, .string (s.extract i (s.size - 1)), .int .i64 (s.size : Int)] 32)
  have d0 := k1.cell 0
  have d1 := k1.cell 1
  have d2 := k1.cell 2
  have d3 := k1.cell 3
  have d4 := k1.cell 4
  have d5 := k1.cell 5
  exact bodyPost_ret (v := .agg #[.int .i64 4, .string ⟨#[]⟩, .slice none 0 0, .bool false, .string (s.extract i (s.size - 1)), .int .i64 (s.size : Int)]) (by simp [results, Tryz.results39, go_sem, d0, d1, d2, d3, d4, d5]) rfl ⟨none, 0, rfl, slN_nil _ _ _, (Below.refl _ _).alloc (Nat.le_refl _) _⟩

set_option maxHeartbeats 4000000 in
theorem note5_s0bbb (s : ByteArray) (i : Nat) (w : World) (hs : s.size ≤ 100000) (hi : i ≤ s.size) (h1 : [62].isPrefixOf (s.data.toList.drop i) = false) (h2 : [45, 62].isPrefixOf (s.data.toList.drop i) = false) (h3 : fdN s [45, 45, 62] i = fdN s [45, 45, 33, 62] i) (l3 : 3 ≤ s.size - i) (q5 : [45, 45, 33].isPrefixOf (s.data.toList.drop (s.size - 3)) = false) (l2 : 2 ≤ s.size - i) (q4 : [45, 45].isPrefixOf (s.data.toList.drop (s.size - 2)) = false) (l1 : 1 ≤ s.size - i) (q3 : [45].isPrefixOf (s.data.toList.drop (s.size - 1)) = false) :
    Calls Tryz.prog 39 #[.string s, .int .i64 (i : Int)] w (GotIs w (4, ⟨#[]⟩, [], false, noteX s i) (noteE s i)) := by
  have C1 : Hid (∀ w, Calls Tryz.prog 29 #[.string s, .int .i64 (i : Int), .string ⟨#[62]⟩] w fun e w' => e = .returned (.bool ([62].isPrefixOf (s.data.toList.drop i))) ∧ w' = w) := hide (fun w => is_any s ⟨#[62]⟩ i w hs (by decide) (by decide) (by omega))
  have C2 : Hid (∀ w, Calls Tryz.prog 29 #[.string s, .int .i64 (i : Int), .string ⟨#[45, 62]⟩] w fun e w' => e = .returned (.bool ([45, 62].isPrefixOf (s.data.toList.drop i))) ∧ w' = w) := hide (fun w => is_any s ⟨#[45, 62]⟩ i w hs (by decide) (by decide) (by omega))
  have C3 : Hid (∀ w, Calls Tryz.prog 40 #[.string s, .int .i64 (i : Int), .string ⟨#[45, 45, 62]⟩] w fun e w' => e = .returned (.int .i64 (fdN s [45, 45, 62] i : Nat)) ∧ w' = w) := hide (fun w => find_any s ⟨#[45, 45, 62]⟩ i w hs (by decide) (by decide) hi)
  have C4 : Hid (∀ w, Calls Tryz.prog 40 #[.string s, .int .i64 (i : Int), .string ⟨#[45, 45, 33, 62]⟩] w fun e w' => e = .returned (.int .i64 (fdN s [45, 45, 33, 62] i : Nat)) ∧ w' = w) := hide (fun w => find_any s ⟨#[45, 45, 33, 62]⟩ i w hs (by decide) (by decide) hi)
  have ha := fd_le s [45, 45, 62] hi
  have hb := fd_le s [45, 45, 33, 62] hi
  have hz := noteZ_min s i
  rw [h1] at C1
  rw [h2] at C2
  have n1 : ¬ [62].isPrefixOf (s.data.toList.drop i) = true := by rw [h1]; decide
  have n2 : ¬ [45, 62].isPrefixOf (s.data.toList.drop i) = true := by rw [h2]; decide
  have hsz := fd_both s i hi h3
  have ez : noteZ s i = s.size := by omega
  have eE : noteE s i = s.size := by unfold noteE; rw [if_neg n1, if_neg n2, ez, List.drop_eq_nil_of_le (by rw [data_len]; exact Nat.le_refl _)]; rfl
  have eX0 : noteX s i = bs (woL (s.data.toList.drop i)) := by unfold noteX; rw [if_neg n1, if_neg n2, if_pos ez, ez, List.take_of_length_le (by rw [List.length_drop, data_len]; exact Nat.le_refl _)]
  rw [h3] at C3
  rw [← h3, hsz] at C4
  rw [← h3, hsz] at C3
  rw [eX0, eE]
  have i0 : ¬ (s.size : Int) < (s.size : Int) := by omega
  have i3 : (i : Int) ≤ (s.size : Int) := by omega
  have g3 : ¬ Lib.hasSuffix (s.data.toList.drop i) [45, 45, 33] = true := by rw [suf_at s i _ hi, show ([45, 45, 33] : List UInt8).isPrefixOf (s.data.toList.drop (s.size - ([45, 45, 33] : List UInt8).length)) = false from q5, Bool.and_false]; decide
  have g2 : ¬ Lib.hasSuffix (s.data.toList.drop i) [45, 45] = true := by rw [suf_at s i _ hi, show ([45, 45] : List UInt8).isPrefixOf (s.data.toList.drop (s.size - ([45, 45] : List UInt8).length)) = false from q4, Bool.and_false]; decide
  have g1 : ¬ Lib.hasSuffix (s.data.toList.drop i) [45] = true := by rw [suf_at s i _ hi, show ([45] : List UInt8).isPrefixOf (s.data.toList.drop (s.size - ([45] : List UInt8).length)) = false from q3, Bool.and_false]; decide
  have eX : bs (woL (s.data.toList.drop i)) = s.extract i s.size := by unfold woL; rw [if_neg g3]; rw [if_neg g2]; rw [if_neg g1]; exact ext_all s i hi
  rw [eX]
  have C8 : Hid (∀ w, Calls Tryz.prog 29 #[.string s, .int .i64 ((s.size : Int) - 3), .string ⟨#[45, 45, 33]⟩] w fun e w' => e = .returned (.bool false) ∧ w' = w) := hide (fun w => by
    have := is_any s ⟨#[45, 45, 33]⟩ (s.size - 3) w hs (by decide) (by decide) (by omega)
    rw [show (((s.size - 3 : Nat)) : Int) = (s.size : Int) - 3 by omega, show (ByteArray.mk #[45, 45, 33]).data.toList.isPrefixOf (s.data.toList.drop (s.size - 3)) = false from q5] at this
    exact this)
  have j3 : (3 : Int) ≤ (s.size : Int) - (i : Int) := by omega
  have C7 : Hid (∀ w, Calls Tryz.prog 29 #[.string s, .int .i64 ((s.size : Int) - 2), .string ⟨#[45, 45]⟩] w fun e w' => e = .returned (.bool false) ∧ w' = w) := hide (fun w => by
    have := is_any s ⟨#[45, 45]⟩ (s.size - 2) w hs (by decide) (by decide) (by omega)
    rw [show (((s.size - 2 : Nat)) : Int) = (s.size : Int) - 2 by omega, show (ByteArray.mk #[45, 45]).data.toList.isPrefixOf (s.data.toList.drop (s.size - 2)) = false from q4] at this
    exact this)
  have j2 : (2 : Int) ≤ (s.size : Int) - (i : Int) := by omega
  have C6 : Hid (∀ w, Calls Tryz.prog 29 #[.string s, .int .i64 ((s.size : Int) - 1), .string ⟨#[45]⟩] w fun e w' => e = .returned (.bool false) ∧ w' = w) := hide (fun w => by
    have := is_any s ⟨#[45]⟩ (s.size - 1) w hs (by decide) (by decide) (by omega)
    rw [show (((s.size - 1 : Nat)) : Int) = (s.size : Int) - 1 by omega, show (ByteArray.mk #[45]).data.toList.isPrefixOf (s.data.toList.drop (s.size - 1)) = false from q3] at this
    exact this)
  have j1 : (1 : Int) ≤ (s.size : Int) - (i : Int) := by omega
  clear h1 h2 h3 eE eX0 ez hz n1 n2 ha hb hsz eX q5 l3 g3 q4 l2 g2 q3 l1 g1
  go_enter Tryz.func39, Tryz.ntmps39
  go_wp2_with fail
  refine (unhide C1 _).mono ?_
  rintro e1 w1 ⟨rfl, rfl⟩
  go_wp2_with fail
  refine (unhide C2 _).mono ?_
  rintro e2 w2 ⟨rfl, rfl⟩
  go_wp2_with fail
  refine (unhide C3 _).mono ?_
  rintro e3 w3 ⟨rfl, rfl⟩
  go_wp2_with fail
  refine (unhide C4 _).mono ?_
  rintro e4 w4 ⟨rfl, rfl⟩
  go_wp2_with fail
  refine (unhide C8 _).mono ?_
  rintro e5 w5 ⟨rfl, rfl⟩
  go_wp2_with fail
  refine (unhide C7 _).mono ?_
  rintro e4 w4 ⟨rfl, rfl⟩
  go_wp2_with fail
  refine (unhide C6 _).mono ?_
  rintro e3 w3 ⟨rfl, rfl⟩
  go_wp2
  have k1 := (Blk.new w #[.int .i64 4, .string ⟨#[]⟩, .slice none 0 0, .bool false, .string (s.extract i s.size), .int .i64 (s.size : Int)] 32)
  have d0 := k1.cell 0
  have d1 := k1.cell 1
  have d2 := k1.cell 2
  have d3 := k1.cell 3
  have d4 := k1.cell 4
  have d5 := k1.cell 5
  exact bodyPost_ret (v := .agg #[.int .i64 4, .string ⟨#[]⟩, .slice none 0 0, .bool false, .string (s.extract i s.size), .int .i64 (s.size : Int)]) (by simp [results, Tryz.results39, go_sem, d0, d1, d2, d3, d4, d5]) rfl ⟨none, 0, rfl, slN_nil _ _ _, (Below.refl _ _).alloc (Nat.le_refl _) _⟩

theorem note5_any (s : ByteArray) (i : Nat) (w : World) (hs : s.size ≤ 100000) (hi : i ≤ s.size) :
    Calls Tryz.prog 39 #[.string s, .int .i64 (i : Int)] w (GotIs w (4, ⟨#[]⟩, [], false, noteX s i) (noteE s i)) := by
  cases h1 : [62].isPrefixOf (s.data.toList.drop i) with
  | true => exact note5_gt s i w hs hi h1
  | false =>
    cases h2 : [45, 62].isPrefixOf (s.data.toList.drop i) with
    | true => exact note5_dgt s i w hs hi h1 h2
    | false =>
      by_cases h3 : fdN s [45, 45, 62] i < fdN s [45, 45, 33, 62] i
      · exact note5_lt s i w hs hi h1 h2 h3
      by_cases h4 : fdN s [45, 45, 33, 62] i < fdN s [45, 45, 62] i
      · exact note5_gtx s i w hs hi h1 h2 h4
      have h5 : fdN s [45, 45, 62] i = fdN s [45, 45, 33, 62] i := by omega
      by_cases l3 : 3 ≤ s.size - i
      · cases q5 : [45, 45, 33].isPrefixOf (s.data.toList.drop (s.size - 3)) with
        | true => exact note5_s3 s i w hs hi h1 h2 h5 l3 q5
        | false =>
          by_cases l2 : 2 ≤ s.size - i
          · cases q4 : [45, 45].isPrefixOf (s.data.toList.drop (s.size - 2)) with
            | true => exact note5_s2b s i w hs hi h1 h2 h5 l3 q5 l2 q4
            | false =>
              by_cases l1 : 1 ≤ s.size - i
              · cases q3 : [45].isPrefixOf (s.data.toList.drop (s.size - 1)) with
                | true => exact note5_s1bb s i w hs hi h1 h2 h5 l3 q5 l2 q4 l1 q3
                | false =>
                  exact note5_s0bbb s i w hs hi h1 h2 h5 l3 q5 l2 q4 l1 q3
              · omega
          · omega
      · by_cases l2 : 2 ≤ s.size - i
        · cases q4 : [45, 45].isPrefixOf (s.data.toList.drop (s.size - 2)) with
          | true => exact note5_s2a s i w hs hi h1 h2 h5 l3 l2 q4
          | false =>
            by_cases l1 : 1 ≤ s.size - i
            · cases q3 : [45].isPrefixOf (s.data.toList.drop (s.size - 1)) with
              | true => exact note5_s1ab s i w hs hi h1 h2 h5 l3 l2 q4 l1 q3
              | false =>
                exact note5_s0abb s i w hs hi h1 h2 h5 l3 l2 q4 l1 q3
            · omega
        · by_cases l1 : 1 ≤ s.size - i
          · cases q3 : [45].isPrefixOf (s.data.toList.drop (s.size - 1)) with
            | true => exact note5_s1aa s i w hs hi h1 h2 h5 l3 l2 l1 q3
            | false =>
              exact note5_s0aab s i w hs hi h1 h2 h5 l3 l2 l1 q3
          · exact note5_s0aaa s i w hs hi h1 h2 h5 l3 l2 l1
end Go.Proofs.YtakjlolmmoladaaGreatDoor
