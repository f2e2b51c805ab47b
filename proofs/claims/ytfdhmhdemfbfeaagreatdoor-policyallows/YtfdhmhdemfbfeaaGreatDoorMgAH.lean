/-
  Several texts in one: what the functions of the program and of the document's answer do.
-/
import Derived.Test.YtfdhmhdemfbfeaaGreatDoorSh
import Derived.Test.YtfdhmhdemfbfeaaGreatDoorVRf
import Derived.Laws.RangeAny
import Derived.Lib.DecodeN
import Derived.Laws.Runes
import Derived.Lib.OthersKept

/-
  What strings.Cut does at one byte, and strings.IndexAny at / and \.
-/
namespace Go.Proofs.YtfdhmhdemfbfeaaGreatDoor
open Go.RowKit
set_option linter.unusedVariables false

theorem idx_one (c : UInt8) : ∀ l : List UInt8, Lib.indexByte l c = if tkN (nfN c.toNat c.toNat) l < l.length then (tkN (nfN c.toNat c.toNat) l : Int) else -1
  | [] => by simp [Lib.indexByte]
  | b :: l => by
    have ih := idx_one c l
    by_cases h : b = c
    · subst h
      rw [tkN_no _ _ _ (nf_no (.inl rfl))]
      simp [Lib.indexByte]
    · have hne : ¬ b.toNat = c.toNat := fun e => h (UInt8.toNat.inj e)
      rw [tkN_yes _ _ _ (nf_yes hne hne)]
      have hb : (b == c) = false := beq_eq_false_iff_ne.2 h
      rw [Lib.indexByte, hb, List.length_cons]
      by_cases h2 : tkN (nfN c.toNat c.toNat) l < l.length
      · rw [if_pos h2] at ih
        have hm : ((tkN (nfN c.toNat c.toNat) l : Int) == -1) = false := beq_eq_false_iff_ne.2 (by omega)
        rw [ih, hm, if_pos (show tkN (nfN c.toNat c.toNat) l + 1 < l.length + 1 by omega)]
        simp
      · rw [if_neg h2] at ih
        rw [ih, if_neg (show ¬ tkN (nfN c.toNat c.toNat) l + 1 < l.length + 1 by omega)]
        simp
theorem idx_any (x y : UInt8) : ∀ l : List UInt8, Lib.indexAny l [x, y] = if tkN (nfN x.toNat y.toNat) l < l.length then (tkN (nfN x.toNat y.toNat) l : Int) else -1
  | [] => by simp [Lib.indexAny]
  | b :: l => by
    have ih := idx_any x y l
    by_cases h : b = x ∨ b = y
    · rw [tkN_no _ _ _ (nf_no (by rcases h with h | h; exact .inl (by rw [h]); exact .inr (by rw [h])))]
      have : ([x, y] : List UInt8).contains b = true := by simpa using h
      simp [Lib.indexAny, h]
    · have h1 : ¬ b.toNat = x.toNat := fun e => h (.inl (UInt8.toNat.inj e))
      have h2 : ¬ b.toNat = y.toNat := fun e => h (.inr (UInt8.toNat.inj e))
      rw [tkN_yes _ _ _ (nf_yes h1 h2)]
      have hb : ([x, y] : List UInt8).contains b = false := by
        simp only [List.contains_cons, List.contains_nil, Bool.or_false, Bool.or_eq_false_iff, beq_eq_false_iff_ne]
        exact ⟨fun e => h (.inl e), fun e => h (.inr e)⟩
      rw [Lib.indexAny, hb, List.length_cons]
      by_cases h2 : tkN (nfN x.toNat y.toNat) l < l.length
      · rw [if_pos h2] at ih
        have hm : ((tkN (nfN x.toNat y.toNat) l : Int) == -1) = false := beq_eq_false_iff_ne.2 (by omega)
        rw [ih, hm, if_pos (show tkN (nfN x.toNat y.toNat) l + 1 < l.length + 1 by omega)]
        simp
      · rw [if_neg h2] at ih
        rw [ih, if_neg (show ¬ tkN (nfN x.toNat y.toNat) l + 1 < l.length + 1 by omega)]
        simp

set_option maxHeartbeats 1000000 in
theorem lcut_any (s : ByteArray) (c : UInt8) (n : Nat) (w : World) (hs : s.size ≤ 100000) (hn : tkN (nfN c.toNat c.toNat) s.data.toList = n) :
    Calls Tryz.prog 102 #[.string s, .string ⟨#[c]⟩] w fun e w' => e = .returned (.tuple #[.string (bs (s.data.toList.take n)), .string (bs (s.data.toList.drop (n + 1))), .bool (decide (n < s.size))]) ∧ Below w.heap.size w w' := by
  have C := hide (fun w => Tryz.stringslite_Index_one s c w)
  have hi := idx_one c s.data.toList
  have hle := tkN_le (nfN c.toNat c.toNat) s.data.toList
  rw [hn, data_len] at hi
  rw [hn, data_len] at hle
  have h1 : (⟨#[c]⟩ : ByteArray).size = 1 := rfl
  by_cases hlt : n < s.size
  · rw [if_pos hlt] at hi
    rw [hi] at C
    have hd : decide (n < s.size) = true := by simp [hlt]
    rw [hd]
    have E1 := hide (Lib.Pa.extract_upto s n)
    have E2 := hide (Lib.extract_to_end s (n + 1))
    have hni : (n : Int) ≤ (s.size : Int) := by omega
    have hni1 : (n : Int) + 1 ≤ (s.size : Int) := by omega
    have hn0 : (0 : Int) ≤ (n : Int) := by omega
    clear hd hi hn
    go_enter Tryz.func102, Tryz.ntmps102
    go_wp2_with fail
    refine (unhide C _).mono ?_
    rintro e1 w1 ⟨rfl, hw1⟩
    obtain rfl : w = w1 := hw1.symm
    clear hw1
    go_wp2
    go_quiet (fail)
    go_wp2
    go_ret3
    refine ⟨ret3 (congrArg Value.string ?_) (congrArg Value.string ?_) rfl, below_draws _ _⟩
    · exact unhide E1
    · rw [← bs_self (s.extract _ _)]
      exact congrArg bs (unhide E2)
  · have hnn : n = s.size := by omega
    rw [if_neg hlt] at hi
    rw [hi] at C
    have hd : decide (n < s.size) = false := by simp; omega
    have ht : s.data.toList.take n = s.data.toList := List.take_of_length_le (by rw [data_len]; omega)
    have hdr : s.data.toList.drop (n + 1) = [] := List.drop_eq_nil_of_le (by rw [data_len]; omega)
    rw [hd, ht, hdr, bs_self]
    clear hd hi hn ht hdr
    go_enter Tryz.func102, Tryz.ntmps102
    go_wp2_with fail
    refine (unhide C _).mono ?_
    rintro e1 w1 ⟨rfl, hw1⟩
    obtain rfl : w = w1 := hw1.symm
    clear hw1
    go_wp2
    go_ret3
    exact ⟨rfl, Below.refl _ _⟩
set_option maxHeartbeats 1000000 in
theorem cut_any (s : ByteArray) (c : UInt8) (n : Nat) (w : World) (hs : s.size ≤ 100000) (hn : tkN (nfN c.toNat c.toNat) s.data.toList = n) :
    Calls Tryz.prog 97 #[.string s, .string ⟨#[c]⟩] w fun e w' => e = .returned (.tuple #[.string (bs (s.data.toList.take n)), .string (bs (s.data.toList.drop (n + 1))), .bool (decide (n < s.size))]) ∧ Below w.heap.size w w' := by
  have C := hide (fun w => lcut_any s c n w hs hn)
  generalize bs (s.data.toList.take n) = A at *
  generalize bs (s.data.toList.drop (n + 1)) = B at *
  generalize decide (n < s.size) = D at *
  clear hn
  go_enter Tryz.func97, Tryz.ntmps97
  go_wp2_with fail
  refine (unhide C _).mono ?_
  rintro e1 w1 ⟨rfl, hb⟩
  go_wp2
  go_ret3
  exact ⟨rfl, hb⟩

/-- A range over a text: what it meets at a byte that is not plain. -/
theorem dec_high (s : ByteArray) (k : Nat) (hk : k < s.size) (h : 128 ≤ dgt s.data.toList k) :
    128 ≤ (Utf8.decode s k).1 ∧ (Utf8.decode s k).1 ≤ 1114111 ∧ 1 ≤ (Utf8.decode s k).2 ∧ k + (Utf8.decode s k).2 ≤ s.size ∧ ∀ j, k ≤ j → j < k + (Utf8.decode s k).2 → 128 ≤ dgt s.data.toList j := by
  have hg : ∀ i, (s.get! i).toNat = dgt s.data.toList i := by
    intro i
    unfold dgt
    rw [List.getD]
    rcases Nat.lt_or_ge i s.data.toList.length with h | h
    · have h2 : i < s.data.size := by simpa using h
      rw [List.getElem?_eq_getElem h]
      show (s.data[i]!).toNat = _
      rw [getElem!_pos s.data i h2]; rfl
    · have h2 : ¬ i < s.data.size := by simp at h ⊢; omega
      rw [List.getElem?_eq_none h]
      show (s.data[i]!).toNat = _
      rw [getElem!_neg s.data i h2]; rfl
  rw [Lib.decode_at s k, hg, hg, hg, hg]
  have hb := dgt_lt s.data.toList
  have b0 := hb k
  have b1 := hb (k + 1)
  have b2 := hb (k + 2)
  have b3 := hb (k + 3)
  have key : ∀ (n x0 x1 x2 x3 : Nat), 128 ≤ x0 → x0 < 256 → x1 < 256 → x2 < 256 → x3 < 256 → 1 ≤ n →
      128 ≤ (Lib.decodeN n x0 x1 x2 x3).1 ∧ (Lib.decodeN n x0 x1 x2 x3).1 ≤ 1114111 ∧ 1 ≤ (Lib.decodeN n x0 x1 x2 x3).2 ∧ (Lib.decodeN n x0 x1 x2 x3).2 ≤ n ∧ (Lib.decodeN n x0 x1 x2 x3).2 ≤ 4
      ∧ (1 < (Lib.decodeN n x0 x1 x2 x3).2 → 128 ≤ x1) ∧ (2 < (Lib.decodeN n x0 x1 x2 x3).2 → 128 ≤ x2) ∧ (3 < (Lib.decodeN n x0 x1 x2 x3).2 → 128 ≤ x3) := by
    intro n x0 x1 x2 x3 h0 _ _ _ _ _
    unfold Lib.decodeN
    repeat' split
    all_goals simp only []
    all_goals first | omega | (simp only [and_true]; omega)
  obtain ⟨k1, k2, k3, k4, k5, k6, k7, k8⟩ := key (s.size - k) _ _ _ _ h b0 b1 b2 b3 (by omega)
  refine ⟨k1, k2, k3, by omega, fun j h1 h2 => ?_⟩
  generalize Lib.decodeN _ _ _ _ _ = q at *
  have : j = k ∨ j = k + 1 ∨ j = k + 2 ∨ j = k + 3 := by omega
  rcases this with e | e | e | e
  · rw [e]; exact h
  · rw [e]; exact k6 (by omega)
  · rw [e]; exact k7 (by omega)
  · rw [e]; exact k8 (by omega)
end Go.Proofs.YtfdhmhdemfbfeaaGreatDoor

/-
  What strings.IndexRune does in a text of / and \, and strings.IndexAny for these two.
-/
namespace Go.Proofs.YtfdhmhdemfbfeaaGreatDoor
open Go.RowKit
set_option linter.unusedVariables false

def slS : ByteArray := ⟨#[47, 92]⟩
theorem slS_size : slS.size = 2 := rfl

set_option maxHeartbeats 1000000 in
set_option maxRecDepth 100000 in
theorem irune_err (w : World) :
    Calls Tryz.prog 104 #[.string slS, .int .i32 65533] w fun e w' => e = .returned (.int .i64 (-1)) ∧ Below w.heap.size w w' := by
  have n0 : ∀ ty, (Instr.next (.pointer (some ⟨w.heap.size, 0, none⟩)) true ty).run Tryz.prog (w.iter slS 0) = .ok (.tuple #[.bool true, .int .i64 0, .int .i32 47]) (w.iter slS 1) := fun ty => run_next_ascii (P := Tryz.prog) w slS 0 ty (by decide) (by decide)
  have n1 : ∀ ty, (Instr.next (.pointer (some ⟨w.heap.size, 0, none⟩)) true ty).run Tryz.prog (w.iter slS 1) = .ok (.tuple #[.bool true, .int .i64 1, .int .i32 92]) (w.iter slS 2) := fun ty => run_next_ascii (P := Tryz.prog) w slS 1 ty (by decide) (by decide)
  have n2 : ∀ ty, (Instr.next (.pointer (some ⟨w.heap.size, 0, none⟩)) true ty).run Tryz.prog (w.iter slS 2) = .ok (.tuple #[.bool false]) (w.iter slS 2) := fun ty => run_next_end (P := Tryz.prog) w slS 2 ty (by decide)
  generalize slS = S at *
  go_enter Tryz.func104, Tryz.ntmps104
  go_wp2
  refine wp_loop_rounds 3 ?_
  rw [rounds_succ]; go_wp2
  rw [rounds_succ]; go_wp2
  rw [rounds_succ]; go_wp2
  go_ret
  exact ⟨rfl, (Below.refl _ _).alloc (Nat.le_refl _) _⟩

set_option maxHeartbeats 1000000 in
set_option maxRecDepth 100000 in
theorem irune_bad (r : Int) (w : World) (h : 128 ≤ r) (hE : ¬ r = 65533) (hv : Lib.validRune r = false) :
    Calls Tryz.prog 104 #[.string slS, .int .i32 r] w fun e w' => e = .returned (.int .i64 (-1)) ∧ Below w.heap.size w w' := by
  have C := hide (fun w => Tryz.utf8_ValidRune r w)
  rw [hv] at C
  have i0 : (0 : Int) ≤ r := by omega
  have i1 : decide (r < 128) = false := by simp; omega
  have i2 : (r == 65533) = false := beq_eq_false_iff_ne.2 hE
  clear hv hE h
  generalize slS = S at *
  go_enter Tryz.func104, Tryz.ntmps104
  go_wp2_with fail
  refine (unhide C _).mono ?_
  rintro e1 w1 ⟨rfl, hw1⟩
  obtain rfl : w = w1 := hw1.symm
  clear hw1
  go_wp2
  go_ret
  exact ⟨rfl, Below.refl _ _⟩

set_option maxHeartbeats 1000000 in
set_option maxRecDepth 100000 in
theorem irune_ok (r : Int) (w : World) (h : 128 ≤ r) (hE : ¬ r = 65533) (hv : Lib.validRune r = true) :
    Calls Tryz.prog 104 #[.string slS, .int .i32 r] w fun e w' => e = .returned (.int .i64 (-1)) ∧ Below w.heap.size w w' := by
  have C := hide (fun w => Tryz.utf8_ValidRune r w)
  have CE : Hid (∀ (c : Int) (w : World), Calls Tryz.prog 110 #[.string ByteArray.empty, .int .u8 c] w fun e w' => e = .returned (.int .i64 (-1)) ∧ w' = w) := hide (fun c w => by
    have := Tryz.strings_IndexByte ByteArray.empty c w
    have hx : ByteArray.empty.data.toList = [] := by simp
    rw [hx] at this
    exact this)
  have hval : Utf8.valid r = true := by
    rw [validRune_eq]
    exact hv
  rw [hv] at C
  obtain ⟨z1, z2, z3⟩ := encode_facts r hval h
  have i0 : (0 : Int) ≤ r := by omega
  have i1 : decide (r < 128) = false := by simp; omega
  have i2 : (r == 65533) = false := beq_eq_false_iff_ne.2 hE
  have hS : slS.size = 2 := rfl
  have e1 : (slS[1]'(by rw [hS]; omega)).toNat = 92 := rfl
  clear hv hE h hval
  generalize slS = S at *
  by_cases h2 : (Utf8.encode r).size = 2
  · have e2 : ((Utf8.encode r)[1]'(by omega)).toNat = ((Utf8.encode r)[1]'(by omega)).toNat := rfl
    have hz : 128 ≤ ((Utf8.encode r)[1]'(by omega)).toNat := by
      have := z3 (by omega)
      have e : (Utf8.encode r).size - 1 = 1 := by omega
      simp only [e] at this
      exact this
    generalize hc : ((Utf8.encode r)[1]'(by omega)).toNat = c at hz
    clear e2 z3 z1 z2
    have hw2 : IntKind.i64.wrap 2 = 2 := rfl
    have hb : ((92 : Int) == (c : Int)) = false := beq_eq_false_iff_ne.2 (by omega)
    have hb2 : ((92 : Int) != (c : Int)) = true := by simp [bne, hb]
    go_enter Tryz.func104, Tryz.ntmps104
    go_wp2_with fail
    refine (unhide C _).mono ?_
    rintro e1 w1 ⟨rfl, hw1⟩
    obtain rfl : w = w1 := hw1.symm
    clear hw1
    go_wp2
    go_step3
    go_wp2
    refine wp_loop_rounds 1 ?_
    rw [rounds_succ]; go_wp2
    go_step3
    go_wp2
    go_quiet (fail)
    have hbq := below_draws w nq
    generalize w.drewN nq = wq at *
    go_wp2
    go_quiet ((go_at_call 110; exact Calls.quiet_of_same (unhide CE _ _)))
    go_wp2
    rw [Exit.noGoto_ret]
    go_simp
    go_ret
    exact ⟨rfl, _root_.Go.below_drewN hbq _⟩
  · have h3 : (2 : Int) ≤ (((Utf8.encode r).size : Int) - 1) := by omega
    have h3' : decide ((((Utf8.encode r).size : Int) - 1) < 2) = false := by simp; omega
    have h4 : ((Utf8.encode r).size : Int) ≤ 4 := by omega
    have h1 : (1 : Int) ≤ ((Utf8.encode r).size : Int) := by omega
    clear z1 z2 z3 h2
    go_enter Tryz.func104, Tryz.ntmps104
    go_wp2_with fail
    refine (unhide C _).mono ?_
    rintro e1 w1 ⟨rfl, hw1⟩
    obtain rfl : w = w1 := hw1.symm
    clear hw1
    go_wp2
    go_step3
    go_wp2
    refine wp_loop_rounds 1 ?_
    rw [rounds_succ]; go_wp2
    rw [Exit.noGoto_ret]
    go_ret
    exact ⟨rfl, Below.refl _ _⟩

theorem irune_high (r : Int) (w : World) (h : 128 ≤ r) :
    Calls Tryz.prog 104 #[.string slS, .int .i32 r] w fun e w' => e = .returned (.int .i64 (-1)) ∧ Below w.heap.size w w' := by
  by_cases hE : r = 65533
  · subst hE; exact irune_err w
  · cases hv : Lib.validRune r with
    | false => exact irune_bad r w h hE hv
    | true => exact irune_ok r w h hE hv
theorem irune_low (b : Nat) (w : World) (h : b < 128) :
    Calls Tryz.prog 104 #[.string slS, .int .i32 (b : Int)] w fun e w' => e = .returned (.int .i64 (if b = 47 then 0 else if b = 92 then 1 else -1)) ∧ w' = w := by
  have := Tryz.strings_IndexRune_ascii slS (b : Int) w (by omega) (by omega)
  have e : Lib.indexByte slS.data.toList ((b : Int).toNat.toUInt8) = if b = 47 then 0 else if b = 92 then 1 else -1 := by
    rw [Int.toNat_natCast]
    have hl : slS.data.toList = [47, 92] := rfl
    rw [hl]
    by_cases h1 : b = 47
    · subst h1; rfl
    · by_cases h2 : b = 92
      · subst h2; rfl
      · rw [if_neg h1, if_neg h2]
        have hn : (Nat.toUInt8 b).toNat = b := by
          show (UInt8.ofNat b).toNat = b
          rw [UInt8.toNat_ofNat']; omega
        have n1 : ((47 : UInt8) == Nat.toUInt8 b) = false := beq_eq_false_iff_ne.2 (fun x => by rw [← x] at hn; exact h1 hn.symm)
        have n2 : ((92 : UInt8) == Nat.toUInt8 b) = false := beq_eq_false_iff_ne.2 (fun x => by rw [← x] at hn; exact h2 hn.symm)
        simp [Lib.indexByte, n1, n2]
  rw [e] at this
  exact this

/-- Where the first / or \ stands; -1: there is none. -/
def anI (l : List UInt8) : Int := if tkN (nfN 47 92) l < l.length then (tkN (nfN 47 92) l : Int) else -1

set_option maxHeartbeats 1000000 in
set_option maxRecDepth 100000 in
theorem iany_short (s : ByteArray) (w : World) (h8 : s.size ≤ 8) :
    Calls Tryz.prog 99 #[.string s, .string slS] w fun e w' => e = .returned (.int .i64 (anI s.data.toList)) ∧ Below w.heap.size w w' := by
  have CL := hide irune_low
  have CH := hide irune_high
  have CU := hide (fun w => Tryz.strings_shouldUseASCIISet (s.size : Int) w)
  have h8z : decide ((8 : Int) < (s.size : Int)) = false := decide_eq_false (by omega)
  rw [h8z] at CU
  have he : slS.toList.isEmpty = false := not_empty _ (by decide)
  have hz : slS.size = 2 := rfl
  have HZ := hide (tkN_is (nfN 47 92) s.data.toList)
  rw [data_len] at HZ
  have hk0 : (w.iter s 0).heap[w.heap.size]? = some (.stringIter s 0) := World.iter_heap w s 0
  have hb0 : Below w.heap.size w (w.iter s 0) := (Below.refl _ _).alloc (Nat.le_refl _) _
  generalize slS = S at *
  go_enter Tryz.func99, Tryz.ntmps99
  go_wp2_with fail
  refine (unhide CU _).mono ?_
  rintro e1 w1 ⟨rfl, hw1⟩
  obtain rfl : w = w1 := hw1.symm
  clear hw1
  go_wp2
  go_loopw [9, 10] (fun _ _ wr => ∃ pos : Nat, pos ≤ s.size ∧ (∀ j, j < pos → nfN 47 92 (dgt s.data.toList j) = true) ∧ wr.heap[w.heap.size]? = some (.stringIter s pos) ∧ Below w.heap.size w wr) (fun _ _ wr => s.size - wr.iterPos w.heap.size)
  case atStart => exact ⟨0, Nat.zero_le _, fun j hj => absurd hj (Nat.not_lt_zero _), hk0, hb0⟩
  case round =>
    clear hk0 hb0
    obtain ⟨pos, hps, hr, hk, hbw⟩ := hrel
    have HR := hide hr
    clear hr
    have hzw := hbw.size
    have hmu : wr.iterPos w.heap.size = pos := by simp [World.iterPos, hk]
    have HMU := hide hmu
    clear hmu
    by_cases hp : pos < s.size
    · have e := dgt_at s pos hp
      by_cases h128 : dgt s.data.toList pos < 128
      · have hnx := fun ty => Lib.run_next_ascii_at (P := Tryz.prog) wr w.heap.size s pos ty hk hp (by rw [e]; exact h128)
        rw [e] at hnx
        have hk1 := Lib.iterAt_heap wr w.heap.size s pos (pos + 1) hk
        have hb1 : Below w.heap.size w (wr.iterAt w.heap.size s (pos + 1)) := Lib.below_iterAt hbw (Nat.le_refl _) s _
        generalize wr.iterAt w.heap.size s (pos + 1) = w1 at *
        have C := hide (fun w => unhide CL (dgt s.data.toList pos) w h128)
        by_cases hsl : dgt s.data.toList pos = 47 ∨ dgt s.data.toList pos = 92
        · have ht := unhide HZ pos hps (unhide HR) (.inr (nf_no hsl))
          have HT : Hid (anI s.data.toList = (pos : Int)) := hide (by rw [anI, ht, if_pos (by rw [data_len]; exact hp)])
          clear ht
          generalize dgt s.data.toList pos = b at *
          rcases hsl with hb | hb
          · subst hb
            go_wp2_with fail
            refine (unhide C _).mono ?_
            rintro e1 w2 ⟨rfl, hw2⟩
            obtain rfl : w1 = w2 := hw2.symm
            clear hw2
            go_wp2
            go_ret
            exact ⟨by rw [unhide HT]; rfl, hb1⟩
          · subst hb
            go_wp2_with fail
            refine (unhide C _).mono ?_
            rintro e1 w2 ⟨rfl, hw2⟩
            obtain rfl : w1 = w2 := hw2.symm
            clear hw2
            go_wp2
            go_ret
            exact ⟨by rw [unhide HT]; rfl, hb1⟩
        · have hnf := nf_yes (fun h => hsl (.inl h)) (fun h => hsl (.inr h))
          have HR2 : Hid (∀ j, j < pos + 1 → nfN 47 92 (dgt s.data.toList j) = true) := hide (fun j hj => by
            by_cases ej : j = pos
            · rw [ej]; exact hnf
            · exact unhide HR j (by omega))
          have hmu2 : w1.iterPos w.heap.size = pos + 1 := by simp [World.iterPos, hk1]
          have HM2 := hide hmu2
          rw [if_neg (fun h => hsl (.inl h)), if_neg (fun h => hsl (.inr h))] at C
          clear hnf hmu2 hsl
          generalize dgt s.data.toList pos = b at *
          go_wp2_with fail
          refine (unhide C _).mono ?_
          rintro e1 w2 ⟨rfl, hw2⟩
          obtain rfl : w1 = w2 := hw2.symm
          clear hw2
          go_wp2
          go_roundw
          case rel => exact ⟨pos + 1, by omega, unhide HR2, hk1, hb1⟩
          case measure => rw [unhide HMU, unhide HM2]; omega
      · obtain ⟨d1, d2, d3, d4, d5⟩ := dec_high s pos hp (by omega)
        have hnx := fun ty => Lib.run_next_any_at (P := Tryz.prog) wr w.heap.size s pos ty hk hp
        have hk1 := Lib.iterAt_heap wr w.heap.size s pos (pos + (Utf8.decode s pos).2) hk
        have hb1 : Below w.heap.size w (wr.iterAt w.heap.size s (pos + (Utf8.decode s pos).2)) := Lib.below_iterAt hbw (Nat.le_refl _) s _
        generalize wr.iterAt w.heap.size s (pos + (Utf8.decode s pos).2) = w1 at *
        generalize (Utf8.decode s pos).1 = c at *
        generalize (Utf8.decode s pos).2 = n at *
        have HR2 : Hid (∀ j, j < pos + n → nfN 47 92 (dgt s.data.toList j) = true) := hide (fun j hj => by
          rcases Nat.lt_or_ge j pos with h | h
          · exact unhide HR j h
          · have := d5 j h hj
            exact nf_yes (by omega) (by omega))
        have C := hide (fun w => unhide CH (c : Int) w (by omega))
        clear d5 d2 h128 e
        have hw1 : w.heap.size < w1.heap.size := (Array.getElem?_eq_some_iff.1 hk1).1
        go_wp2_with fail
        refine (unhide C _).mono ?_
        rintro e1 w2 ⟨rfl, hb2⟩
        have hk2 : w2.heap[w.heap.size]? = some (.stringIter s (pos + n)) := by rw [hb2.block _ hw1]; exact hk1
        have hmu2 : w2.iterPos w.heap.size = pos + n := by simp [World.iterPos, hk2]
        have HM2 := hide hmu2
        have hb12 := hb1.trans (hb2.mono hb1.size)
        clear hmu2
        go_wp2
        go_roundw
        case rel => exact ⟨pos + n, by omega, unhide HR2, hk2, hb12⟩
        case measure => rw [unhide HMU, unhide HM2]; omega
    · have hnx := fun ty => Lib.run_next_end_at (P := Tryz.prog) wr w.heap.size s pos ty hk hp
      have ht := unhide HZ pos hps (unhide HR) (.inl (by omega))
      have HT : Hid (anI s.data.toList = -1) := hide (by rw [anI, ht, if_neg (by rw [data_len]; omega)])
      clear ht
      go_wp2
      go_ret
      exact ⟨by rw [unhide HT]; rfl, hbw⟩

theorem zv256 (w : World) : (zeroValue 135).run Tryz.prog w = .ok (.agg (Array.replicate 256 (.bool false))) w := by
  kernel_rfl
theorem iany_any (s : ByteArray) (w : World) (hs : s.size ≤ 100000) :
    Calls Tryz.prog 99 #[.string s, .string slS] w fun e w' => e = .returned (.int .i64 (anI s.data.toList)) ∧ Below w.heap.size w w' := by
  rcases Nat.lt_or_ge 8 s.size with h | h
  · have := Tryz.strings_IndexAny_long zv256 s slS w (by decide) h (by omega) (by decide) (by
      intro j b hj
      have hl : slS.data.toList = [47, 92] := rfl
      rw [hl] at hj
      match j with
      | 0 => cases hj; decide
      | 1 => cases hj; decide
      | j + 2 => simp at hj)
    have hi := idx_any 47 92 s.data.toList
    have hl : slS.data.toList = [47, 92] := rfl
    rw [hl, hi] at this
    exact this.mono fun e w' ⟨h1, h2⟩ => ⟨h1, by rw [h2]; exact ((Below.refl _ _).alloc (Nat.le_refl _) _).alloc (by simp) _⟩
  · exact iany_short s w h
end Go.Proofs.YtfdhmhdemfbfeaaGreatDoor
