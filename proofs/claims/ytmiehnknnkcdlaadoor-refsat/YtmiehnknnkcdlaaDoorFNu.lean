/-
  What the reference's 'number' does: a reference by a number.
-/
import Derived.Test.YtmiehnknnkcdlaaDoorFSm
import Derived.Test.YtmiehnknnkcdlaaDoorFNm
import Derived.Test.YtmiehnknnkcdlaaDoorEAt
namespace Go.Proofs.YtmiehnknnkcdlaaDoor
open Go.RowKit
set_option linter.unusedVariables false

def gotR (x : List UInt8) (m : Int) : Value := .agg #[.string (bs x), .int .i64 m]
def capR (n : Nat) : Nat := if 2000000 < n then 2000000 else n
theorem capR_le (n : Nat) : capR n ≤ 2000000 := by unfold capR; split <;> omega
def numR (base : Nat) : Nat → List UInt8 → Nat × Nat
  | n, [] => (n, 0)
  | n, c :: l => if digOk base c.toNat = true then ((numR base (capR (n * base + (digV c.toNat).toNat)) l).1, (numR base (capR (n * base + (digV c.toNat).toNat)) l).2 + 1) else (n, 0)
theorem numR_yes {base n k : Nat} {l : List UInt8} (hk : k < l.length) (h : digOk base (dgt l k) = true) : numR base n (l.drop k) = ((numR base (capR (n * base + (digV (dgt l k)).toNat)) (l.drop (k + 1))).1, (numR base (capR (n * base + (digV (dgt l k)).toNat)) (l.drop (k + 1))).2 + 1) := by
  obtain ⟨c, hc, hn⟩ := drop_at l k hk
  rw [hc, numR, hn, if_pos h]
theorem numR_no {base n k : Nat} {l : List UInt8} (hk : k < l.length) (h : digOk base (dgt l k) = false) : numR base n (l.drop k) = (n, 0) := by
  obtain ⟨c, hc, hn⟩ := drop_at l k hk
  rw [hc, numR, hn, h]; rfl
theorem numR_end {base n k : Nat} {l : List UInt8} (hk : l.length ≤ k) : numR base n (l.drop k) = (n, 0) := by
  rw [List.drop_eq_nil_of_le hk, numR]
theorem numR_le (base : Nat) : ∀ (l : List UInt8) (n : Nat), (numR base n l).2 ≤ l.length
  | [], n => by simp [numR]
  | c :: l, n => by
    rw [numR]
    split
    · have := numR_le base l (capR (n * base + (digV c.toNat).toNat)); simp; omega
    · simp
/-- The two ways to keep a number small tell the same character. -/
def Like (n m : Nat) : Prop := (n = m ∧ m < 1114112) ∨ (1114112 ≤ n ∧ m = 1114112)
theorem like_step {n m base d : Nat} (h : Like n m) (hb : 1 ≤ base) : Like (capR (n * base + d)) (min (m * base + d) 1114112) := by
  unfold Like at *
  unfold capR
  rcases h with ⟨rfl, h⟩ | ⟨h, rfl⟩
  · split <;> omega
  · have h1 : n * 1 ≤ n * base := Nat.mul_le_mul_left n hb
    have h2 : 1114112 * 1 ≤ 1114112 * base := Nat.mul_le_mul_left 1114112 hb
    split <;> omega
theorem num_like (base : Nat) (hb : 1 ≤ base) : ∀ (l : List UInt8) (n m : Nat), Like n m → Like (numR base n l).1 (numG base m l).1 ∧ (numR base n l).2 = (numG base m l).2
  | [], n, m, h => ⟨h, rfl⟩
  | c :: l, n, m, h => by
    rw [numR, numG]
    by_cases hd : digOk base c.toNat = true
    · rw [if_pos hd, if_pos hd]
      have := num_like base hb l _ _ (like_step (d := (digV c.toNat).toNat) h hb)
      exact ⟨this.1, by simp only []; rw [this.2]⟩
    · rw [if_neg hd, if_neg hd]; exact ⟨h, rfl⟩
theorem num_char {base : Nat} (hb : 1 ≤ base) (l : List UInt8) : numC ((numR base 0 l).1 : Int) = numC ((numG base 0 l).1 : Int) ∧ (numR base 0 l).2 = (numG base 0 l).2 := by
  have h := num_like base hb l 0 0 (.inl ⟨rfl, by omega⟩)
  refine ⟨?_, h.2⟩
  rcases h.1 with ⟨e, _⟩ | ⟨h1, h2⟩
  · rw [e]
  · exact numC_big (by omega) (by omega)

def rnumL (l : List UInt8) (i : Nat) (r : Nat × Nat) : List UInt8 × Int := if r.2 = 0 then ([], -1) else (ub (numC (r.1 : Int)), ((i + r.2 + semiN (l.drop (i + r.2)) : Nat) : Int))
def rnumV (l : List UInt8) (i : Nat) (r : Nat × Nat) : Value := gotR (rnumL l i r).1 (rnumL l i r).2
theorem semi_at (l : List UInt8) (k : Nat) : (atB l k = 59 ∧ semiN (l.drop k) = 1) ∨ (¬ atB l k = 59 ∧ semiN (l.drop k) = 0) := by
  unfold atB semiN
  by_cases h : k < l.length
  · rw [if_pos h]
    obtain ⟨c, hc, hn⟩ := drop_at l k h
    rw [hc, ← hn]
    by_cases e : c = 59
    · subst e; exact .inl ⟨rfl, rfl⟩
    · refine .inr ⟨fun h => e (UInt8.toNat.inj h), ?_⟩
      have : ([59].isPrefixOf (c :: l.drop (k + 1))) = false := by simp [List.isPrefixOf]; exact fun h => e h.symm
      rw [this]; rfl
  · rw [if_neg h, List.drop_eq_nil_of_le (by omega)]
    exact .inr ⟨by omega, rfl⟩
theorem val_ok {base b : Nat} (hb : base ≤ 16) : (digOk base b = true → valN b = digV b ∧ valN b < (base : Int) ∧ 0 ≤ valN b) ∧ (digOk base b = false → ¬ valN b < (base : Int)) := by
  have h := val_dig b
  unfold digOk
  constructor
  · intro g
    have g' := of_decide_eq_true g
    have := h.1 g'.1
    omega
  · intro g
    have g' := of_decide_eq_false g
    by_cases hn : 0 ≤ digV b
    · have := h.1 hn; omega
    · have := h.2 (by omega); omega
theorem str_ub (c : Int) : str (ubI c) = bs (ub c) := rfl

set_option maxHeartbeats 4000000 in
theorem rnum_any (s : ByteArray) (i base : Nat) (w : World) (hs : s.size ≤ 100000) (hi : i ≤ 200000) (hb1 : 1 ≤ base) (hb : base ≤ 16) :
    Calls Tryd.prog 30 #[.string s, .int .i64 (i : Int), .int .i64 (base : Int)] w fun e w' => e = .returned (rnumV s.data.toList i (numR base 0 (s.data.toList.drop i))) ∧ Below w.heap.size w w' := by
  have hbi : (base : Int) ≤ 16 := by omega
  have hbi1 : (1 : Int) ≤ (base : Int) := by omega
  go_enter Tryd.func30, Tryd.ntmps30
  go_wp2
  go_loopw [7, 8] (fun a k wr => ∃ (c n : Nat), i + c ≤ max i s.size ∧ k = .int .i64 ((i + c : Nat) : Int) ∧ a = .int .i64 (n : Int) ∧ n ≤ 2000000 ∧ numR base 0 (s.data.toList.drop i) = ((numR base n (s.data.toList.drop (i + c))).1, (numR base n (s.data.toList.drop (i + c))).2 + c) ∧ wr = w.alloc (.cells #[.string ⟨#[]⟩, .int .i64 0] 26)) (fun _ k _ => s.size - (intOf k).toNat)
  case atStart => exact ⟨0, 0, by omega, rfl, rfl, by omega, rfl, rfl⟩
  case round =>
    obtain ⟨c, n, hc, rfl, rfl, hn, hr, rfl⟩ := hrel
    have HR := hide hr
    clear hr
    generalize hq : i + c = q at *
    have HQ := hide hq
    have hq2 : q ≤ 300000 := by omega
    have hend : (∀ m, numR base m (s.data.toList.drop q) = (m, 0)) → numR base 0 (s.data.toList.drop i) = (n, c) := fun h => by rw [unhide HR, h n]; simp
    have HEND := hide hend
    clear hend hq
    have CA := hide (fun w => rat_at s q w (by omega) (by omega))
    have hsem := semi_at s.data.toList q
    have CN := hide (rnumber_any (n : Int))
    have CB := hide (fun w => rbytes_char (numC (n : Int)) w (numC_isC _))
    rw [str_ub] at CB
    have hl1 : c = 0 → rnumV s.data.toList i (n, c) = gotR [] (-1) := fun h => by simp [rnumV, rnumL, h]
    have hl2 : c ≠ 0 → semiN (s.data.toList.drop q) = 1 → rnumV s.data.toList i (n, c) = gotR (ub (numC (n : Int))) ((q : Int) + 1) := fun h h2 => by
      simp only [rnumV, rnumL, h, if_false, unhide HQ, h2]; rfl
    have hl3 : c ≠ 0 → semiN (s.data.toList.drop q) = 0 → rnumV s.data.toList i (n, c) = gotR (ub (numC (n : Int))) (q : Int) := fun h h2 => by
      simp only [rnumV, rnumL, h, if_false, unhide HQ, h2]; rfl
    have H1 := hide hl1
    have H2 := hide hl2
    have H3 := hide hl3
    clear hl1 hl2 hl3
    generalize ub (numC (n : Int)) = u at *
    generalize numC (n : Int) = nc at *
    by_cases hp : q < s.size
    · have hpi : (q : Int) < (s.size : Int) := by omega
      have e := dgt_at s q hp
      have CV := hide (fun w => value_any (dgt s.data.toList q) w (dgt_lt _ _))
      have hok := val_ok (base := base) (b := dgt s.data.toList q) hb
      have hstep := numR_yes (base := base) (n := n) (k := q) (l := s.data.toList) (by rw [data_len]; exact hp)
      have hstop := fun m => numR_no (base := base) (n := m) (k := q) (l := s.data.toList) (by rw [data_len]; exact hp)
      generalize dgt s.data.toList q = b at *
      cases hd : digOk base b with
      | true =>
        obtain ⟨v1, v2, v3⟩ := hok.1 hd
        have hst := hstep hd
        have hdt : ((digV b).toNat : Int) = valN b := by omega
        obtain ⟨d, hdd⟩ : ∃ d : Nat, (d : Int) = valN b := ⟨(valN b).toNat, by omega⟩
        have hd2 : (digV b).toNat = d := by omega
        rw [hd2] at hst
        rw [← hdd] at CV v2 v3
        have hmul : n * base ≤ 2000000 * 16 := Nat.mul_le_mul hn hb
        obtain ⟨nb, hnb⟩ : ∃ nb, n * base = nb := ⟨_, rfl⟩
        have hmi : (n : Int) * (base : Int) = (nb : Int) := by rw [← hnb]; simp
        rw [hnb] at hst hmul
        have HST := hide hst
        clear hok hstep hstop hst hd v1 hdt hd2 hdd H1 H2 H3 CN CB CA hsem HEND hnb
        by_cases hcap : 2000000 < nb + d
        · have hcap2 : capR (nb + d) = 2000000 := by unfold capR; rw [if_pos hcap]
          have hci : (2000000 : Int) < (nb : Int) + (d : Int) := by omega
          have HC2 := hide hcap2
          clear hcap2
          go_wp2_with (go_at_call 48; refine (unhide CV _).mono ?_; rintro e1 w1 ⟨rfl, rfl⟩)
          go_roundw
          case rel => exact ⟨c + 1, 2000000, by have := unhide HQ; omega, by have := unhide HQ; rw [show i + (c + 1) = q + 1 by omega]; go_num, rfl, by omega, by have := unhide HQ; rw [unhide HR, unhide HST, unhide HC2, show i + (c + 1) = q + 1 by omega]; simp only []; congr 1; omega, by first | exact rfl | trivial⟩
          case measure => simp [intOf]; omega
        · have hcap2 : capR (nb + d) = nb + d := by unfold capR; rw [if_neg hcap]
          have hci : ¬ (2000000 : Int) < (nb : Int) + (d : Int) := by omega
          have HC2 := hide hcap2
          clear hcap2
          go_wp2_with (go_at_call 48; refine (unhide CV _).mono ?_; rintro e1 w1 ⟨rfl, rfl⟩)
          go_roundw
          case rel => exact ⟨c + 1, nb + d, by have := unhide HQ; omega, by have := unhide HQ; rw [show i + (c + 1) = q + 1 by omega]; go_num, by first | rfl | (congr 1; omega) | go_num, by omega, by have := unhide HQ; rw [unhide HR, unhide HST, unhide HC2, show i + (c + 1) = q + 1 by omega]; simp only []; congr 1; omega, by first | exact rfl | trivial⟩
          case measure => simp [intOf]; omega
      | false =>
        have v2 := hok.2 hd
        have hz := unhide HEND (fun m => hstop m hd)
        have HZ := hide hz
        have hvi : decide (valN b < (base : Int)) = false := decide_eq_false v2
        clear hok hstep hstop hd hz
        generalize valN b = vb at *
        clear HR HEND
        by_cases hc0 : c = 0
        · have hqi : ((q : Int) == (i : Int)) = true := by have := unhide HQ; simp; omega
          have HV := hide (unhide H1 hc0)
          clear H1 H2 H3 CN CB CA hsem
          go_wp2_with (go_at_call 48; refine (unhide CV _).mono ?_; rintro e1 w1 ⟨rfl, rfl⟩)
          exact bodyPost_ret (v := gotR [] (-1)) (by simp [results, Tryd.results30, go_sem, gotR, bs]) rfl ⟨by rw [unhide HZ, unhide HV], (Below.refl _ _).alloc (Nat.le_refl _) _⟩
        · have hqi : ((q : Int) == (i : Int)) = false := by have := unhide HQ; simp; omega
          rcases hsem with ⟨ha, hm⟩ | ⟨ha, hm⟩
          · have HV := hide (unhide H2 hc0 hm)
            rw [ha] at CA
            clear H1 H2 H3 hm ha
            go_wp2_with fail
            refine (unhide CV _).mono ?_; rintro e1 w1 ⟨rfl, rfl⟩
            go_wp2_with fail
            refine (unhide CA _).mono ?_; rintro e1 w1 ⟨rfl, rfl⟩
            go_wp2_with fail
            refine (unhide CN _).mono ?_; rintro e1 w2 ⟨rfl, hb2⟩
            go_wp2_with fail
            refine (unhide CB _).mono ?_; rintro e1 w3 ⟨rfl, hb3⟩
            have hb13 := tr2 hb2 hb3
            have hz : w.heap.size < w3.heap.size := by have := hb13.size; simp at this; omega
            obtain ⟨hc, hf⟩ := bcell hb13
            go_wp2
            exact bodyPost_ret (v := gotR u ((q : Int) + 1)) (by simp [results, Tryd.results30, go_sem, gotR, hc]) rfl ⟨by rw [unhide HZ, unhide HV], ((bel_of hb13).setCell (by simp) _).setCell (by simp) _⟩
          · have HV := hide (unhide H3 hc0 hm)
            generalize atB s.data.toList q = ab at *
            have nab : ((ab : Int) == 59) = false := bneI (by omega)
            clear H1 H2 H3 hm ha
            go_wp2_with fail
            refine (unhide CV _).mono ?_; rintro e1 w1 ⟨rfl, rfl⟩
            go_wp2_with fail
            refine (unhide CA _).mono ?_; rintro e1 w1 ⟨rfl, rfl⟩
            go_wp2_with fail
            refine (unhide CN _).mono ?_; rintro e1 w2 ⟨rfl, hb2⟩
            go_wp2_with fail
            refine (unhide CB _).mono ?_; rintro e1 w3 ⟨rfl, hb3⟩
            have hb13 := tr2 hb2 hb3
            have hz : w.heap.size < w3.heap.size := by have := hb13.size; simp at this; omega
            obtain ⟨hc, hf⟩ := bcell hb13
            go_wp2
            exact bodyPost_ret (v := gotR u (q : Int)) (by simp [results, Tryd.results30, go_sem, gotR, hc]) rfl ⟨by rw [unhide HZ, unhide HV], ((bel_of hb13).setCell (by simp) _).setCell (by simp) _⟩
    · have hpi : ¬ (q : Int) < (s.size : Int) := by omega
      have hz := unhide HEND (fun m => numR_end (by rw [data_len]; omega))
      have HZ := hide hz
      clear hz HR HEND
      by_cases hc0 : c = 0
      · have hqi : ((q : Int) == (i : Int)) = true := by have := unhide HQ; simp; omega
        have HV := hide (unhide H1 hc0)
        clear H1 H2 H3 CN CB CA hsem
        go_wp2
        exact bodyPost_ret (v := gotR [] (-1)) (by simp [results, Tryd.results30, go_sem, gotR, bs]) rfl ⟨by rw [unhide HZ, unhide HV], (Below.refl _ _).alloc (Nat.le_refl _) _⟩
      · have hqi : ((q : Int) == (i : Int)) = false := by have := unhide HQ; simp; omega
        rcases hsem with ⟨ha, hm⟩ | ⟨ha, hm⟩
        · exfalso
          unfold atB at ha
          rw [if_neg (by rw [data_len]; omega)] at ha
          omega
        · have HV := hide (unhide H3 hc0 hm)
          generalize atB s.data.toList q = ab at *
          have nab : ((ab : Int) == 59) = false := bneI (by omega)
          clear H1 H2 H3 hm ha
          go_wp2_with fail
          refine (unhide CA _).mono ?_; rintro e1 w1 ⟨rfl, rfl⟩
          go_wp2_with fail
          refine (unhide CN _).mono ?_; rintro e1 w2 ⟨rfl, hb2⟩
          go_wp2_with fail
          refine (unhide CB _).mono ?_; rintro e1 w3 ⟨rfl, hb3⟩
          have hb13 := tr2 hb2 hb3
          have hz : w.heap.size < w3.heap.size := by have := hb13.size; simp at this; omega
          obtain ⟨hc, hf⟩ := bcell hb13
          go_wp2
          exact bodyPost_ret (v := gotR u (q : Int)) (by simp [results, Tryd.results30, go_sem, gotR, hc]) rfl ⟨by rw [unhide HZ, unhide HV], ((bel_of hb13).setCell (by simp) _).setCell (by simp) _⟩
end Go.Proofs.YtmiehnknnkcdlaaDoor
