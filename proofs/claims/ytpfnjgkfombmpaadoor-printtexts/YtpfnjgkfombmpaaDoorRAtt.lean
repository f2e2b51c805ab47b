/-
  What 'rectoref02.At' does, told by the plain function.
-/
import Derived.Test.YtpfnjgkfombmpaaDoorRAt1
import Derived.Test.YtpfnjgkfombmpaaDoorRAt2
import Derived.Test.YtpfnjgkfombmpaaDoorRAt3
import Derived.Test.YtpfnjgkfombmpaaDoorRAt4
import Derived.Test.YtpfnjgkfombmpaaDoorRAt5
import Derived.Test.YtpfnjgkfombmpaaDoorRAt6
namespace Go.Proofs.YtpfnjgkfombmpaaDoor
open Go.RowKit
set_option linter.unusedVariables false

def gotStep (l : List UInt8) : Value := got (step l).1 ((step l).2.1 : Int) (step l).2.2
theorem gotStep_none {l : List UInt8} (h : dec l = none) : gotStep l = got 65533 1 false := by simp only [gotStep, step, h]; rfl
theorem gotStep_some {l : List UInt8} {c : Int} {n : Nat} (h : dec l = some (c, n)) : gotStep l = got c n true := by simp only [gotStep, step, h]

def RAtIs (s : ByteArray) (i : Nat) (w : World) (v : Value) : Prop := Calls Tryd.prog 115 #[.string s, .int .i64 (i : Int)] w fun e w' => e = .returned v ∧ Below w.heap.size w w'

theorem at_close (s : ByteArray) (i : Nat) (w : World) (c : Int) (n : Nat) (hs : s.size ≤ 9223372036854775807) (hi2 : i ≤ 9223372036854775000) (hi : i < s.size) (hc : cand (s.data.toList.drop i) = some (c, n))
    (f0 : RIsIs c false → RAtIs s i w (got 65533 1 false))
    (f1 : RIsIs c true → ∀ q, RBytesIs c q → q.size ≤ 4 → (s.size : Int) - (i : Int) < (q.size : Int) → RAtIs s i w (got 65533 1 false))
    (f2 : RIsIs c true → ∀ q, RBytesIs c q → q.size ≤ 4 → (q.size : Int) ≤ (s.size : Int) - (i : Int) → i + q.size ≤ s.size → ((s.extract i (i + q.size)).toList == q.toList) = false → RAtIs s i w (got 65533 1 false))
    (f3 : RIsIs c true → ∀ q, RBytesIs c q → q.size ≤ 4 → (q.size : Int) ≤ (s.size : Int) - (i : Int) → i + q.size ≤ s.size → ((s.extract i (i + q.size)).toList == q.toList) = true → RAtIs s i w (got c (q.size : Int) true)) :
    RAtIs s i w (gotStep (s.data.toList.drop i)) := by
  have hl := data_len s
  have hlen : (s.data.toList.drop i).length = s.size - i := by rw [List.length_drop, hl]
  have hne : s.data.toList.drop i ≠ [] := by
    intro e; rw [e] at hlen; simp at hlen; omega
  cases h : isC c with
  | false =>
    rw [gotStep_none (dec_not hc h)]
    exact f0 (fun w => by have := rIs_any c w; rw [h] at this; exact this)
  | true =>
    have I : RIsIs c true := fun w => by have := rIs_any c w; rw [h] at this; exact this
    have B : RBytesIs c (str (ubI c)) := fun w => rbytes_char c w h
    have hq := str_len c
    have hq4 := sz_le c
    have key := dec_of_cand hne hc h
    rw [hlen] at key
    by_cases g1 : s.size - i < sz c
    · rw [gotStep_none (dec_other hc (fun e => by have := (key.1 e).1; omega))]
      exact f1 I _ B (by omega) (by omega)
    · by_cases g2 : (s.data.toList.drop i).take (sz c) = ub c
      · have e := key.2 ⟨by omega, g2⟩
        rw [gotStep_some (dec_yes hc h e)]
        have := f3 I _ B (by omega) (by omega) (by omega) (beq_yes (by rw [hq, extract_take, g2]; rfl))
        rw [hq, e] at this
        exact this
      · rw [gotStep_none (dec_other hc (fun e => g2 (key.1 e).2))]
        exact f2 I _ B (by omega) (by omega) (by omega) (beq_no (by
          rw [hq, extract_take]
          intro e
          exact g2 (bs_inj e)))

theorem tl_drop (l : List UInt8) (i k : Nat) (h : i ≤ l.length) : (tl (l.drop i) k = true) ↔ (tl l (i + k) = true) := by
  rw [tl_iff, tl_iff, dgt_drop, List.length_drop]
  omega
theorem lo_drop (l : List UInt8) (i k : Nat) : lo (l.drop i) k = lo l (i + k) := by unfold lo; rw [dgt_drop]
theorem lowIs (s : ByteArray) (i k : Nat) (hs : s.size ≤ 9223372036854775807) (hi : i ≤ 9223372036854775000) (hk : k ≤ 3) : LowIs s ((i : Int) + (k : Int)) (lowI s.data.toList (i + k)) := by
  intro w
  have := low_any s (i + k) w (by omega) (by omega)
  rw [Int.natCast_add] at this
  exact this

theorem rat_any (s : ByteArray) (i : Nat) (w : World) (hs : s.size ≤ 9223372036854775807) (hi2 : i ≤ 9223372036854775000) (hi : i < s.size) :
    Calls Tryd.prog 115 #[.string s, .int .i64 (i : Int)] w fun e w' => e = .returned (gotStep (s.data.toList.drop i)) ∧ Below w.heap.size w w' := by
  show RAtIs s i w _
  have hl := data_len s
  have e := dgt_at s i hi
  have b0 := dgt_lt s.data.toList i
  have N1 : RIsIs (-1) false := fun w => rIs_any (-1) w
  have L1 := lowIs s i 1 hs (by omega) (by omega)
  have L2 := lowIs s i 2 hs (by omega) (by omega)
  have L3 := lowIs s i 3 hs (by omega) (by omega)
  have d0 : dgt (s.data.toList.drop i) 0 = dgt s.data.toList i := by rw [dgt_drop]; rfl
  have T := fun k => tl_drop s.data.toList i k (by omega)
  by_cases g5 : 248 ≤ dgt s.data.toList i
  · rw [gotStep_none (dec_none (cand_5 (by omega)))]
    exact at_none5 s i _ _ _ _ w hs hi2 hi e g5 b0 L1 L2 L3 N1
  by_cases g4 : 240 ≤ dgt s.data.toList i
  · have hc := cand_4 (l := s.data.toList.drop i) (by omega) (by omega)
    by_cases t1 : tl s.data.toList (i + 1) = true
    · have q1 := lo_bd t1
      rw [lowI_yes t1] at L1
      by_cases t2 : tl s.data.toList (i + 2) = true
      · have q2 := lo_bd t2
        rw [lowI_yes t2] at L2
        by_cases t3 : tl s.data.toList (i + 3) = true
        · have q3 := lo_bd t3
          rw [lowI_yes t3] at L3
          rw [if_pos ⟨(T 1).2 t1, (T 2).2 t2, (T 3).2 t3⟩, d0, lo_drop, lo_drop, lo_drop] at hc
          exact at_close s i w _ 4 hs hi2 hi hc (fun I => at_4_none s i _ _ _ _ w hs hi2 hi e g4 (by omega) L1 L2 L3 q1.1 q1.2 q2.1 q2.2 q3.1 q3.2 I)
            (fun I q B h1 h2 => at_4_short s i _ _ _ _ w hs hi2 hi e g4 (by omega) L1 L2 L3 q1.1 q1.2 q2.1 q2.2 q3.1 q3.2 I q B h1 h2)
            (fun I q B h1 h2 h3 h4 => at_4_other s i _ _ _ _ w hs hi2 hi e g4 (by omega) L1 L2 L3 q1.1 q1.2 q2.1 q2.2 q3.1 q3.2 I q B h1 h2 h3 h4)
            (fun I q B h1 h2 h3 h4 => at_4_ok s i _ _ _ _ w hs hi2 hi e g4 (by omega) L1 L2 L3 q1.1 q1.2 q2.1 q2.2 q3.1 q3.2 I q B h1 h2 h3 h4)
        · rw [lowI_no t3] at L3
          rw [if_neg (fun h => t3 ((T 3).1 h.2.2))] at hc
          rw [gotStep_none (dec_none hc)]
          exact at_none4c s i _ _ _ 0 w hs hi2 hi e g4 (by omega) L1 L2 L3 q1.1 q1.2 q2.1 q2.2 N1
      · rw [lowI_no t2] at L2
        rw [if_neg (fun h => t2 ((T 2).1 h.2.1))] at hc
        rw [gotStep_none (dec_none hc)]
        exact at_none4b s i _ _ 0 _ w hs hi2 hi e g4 (by omega) L1 L2 L3 q1.1 q1.2 N1
    · rw [lowI_no t1] at L1
      rw [if_neg (fun h => t1 ((T 1).1 h.1))] at hc
      rw [gotStep_none (dec_none hc)]
      exact at_none4a s i _ 0 _ _ w hs hi2 hi e g4 (by omega) L1 L2 L3 N1
  by_cases g3 : 224 ≤ dgt s.data.toList i
  · have hc := cand_3 (l := s.data.toList.drop i) (by omega) (by omega)
    by_cases t1 : tl s.data.toList (i + 1) = true
    · have q1 := lo_bd t1
      rw [lowI_yes t1] at L1
      by_cases t2 : tl s.data.toList (i + 2) = true
      · have q2 := lo_bd t2
        rw [lowI_yes t2] at L2
        rw [if_pos ⟨(T 1).2 t1, (T 2).2 t2⟩, d0, lo_drop, lo_drop] at hc
        exact at_close s i w _ 3 hs hi2 hi hc (fun I => at_3_none s i _ _ _ _ w hs hi2 hi e g3 (by omega) L1 L2 L3 q1.1 q1.2 q2.1 q2.2 I)
          (fun I q B h1 h2 => at_3_short s i _ _ _ _ w hs hi2 hi e g3 (by omega) L1 L2 L3 q1.1 q1.2 q2.1 q2.2 I q B h1 h2)
          (fun I q B h1 h2 h3 h4 => at_3_other s i _ _ _ _ w hs hi2 hi e g3 (by omega) L1 L2 L3 q1.1 q1.2 q2.1 q2.2 I q B h1 h2 h3 h4)
          (fun I q B h1 h2 h3 h4 => at_3_ok s i _ _ _ _ w hs hi2 hi e g3 (by omega) L1 L2 L3 q1.1 q1.2 q2.1 q2.2 I q B h1 h2 h3 h4)
      · rw [lowI_no t2] at L2
        rw [if_neg (fun h => t2 ((T 2).1 h.2))] at hc
        rw [gotStep_none (dec_none hc)]
        exact at_none3b s i _ _ 0 _ w hs hi2 hi e g3 (by omega) L1 L2 L3 q1.1 q1.2 N1
    · rw [lowI_no t1] at L1
      rw [if_neg (fun h => t1 ((T 1).1 h.1))] at hc
      rw [gotStep_none (dec_none hc)]
      exact at_none3a s i _ 0 _ _ w hs hi2 hi e g3 (by omega) L1 L2 L3 N1
  by_cases g2 : 192 ≤ dgt s.data.toList i
  · have hc := cand_2 (l := s.data.toList.drop i) (by omega) (by omega)
    by_cases t1 : tl s.data.toList (i + 1) = true
    · have q1 := lo_bd t1
      rw [lowI_yes t1] at L1
      rw [if_pos ((T 1).2 t1), d0, lo_drop] at hc
      exact at_close s i w _ 2 hs hi2 hi hc (fun I => at_2_none s i _ _ _ _ w hs hi2 hi e g2 (by omega) L1 L2 L3 q1.1 q1.2 I)
        (fun I q B h1 h2 => at_2_short s i _ _ _ _ w hs hi2 hi e g2 (by omega) L1 L2 L3 q1.1 q1.2 I q B h1 h2)
        (fun I q B h1 h2 h3 h4 => at_2_other s i _ _ _ _ w hs hi2 hi e g2 (by omega) L1 L2 L3 q1.1 q1.2 I q B h1 h2 h3 h4)
        (fun I q B h1 h2 h3 h4 => at_2_ok s i _ _ _ _ w hs hi2 hi e g2 (by omega) L1 L2 L3 q1.1 q1.2 I q B h1 h2 h3 h4)
    · rw [lowI_no t1] at L1
      rw [if_neg (fun h => t1 ((T 1).1 h))] at hc
      rw [gotStep_none (dec_none hc)]
      exact at_none2 s i _ 0 _ _ w hs hi2 hi e g2 (by omega) L1 L2 L3 N1
  by_cases g1 : 128 ≤ dgt s.data.toList i
  · rw [gotStep_none (dec_none (cand_0 (by omega) (by omega)))]
    exact at_none1 s i _ _ _ _ w hs hi2 hi e g1 (by omega) L1 L2 L3 N1
  · have hc := cand_1 (l := s.data.toList.drop i) (by omega)
    rw [d0] at hc
    exact at_close s i w _ 1 hs hi2 hi hc (fun I => at_1_none s i _ _ _ _ w hs hi2 hi e (by omega) L1 L2 L3 I)
      (fun I q B h1 h2 => at_1_short s i _ _ _ _ w hs hi2 hi e (by omega) L1 L2 L3 I q B h1 h2)
      (fun I q B h1 h2 h3 h4 => at_1_other s i _ _ _ _ w hs hi2 hi e (by omega) L1 L2 L3 I q B h1 h2 h3 h4)
      (fun I q B h1 h2 h3 h4 => at_1_ok s i _ _ _ _ w hs hi2 hi e (by omega) L1 L2 L3 I q B h1 h2 h3 h4)
end Go.Proofs.YtpfnjgkfombmpaaDoor
