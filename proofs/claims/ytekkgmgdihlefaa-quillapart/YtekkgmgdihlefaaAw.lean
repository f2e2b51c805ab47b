/-
  The law QuillApart walked: of two lists that are written no one's bytes begin with the other one's, if they are unlike.
-/
import Derived.Test.YtekkgmgdihlefaaBw
namespace Go.Proofs.Ytekkgmgdihlefaa
open Go.RowKit
set_option linter.unusedVariables false

theorem begins_yes (a : ByteArray) (w : World) (h : a.size ≤ 9223372036854775807) :
    Calls Try.prog 24 #[.string a, .string a] w fun e w' => e = .returned (.bool true) ∧ Below w.heap.size w w' := by
  have e1 : (((a.extract 0 a.size).toList == a.toList)) = true := beq_yes (Lib.Pa.extract_all a)
  have e2 : (a.size : Int) ≤ (a.size : Int) := Int.le_refl _
  go_enter Try.func24, Try.ntmps24
  go_wp2
  go_ret
  exact ⟨rfl, Below.refl _ _⟩

theorem begins_no (a b : ByteArray) (w : World) (h : a.size ≤ 9223372036854775807) (h2 : b.size ≤ 9223372036854775807) (hne : ∀ z, ¬ a.data.toList = b.data.toList ++ z) :
    Calls Try.prog 24 #[.string a, .string b] w fun e w' => e = .returned (.bool false) ∧ Below w.heap.size w w' := by
  by_cases hl : b.size ≤ a.size
  · have e1 : ((a.extract 0 b.size).toList == b.toList) = false := beq_no (by
      intro e
      rw [Lib.Pa.extract_upto] at e
      have e' : a.data.toList.take b.size = b.data.toList := by
        have := congrArg (fun x : ByteArray => x.data.toList) e
        simpa using this
      exact hne (a.data.toList.drop b.size) (by rw [← e', List.take_append_drop]))
    have e2 : (b.size : Int) ≤ (a.size : Int) := by omega
    clear hne
    go_enter Try.func24, Try.ntmps24
    go_wp2
    go_ret
    exact ⟨rfl, Below.refl _ _⟩
  · have e2 : (a.size : Int) < (b.size : Int) := by omega
    clear hne hl
    go_enter Try.func24, Try.ntmps24
    go_wp2
    go_ret
    exact ⟨rfl, Below.refl _ _⟩

theorem apart (sa sb : List ByteArray) (ha : sa.length ≤ 1000) (hb : sb.length ≤ 1000) (fa : ∀ s ∈ sa, s.size ≤ 65536) (fb : ∀ s ∈ sb, s.size ≤ 65536) (hne : ¬ sa = sb) (z : List UInt8) : ¬ lb sa.length sa = lb sb.length sb ++ z := by
  intro e
  have h1 := takeL_lb sa [] ha fa
  have h2 := takeL_lb sb z hb fb
  rw [List.append_nil, e, h2] at h1
  simp only [Option.some.injEq, Prod.mk.injEq] at h1
  exact hne h1.1.symm

/-- What List answers, at whatever list: with bytes, or not. -/
theorem list_cases (v : Value) (ss : List ByteArray) (hbig : ∀ s ∈ ss, s.size ≤ 9223372036854775807) :
    (ss.length ≤ 1000 ∧ (∀ s ∈ ss, s.size ≤ 65536) ∧ ∀ w, View w v ss → Calls Try.prog 15 #[v] w fun e w' => e = .returned (.tuple #[.string (bs (lb ss.length ss)), .int .i64 0]) ∧ Below w.heap.size w w') ∨
    (∀ w, View w v ss → Calls Try.prog 15 #[v] w fun e w' => e = .returned (.tuple #[.string ⟨#[]⟩, .int .i64 2]) ∧ Below w.heap.size w w') := by
  by_cases h : 1000 < ss.length
  · exact .inr fun w hv => list_long v ss w hv h
  · by_cases hf : fits ss = true
    · refine .inl ⟨by omega, (fits_iff ss).1 hf, fun w hv => ?_⟩
      have := list_any v ss w hv (by omega) hbig
      rw [listV, if_pos hf] at this; exact this
    · refine .inr fun w hv => ?_
      have := list_any v ss w hv (by omega) hbig
      rw [listV, if_neg hf] at this; exact this

def LongIs (v : Value) (ss : List ByteArray) (b : Bool) : Prop := ∀ w, View w v ss → Calls Try.prog 9 #[v] w fun e w' => e = .returned (.bool b) ∧ Below w.heap.size w w'
def ListIs (v : Value) (ss : List ByteArray) (x : ByteArray) (er : Int) : Prop := ∀ w, View w v ss → Calls Try.prog 15 #[v] w fun e w' => e = .returned (.tuple #[.string x, .int .i64 er]) ∧ Below w.heap.size w w'

set_option maxHeartbeats 1000000 in
theorem apart_longa (va vb : Value) (sa sb : List ByteArray) (w : World) (hab : ABs) (ha : View w va sa) (CL : LongIs va sa true) :
    Calls Try.prog 7 #[va, vb] w fun e w' => e = .returned (.bool true) ∧ Below w.heap.size w w' := by
  have HA := hide ha
  clear ha
  go_enter Try.func7, Try.ntmps7
  go_wp2_with fail
  refine (CL _ (unhide HA)).mono ?_
  rintro e w1 ⟨rfl, hb1⟩
  go_wp2_with fail
  refine (hab _).mono ?_
  rintro e w2 ⟨rfl, hb2⟩
  go_wp2
  go_ret
  exact ⟨rfl, tr3 hb1 hb2 (Below.refl _ _)⟩

set_option maxHeartbeats 1000000 in
theorem apart_longb (va vb : Value) (sa sb : List ByteArray) (w : World) (hab : ABs) (ha : View w va sa) (hb : View w vb sb) (CL : LongIs va sa false) (CM : LongIs vb sb true) :
    Calls Try.prog 7 #[va, vb] w fun e w' => e = .returned (.bool true) ∧ Below w.heap.size w w' := by
  have HA := hide ha
  have HB := hide hb
  clear ha hb
  go_enter Try.func7, Try.ntmps7
  go_wp2_with fail
  refine (CL _ (unhide HA)).mono ?_
  rintro e w1 ⟨rfl, hb1⟩
  go_wp2_with fail
  refine (CM _ (view_below (unhide HB) hb1)).mono ?_
  rintro e w2 ⟨rfl, hb2⟩
  go_wp2_with fail
  refine (hab _).mono ?_
  rintro e w3 ⟨rfl, hb3⟩
  go_wp2
  go_ret
  exact ⟨rfl, tr3 hb1 hb2 hb3⟩

set_option maxHeartbeats 1000000 in
theorem apart_err (va vb : Value) (sa sb : List ByteArray) (x y : ByteArray) (e1 e2 : Int) (w : World) (hab : ABs) (ha : View w va sa) (hb : View w vb sb) (CL : LongIs va sa false) (CM : LongIs vb sb false)
    (LA : ListIs va sa x e1) (LB : ListIs vb sb y e2) (he : (e1 = 2 ∧ e2 = 2) ∨ (e1 = 2 ∧ e2 = 0) ∨ (e1 = 0 ∧ e2 = 2)) :
    Calls Try.prog 7 #[va, vb] w fun e w' => e = .returned (.bool true) ∧ Below w.heap.size w w' := by
  have HA := hide ha
  have HB := hide hb
  clear ha hb
  rcases he with ⟨rfl, rfl⟩ | ⟨rfl, rfl⟩ | ⟨rfl, rfl⟩
  all_goals
    go_enter Try.func7, Try.ntmps7
    go_wp2_with fail
    refine (CL _ (unhide HA)).mono ?_
    rintro e w1 ⟨rfl, hb1⟩
    go_wp2_with fail
    refine (CM _ (view_below (unhide HB) hb1)).mono ?_
    rintro e w2 ⟨rfl, hb2⟩
    have hb02 := tr3 hb1 hb2 (Below.refl _ _)
    go_wp2_with fail
    refine (LA _ (view_below (unhide HA) hb02)).mono ?_
    rintro e w3 ⟨rfl, hb3⟩
    have hb03 := tr3 hb02 hb3 (Below.refl _ _)
    go_wp2_with fail
    refine (LB _ (view_below (unhide HB) hb03)).mono ?_
    rintro e w4 ⟨rfl, hb4⟩
    go_wp2_with fail
    refine (hab _).mono ?_
    rintro e w5 ⟨rfl, hb5⟩
    go_wp2
    go_ret
    exact ⟨rfl, tr3 hb03 hb4 hb5⟩

def BegIs (x y : ByteArray) (b : Bool) : Prop := ∀ w, Calls Try.prog 24 #[.string x, .string y] w fun e w' => e = .returned (.bool b) ∧ Below w.heap.size w w'

set_option maxHeartbeats 1000000 in
theorem apart_same (va vb : Value) (sa : List ByteArray) (x : ByteArray) (w : World) (hab : ABs) (ha : View w va sa) (hb : View w vb sa) (CL : LongIs va sa false) (CM : LongIs vb sa false)
    (LA : ListIs va sa x 0) (LB : ListIs vb sa x 0) (BG : BegIs x x true) :
    Calls Try.prog 7 #[va, vb] w fun e w' => e = .returned (.bool true) ∧ Below w.heap.size w w' := by
  have HA := hide ha
  have HB := hide hb
  clear ha hb
  go_enter Try.func7, Try.ntmps7
  go_wp2_with fail
  refine (CL _ (unhide HA)).mono ?_
  rintro e w1 ⟨rfl, hb1⟩
  go_wp2_with fail
  refine (CM _ (view_below (unhide HB) hb1)).mono ?_
  rintro e w2 ⟨rfl, hb2⟩
  have hb02 := tr3 hb1 hb2 (Below.refl _ _)
  go_wp2_with fail
  refine (LA _ (view_below (unhide HA) hb02)).mono ?_
  rintro e w3 ⟨rfl, hb3⟩
  have hb03 := tr3 hb02 hb3 (Below.refl _ _)
  go_wp2_with fail
  refine (LB _ (view_below (unhide HB) hb03)).mono ?_
  rintro e w4 ⟨rfl, hb4⟩
  have hb04 := tr3 hb03 hb4 (Below.refl _ _)
  go_wp2_with fail
  refine (BG _).mono ?_
  rintro e w5 ⟨rfl, hb5⟩
  have hb05 := tr3 hb04 hb5 (Below.refl _ _)
  go_wp2_with fail
  refine (texts_any _ _ sa sa _ (view_below (unhide HA) hb05) (view_below (unhide HB) hb05)).mono ?_
  rw [sameT_refl]
  rintro e w6 ⟨rfl, hb6⟩
  go_wp2_with fail
  refine (hab _).mono ?_
  rintro e w7 ⟨rfl, hb7⟩
  go_wp2
  go_ret
  exact ⟨rfl, tr3 hb05 hb6 hb7⟩

set_option maxHeartbeats 1000000 in
theorem apart_unlike (va vb : Value) (sa sb : List ByteArray) (x y : ByteArray) (w : World) (hab : ABs) (ha : View w va sa) (hb : View w vb sb) (CL : LongIs va sa false) (CM : LongIs vb sb false)
    (LA : ListIs va sa x 0) (LB : ListIs vb sb y 0) (BG : BegIs x y false) (BH : BegIs y x false) (hne : Hid (sameT sa sb = false)) :
    Calls Try.prog 7 #[va, vb] w fun e w' => e = .returned (.bool true) ∧ Below w.heap.size w w' := by
  have HA := hide ha
  have HB := hide hb
  clear ha hb
  go_enter Try.func7, Try.ntmps7
  go_wp2_with fail
  refine (CL _ (unhide HA)).mono ?_
  rintro e w1 ⟨rfl, hb1⟩
  go_wp2_with fail
  refine (CM _ (view_below (unhide HB) hb1)).mono ?_
  rintro e w2 ⟨rfl, hb2⟩
  have hb02 := tr3 hb1 hb2 (Below.refl _ _)
  go_wp2_with fail
  refine (LA _ (view_below (unhide HA) hb02)).mono ?_
  rintro e w3 ⟨rfl, hb3⟩
  have hb03 := tr3 hb02 hb3 (Below.refl _ _)
  go_wp2_with fail
  refine (LB _ (view_below (unhide HB) hb03)).mono ?_
  rintro e w4 ⟨rfl, hb4⟩
  have hb04 := tr3 hb03 hb4 (Below.refl _ _)
  go_wp2_with fail
  refine (BG _).mono ?_
  rintro e w5 ⟨rfl, hb5⟩
  go_wp2_with fail
  refine (BH _).mono ?_
  rintro e w6 ⟨rfl, hb6⟩
  have hb06 := tr3 hb04 hb5 hb6
  go_wp2_with fail
  refine (texts_any _ _ sa sb _ (view_below (unhide HA) hb06) (view_below (unhide HB) hb06)).mono ?_
  rw [unhide hne]
  rintro e w7 ⟨rfl, hb7⟩
  go_wp2_with fail
  refine (hab _).mono ?_
  rintro e w8 ⟨rfl, hb8⟩
  go_wp2
  go_ret
  exact ⟨rfl, tr3 hb06 hb7 hb8⟩

theorem apart_walk (a b : Option Addr) (la ca lb' cb : Nat) (sa sb : List ByteArray) (w : World) (ha : View w (.slice a la ca) sa) (hb : View w (.slice b lb' cb) sb)
    (ga : ∀ t ∈ sa, t.size ≤ 9223372036854775807) (gb : ∀ t ∈ sb, t.size ≤ 9223372036854775807) :
    Calls Try.prog 7 #[.slice a la ca, .slice b lb' cb] w fun e w' => e = .returned (.bool true) ∧ Below w.heap.size w w' := by
  have hab := ab_ok
  have CL : LongIs (.slice a la ca) sa (longB sa) := fun w h => long_any _ sa w h ga
  have CM : LongIs (.slice b lb' cb) sb (longB sb) := fun w h => long_any _ sb w h gb
  cases hl : longB sa with
  | true => rw [hl] at CL; exact apart_longa _ _ sa sb w hab ha CL
  | false =>
    rw [hl] at CL
    cases hm : longB sb with
    | true => rw [hm] at CM; exact apart_longb _ _ sa sb w hab ha hb CL CM
    | false =>
      rw [hm] at CM
      rcases list_cases (.slice a la ca) sa ga with ⟨na, fa, LA⟩ | LA
      · rcases list_cases (.slice b lb' cb) sb gb with ⟨nb', fb, LB⟩ | LB
        · have hza : (bs (lb sa.length sa)).size ≤ 9223372036854775807 := by
            have := lb_len sa.length sa fa sa.length (Nat.le_refl _)
            rw [List.take_length] at this
            rw [bs_size]; omega
          have hzb : (bs (lb sb.length sb)).size ≤ 9223372036854775807 := by
            have := lb_len sb.length sb fb sb.length (Nat.le_refl _)
            rw [List.take_length] at this
            rw [bs_size]; omega
          by_cases he : sa = sb
          · subst he
            exact apart_same _ _ sa _ w hab ha hb CL CM LA LB (fun w => begins_yes _ w hza)
          · exact apart_unlike _ _ sa sb _ _ w hab ha hb CL CM LA LB
              (fun w => begins_no _ _ w hza hzb (by rw [bs_toList, bs_toList]; exact apart sa sb na nb' fa fb he))
              (fun w => begins_no _ _ w hzb hza (by rw [bs_toList, bs_toList]; exact apart sb sa nb' na fb fa (fun e => he e.symm)))
              (hide (sameT_false he))
        · exact apart_err _ _ sa sb _ _ _ _ w hab ha hb CL CM LA LB (.inr (.inr ⟨rfl, rfl⟩))
      · rcases list_cases (.slice b lb' cb) sb gb with ⟨nb', fb, LB⟩ | LB
        · exact apart_err _ _ sa sb _ _ _ _ w hab ha hb CL CM LA LB (.inr (.inl ⟨rfl, rfl⟩))
        · exact apart_err _ _ sa sb _ _ _ _ w hab ha hb CL CM LA LB (.inl ⟨rfl, rfl⟩)
end Go.Proofs.Ytekkgmgdihlefaa
