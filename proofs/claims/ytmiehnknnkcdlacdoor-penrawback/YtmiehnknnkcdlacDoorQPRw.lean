/-
  What 'pen.Raw' does, and the reference's: a text that is read as it is, or that there is none.
-/
import Derived.Test.YtmiehnknnkcdlacDoorQPNt
import Derived.Test.YtmiehnknnkcdlacDoorQDLo
namespace Go.Proofs.YtmiehnknnkcdlacDoor
open Go.RowKit
set_option linter.unusedVariables false

def stopN (b : Nat) : Bool := spN b || (decide (b = 47) || decide (b = 62))
def stopHd : List UInt8 → Bool
  | [] => false
  | c :: _ => stopN c.toNat
theorem stopHd_at {l : List UInt8} (h : 0 < l.length) : stopHd l = stopN (dgt l 0) := by
  cases l with
  | nil => simp at h
  | cons c t => rfl
def endB (sep : List UInt8) : List UInt8 → Bool
  | [] => false
  | c :: t => (sep.isPrefixOf (c :: t) && stopHd ((c :: t).drop sep.length)) || endB sep t
theorem endB_step (sep : List UInt8) {l : List UInt8} {k : Nat} (h : k < l.length) : endB sep (l.drop k) = ((sep.isPrefixOf (l.drop k) && stopHd (l.drop (k + sep.length))) || endB sep (l.drop (k + 1))) := by
  obtain ⟨c, hc, _⟩ := drop_at l k h
  rw [← List.drop_drop, hc, endB]
def sepL (n : List UInt8) : List UInt8 := 60 :: 47 :: n
theorem sep_not {n : List UInt8} {c : UInt8} {t : List UInt8} (h : c ≠ 60) : (sepL n).isPrefixOf (c :: t) = false := by
  unfold sepL
  have : (60 : UInt8) ≠ c := fun e => h e.symm
  simp [List.isPrefixOf, this]
theorem end_skip (n : List UInt8) : ∀ (r l : List UInt8), (∀ c ∈ r, c ≠ 60) → r.isPrefixOf l = true → endB (sepL n) l = endB (sepL n) (l.drop r.length)
  | [], l, _, _ => rfl
  | a :: r, [], _, h => by simp [List.isPrefixOf] at h
  | a :: r, b :: l, hr, h => by
    have hab : a = b ∧ r.isPrefixOf l = true := by simpa [List.isPrefixOf] using h
    obtain ⟨rfl, hp⟩ := hab
    have ha := hr a (List.mem_cons_self ..)
    rw [endB, sep_not ha, Bool.false_and, Bool.false_or, end_skip n r l (fun c hc => hr c (List.mem_cons_of_mem _ hc)) hp]
    rfl
theorem end_cut (n : List UInt8) (hn : ∀ c ∈ n, c ≠ 60) : ∀ (x : List UInt8), (Lib.index x (sepL n) = -1 → endB (sepL n) x = false)
    ∧ (0 ≤ Lib.index x (sepL n) → endB (sepL n) x = (stopHd (x.drop ((Lib.index x (sepL n)).toNat + (sepL n).length)) || endB (sepL n) (x.drop ((Lib.index x (sepL n)).toNat + (sepL n).length))))
  | [] => by
    constructor
    · intro _; rfl
    · intro h; simp [Lib.index, sepL] at h
  | b :: l => by
    have ih := end_cut n hn l
    have hge := Lib.index_ge l (sepL n)
    by_cases hp : (sepL n).isPrefixOf (b :: l) = true
    · have e : Lib.index (b :: l) (sepL n) = 0 := by rw [Lib.index, if_pos hp]
      rw [e]
      refine ⟨fun h => by omega, fun _ => ?_⟩
      have h2 : (47 :: n).isPrefixOf l = true := by
        unfold sepL at hp
        have : (60 : UInt8) = b ∧ (47 :: n).isPrefixOf l = true := by simpa [List.isPrefixOf] using hp
        exact this.2
      have hs := end_skip n (47 :: n) l (by
        intro c hc
        rcases List.mem_cons.1 hc with h | h
        · subst h; decide
        · exact hn c h) h2
      rw [endB, hp, Bool.true_and, hs]
      have : ((0 : Int).toNat + (sepL n).length) = (47 :: n).length + 1 := by unfold sepL; simp
      rw [this, List.drop_succ_cons]
      unfold sepL
      rfl
    · have hp' : (sepL n).isPrefixOf (b :: l) = false := (Bool.not_eq_true _).mp hp
      have e : Lib.index (b :: l) (sepL n) = if Lib.index l (sepL n) == -1 then -1 else Lib.index l (sepL n) + 1 := by rw [Lib.index, if_neg hp]
      have ee : endB (sepL n) (b :: l) = endB (sepL n) l := by rw [endB, hp', Bool.false_and, Bool.false_or]
      by_cases hm : Lib.index l (sepL n) = -1
      · have e2 : Lib.index (b :: l) (sepL n) = -1 := by rw [e, hm]; rfl
        rw [e2, ee]
        exact ⟨fun _ => ih.1 hm, fun h => by omega⟩
      · have hb : (Lib.index l (sepL n) == -1) = false := by simpa using hm
        have e2 : Lib.index (b :: l) (sepL n) = Lib.index l (sepL n) + 1 := by rw [e, hb]; rfl
        rw [e2, ee]
        refine ⟨fun h => by omega, fun _ => ?_⟩
        rw [ih.2 (by omega), show (Lib.index l (sepL n) + 1).toNat + (sepL n).length = ((Lib.index l (sepL n)).toNat + (sepL n).length) + 1 by omega, List.drop_succ_cons]
/-- What 'Cut' leaves, and whether an end is in it. -/
theorem end_of_cut (n : List UInt8) (hn : ∀ c ∈ n, c ≠ 60) (x : List UInt8) : endB (sepL n) x = ((Lib.cut x (sepL n)).2.2 && (stopHd (Lib.cut x (sepL n)).2.1 || endB (sepL n) (Lib.cut x (sepL n)).2.1))
    ∧ ((Lib.cut x (sepL n)).2.2 = true → (Lib.cut x (sepL n)).2.1.length + 1 ≤ x.length) ∧ (Lib.cut x (sepL n)).2.1.length ≤ x.length := by
  have h := end_cut n hn x
  have hge := Lib.index_ge x (sepL n)
  have hle := Lib.index_le x (sepL n)
  unfold Lib.cut
  by_cases h0 : 0 ≤ Lib.index x (sepL n)
  · rw [if_pos h0]
    simp only [Bool.true_and]
    refine ⟨h.2 h0, fun _ => ?_, by rw [List.length_drop]; omega⟩
    rw [List.length_drop]
    have hsl : 2 ≤ (sepL n).length := by unfold sepL; simp
    rcases Nat.lt_or_ge 0 x.length with hx | hx
    · omega
    · exfalso
      have : x = [] := List.eq_nil_of_length_eq_zero (by omega)
      subst this
      simp [Lib.index, sepL] at h0
  · rw [if_neg h0]
    simp only [Bool.false_and]
    exact ⟨h.1 (by omega), (fun h => by cases h), by simp⟩
theorem name_no60 {l : List UInt8} (h : nameB l = true) : ∀ c ∈ l, c ≠ 60 := by
  intro c hc e
  subst e
  unfold nameB at h
  rw [Bool.and_eq_true, Bool.and_eq_true] at h
  have := List.all_eq_true.1 h.2.2 _ hc
  revert this; decide

theorem cut_any (s : ByteArray) (p : List UInt8) (w : World) (hm : Mx w) (hs : s.size ≤ 100000) :
    Calls Tryd.prog 56 #[.string s, .string (bs p)] w fun e w' => e = .returned (.tuple #[.string (bs (Lib.cut s.data.toList p).1), .string (bs (Lib.cut s.data.toList p).2.1), .bool (Lib.cut s.data.toList p).2.2]) ∧ Below w.heap.size w w' := by
  obtain ⟨m, hm⟩ := hm
  have := Tryd.strings_Cut s (bs p) m w (by omega) hm
  rw [bs_toList] at this
  exact this.mono fun e w' ⟨h1, n, h2⟩ => ⟨h1, by rw [h2]; exact below_draws w n⟩
theorem sep_bs (s : ByteArray) : (⟨#[60, 47]⟩ : ByteArray) ++ s = bs (sepL s.data.toList) := by
  have h1 : (⟨#[60, 47]⟩ : ByteArray) = bs [60, 47] := rfl
  rw [h1, bs_add]; rfl

def strLen : Value → Nat
  | .string s => s.size
  | _ => 0
def yesN : Value → Nat
  | .bool true => 1
  | _ => 0

set_option maxHeartbeats 4000000 in
theorem hasEnd_any (s n : ByteArray) (w : World) (hm : Mx w) (hs : s.size ≤ 50000) (hz : n.size ≤ 50000) (hn : ∀ c ∈ n.data.toList, c ≠ 60) :
    Calls Tryd.prog 41 #[.string s, .string n] w fun e w' => e = .returned (.bool (endB (sepL n.data.toList) (lowL s.data.toList))) ∧ Below w.heap.size w w' := by
  have HM := hide hm
  have CL := hide (fun w => lower_any s w (by omega))
  have hll : (bs (lowL s.data.toList)).size = s.size := by rw [bs_size, lowL_len, data_len]
  have C1 := hide (fun w h => cut_any (bs (lowL s.data.toList)) (sepL n.data.toList) w h (by omega))
  rw [bs_toList] at C1
  have hc := end_of_cut n.data.toList hn (lowL s.data.toList)
  rw [lowL_len, data_len] at hc
  have CC := hide (fun (r : ByteArray) w h hr => cut_any r (sepL n.data.toList) w h hr)
  have HEC := hide (fun r => end_of_cut n.data.toList hn r)
  have hsep := sep_bs n
  generalize lowL s.data.toList = x at *
  generalize Lib.cut x (sepL n.data.toList) = ct at *
  obtain ⟨c1, c2, c3⟩ := ct
  simp only at hc C1
  have HC := hide hc
  clear hc hm hn
  go_enter Tryd.func41, Tryd.ntmps41
  go_wp2_with fail
  refine (unhide CL _).mono ?_
  rintro e w1 ⟨rfl, hb1⟩
  go_wp2_with fail
  refine (unhide C1 _ ((unhide HM).below hb1)).mono ?_
  rintro e w2 ⟨rfl, hb2⟩
  have hb12 := tr2 hb1 hb2
  have HB := hide hb12
  clear hb1 hb2 hb12
  go_wp2
  go_loopw [6, 7] (fun a f wr => ∃ (r : List UInt8) (fb : Bool), a = .string (bs r) ∧ f = .bool fb ∧ r.length ≤ 50000 ∧ endB (sepL n.data.toList) x = (fb && (stopHd r || endB (sepL n.data.toList) r)) ∧ Below w.heap.size w wr) (fun a f _ => yesN f * (strLen a + 1))
  case atStart => exact ⟨c2, c3, rfl, rfl, by have := (unhide HC).2.2; omega, (unhide HC).1, unhide HB⟩
  case round =>
    obtain ⟨r, fb, rfl, rfl, hrl, hr, hbw⟩ := hrel
    have HR := hide hr
    clear hr
    cases fb with
    | false =>
      rw [Bool.false_and] at HR
      go_wp2
      go_ret
      exact ⟨by rw [unhide HR]; rfl, hbw⟩
    | true =>
      rw [Bool.true_and] at HR
      have C2 := hide (unhide CC (bs r) wr ((unhide HM).below hbw) (by rw [bs_size]; omega))
      rw [bs_toList] at C2
      have hc2 := unhide HEC r
      generalize Lib.cut r (sepL n.data.toList) = ct at *
      obtain ⟨d1, d2, d3⟩ := ct
      simp only at hc2 C2
      have HC2 := hide hc2
      clear hc2
      by_cases hr0 : r = []
      · subst hr0
        have he : (bs []).toList.isEmpty = true := is_empty _ rfl
        go_wp2_with fail
        refine (unhide C2).mono ?_
        rintro e w3 ⟨rfl, hb3⟩
        have hb13 := tr2 hbw hb3
        go_wp2
        go_roundw
        case rel => exact ⟨d2, d3, rfl, rfl, by have := (unhide HC2).2.2; simp at this; simp [this], by rw [unhide HR]; exact (unhide HC2).1, hb13⟩
        case measure =>
          have h3 := (unhide HC2).2.1
          cases d3 with
          | false => simp [yesN, strLen]
          | true => have := h3 rfl; simp at this
      · have hrp : 0 < r.length := List.length_pos_iff.2 hr0
        have hpos : 0 < (bs r).size := by rw [bs_size]; exact hrp
        have he : (bs r).toList.isEmpty = false := not_empty _ hpos
        have hsh : stopHd r = stopN (dgt r 0) := stopHd_at hrp
        have e0 : ((bs r)[0]).toNat = dgt r 0 := by rw [dgt_at, bs_toList]
        have hposi : (0 : Int) < ((bs r).size : Int) := by omega
        rw [hsh] at HR
        clear hr0 hsh
        have CS := hide (space_any (dgt r 0))
        unfold stopN at HR
        generalize dgt r 0 = b at *
        have hrs := bs_size r
        generalize hR : bs r = R at *
        have HRR := hide hR
        clear hR
        cases hsp : spN b with
        | true =>
          rw [hsp] at CS HR
          rw [Bool.true_or, Bool.true_or] at HR
          clear hsp
          go_wp2_with fail
          refine (unhide CS _).mono ?_
          rintro e w3 ⟨rfl, rfl⟩
          go_wp2
          go_ret
          exact ⟨by rw [unhide HR]; rfl, hbw⟩
        | false =>
          rw [hsp] at CS HR
          rw [Bool.false_or] at HR
          clear hsp
          by_cases h47 : b = 47
          · subst h47
            rw [decide_eq_true rfl, Bool.true_or, Bool.true_or] at HR
            go_wp2_with fail
            refine (unhide CS _).mono ?_
            rintro e w3 ⟨rfl, rfl⟩
            go_wp2
            go_ret
            exact ⟨by rw [unhide HR]; rfl, hbw⟩
          have n47 : ((b : Int) == 47) = false := bneI (by omega)
          rw [decide_eq_false h47, Bool.false_or] at HR
          by_cases h62 : b = 62
          · subst h62
            rw [decide_eq_true rfl, Bool.true_or] at HR
            go_wp2_with fail
            refine (unhide CS _).mono ?_
            rintro e w3 ⟨rfl, rfl⟩
            go_wp2
            go_ret
            exact ⟨by rw [unhide HR]; rfl, hbw⟩
          have n62 : ((b : Int) == 62) = false := bneI (by omega)
          rw [decide_eq_false h62, Bool.false_or] at HR
          clear h47 h62
          go_wp2_with fail
          refine (unhide CS _).mono ?_
          rintro e w3 ⟨rfl, rfl⟩
          go_wp2_with fail
          refine (unhide C2).mono ?_
          rintro e w4 ⟨rfl, hb4⟩
          have hb14 := tr2 hbw hb4
          go_wp2
          go_roundw
          case rel => exact ⟨d2, d3, rfl, rfl, by have := (unhide HC2).2.2; omega, by rw [unhide HR]; exact (unhide HC2).1, hb14⟩
          case measure =>
            have h3 := (unhide HC2).2.1
            cases d3 with
            | false => simp [yesN, strLen]
            | true => have := h3 rfl; simp [yesN, strLen, bs_size]; omega
end Go.Proofs.YtmiehnknnkcdlacDoor
