/-
  For every two texts the law ToksPlain answers true: a text without < is one token, its characters, and so it is with a < that a space follows; the four tables of the packages utf and refs start as the program's text lays them (the card ties them); and each argument reads as it did.
-/
import Derived.Test.YtakjlolmmoladaaDoorTTs
import Derived.Test.YtakjlolmmoladaaDoorLPl
import Derived.Deep.RegionHeld
import Derived.Test.YtakjlolmmoladaaDoorEPl
import Derived.Lib.LaidU8
import Derived.ChangeArms
import Derived.Test.YtakjlolmmoladaaDoorCards
import Derived.Test.YtakjlolmmoladaaDoorTie
import Derived.ProofKit
import Derived.SizedLaws
import Derived.OpenShut
import Derived.ShutString
import Derived.ChangeOld
import Derived.Below
import Derived.Deep.DeepHandedRow
import Derived.Lib.LaidTab

/-
  What all tokens of a text are in which no < begins something.
-/
namespace Go.Proofs.YtakjlolmmoladaaDoor
open Go.RowKit
set_option linter.unusedVariables false

theorem candSame {l m : List UInt8} (h0 : dgt l 0 = dgt m 0) (h1 : tl l 1 = tl m 1 ∧ (tl l 1 = true → dgt l 1 = dgt m 1)) (h2 : tl l 1 = true → tl l 2 = tl m 2 ∧ (tl l 2 = true → dgt l 2 = dgt m 2))
    (h3 : tl l 1 = true → tl l 2 = true → tl l 3 = tl m 3 ∧ (tl l 3 = true → dgt l 3 = dgt m 3)) : cand l = cand m := by
  unfold cand
  rw [← h0]
  by_cases g1 : dgt l 0 < 128
  · rw [if_pos g1, if_pos g1]
  rw [if_neg g1, if_neg g1]
  by_cases g2 : dgt l 0 < 192
  · rw [if_pos g2, if_pos g2]
  rw [if_neg g2, if_neg g2]
  rw [← h1.1]
  by_cases t1 : tl l 1 = true
  · have d1 := h1.2 t1
    have q2 := h2 t1
    rw [← q2.1]
    by_cases t2 : tl l 2 = true
    · have d2 := q2.2 t2
      have q3 := h3 t1 t2
      rw [← q3.1]
      by_cases t3 : tl l 3 = true
      · have d3 := q3.2 t3
        simp only [lo, d1, d2, d3]
      · simp only [lo, d1, d2, t3, and_false, if_false, Bool.false_eq_true]
    · simp only [lo, d1, t2, and_false, false_and, if_false, Bool.false_eq_true]
  · simp only [t1, false_and, if_false, Bool.false_eq_true]
theorem dgt_front (l t : List UInt8) (c : UInt8) (k : Nat) (h : k < l.length) : dgt (l ++ c :: t) k = dgt l k := dgt_app _ _ _ h
theorem dgt_mid (l t : List UInt8) (c : UInt8) : dgt (l ++ c :: t) l.length = c.toNat := by
  unfold dgt; rw [List.getD, List.getElem?_append_right (Nat.le_refl _)]; simp
theorem tl_front (l t : List UInt8) (c : UInt8) (hc : c.toNat < 128) (k : Nat) (hk : k ≤ l.length) : tl (l ++ c :: t) k = tl l k ∧ (tl (l ++ c :: t) k = true → k < l.length ∧ dgt (l ++ c :: t) k = dgt l k) := by
  by_cases h : k < l.length
  · have e := dgt_front l t c k h
    refine ⟨?_, fun _ => ⟨h, e⟩⟩
    unfold tl
    rw [e, List.length_append]
    congr 1
    apply propext
    constructor
    · exact fun x => ⟨h, x.2⟩
    · exact fun x => ⟨by omega, x.2⟩
  · have hk' : k = l.length := by omega
    subst hk'
    have e1 : tl (l ++ c :: t) l.length = false := by rw [tl_no, dgt_mid]; omega
    have e2 : tl l l.length = false := by rw [tl_no]; omega
    exact ⟨e1.trans e2.symm, fun x => by rw [e1] at x; cases x⟩
theorem step_front (l t : List UInt8) (c : UInt8) (hc : c.toNat < 128) (hl : l ≠ []) : step (l ++ c :: t) = step l := by
  have hp : 0 < l.length := List.length_pos_iff.2 hl
  have q1 := tl_front l t c hc 1 hp
  have : cand (l ++ c :: t) = cand l := by
    refine candSame (dgt_front l t c 0 hp) ⟨q1.1, fun h => (q1.2 h).2⟩ (fun h => ?_) (fun h g => ?_)
    · have q2 := tl_front l t c hc 2 (q1.2 h).1
      exact ⟨q2.1, fun h => (q2.2 h).2⟩
    · have q2 := tl_front l t c hc 2 (q1.2 h).1
      have q3 := tl_front l t c hc 3 (q2.2 g).1
      exact ⟨q3.1, fun h => (q3.2 h).2⟩
  unfold step dec; rw [this]
theorem clean_one (t : List UInt8) (c : UInt8) (hc : c.toNat < 128) : cleanL (c :: t) = c :: cleanL t := by
  have e : ub (c.toNat : Int) = [c] := by unfold ub; rw [ubI_1 (by omega)]; simp [byt_self]
  have hs := step_ub (c.toNat : Int) t (isC_mk ⟨by omega, by omega, by omega⟩)
  rw [e] at hs
  rw [cleanL_cons (by simp), show c :: t = [c] ++ t from rfl, hs, sz_1 (by omega), e]
  rfl
theorem clean_front (t : List UInt8) (c : UInt8) (hc : c.toNat < 128) : ∀ (f : Nat) (l : List UInt8), l.length ≤ f → cleanL (l ++ c :: t) = cleanL l ++ c :: cleanL t
  | 0, l, h => by
    have : l = [] := List.eq_nil_of_length_eq_zero (by omega)
    subst this; exact clean_one t c hc
  | f + 1, l, h => by
    by_cases e : l = []
    · subst e; exact clean_one t c hc
    · have hok := step_ok e
      rw [cleanL_cons (l := l ++ c :: t) (by simp), step_front l t c hc e, cleanL_cons e, List.drop_append_of_le_length (by omega), clean_front t c hc f _ (by rw [List.length_drop]; omega), List.append_assoc]
def noLt (l : List UInt8) : Prop := ∀ k, k < l.length → ¬ dgt l k = 60
theorem allT_plain {s : ByteArray} (h : ∀ k, k < s.size → begP s k = false) (hn : noAmp s.data.toList) (hp : 0 < s.size) : allT s = [(3, ⟨#[]⟩, [], false, bs (cleanL s.data.toList))] := by
  have hsk : seekN (begP s) s.size 0 = s.size := seek_to (begP s) s.size s.size (Nat.le_refl _) (fun h => absurd h (Nat.lt_irrefl _)) s.size 0 (by omega) (fun j _ hj => h j hj)
  have h1 : oneT s 0 = (chT s 0, s.size) := by
    unfold oneT
    rw [dataF_chars hp (h 0 hp), hsk]
  have h2 : chT s 0 = (3, ⟨#[]⟩, [], false, bs (cleanL s.data.toList)) := by
    unfold chT
    rw [hsk, List.drop_zero, Nat.sub_zero, List.take_of_length_le (by rw [data_len]; exact Nat.le_refl _), all_plain false _ _ (Nat.le_refl _) hn]
  unfold allT
  rw [allTF_more hp (by rw [h1, h2]; exact (by decide : ¬ (3 : Int) = 0)), h1, allTF_end (Nat.le_refl _), h2]
  rfl
theorem allT_none : allT ⟨#[]⟩ = [] := rfl
theorem begP_no60 {s : ByteArray} {k : Nat} (h : ¬ dgt s.data.toList k = 60) : begP s k = false := by
  unfold begP
  exact begins_no (fun x => h (by have := x.2; rw [dgt_drop] at this; exact this))
theorem begP_sp {s : ByteArray} {k : Nat} (h : dgt s.data.toList (k + 1) = 32) : begP s k = false := by
  unfold begP
  by_cases h2 : 2 ≤ (s.data.toList.drop k).length ∧ dgt (s.data.toList.drop k) 0 = 60
  · rw [begins_is h2, dgt_drop, h]; rfl
  · exact begins_no h2
def plainS (s t : ByteArray) : ByteArray := s ++ ⟨#[60, 32]⟩ ++ t
theorem plainS_data (s t : ByteArray) : (plainS s t).data.toList = s.data.toList ++ 60 :: 32 :: t.data.toList := by
  unfold plainS; simp
theorem plainS_size (s t : ByteArray) : (plainS s t).size = s.size + t.size + 2 := by
  rw [← data_len, plainS_data, List.length_append, List.length_cons, List.length_cons, data_len, data_len]; omega
theorem plain_at (s t : ByteArray) (k : Nat) (h : k < (plainS s t).size) : dgt (plainS s t).data.toList k = if k < s.size then dgt s.data.toList k else if k = s.size then 60 else if k = s.size + 1 then 32 else dgt t.data.toList (k - s.size - 2) := by
  rw [plainS_data]
  have hl := data_len s
  by_cases h1 : k < s.size
  · rw [if_pos h1, dgt_front _ _ _ _ (by omega)]
  rw [if_neg h1]
  by_cases h2 : k = s.size
  · rw [if_pos h2, h2, ← hl, dgt_mid]; rfl
  rw [if_neg h2]
  obtain ⟨d, rfl⟩ : ∃ d, k = s.size + 1 + d := ⟨k - s.size - 1, by omega⟩
  have e : dgt (s.data.toList ++ 60 :: 32 :: t.data.toList) (s.size + 1 + d) = dgt (32 :: t.data.toList) d := by
    unfold dgt
    rw [List.getD, List.getD, List.getElem?_append_right (by omega), hl, show s.size + 1 + d - s.size = d + 1 by omega]
    simp
  rw [e]
  cases d with
  | zero => rw [if_pos (by omega)]; rfl
  | succ d => rw [if_neg (by omega), dgt_succ]; congr 1; omega
theorem plainS_all (s t : ByteArray) (h1 : noLt s.data.toList) (h2 : noAmp s.data.toList) (h3 : noLt t.data.toList) (h4 : noAmp t.data.toList) :
    allT (plainS s t) = [(3, ⟨#[]⟩, [], false, bs (cleanL s.data.toList) ++ ⟨#[60, 32]⟩ ++ bs (cleanL t.data.toList))] := by
  have hz := plainS_size s t
  have hl := data_len s
  have hlt := data_len t
  have hn : noAmp (plainS s t).data.toList := by
    intro k hk
    rw [data_len] at hk
    rw [plain_at s t k hk]
    split
    · exact h2 k (by omega)
    split
    · decide
    split
    · decide
    · exact h4 _ (by omega)
  rw [allT_plain ?_ hn (by omega), plainS_data, clean_front _ 60 (by decide) _ _ (Nat.le_refl _), clean_one _ 32 (by decide)]
  · congr 5
    apply ByteArray.ext
    simp [bs]
  · intro k hk
    by_cases h : k = s.size
    · apply begP_sp
      rw [plain_at s t (k + 1) (by omega), if_neg (by omega), if_neg (by omega), if_pos (by omega)]
    · apply begP_no60
      rw [plain_at s t k hk]
      split
      · exact h1 k (by omega)
      · split
        · decide
        · exact h3 _ (by omega)
theorem single_all (s : ByteArray) (h1 : noLt s.data.toList) (h2 : noAmp s.data.toList) (hp : 0 < s.size) : allT s = [(3, ⟨#[]⟩, [], false, bs (cleanL s.data.toList))] :=
  allT_plain (fun k hk => begP_no60 (h1 k (by rw [data_len]; exact hk))) h2 hp
end Go.Proofs.YtakjlolmmoladaaDoor

/-
  The statement ToksPlain, walked.
-/
namespace Go.Proofs.YtakjlolmmoladaaDoor
open Go.RowKit
set_option linter.unusedVariables false

def KeepP (w0 : World) (g : Nat) (x : ByteArray) (h : Nat) (y : ByteArray) (w : World) : Prop :=
  w.cell? ⟨g, 0, none⟩ = some (.int .i64 3) ∧ w.cell? ⟨g, 4, none⟩ = some (.string x) ∧ w.cell? ⟨h, 4, none⟩ = some (.string y) ∧ Tab4 w ∧ Mx w ∧ Below w0.heap.size w0 w
theorem KeepP.below {w0 w w' : World} {g h : Nat} {x y : ByteArray} (H : KeepP w0 g x h y w) (hb : Below w.heap.size w w') : KeepP w0 g x h y w' :=
  ⟨cell_later hb H.1, cell_later hb H.2.1, cell_later hb H.2.2.1, H.2.2.2.1.below hb, H.2.2.2.2.1.below hb, tr2 H.2.2.2.2.2 hb⟩
theorem noLt_add {l : List UInt8} {k : Nat} (h : ∀ j, j < k → ¬ dgt l j = 60 ∧ ¬ dgt l j = 38) (hk : ¬ k < l.length) : noLt l ∧ noAmp l := ⟨fun j hj => (h j (by omega)).1, fun j hj => (h j (by omega)).2⟩

set_option maxHeartbeats 4000000 in
set_option maxRecDepth 100000 in
theorem plain_long (s t : ByteArray) (w : World) (ht : Tab4 w) (hm : Mx w) (hs : s.size ≤ 4611686018427387903) (hz : t.size ≤ 4611686018427387903) (h : 2000 < s.size + t.size) :
    Calls Tryd.prog 6 #[.string s, .string t] w fun e w' => e = .returned (.bool true) ∧ Below w.heap.size w w' := by
  have C := hide (tags_ok w ht hm)
  have i1 : (2000 : Int) < (s.size : Int) + (t.size : Int) := by omega
  clear ht hm
  go_enter Tryd.func6, Tryd.ntmps6
  go_wp2_with fail
  refine (unhide C).mono ?_
  rintro e w1 ⟨rfl, hb⟩
  go_wp2
  go_ret
  exact ⟨rfl, hb⟩

set_option maxHeartbeats 16000000 in
set_option maxRecDepth 100000 in
theorem plain_main (s t : ByteArray) (w : World) (ht : Tab4 w) (hm : Mx w) (h : s.size + t.size ≤ 2000) :
    Calls Tryd.prog 6 #[.string s, .string t] w fun e w' => e = .returned (.bool true) ∧ Below w.heap.size w w' := by
  have i1 : ¬ (2000 : Int) < (s.size : Int) + (t.size : Int) := by omega
  have HT := hide ht
  have HM := hide hm
  have CT := hide tags_ok
  clear ht hm
  go_enter Tryd.func6, Tryd.ntmps6
  go_wp2
  go_loopw [5] (fun a wr => ∃ k : Nat, k ≤ s.size ∧ a = .int .i64 k ∧ (∀ j, j < k → ¬ dgt s.data.toList j = 60 ∧ ¬ dgt s.data.toList j = 38) ∧ wr = w) (fun a _ => s.size - (intOf a).toNat)
  case atStart => exact ⟨0, Nat.zero_le _, rfl, fun j h => by omega, rfl⟩
  case round =>
    obtain ⟨k, hk, rfl, hno, hw⟩ := hrel
    obtain rfl : w = wr := hw.symm
    have HNO := hide hno
    clear hno
    by_cases hp : k < s.size
    · have hpi : (k : Int) < (s.size : Int) := by omega
      have e0 := dgt_at s k hp
      have HST := hide (fun (h1 : ¬ dgt s.data.toList k = 60) (h2 : ¬ dgt s.data.toList k = 38) => fun j (hj : j < k + 1) => show ¬ dgt s.data.toList j = 60 ∧ ¬ dgt s.data.toList j = 38 by
        by_cases e : j = k
        · subst e; exact ⟨h1, h2⟩
        · exact unhide HNO j (by omega))
      generalize dgt s.data.toList k = b at *
      by_cases h60 : b = 60
      · subst h60
        clear HST HNO
        go_wp2_with fail
        refine (unhide CT _ (unhide HT) (unhide HM)).mono ?_
        rintro e w1 ⟨rfl, hb⟩
        go_wp2
        go_ret
        exact ⟨rfl, hb⟩
      have n60 : ((b : Int) == 60) = false := bneI (by omega)
      by_cases h38 : b = 38
      · subst h38
        clear HST HNO h60
        go_wp2_with fail
        refine (unhide CT _ (unhide HT) (unhide HM)).mono ?_
        rintro e w1 ⟨rfl, hb⟩
        go_wp2
        go_ret
        exact ⟨rfl, hb⟩
      have n38 : ((b : Int) == 38) = false := bneI (by omega)
      have HS2 := hide (unhide HST h60 h38)
      clear HST HNO h60 h38
      go_wp2
      go_roundw
      case rel => exact ⟨k + 1, by omega, by go_num, unhide HS2, by first | exact rfl | trivial⟩
      case measure => simp [intOf]; omega
    · have HNs := hide (noLt_add (unhide HNO) (by rw [data_len]; exact hp))
      have hpi : ¬ (k : Int) < (s.size : Int) := by omega
      have hks : k = s.size := by omega
      clear hp HNO
      subst hks
      go_wp2
      go_loopw [6] (fun a wr => ∃ k : Nat, k ≤ t.size ∧ a = .int .i64 k ∧ (∀ j, j < k → ¬ dgt t.data.toList j = 60 ∧ ¬ dgt t.data.toList j = 38) ∧ wr = w) (fun a _ => t.size - (intOf a).toNat)
      case atStart => exact ⟨0, Nat.zero_le _, rfl, fun j h => by omega, rfl⟩
      case round =>
        obtain ⟨k, hk, rfl, hno, hw⟩ := hrel
        obtain rfl : w = wr := hw.symm
        have HNO := hide hno
        clear hno
        by_cases hp : k < t.size
        · have hpi : (k : Int) < (t.size : Int) := by omega
          have e0 := dgt_at t k hp
          have HST := hide (fun (h1 : ¬ dgt t.data.toList k = 60) (h2 : ¬ dgt t.data.toList k = 38) => fun j (hj : j < k + 1) => show ¬ dgt t.data.toList j = 60 ∧ ¬ dgt t.data.toList j = 38 by
            by_cases e : j = k
            · subst e; exact ⟨h1, h2⟩
            · exact unhide HNO j (by omega))
          generalize dgt t.data.toList k = b at *
          by_cases h60 : b = 60
          · subst h60
            clear HST HNO
            go_wp2_with fail
            refine (unhide CT _ (unhide HT) (unhide HM)).mono ?_
            rintro e w1 ⟨rfl, hb⟩
            go_wp2
            go_ret
            exact ⟨rfl, hb⟩
          have n60 : ((b : Int) == 60) = false := bneI (by omega)
          by_cases h38 : b = 38
          · subst h38
            clear HST HNO h60
            go_wp2_with fail
            refine (unhide CT _ (unhide HT) (unhide HM)).mono ?_
            rintro e w1 ⟨rfl, hb⟩
            go_wp2
            go_ret
            exact ⟨rfl, hb⟩
          have n38 : ((b : Int) == 38) = false := bneI (by omega)
          have HS2 := hide (unhide HST h60 h38)
          clear HST HNO h60 h38
          go_wp2
          go_roundw
          case rel => exact ⟨k + 1, by omega, by go_num, unhide HS2, by first | exact rfl | trivial⟩
          case measure => simp [intOf]; omega
        · have HNt := hide (noLt_add (unhide HNO) (by rw [data_len]; exact hp))
          have hpi : ¬ (k : Int) < (t.size : Int) := by omega
          have hkt : k = t.size := by omega
          clear hp HNO
          subst hkt
          go_wp2_with fail
          refine calls_from (fun W => W = w) rfl ?_
          rintro W rfl
          have C1 := hide (all5_any (plainS s t) W (unhide HT) (unhide HM) (by rw [plainS_size]; omega))
          unfold AllPost at C1
          rw [plainS_all s t (unhide HNs).1 (unhide HNs).2 (unhide HNt).1 (unhide HNt).2] at C1
          have eX := beq_yes (rfl : bs (cleanL s.data.toList) ++ ⟨#[60, 32]⟩ ++ bs (cleanL t.data.toList) = bs (cleanL s.data.toList) ++ ⟨#[60, 32]⟩ ++ bs (cleanL t.data.toList))
          have CS := hide (fun w ht => clean_any s w ht (by omega))
          have CZ := hide (fun w ht => clean_any t w ht (by omega))
          have eS := beq_yes (rfl : bs (cleanL s.data.toList) = bs (cleanL s.data.toList))
          have z1 : (bs (cleanL s.data.toList)).size ≤ 6000 := by
            have := cleanL_len _ s.data.toList (Nat.le_refl _)
            rw [bs_size]; rw [data_len] at this; omega
          have z2 : (bs (cleanL t.data.toList)).size ≤ 6000 := by
            have := cleanL_len _ t.data.toList (Nat.le_refl _)
            rw [bs_size]; rw [data_len] at this; omega
          refine (unhide C1).mono ?_
          rintro e w1 ⟨SL, rfl, hrow, hb1⟩
          obtain ⟨q, cap, rfl, hcs⟩ := hrow.open
          rcases hcs with hh | ⟨g, rfl, hg, hcs⟩
          · cases hh
          obtain ⟨q0, ca0, ⟨a0, _, _, _, a4⟩, _⟩ := hcs 0 _ rfl
          simp only [Nat.zero_mul, Nat.zero_add, List.length_cons, List.length_nil] at a0 a4 ⊢
          by_cases hs0 : 0 < s.size
          · have C2 := hide (fun w ht hm => all5_any s w ht hm (by omega))
            unfold AllPost at C2
            rw [single_all s (unhide HNs).1 (unhide HNs).2 hs0] at C2
            generalize bs (cleanL s.data.toList) = Y at *
            generalize bs (cleanL t.data.toList) = Z at *
            clear hcs hrow hg C1
            go_wp2_with fail
            refine (unhide C2 _ ((unhide HT).below hb1) ((unhide HM).below hb1)).mono ?_
            rintro e w2 ⟨SL, rfl, hrow, hb2⟩
            obtain ⟨q, cap2, rfl, hcs⟩ := hrow.open
            rcases hcs with hh | ⟨h2, rfl, hg, hcs⟩
            · cases hh
            obtain ⟨q1, ca1, ⟨_, _, _, _, b4⟩, _⟩ := hcs 0 _ rfl
            simp only [Nat.zero_mul, Nat.zero_add, List.length_cons, List.length_nil] at b4 ⊢
            have hb02 := tr2 hb1 hb2
            have hk0 : KeepP W g (Y ++ ⟨#[60, 32]⟩ ++ Z) h2 Y w2.drew := KeepP.below (w := w2) ⟨cell_later hb2 a0, cell_later hb2 a4, b4, (unhide HT).below hb02, (unhide HM).below hb02, hb02⟩ (Below.drew (Below.refl _ _))
            have HK0 := hide hk0
            clear hcs hrow hg hk0 a0 a4 b4 hb1 hb2 hb02 C2 HT HM HNs HNt
            go_wp2_with fail
            have z3 : ¬ 9223372036854775807 < Y.size + 2 := by omega
            have z4 : ¬ 9223372036854775807 < Y.size + 2 + Z.size := by omega
            have hSp := unhide HK0
            refine wp_region_held (S := KeepP W g (Y ++ ⟨#[60, 32]⟩ ++ Z) h2 Y) (by kernel_rfl) ?_
            change wpAnyH _ _ _ _ _ _ _ _ (World.drew _)
            refine wpAnyH_take (i := 0) (v := ?vp0) rfl (by kernel_rfl) (by kernel_rfl) (by kernel_rfl) (fun _ _ _ h => h) (Or.inl ⟨by kernel_rfl, ?hp0⟩) hSp ?rp0
            case hp0 => first | (intro w hSw; obtain ⟨s0, s1, s2, _⟩ := hSw; go_simp; done) | (intro w hSw; obtain ⟨s0, s1, s2, _⟩ := hSw; go_simp; with_reducible rfl)
            refine wpAnyH_take (i := 1) (v := ?vp1) rfl (by kernel_rfl) (by kernel_rfl) (by kernel_rfl) (fun _ _ _ h => h) (Or.inl ⟨by kernel_rfl, ?hp1⟩) hSp ?rp1
            case hp1 => first | (intro w hSw; obtain ⟨s0, s1, s2, _⟩ := hSw; go_simp; done) | (intro w hSw; obtain ⟨s0, s1, s2, _⟩ := hSw; go_simp; with_reducible rfl)
            refine wpAnyH_take (i := 2) (v := ?vp2) rfl (by kernel_rfl) (by kernel_rfl) (by kernel_rfl) (fun _ _ _ h => h) (Or.inl ⟨by kernel_rfl, ?hp2⟩) hSp ?rp2
            case hp2 => first | (intro w hSw; obtain ⟨s0, s1, s2, _⟩ := hSw; go_simp; done) | (intro w hSw; obtain ⟨s0, s1, s2, _⟩ := hSw; go_simp; with_reducible rfl)
            refine wpAnyH_take (i := 3) (v := ?vp3) rfl (by kernel_rfl) (by kernel_rfl) (by kernel_rfl) (fun _ _ _ h => h) (Or.inl ⟨by kernel_rfl, ?hp3⟩) hSp ?rp3
            case hp3 => first | (intro w hSw; obtain ⟨s0, s1, s2, _⟩ := hSw; go_simp; done) | (intro w hSw; obtain ⟨s0, s1, s2, _⟩ := hSw; go_simp; with_reducible rfl)
            refine wpAnyH_take (i := 4) (v := ?vp4) rfl (by kernel_rfl) (by kernel_rfl) (by kernel_rfl) (fun _ _ _ h => h) (Or.inl ⟨by kernel_rfl, ?hp4⟩) hSp ?rp4
            case hp4 => first | (intro w hSw; obtain ⟨s0, s1, s2, _⟩ := hSw; go_simp; done) | (intro w hSw; obtain ⟨s0, s1, s2, _⟩ := hSw; go_simp; with_reducible rfl)
            refine wpAnyH_take (i := 5) (v := ?vp5) rfl (by kernel_rfl) (by kernel_rfl) (by kernel_rfl) (fun _ _ _ h => h) (Or.inl ⟨by kernel_rfl, ?hp5⟩) hSp ?rp5
            case hp5 => first | (intro w hSw; obtain ⟨s0, s1, s2, _⟩ := hSw; go_simp; done) | (intro w hSw; obtain ⟨s0, s1, s2, _⟩ := hSw; go_simp; with_reducible rfl)
            refine wpAnyH_take (i := 6) (v := ?vp6) rfl (by kernel_rfl) (by kernel_rfl) (by kernel_rfl) (fun _ _ _ h => h) (Or.inl ⟨by kernel_rfl, ?hp6⟩) hSp ?rp6
            case hp6 => first | (intro w hSw; obtain ⟨s0, s1, s2, _⟩ := hSw; go_simp; done) | (intro w hSw; obtain ⟨s0, s1, s2, _⟩ := hSw; go_simp; with_reducible rfl)
            refine wpAnyH_take (i := 7) (v := ?vp7) rfl (by kernel_rfl) (by kernel_rfl) (by kernel_rfl) (fun _ _ _ h => h) (Or.inl ⟨by kernel_rfl, ?hp7⟩) hSp ?rp7
            case hp7 => first | (intro w hSw; obtain ⟨s0, s1, s2, _⟩ := hSw; go_simp; done) | (intro w hSw; obtain ⟨s0, s1, s2, _⟩ := hSw; go_simp; with_reducible rfl)
            refine wpAnyH_take (i := 8) (v := ?vp8) rfl (by kernel_rfl) (by kernel_rfl) (by kernel_rfl) (fun _ _ _ h => h) (Or.inl ⟨by kernel_rfl, ?hp8⟩) hSp ?rp8
            case hp8 => first | (intro w hSw; obtain ⟨s0, s1, s2, _⟩ := hSw; go_simp; done) | (intro w hSw; obtain ⟨s0, s1, s2, _⟩ := hSw; go_simp; with_reducible rfl)
            refine wpAnyH_take (i := 9) (v := ?vp9) rfl (by kernel_rfl) (by kernel_rfl) (by kernel_rfl) (fun _ _ _ h => h) (Or.inl ⟨by kernel_rfl, ?hp9⟩) hSp ?rp9
            case hp9 => first | (intro w hSw; obtain ⟨s0, s1, s2, _⟩ := hSw; go_simp; done) | (intro w hSw; obtain ⟨s0, s1, s2, _⟩ := hSw; go_simp; with_reducible rfl)
            refine wpAnyH_take (i := 10) (v := ?vp10) rfl (by kernel_rfl) (by kernel_rfl) (by kernel_rfl) (fun _ _ _ h => h) (Or.inl ⟨by kernel_rfl, ?hp10⟩) hSp ?rp10
            case hp10 => first | (intro w hSw; obtain ⟨s0, s1, s2, _⟩ := hSw; go_simp; done) | (intro w hSw; obtain ⟨s0, s1, s2, _⟩ := hSw; go_simp; with_reducible rfl)
            refine wpAnyH_take (i := 11) (v := ?vp11) rfl (by kernel_rfl) (by kernel_rfl) (by kernel_rfl) (fun _ _ _ h => h) (Or.inl ⟨by kernel_rfl, ?hp11⟩) hSp ?rp11
            case hp11 => first | (intro w hSw; obtain ⟨s0, s1, s2, _⟩ := hSw; go_simp; done) | (intro w hSw; obtain ⟨s0, s1, s2, _⟩ := hSw; go_simp; with_reducible rfl)
            refine wpAnyH_take (i := 12) (v := ?vp12) rfl (by kernel_rfl) (by kernel_rfl) (by kernel_rfl) (fun _ _ _ h => h) (Or.inl ⟨by kernel_rfl, ?hp12⟩) hSp ?rp12
            case hp12 => first | (intro w hSw; obtain ⟨s0, s1, s2, _⟩ := hSw; go_simp; done) | (intro w hSw; obtain ⟨s0, s1, s2, _⟩ := hSw; go_simp; with_reducible rfl)
            refine wpAnyH_take (i := 13) (v := ?vp13) rfl (by kernel_rfl) (by kernel_rfl) (by kernel_rfl) (fun _ _ _ h => h) (Or.inl ⟨by kernel_rfl, ?hp13⟩) hSp ?rp13
            case hp13 => first | (intro w hSw; obtain ⟨s0, s1, s2, _⟩ := hSw; go_simp; done) | (intro w hSw; obtain ⟨s0, s1, s2, _⟩ := hSw; go_simp; with_reducible rfl)
            refine wpAnyH_take (i := 14) (v := ?vp14) rfl (by kernel_rfl) (by kernel_rfl) (by kernel_rfl) (fun _ _ _ h => h) (Or.inl ⟨by kernel_rfl, ?hp14⟩) hSp ?rp14
            case hp14 => first | (intro w hSw; obtain ⟨s0, s1, s2, _⟩ := hSw; go_simp; done) | (intro w hSw; obtain ⟨s0, s1, s2, _⟩ := hSw; go_simp; with_reducible rfl)
            refine wpAnyH_take (i := 15) (v := ?vp15) rfl (by kernel_rfl) (by kernel_rfl) (by kernel_rfl) (fun _ _ _ h => h) (Or.inl ⟨by kernel_rfl, ?hp15⟩) hSp ?rp15
            case hp15 => first | (intro w hSw; obtain ⟨s0, s1, s2, _⟩ := hSw; go_simp; done) | (intro w hSw; obtain ⟨s0, s1, s2, _⟩ := hSw; go_simp; with_reducible rfl)
            refine wpAnyH_take (i := 18) (v := ?vp18) rfl (by kernel_rfl) (by kernel_rfl) (by kernel_rfl) (fun _ _ _ h => h) (Or.inl ⟨by kernel_rfl, ?hp18⟩) hSp ?rp18
            case hp18 => first | (intro w hSw; obtain ⟨s0, s1, s2, _⟩ := hSw; go_simp; done) | (intro w hSw; obtain ⟨s0, s1, s2, _⟩ := hSw; go_simp; with_reducible rfl)
            refine wpAnyH_ready (rs := [16]) (by kernel_rfl) (by simp) ?_
            refine AllReadyH.cons rfl (fun K hK => ?_) AllReadyH.nil
            go_simp
            refine (unhide CS _ hSp.2.2.2.1.1).mono ?_
            rintro e5 W5 ⟨rfl, hb5⟩
            have hSp' := KeepP.below hSp hb5
            clear hb5
            refine hK _ _ hSp' (fun _ => ?_)
            clear hK K hSp
            have hSp := hSp'
            clear hSp'
            refine wpAnyH_take (i := 17) (v := ?vp17) rfl (by kernel_rfl) (by kernel_rfl) (by kernel_rfl) (fun _ _ _ h => h) (Or.inl ⟨by kernel_rfl, ?hp17⟩) hSp ?rp17
            case hp17 => first | (intro w hSw; obtain ⟨s0, s1, s2, _⟩ := hSw; go_simp; done) | (intro w hSw; obtain ⟨s0, s1, s2, _⟩ := hSw; go_simp; with_reducible rfl)
            refine wpAnyH_ready (rs := [19]) (by kernel_rfl) (by simp) ?_
            refine AllReadyH.cons rfl (fun K hK => ?_) AllReadyH.nil
            go_simp
            refine (unhide CZ _ hSp.2.2.2.1.1).mono ?_
            rintro e5 W5 ⟨rfl, hb5⟩
            have hSp' := KeepP.below hSp hb5
            clear hb5
            refine hK _ _ hSp' (fun _ => ?_)
            clear hK K hSp
            have hSp := hSp'
            clear hSp'
            refine wpAnyH_take (i := 20) (v := ?vp20) rfl (by kernel_rfl) (by kernel_rfl) (by kernel_rfl) (fun _ _ _ h => h) (Or.inl ⟨by kernel_rfl, ?hp20⟩) hSp ?rp20
            case hp20 => first | (intro w hSw; obtain ⟨s0, s1, s2, _⟩ := hSw; go_simp; done) | (intro w hSw; obtain ⟨s0, s1, s2, _⟩ := hSw; go_simp; with_reducible rfl)
            refine wpAnyH_take (i := 21) (v := ?vp21) rfl (by kernel_rfl) (by kernel_rfl) (by kernel_rfl) (fun _ _ _ h => h) (Or.inl ⟨by kernel_rfl, ?hp21⟩) hSp ?rp21
            case hp21 => first | (intro w hSw; obtain ⟨s0, s1, s2, _⟩ := hSw; go_simp; done) | (intro w hSw; obtain ⟨s0, s1, s2, _⟩ := hSw; go_simp; with_reducible rfl)
            refine wpAnyH_take (i := 22) (v := ?vp22) rfl (by kernel_rfl) (by kernel_rfl) (by kernel_rfl) (fun _ _ _ h => h) (Or.inl ⟨by kernel_rfl, ?hp22⟩) hSp ?rp22
            case hp22 => first | (intro w hSw; obtain ⟨s0, s1, s2, _⟩ := hSw; go_simp; done) | (intro w hSw; obtain ⟨s0, s1, s2, _⟩ := hSw; go_simp; with_reducible rfl)
            refine wpAnyH_take (i := 23) (v := ?vp23) rfl (by kernel_rfl) (by kernel_rfl) (by kernel_rfl) (fun _ _ _ h => h) (Or.inl ⟨by kernel_rfl, ?hp23⟩) hSp ?rp23
            case hp23 => first | (intro w hSw; obtain ⟨s0, s1, s2, _⟩ := hSw; go_simp; done) | (intro w hSw; obtain ⟨s0, s1, s2, _⟩ := hSw; go_simp; with_reducible rfl)
            refine wpAnyH_take (i := 24) (v := ?vp24) rfl (by kernel_rfl) (by kernel_rfl) (by kernel_rfl) (fun _ _ _ h => h) (Or.inl ⟨by kernel_rfl, ?hp24⟩) hSp ?rp24
            case hp24 => first | (intro w hSw; obtain ⟨s0, s1, s2, _⟩ := hSw; go_simp; done) | (intro w hSw; obtain ⟨s0, s1, s2, _⟩ := hSw; go_simp; with_reducible rfl)
            refine wpAnyH_take (i := 25) (v := ?vp25) rfl (by kernel_rfl) (by kernel_rfl) (by kernel_rfl) (fun _ _ _ h => h) (Or.inl ⟨by kernel_rfl, ?hp25⟩) hSp ?rp25
            case hp25 => first | (intro w hSw; obtain ⟨s0, s1, s2, _⟩ := hSw; go_simp; done) | (intro w hSw; obtain ⟨s0, s1, s2, _⟩ := hSw; go_simp; with_reducible rfl)
            refine wpAnyH_take (i := 26) (v := ?vp26) rfl (by kernel_rfl) (by kernel_rfl) (by kernel_rfl) (fun _ _ _ h => h) (Or.inl ⟨by kernel_rfl, ?hp26⟩) hSp ?rp26
            case hp26 => first | (intro w hSw; obtain ⟨s0, s1, s2, _⟩ := hSw; go_simp; done) | (intro w hSw; obtain ⟨s0, s1, s2, _⟩ := hSw; go_simp; with_reducible rfl)
            refine wpAnyH_take (i := 27) (v := ?vp27) rfl (by kernel_rfl) (by kernel_rfl) (by kernel_rfl) (fun _ _ _ h => h) (Or.inl ⟨by kernel_rfl, ?hp27⟩) hSp ?rp27
            case hp27 => first | (intro w hSw; obtain ⟨s0, s1, s2, _⟩ := hSw; go_simp; done) | (intro w hSw; obtain ⟨s0, s1, s2, _⟩ := hSw; go_simp; with_reducible rfl)
            refine wpAnyH_take (i := 28) (v := ?vp28) rfl (by kernel_rfl) (by kernel_rfl) (by kernel_rfl) (fun _ _ _ h => h) (Or.inl ⟨by kernel_rfl, ?hp28⟩) hSp ?rp28
            case hp28 => first | (intro w hSw; obtain ⟨s0, s1, s2, _⟩ := hSw; go_simp; done) | (intro w hSw; obtain ⟨s0, s1, s2, _⟩ := hSw; go_simp; with_reducible rfl)
            refine wpAnyH_take (i := 29) (v := ?vp29) rfl (by kernel_rfl) (by kernel_rfl) (by kernel_rfl) (fun _ _ _ h => h) (Or.inl ⟨by kernel_rfl, ?hp29⟩) hSp ?rp29
            case hp29 => first | (intro w hSw; obtain ⟨s0, s1, s2, _⟩ := hSw; go_simp; done) | (intro w hSw; obtain ⟨s0, s1, s2, _⟩ := hSw; go_simp; with_reducible rfl)
            refine wpAnyH_take (i := 30) (v := ?vp30) rfl (by kernel_rfl) (by kernel_rfl) (by kernel_rfl) (fun _ _ _ h => h) (Or.inl ⟨by kernel_rfl, ?hp30⟩) hSp ?rp30
            case hp30 => first | (intro w hSw; obtain ⟨s0, s1, s2, _⟩ := hSw; go_simp; done) | (intro w hSw; obtain ⟨s0, s1, s2, _⟩ := hSw; go_simp; with_reducible rfl)
            refine wpAnyH_take (i := 31) (v := ?vp31) rfl (by kernel_rfl) (by kernel_rfl) (by kernel_rfl) (fun _ _ _ h => h) (Or.inl ⟨by kernel_rfl, ?hp31⟩) hSp ?rp31
            case hp31 => first | (intro w hSw; obtain ⟨s0, s1, s2, _⟩ := hSw; go_simp; done) | (intro w hSw; obtain ⟨s0, s1, s2, _⟩ := hSw; go_simp; with_reducible rfl)
            refine wpAnyH_take (i := 32) (v := ?vp32) rfl (by kernel_rfl) (by kernel_rfl) (by kernel_rfl) (fun _ _ _ h => h) (Or.inl ⟨by kernel_rfl, ?hp32⟩) hSp ?rp32
            case hp32 => first | (intro w hSw; obtain ⟨s0, s1, s2, _⟩ := hSw; go_simp; done) | (intro w hSw; obtain ⟨s0, s1, s2, _⟩ := hSw; go_simp; with_reducible rfl)
            refine wpAnyH_ready (rs := [33]) (by kernel_rfl) (by simp) ?_
            refine AllReadyH.cons rfl (fun K hK => ?_) AllReadyH.nil
            go_simp
            refine (unhide CS _ hSp.2.2.2.1.1).mono ?_
            rintro e5 W5 ⟨rfl, hb5⟩
            have hSp' := KeepP.below hSp hb5
            clear hb5
            refine hK _ _ hSp' (fun _ => ?_)
            clear hK K hSp
            have hSp := hSp'
            clear hSp'
            refine wpAnyH_take (i := 34) (v := ?vp34) rfl (by kernel_rfl) (by kernel_rfl) (by kernel_rfl) (fun _ _ _ h => h) (Or.inl ⟨by kernel_rfl, ?hp34⟩) hSp ?rp34
            case hp34 => first | (intro w hSw; obtain ⟨s0, s1, s2, _⟩ := hSw; go_simp; done) | (intro w hSw; obtain ⟨s0, s1, s2, _⟩ := hSw; go_simp; with_reducible rfl)
            refine wpAnyH_take (i := 35) (v := ?vp35) rfl (by kernel_rfl) (by kernel_rfl) (by kernel_rfl) (fun _ _ _ h => h) (Or.inl ⟨by kernel_rfl, ?hp35⟩) hSp ?rp35
            case hp35 => first | (intro w hSw; obtain ⟨s0, s1, s2, _⟩ := hSw; go_simp; done) | (intro w hSw; obtain ⟨s0, s1, s2, _⟩ := hSw; go_simp; with_reducible rfl)
            refine wpAnyH_take (i := 36) (v := ?vp36) rfl (by kernel_rfl) (by kernel_rfl) (by kernel_rfl) (fun _ _ _ h => h) (Or.inl ⟨by kernel_rfl, ?hp36⟩) hSp ?rp36
            case hp36 => first | (intro w hSw; obtain ⟨s0, s1, s2, _⟩ := hSw; go_simp; done) | (intro w hSw; obtain ⟨s0, s1, s2, _⟩ := hSw; go_simp; with_reducible rfl)
            refine wpAnyH_take (i := 37) (v := undef) rfl (by kernel_rfl) (by kernel_rfl) (by kernel_rfl) (fun _ _ _ h => h) (Or.inr ⟨by kernel_rfl, rfl⟩) hSp ?_
            refine wpAnyH_take (i := 38) (v := undef) rfl (by kernel_rfl) (by kernel_rfl) (by kernel_rfl) (fun _ _ _ h => h) (Or.inr ⟨by kernel_rfl, rfl⟩) hSp ?_
            refine wpAnyH_take (i := 39) (v := undef) rfl (by kernel_rfl) (by kernel_rfl) (by kernel_rfl) (fun _ _ _ h => h) (Or.inr ⟨by kernel_rfl, rfl⟩) hSp ?_
            refine wpAnyH_take (i := 40) (v := undef) rfl (by kernel_rfl) (by kernel_rfl) (by kernel_rfl) (fun _ _ _ h => h) (Or.inr ⟨by kernel_rfl, rfl⟩) hSp ?_
            refine wpAnyH_take (i := 41) (v := undef) rfl (by kernel_rfl) (by kernel_rfl) (by kernel_rfl) (fun _ _ _ h => h) (Or.inr ⟨by kernel_rfl, rfl⟩) hSp ?_
            refine wpAnyH_take (i := 42) (v := undef) rfl (by kernel_rfl) (by kernel_rfl) (by kernel_rfl) (fun _ _ _ h => h) (Or.inr ⟨by kernel_rfl, rfl⟩) hSp ?_
            refine wpAnyH_take (i := 43) (v := undef) rfl (by kernel_rfl) (by kernel_rfl) (by kernel_rfl) (fun _ _ _ h => h) (Or.inr ⟨by kernel_rfl, rfl⟩) hSp ?_
            refine wpAnyH_take (i := 44) (v := ?vp44) rfl (by kernel_rfl) (by kernel_rfl) (by kernel_rfl) (fun _ _ _ h => h) (Or.inl ⟨by kernel_rfl, ?hp44⟩) hSp ?rp44
            case hp44 => first | (intro w hSw; obtain ⟨s0, s1, s2, _⟩ := hSw; go_simp; done) | (intro w hSw; obtain ⟨s0, s1, s2, _⟩ := hSw; go_simp; with_reducible rfl)
            refine wpAnyH_take (i := 45) (v := ?vp45) rfl (by kernel_rfl) (by kernel_rfl) (by kernel_rfl) (fun _ _ _ h => h) (Or.inl ⟨by kernel_rfl, ?hp45⟩) hSp ?rp45
            case hp45 => first | (intro w hSw; obtain ⟨s0, s1, s2, _⟩ := hSw; go_simp; done) | (intro w hSw; obtain ⟨s0, s1, s2, _⟩ := hSw; go_simp; with_reducible rfl)
            refine wpAnyH_take (i := 46) (v := ?vp46) rfl (by kernel_rfl) (by kernel_rfl) (by kernel_rfl) (fun _ _ _ h => h) (Or.inl ⟨by kernel_rfl, ?hp46⟩) hSp ?rp46
            case hp46 => first | (intro w hSw; obtain ⟨s0, s1, s2, _⟩ := hSw; go_simp; done) | (intro w hSw; obtain ⟨s0, s1, s2, _⟩ := hSw; go_simp; with_reducible rfl)
            refine wpAnyH_ready (rs := [47]) (by kernel_rfl) (by simp) ?_
            refine AllReadyH.cons rfl (fun K hK => ?_) AllReadyH.nil
            go_simp
            refine (unhide CT _ hSp.2.2.2.1 hSp.2.2.2.2.1).mono ?_
            rintro e5 W5 ⟨rfl, hb5⟩
            have hSp' := KeepP.below hSp hb5
            clear hb5
            refine hK _ _ hSp' (fun _ => ?_)
            clear hK K hSp
            have hSp := hSp'
            clear hSp'
            refine wpAnyH_take (i := 48) (v := ?vp48) rfl (by kernel_rfl) (by kernel_rfl) (by kernel_rfl) (fun _ _ _ h => h) (Or.inl ⟨by kernel_rfl, ?hp48⟩) hSp ?rp48
            case hp48 => first | (intro w hSw; obtain ⟨s0, s1, s2, _⟩ := hSw; go_simp; done) | (intro w hSw; obtain ⟨s0, s1, s2, _⟩ := hSw; go_simp; with_reducible rfl)
            refine wpAnyH_take (i := 49) (v := ?vp49) rfl (by kernel_rfl) (by kernel_rfl) (by kernel_rfl) (fun _ _ _ h => h) (Or.inl ⟨by kernel_rfl, ?hp49⟩) hSp ?rp49
            case hp49 => first | (intro w hSw; obtain ⟨s0, s1, s2, _⟩ := hSw; go_simp; done) | (intro w hSw; obtain ⟨s0, s1, s2, _⟩ := hSw; go_simp; with_reducible rfl)
            refine wpAnyH_done (by kernel_rfl) ?_ _
            go_wp2
            go_ret
            exact ⟨rfl, hSp.2.2.2.2.2⟩
          · have hsz : s.size = 0 := by omega
            obtain rfl : s = ⟨#[]⟩ := by
              apply ByteArray.ext
              apply Array.ext'
              exact List.eq_nil_of_length_eq_zero (by rw [data_len]; exact hsz)
            have C2 := hide (fun w ht hm => all5_any ⟨#[]⟩ w ht hm (by decide))
            unfold AllPost at C2
            rw [allT_none] at C2
            generalize bs (cleanL (ByteArray.mk #[]).data.toList) = Y at *
            generalize bs (cleanL t.data.toList) = Z at *
            clear hcs hrow hg C1
            go_wp2_with fail
            refine (unhide C2 _ ((unhide HT).below hb1) ((unhide HM).below hb1)).mono ?_
            rintro e w2 ⟨SL, rfl, hrow, hb2⟩
            obtain ⟨q, cap2, rfl, hcs⟩ := hrow.open
            simp only [List.length_nil]
            have hb02 := tr2 hb1 hb2
            have hk0 : KeepP W g (Y ++ ⟨#[60, 32]⟩ ++ Z) g (Y ++ ⟨#[60, 32]⟩ ++ Z) w2.drew := KeepP.below (w := w2) ⟨cell_later hb2 a0, cell_later hb2 a4, cell_later hb2 a4, (unhide HT).below hb02, (unhide HM).below hb02, hb02⟩ (Below.drew (Below.refl _ _))
            have HK0 := hide hk0
            clear hcs hrow hk0 a0 a4 hb1 hb2 hb02 C2 HT HM HNs HNt
            go_wp2_with fail
            have z3 : ¬ 9223372036854775807 < Y.size + 2 := by omega
            have z4 : ¬ 9223372036854775807 < Y.size + 2 + Z.size := by omega
            have hSq := unhide HK0
            refine wp_region_held (S := KeepP W g (Y ++ ⟨#[60, 32]⟩ ++ Z) g (Y ++ ⟨#[60, 32]⟩ ++ Z)) (by kernel_rfl) ?_
            change wpAnyH _ _ _ _ _ _ _ _ (World.drew _)
            refine wpAnyH_take (i := 0) (v := ?vq0) rfl (by kernel_rfl) (by kernel_rfl) (by kernel_rfl) (fun _ _ _ h => h) (Or.inl ⟨by kernel_rfl, ?hq0⟩) hSq ?rq0
            case hq0 => first | (intro w hSw; obtain ⟨s0, s1, s2, _⟩ := hSw; go_simp; done) | (intro w hSw; obtain ⟨s0, s1, s2, _⟩ := hSw; go_simp; with_reducible rfl)
            refine wpAnyH_take (i := 1) (v := ?vq1) rfl (by kernel_rfl) (by kernel_rfl) (by kernel_rfl) (fun _ _ _ h => h) (Or.inl ⟨by kernel_rfl, ?hq1⟩) hSq ?rq1
            case hq1 => first | (intro w hSw; obtain ⟨s0, s1, s2, _⟩ := hSw; go_simp; done) | (intro w hSw; obtain ⟨s0, s1, s2, _⟩ := hSw; go_simp; with_reducible rfl)
            refine wpAnyH_take (i := 2) (v := ?vq2) rfl (by kernel_rfl) (by kernel_rfl) (by kernel_rfl) (fun _ _ _ h => h) (Or.inl ⟨by kernel_rfl, ?hq2⟩) hSq ?rq2
            case hq2 => first | (intro w hSw; obtain ⟨s0, s1, s2, _⟩ := hSw; go_simp; done) | (intro w hSw; obtain ⟨s0, s1, s2, _⟩ := hSw; go_simp; with_reducible rfl)
            refine wpAnyH_take (i := 3) (v := ?vq3) rfl (by kernel_rfl) (by kernel_rfl) (by kernel_rfl) (fun _ _ _ h => h) (Or.inl ⟨by kernel_rfl, ?hq3⟩) hSq ?rq3
            case hq3 => first | (intro w hSw; obtain ⟨s0, s1, s2, _⟩ := hSw; go_simp; done) | (intro w hSw; obtain ⟨s0, s1, s2, _⟩ := hSw; go_simp; with_reducible rfl)
            refine wpAnyH_take (i := 4) (v := ?vq4) rfl (by kernel_rfl) (by kernel_rfl) (by kernel_rfl) (fun _ _ _ h => h) (Or.inl ⟨by kernel_rfl, ?hq4⟩) hSq ?rq4
            case hq4 => first | (intro w hSw; obtain ⟨s0, s1, s2, _⟩ := hSw; go_simp; done) | (intro w hSw; obtain ⟨s0, s1, s2, _⟩ := hSw; go_simp; with_reducible rfl)
            refine wpAnyH_take (i := 5) (v := ?vq5) rfl (by kernel_rfl) (by kernel_rfl) (by kernel_rfl) (fun _ _ _ h => h) (Or.inl ⟨by kernel_rfl, ?hq5⟩) hSq ?rq5
            case hq5 => first | (intro w hSw; obtain ⟨s0, s1, s2, _⟩ := hSw; go_simp; done) | (intro w hSw; obtain ⟨s0, s1, s2, _⟩ := hSw; go_simp; with_reducible rfl)
            refine wpAnyH_take (i := 6) (v := ?vq6) rfl (by kernel_rfl) (by kernel_rfl) (by kernel_rfl) (fun _ _ _ h => h) (Or.inl ⟨by kernel_rfl, ?hq6⟩) hSq ?rq6
            case hq6 => first | (intro w hSw; obtain ⟨s0, s1, s2, _⟩ := hSw; go_simp; done) | (intro w hSw; obtain ⟨s0, s1, s2, _⟩ := hSw; go_simp; with_reducible rfl)
            refine wpAnyH_take (i := 7) (v := ?vq7) rfl (by kernel_rfl) (by kernel_rfl) (by kernel_rfl) (fun _ _ _ h => h) (Or.inl ⟨by kernel_rfl, ?hq7⟩) hSq ?rq7
            case hq7 => first | (intro w hSw; obtain ⟨s0, s1, s2, _⟩ := hSw; go_simp; done) | (intro w hSw; obtain ⟨s0, s1, s2, _⟩ := hSw; go_simp; with_reducible rfl)
            refine wpAnyH_take (i := 8) (v := ?vq8) rfl (by kernel_rfl) (by kernel_rfl) (by kernel_rfl) (fun _ _ _ h => h) (Or.inl ⟨by kernel_rfl, ?hq8⟩) hSq ?rq8
            case hq8 => first | (intro w hSw; obtain ⟨s0, s1, s2, _⟩ := hSw; go_simp; done) | (intro w hSw; obtain ⟨s0, s1, s2, _⟩ := hSw; go_simp; with_reducible rfl)
            refine wpAnyH_take (i := 9) (v := ?vq9) rfl (by kernel_rfl) (by kernel_rfl) (by kernel_rfl) (fun _ _ _ h => h) (Or.inl ⟨by kernel_rfl, ?hq9⟩) hSq ?rq9
            case hq9 => first | (intro w hSw; obtain ⟨s0, s1, s2, _⟩ := hSw; go_simp; done) | (intro w hSw; obtain ⟨s0, s1, s2, _⟩ := hSw; go_simp; with_reducible rfl)
            refine wpAnyH_take (i := 10) (v := ?vq10) rfl (by kernel_rfl) (by kernel_rfl) (by kernel_rfl) (fun _ _ _ h => h) (Or.inl ⟨by kernel_rfl, ?hq10⟩) hSq ?rq10
            case hq10 => first | (intro w hSw; obtain ⟨s0, s1, s2, _⟩ := hSw; go_simp; done) | (intro w hSw; obtain ⟨s0, s1, s2, _⟩ := hSw; go_simp; with_reducible rfl)
            refine wpAnyH_take (i := 11) (v := ?vq11) rfl (by kernel_rfl) (by kernel_rfl) (by kernel_rfl) (fun _ _ _ h => h) (Or.inl ⟨by kernel_rfl, ?hq11⟩) hSq ?rq11
            case hq11 => first | (intro w hSw; obtain ⟨s0, s1, s2, _⟩ := hSw; go_simp; done) | (intro w hSw; obtain ⟨s0, s1, s2, _⟩ := hSw; go_simp; with_reducible rfl)
            refine wpAnyH_take (i := 12) (v := ?vq12) rfl (by kernel_rfl) (by kernel_rfl) (by kernel_rfl) (fun _ _ _ h => h) (Or.inl ⟨by kernel_rfl, ?hq12⟩) hSq ?rq12
            case hq12 => first | (intro w hSw; obtain ⟨s0, s1, s2, _⟩ := hSw; go_simp; done) | (intro w hSw; obtain ⟨s0, s1, s2, _⟩ := hSw; go_simp; with_reducible rfl)
            refine wpAnyH_take (i := 13) (v := ?vq13) rfl (by kernel_rfl) (by kernel_rfl) (by kernel_rfl) (fun _ _ _ h => h) (Or.inl ⟨by kernel_rfl, ?hq13⟩) hSq ?rq13
            case hq13 => first | (intro w hSw; obtain ⟨s0, s1, s2, _⟩ := hSw; go_simp; done) | (intro w hSw; obtain ⟨s0, s1, s2, _⟩ := hSw; go_simp; with_reducible rfl)
            refine wpAnyH_take (i := 14) (v := ?vq14) rfl (by kernel_rfl) (by kernel_rfl) (by kernel_rfl) (fun _ _ _ h => h) (Or.inl ⟨by kernel_rfl, ?hq14⟩) hSq ?rq14
            case hq14 => first | (intro w hSw; obtain ⟨s0, s1, s2, _⟩ := hSw; go_simp; done) | (intro w hSw; obtain ⟨s0, s1, s2, _⟩ := hSw; go_simp; with_reducible rfl)
            refine wpAnyH_take (i := 15) (v := ?vq15) rfl (by kernel_rfl) (by kernel_rfl) (by kernel_rfl) (fun _ _ _ h => h) (Or.inl ⟨by kernel_rfl, ?hq15⟩) hSq ?rq15
            case hq15 => first | (intro w hSw; obtain ⟨s0, s1, s2, _⟩ := hSw; go_simp; done) | (intro w hSw; obtain ⟨s0, s1, s2, _⟩ := hSw; go_simp; with_reducible rfl)
            refine wpAnyH_take (i := 18) (v := ?vq18) rfl (by kernel_rfl) (by kernel_rfl) (by kernel_rfl) (fun _ _ _ h => h) (Or.inl ⟨by kernel_rfl, ?hq18⟩) hSq ?rq18
            case hq18 => first | (intro w hSw; obtain ⟨s0, s1, s2, _⟩ := hSw; go_simp; done) | (intro w hSw; obtain ⟨s0, s1, s2, _⟩ := hSw; go_simp; with_reducible rfl)
            refine wpAnyH_ready (rs := [16]) (by kernel_rfl) (by simp) ?_
            refine AllReadyH.cons rfl (fun K hK => ?_) AllReadyH.nil
            go_simp
            refine (unhide CS _ hSq.2.2.2.1.1).mono ?_
            rintro e5 W5 ⟨rfl, hb5⟩
            have hSq' := KeepP.below hSq hb5
            clear hb5
            refine hK _ _ hSq' (fun _ => ?_)
            clear hK K hSq
            have hSq := hSq'
            clear hSq'
            refine wpAnyH_take (i := 17) (v := ?vq17) rfl (by kernel_rfl) (by kernel_rfl) (by kernel_rfl) (fun _ _ _ h => h) (Or.inl ⟨by kernel_rfl, ?hq17⟩) hSq ?rq17
            case hq17 => first | (intro w hSw; obtain ⟨s0, s1, s2, _⟩ := hSw; go_simp; done) | (intro w hSw; obtain ⟨s0, s1, s2, _⟩ := hSw; go_simp; with_reducible rfl)
            refine wpAnyH_ready (rs := [19]) (by kernel_rfl) (by simp) ?_
            refine AllReadyH.cons rfl (fun K hK => ?_) AllReadyH.nil
            go_simp
            refine (unhide CZ _ hSq.2.2.2.1.1).mono ?_
            rintro e5 W5 ⟨rfl, hb5⟩
            have hSq' := KeepP.below hSq hb5
            clear hb5
            refine hK _ _ hSq' (fun _ => ?_)
            clear hK K hSq
            have hSq := hSq'
            clear hSq'
            refine wpAnyH_take (i := 20) (v := ?vq20) rfl (by kernel_rfl) (by kernel_rfl) (by kernel_rfl) (fun _ _ _ h => h) (Or.inl ⟨by kernel_rfl, ?hq20⟩) hSq ?rq20
            case hq20 => first | (intro w hSw; obtain ⟨s0, s1, s2, _⟩ := hSw; go_simp; done) | (intro w hSw; obtain ⟨s0, s1, s2, _⟩ := hSw; go_simp; with_reducible rfl)
            refine wpAnyH_take (i := 21) (v := ?vq21) rfl (by kernel_rfl) (by kernel_rfl) (by kernel_rfl) (fun _ _ _ h => h) (Or.inl ⟨by kernel_rfl, ?hq21⟩) hSq ?rq21
            case hq21 => first | (intro w hSw; obtain ⟨s0, s1, s2, _⟩ := hSw; go_simp; done) | (intro w hSw; obtain ⟨s0, s1, s2, _⟩ := hSw; go_simp; with_reducible rfl)
            refine wpAnyH_take (i := 22) (v := ?vq22) rfl (by kernel_rfl) (by kernel_rfl) (by kernel_rfl) (fun _ _ _ h => h) (Or.inl ⟨by kernel_rfl, ?hq22⟩) hSq ?rq22
            case hq22 => first | (intro w hSw; obtain ⟨s0, s1, s2, _⟩ := hSw; go_simp; done) | (intro w hSw; obtain ⟨s0, s1, s2, _⟩ := hSw; go_simp; with_reducible rfl)
            refine wpAnyH_take (i := 23) (v := ?vq23) rfl (by kernel_rfl) (by kernel_rfl) (by kernel_rfl) (fun _ _ _ h => h) (Or.inl ⟨by kernel_rfl, ?hq23⟩) hSq ?rq23
            case hq23 => first | (intro w hSw; obtain ⟨s0, s1, s2, _⟩ := hSw; go_simp; done) | (intro w hSw; obtain ⟨s0, s1, s2, _⟩ := hSw; go_simp; with_reducible rfl)
            refine wpAnyH_take (i := 24) (v := ?vq24) rfl (by kernel_rfl) (by kernel_rfl) (by kernel_rfl) (fun _ _ _ h => h) (Or.inl ⟨by kernel_rfl, ?hq24⟩) hSq ?rq24
            case hq24 => first | (intro w hSw; obtain ⟨s0, s1, s2, _⟩ := hSw; go_simp; done) | (intro w hSw; obtain ⟨s0, s1, s2, _⟩ := hSw; go_simp; with_reducible rfl)
            refine wpAnyH_take (i := 25) (v := ?vq25) rfl (by kernel_rfl) (by kernel_rfl) (by kernel_rfl) (fun _ _ _ h => h) (Or.inl ⟨by kernel_rfl, ?hq25⟩) hSq ?rq25
            case hq25 => first | (intro w hSw; obtain ⟨s0, s1, s2, _⟩ := hSw; go_simp; done) | (intro w hSw; obtain ⟨s0, s1, s2, _⟩ := hSw; go_simp; with_reducible rfl)
            refine wpAnyH_take (i := 26) (v := ?vq26) rfl (by kernel_rfl) (by kernel_rfl) (by kernel_rfl) (fun _ _ _ h => h) (Or.inl ⟨by kernel_rfl, ?hq26⟩) hSq ?rq26
            case hq26 => first | (intro w hSw; obtain ⟨s0, s1, s2, _⟩ := hSw; go_simp; done) | (intro w hSw; obtain ⟨s0, s1, s2, _⟩ := hSw; go_simp; with_reducible rfl)
            refine wpAnyH_take (i := 27) (v := ?vq27) rfl (by kernel_rfl) (by kernel_rfl) (by kernel_rfl) (fun _ _ _ h => h) (Or.inl ⟨by kernel_rfl, ?hq27⟩) hSq ?rq27
            case hq27 => first | (intro w hSw; obtain ⟨s0, s1, s2, _⟩ := hSw; go_simp; done) | (intro w hSw; obtain ⟨s0, s1, s2, _⟩ := hSw; go_simp; with_reducible rfl)
            refine wpAnyH_take (i := 28) (v := undef) rfl (by kernel_rfl) (by kernel_rfl) (by kernel_rfl) (fun _ _ _ h => h) (Or.inr ⟨by kernel_rfl, rfl⟩) hSq ?_
            refine wpAnyH_take (i := 29) (v := undef) rfl (by kernel_rfl) (by kernel_rfl) (by kernel_rfl) (fun _ _ _ h => h) (Or.inr ⟨by kernel_rfl, rfl⟩) hSq ?_
            refine wpAnyH_take (i := 30) (v := undef) rfl (by kernel_rfl) (by kernel_rfl) (by kernel_rfl) (fun _ _ _ h => h) (Or.inr ⟨by kernel_rfl, rfl⟩) hSq ?_
            refine wpAnyH_take (i := 31) (v := undef) rfl (by kernel_rfl) (by kernel_rfl) (by kernel_rfl) (fun _ _ _ h => h) (Or.inr ⟨by kernel_rfl, rfl⟩) hSq ?_
            refine wpAnyH_take (i := 32) (v := undef) rfl (by kernel_rfl) (by kernel_rfl) (by kernel_rfl) (fun _ _ _ h => h) (Or.inr ⟨by kernel_rfl, rfl⟩) hSq ?_
            refine wpAnyH_take (i := 33) (v := undef) rfl (by kernel_rfl) (by kernel_rfl) (by kernel_rfl) (fun _ _ _ h => h) (Or.inr ⟨by kernel_rfl, rfl⟩) hSq ?_
            refine wpAnyH_take (i := 34) (v := undef) rfl (by kernel_rfl) (by kernel_rfl) (by kernel_rfl) (fun _ _ _ h => h) (Or.inr ⟨by kernel_rfl, rfl⟩) hSq ?_
            refine wpAnyH_take (i := 35) (v := ?vq35) rfl (by kernel_rfl) (by kernel_rfl) (by kernel_rfl) (fun _ _ _ h => h) (Or.inl ⟨by kernel_rfl, ?hq35⟩) hSq ?rq35
            case hq35 => first | (intro w hSw; obtain ⟨s0, s1, s2, _⟩ := hSw; go_simp; done) | (intro w hSw; obtain ⟨s0, s1, s2, _⟩ := hSw; go_simp; with_reducible rfl)
            refine wpAnyH_take (i := 36) (v := ?vq36) rfl (by kernel_rfl) (by kernel_rfl) (by kernel_rfl) (fun _ _ _ h => h) (Or.inl ⟨by kernel_rfl, ?hq36⟩) hSq ?rq36
            case hq36 => first | (intro w hSw; obtain ⟨s0, s1, s2, _⟩ := hSw; go_simp; done) | (intro w hSw; obtain ⟨s0, s1, s2, _⟩ := hSw; go_simp; with_reducible rfl)
            refine wpAnyH_take (i := 37) (v := ?vq37) rfl (by kernel_rfl) (by kernel_rfl) (by kernel_rfl) (fun _ _ _ h => h) (Or.inl ⟨by kernel_rfl, ?hq37⟩) hSq ?rq37
            case hq37 => first | (intro w hSw; obtain ⟨s0, s1, s2, _⟩ := hSw; go_simp; done) | (intro w hSw; obtain ⟨s0, s1, s2, _⟩ := hSw; go_simp; with_reducible rfl)
            refine wpAnyH_take (i := 38) (v := ?vq38) rfl (by kernel_rfl) (by kernel_rfl) (by kernel_rfl) (fun _ _ _ h => h) (Or.inl ⟨by kernel_rfl, ?hq38⟩) hSq ?rq38
            case hq38 => first | (intro w hSw; obtain ⟨s0, s1, s2, _⟩ := hSw; go_simp; done) | (intro w hSw; obtain ⟨s0, s1, s2, _⟩ := hSw; go_simp; with_reducible rfl)
            refine wpAnyH_take (i := 39) (v := ?vq39) rfl (by kernel_rfl) (by kernel_rfl) (by kernel_rfl) (fun _ _ _ h => h) (Or.inl ⟨by kernel_rfl, ?hq39⟩) hSq ?rq39
            case hq39 => first | (intro w hSw; obtain ⟨s0, s1, s2, _⟩ := hSw; go_simp; done) | (intro w hSw; obtain ⟨s0, s1, s2, _⟩ := hSw; go_simp; with_reducible rfl)
            refine wpAnyH_take (i := 40) (v := ?vq40) rfl (by kernel_rfl) (by kernel_rfl) (by kernel_rfl) (fun _ _ _ h => h) (Or.inl ⟨by kernel_rfl, ?hq40⟩) hSq ?rq40
            case hq40 => first | (intro w hSw; obtain ⟨s0, s1, s2, _⟩ := hSw; go_simp; done) | (intro w hSw; obtain ⟨s0, s1, s2, _⟩ := hSw; go_simp; with_reducible rfl)
            refine wpAnyH_take (i := 41) (v := ?vq41) rfl (by kernel_rfl) (by kernel_rfl) (by kernel_rfl) (fun _ _ _ h => h) (Or.inl ⟨by kernel_rfl, ?hq41⟩) hSq ?rq41
            case hq41 => first | (intro w hSw; obtain ⟨s0, s1, s2, _⟩ := hSw; go_simp; done) | (intro w hSw; obtain ⟨s0, s1, s2, _⟩ := hSw; go_simp; with_reducible rfl)
            refine wpAnyH_take (i := 42) (v := ?vq42) rfl (by kernel_rfl) (by kernel_rfl) (by kernel_rfl) (fun _ _ _ h => h) (Or.inl ⟨by kernel_rfl, ?hq42⟩) hSq ?rq42
            case hq42 => first | (intro w hSw; obtain ⟨s0, s1, s2, _⟩ := hSw; go_simp; done) | (intro w hSw; obtain ⟨s0, s1, s2, _⟩ := hSw; go_simp; with_reducible rfl)
            refine wpAnyH_take (i := 43) (v := ?vq43) rfl (by kernel_rfl) (by kernel_rfl) (by kernel_rfl) (fun _ _ _ h => h) (Or.inl ⟨by kernel_rfl, ?hq43⟩) hSq ?rq43
            case hq43 => first | (intro w hSw; obtain ⟨s0, s1, s2, _⟩ := hSw; go_simp; done) | (intro w hSw; obtain ⟨s0, s1, s2, _⟩ := hSw; go_simp; with_reducible rfl)
            refine wpAnyH_take (i := 44) (v := ?vq44) rfl (by kernel_rfl) (by kernel_rfl) (by kernel_rfl) (fun _ _ _ h => h) (Or.inl ⟨by kernel_rfl, ?hq44⟩) hSq ?rq44
            case hq44 => first | (intro w hSw; obtain ⟨s0, s1, s2, _⟩ := hSw; go_simp; done) | (intro w hSw; obtain ⟨s0, s1, s2, _⟩ := hSw; go_simp; with_reducible rfl)
            refine wpAnyH_take (i := 45) (v := ?vq45) rfl (by kernel_rfl) (by kernel_rfl) (by kernel_rfl) (fun _ _ _ h => h) (Or.inl ⟨by kernel_rfl, ?hq45⟩) hSq ?rq45
            case hq45 => first | (intro w hSw; obtain ⟨s0, s1, s2, _⟩ := hSw; go_simp; done) | (intro w hSw; obtain ⟨s0, s1, s2, _⟩ := hSw; go_simp; with_reducible rfl)
            refine wpAnyH_take (i := 46) (v := ?vq46) rfl (by kernel_rfl) (by kernel_rfl) (by kernel_rfl) (fun _ _ _ h => h) (Or.inl ⟨by kernel_rfl, ?hq46⟩) hSq ?rq46
            case hq46 => first | (intro w hSw; obtain ⟨s0, s1, s2, _⟩ := hSw; go_simp; done) | (intro w hSw; obtain ⟨s0, s1, s2, _⟩ := hSw; go_simp; with_reducible rfl)
            refine wpAnyH_ready (rs := [47]) (by kernel_rfl) (by simp) ?_
            refine AllReadyH.cons rfl (fun K hK => ?_) AllReadyH.nil
            go_simp
            refine (unhide CT _ hSq.2.2.2.1 hSq.2.2.2.2.1).mono ?_
            rintro e5 W5 ⟨rfl, hb5⟩
            have hSq' := KeepP.below hSq hb5
            clear hb5
            refine hK _ _ hSq' (fun _ => ?_)
            clear hK K hSq
            have hSq := hSq'
            clear hSq'
            refine wpAnyH_take (i := 48) (v := ?vq48) rfl (by kernel_rfl) (by kernel_rfl) (by kernel_rfl) (fun _ _ _ h => h) (Or.inl ⟨by kernel_rfl, ?hq48⟩) hSq ?rq48
            case hq48 => first | (intro w hSw; obtain ⟨s0, s1, s2, _⟩ := hSw; go_simp; done) | (intro w hSw; obtain ⟨s0, s1, s2, _⟩ := hSw; go_simp; with_reducible rfl)
            refine wpAnyH_take (i := 49) (v := ?vq49) rfl (by kernel_rfl) (by kernel_rfl) (by kernel_rfl) (fun _ _ _ h => h) (Or.inl ⟨by kernel_rfl, ?hq49⟩) hSq ?rq49
            case hq49 => first | (intro w hSw; obtain ⟨s0, s1, s2, _⟩ := hSw; go_simp; done) | (intro w hSw; obtain ⟨s0, s1, s2, _⟩ := hSw; go_simp; with_reducible rfl)
            refine wpAnyH_done (by kernel_rfl) ?_ _
            go_wp2
            go_ret
            exact ⟨rfl, hSq.2.2.2.2.2⟩
theorem plain_walk (s t : ByteArray) (w : World) (ht : Tab4 w) (hm : Mx w) (hs : s.size ≤ 4611686018427387903) (hz : t.size ≤ 4611686018427387903) :
    Calls Tryd.prog 6 #[.string s, .string t] w fun e w' => e = .returned (.bool true) ∧ Below w.heap.size w w' := by
  by_cases h : 2000 < s.size + t.size
  · exact plain_long s t w ht hm hs hz h
  · exact plain_main s t w ht hm (by omega)
end Go.Proofs.YtakjlolmmoladaaDoor

/-
  From the rows' list of package variables to what the walks ask: the cells of the four tables.
-/
namespace Go.Proofs.YtakjlolmmoladaaDoor
open Go.RowKit Go.Lib
set_option linter.unusedVariables false

theorem tab_of_reads {P : Program} {W : World} {name : String} {k : IntKind} {zs : List Int} {g : Nat} {t e : TypeId} {n : Nat}
    (hg : P.globalNamed name = some g) (hty : (P.globals[g]?).map (·.type) = some t) (ht : P.underlying t = some (.array n e)) (he : P.underlying e = some (.int k)) (hce : P.cellsOf e = 1) (hct : P.cellsOf t = n)
    (h : VarReads P W name (tabData k zs)) : TabIs P W name k zs := by
  obtain ⟨g', t', cs, fuel, p, hg', ht', hvar, hd⟩ := h
  obtain rfl := Option.some.inj (hg.symm.trans hg')
  obtain rfl := Option.some.inj (hty.symm.trans ht')
  unfold TabIs
  rw [hvar, ← cells_of_tab ht he hce hct hd]

def nmData : DataW Unit := .agg (nmT.map fun x => .agg [.lit (.string x.1), .lit (.int .i64 x.2.1), .lit (.bool x.2.2)])
theorem nm_at (k : Nat) (h : k < 28) : (nmT.map fun x => (DataW.agg [.lit (.string x.1), .lit (.int .i64 x.2.1), .lit (.bool x.2.2)] : DataW Unit))[k]? = some (.agg [.lit (.string (nmName k)), .lit (.int .i64 (nmChar k)), .lit (.bool (nmBare k))]) := by
  have hl : k < nmT.length := h
  rw [List.getElem?_map, List.getElem?_eq_getElem hl]
  unfold nmName nmChar nmBare
  rw [List.getD, List.getElem?_eq_getElem hl]; rfl

theorem Tryd.gNames : Tryd.prog.globalNamed "recto/refs.names" = some 3 := by kernel_rfl
theorem Tryd.gOlds : Tryd.prog.globalNamed "recto/refs.olds" = some 2 := by kernel_rfl
theorem Tryd.gHeads : Tryd.prog.globalNamed "recto/utf.heads" = some 0 := by kernel_rfl
theorem Tryd.gEnds : Tryd.prog.globalNamed "recto/utf.ends" = some 1 := by kernel_rfl
theorem Tryd.tNames : (Tryd.prog.globals[3]?).map (·.type) = some 83 := by kernel_rfl
theorem Tryd.tOlds : (Tryd.prog.globals[2]?).map (·.type) = some 79 := by kernel_rfl
theorem Tryd.tHeads : (Tryd.prog.globals[0]?).map (·.type) = some 59 := by kernel_rfl
theorem Tryd.tEnds : (Tryd.prog.globals[1]?).map (·.type) = some 59 := by kernel_rfl
theorem Tryd.cArr5 : Tryd.prog.cellsOf 59 = 5 := by kernel_rfl
theorem Tryd.cArr32 : Tryd.prog.cellsOf 79 = 32 := by kernel_rfl
theorem Tryd.cInt : Tryd.prog.cellsOf 3 = 1 := by kernel_rfl
theorem Tryd.cStr : Tryd.prog.cellsOf 9 = 1 := by kernel_rfl
theorem Tryd.cBool : Tryd.prog.cellsOf 4 = 1 := by kernel_rfl
theorem Tryd.cNamed : Tryd.prog.cellsOf 82 = 3 := by kernel_rfl

theorem one_of_take {cs : List Value} {a b o : Nat} {v : Value} (hb : o < b) (h : (((cs.drop a).take b).drop o).take 1 = [v]) : cs[a + o]? = some v := by
  have h0 := congrArg (fun l => l[0]?) h
  simp only [List.getElem?_cons_zero] at h0
  rw [List.getElem?_take, if_pos (by omega), List.getElem?_drop, List.getElem?_take, if_pos (by omega), List.getElem?_drop] at h0
  simpa using h0

theorem nTab_of {w : World} (h : VarReads Tryd.prog w "recto/refs.names" nmData) : NTab w := by
  obtain ⟨g', t', cs, fuel, p, hg', ht', hvar, hd⟩ := h
  obtain rfl := Option.some.inj (Tryd.gNames.symm.trans hg')
  obtain rfl := Option.some.inj (Tryd.tNames.symm.trans ht')
  intro k hk
  obtain ⟨fuel', d, q, h1, h2⟩ := array_elem Tryd.underlying83 hd k hk
  rw [nm_at k hk] at h1
  obtain rfl := Option.some.inj h1
  rw [Tryd.cNamed] at h2
  obtain ⟨xs, n, _, hx, _, hxl, hf⟩ := DataW.trod_struct Tryd.underlying82 h2
  have hx1 : xs.map (·.1) = [.lit (.string (nmName k)), .lit (.int .i64 (nmChar k)), .lit (.bool (nmBare k))] := by
    have := congrArg Prod.fst hx
    simpa using this.symm
  have f0 := hf 0 _ rfl
  have f1 := hf 1 _ rfl
  have f2 := hf 2 _ rfl
  have x0 : ∀ (i : Nat) (d : DataW Unit), (xs.map (·.1))[i]? = some d → ∃ b : DataW Unit × List MemPlace, xs[i]? = some b ∧ b.1 = d := by
    intro i d h
    rw [List.getElem?_map] at h
    obtain ⟨b, hb, he⟩ := Option.map_eq_some_iff.1 h
    exact ⟨b, hb, he⟩
  obtain ⟨b0, e0, g0⟩ := x0 0 _ (by rw [hx1]; rfl)
  obtain ⟨b1, e1, g1⟩ := x0 1 _ (by rw [hx1]; rfl)
  obtain ⟨b2, e2, g2⟩ := x0 2 _ (by rw [hx1]; rfl)
  rw [e0] at f0
  rw [e1] at f1
  rw [e2] at f2
  obtain ⟨s, c0, y0, _⟩ := DataW.trod_string Tryd.underlying9 f0
  obtain ⟨z, c1, y1, _⟩ := DataW.trod_int Tryd.underlying3 f1
  obtain ⟨b, c2, y2⟩ := DataW.trod_bool Tryd.underlying4 f2
  subst y0; subst y2
  have hs : s = bs (nmName k) := by
    have : s.data.toList = nmName k := by simpa using g0
    rw [← this, bs_self]
  have hb : b = nmBare k := by simpa using g2
  have hz : z = nmChar k := by rw [y1] at g1; simpa using g1
  subst hs; subst hb; subst hz
  have v := World.var?_cell Tryd.gNames hvar
  have c0' : (((cs.toList.drop (k * 3)).take 3).drop 0).take (Tryd.prog.cellsOf 9) = [.string (bs (nmName k))] := c0
  have c1' : (((cs.toList.drop (k * 3)).take 3).drop 1).take (Tryd.prog.cellsOf 3) = [.int .i64 (nmChar k)] := c1
  have c2' : (((cs.toList.drop (k * 3)).take 3).drop 2).take (Tryd.prog.cellsOf 4) = [.bool (nmBare k)] := c2
  rw [Tryd.cStr] at c0'
  rw [Tryd.cInt] at c1'
  rw [Tryd.cBool] at c2'
  have r0 := one_of_take (a := k * 3) (b := 3) (o := 0) (by decide) c0'
  have r1 := one_of_take (a := k * 3) (b := 3) (o := 1) (by decide) c1'
  have r2 := one_of_take (a := k * 3) (b := 3) (o := 2) (by decide) c2'
  refine ⟨?_, ?_, ?_⟩
  · rw [v]; simpa using r0
  · rw [v]; simpa using r1
  · rw [v]; simpa using r2

theorem tab4_of {w : World} (h : laidMet Tryd.prog [("recto/utf.heads", Rows.laid_recto_utf_heads), ("recto/utf.ends", Rows.laid_recto_utf_ends), ("recto/refs.names", Rows.laid_recto_refs_names), ("recto/refs.olds", Rows.laid_recto_refs_olds)] w) : Tab4 w := by
  have h1 : TabIs Tryd.prog w "recto/utf.heads" .i64 [0, 0, 192, 224, 240] := tab_of_reads Tryd.gHeads Tryd.tHeads Tryd.underlying59 Tryd.underlying3 Tryd.cInt Tryd.cArr5 (laidMet.reads h (List.mem_cons_self ..))
  have h2 : TabIs Tryd.prog w "recto/utf.ends" .i64 [0, 128, 2048, 65536, 1114112] := tab_of_reads Tryd.gEnds Tryd.tEnds Tryd.underlying59 Tryd.underlying3 Tryd.cInt Tryd.cArr5 (laidMet.reads h (List.mem_cons_of_mem _ (List.mem_cons_self ..)))
  have h3 : NTab w := nTab_of (laidMet.reads h (List.mem_cons_of_mem _ (List.mem_cons_of_mem _ (List.mem_cons_self ..))))
  have h4 : TabIs Tryd.prog w "recto/refs.olds" .i64 oldT := tab_of_reads Tryd.gOlds Tryd.tOlds Tryd.underlying79 Tryd.underlying3 Tryd.cInt Tryd.cArr32 (laidMet.reads h (List.mem_cons_of_mem _ (List.mem_cons_of_mem _ (List.mem_cons_of_mem _ (List.mem_cons_self ..)))))
  refine ⟨⟨h1.cell Tryd.gHeads 1 (by decide), h1.cell Tryd.gHeads 2 (by decide), h1.cell Tryd.gHeads 3 (by decide), h1.cell Tryd.gHeads 4 (by decide), h2.cell Tryd.gEnds 1 (by decide), h2.cell Tryd.gEnds 2 (by decide), h2.cell Tryd.gEnds 3 (by decide), h2.cell Tryd.gEnds 4 (by decide)⟩, h3, fun k hk => h4.cell Tryd.gOlds k hk⟩
end Go.Proofs.YtakjlolmmoladaaDoor

namespace Go.Proofs.YtakjlolmmoladaaDoor.plainF
open Go.ChangeShapes Go.WideShapes Go.ChangeAt Go.RowKit
open Go.ChangeMaps (open_string shut_string)
set_option linter.unusedVariables false

theorem own : ownKnob Tryd.prog.godebug = none := by kernel_rfl
theorem tabs {W : World} (h : laidMetH Tryd.prog Rows.toksPlainRow.laid W) : Tab4 W := tab4_of h

theorem mx {W : World} (h : W.ShapedOpen Tryd.prog) : Mx W :=
  Go.Proofs.cell_of_shapedOpen_int (zero := #[.int .i64 0]) (t := 3) h (of_decide_eq_true (by kernel_rfl)) (by kernel_rfl) rfl (by kernel_rfl) (by kernel_rfl) Tryd.underlying3
theorem laidOut : laidOutB Tryd.prog = true := by kernel_rfl

theorem le62 {H : Type} {P : Program} {ts : List TypeId} {ds : List (DataW H)} (h : (DataW.weightsEach P ts ds).all (· ≤ reachBytes) = true) {j : Nat} {t : TypeId} {a : ByteArray} (ht : ts[j]? = some t) (hd : ds[j]? = some (.lit (.string a.data.toList))) : a.size ≤ 4611686018427387903 := by
  have h1 := sized_string h ht hd
  have h2 := reachBytes_lt
  rw [data_len] at h1
  omega

set_option maxRecDepth 100000 in
theorem contract (H : Type) (enc : TypeId × Value → H) (W : World) (base : Nat) (args : Array Value) (ds gs : List (DataW H)) (before : List MemPlace)
    (hval : ∀ (j : Nat) t v, Tryd.f6.params[j]? = some t → args[j]? = some v → Value.okWide Tryd.prog W .any base t v)
    (hW : DataW.Whole enc Tryd.prog Tryd.f6.params.toList Rows.toksPlainSpec.vars false W args.toList ds gs before) (hL : laidMetH Tryd.prog Rows.toksPlainRow.laid W) (hSO : W.ShapedOpen Tryd.prog) (hZ : (DataW.weightsEach Tryd.prog (Tryd.f6.params.toList ++ (OpenSpec.ofChange Rows.toksPlainSpec).bare.plain.varTypes Tryd.prog) (ds ++ gs)).all (· ≤ reachBytes) = true) :
    Calls Tryd.prog 6 args W fun e W' => ∃ v, e = .returned v ∧ Rows.toksPlainSpec.post enc Tryd.prog Tryd.f6 false true false false W args v W' := by
  have hW' := hW
  obtain ⟨p, q, hA0, hV, rfl, hfz, hnd⟩ := hW
  have hA : DataW.TrodAll enc Tryd.prog W 0 (fun _ => true) true Tryd.f6.params.toList args.toList ds p := hA0
  rw [Tryd.params6] at hA hval
  obtain ⟨v0, vs0, d0, ds0, p0, q0, hargs, rfl, rfl, h0, r0⟩ := trodAll_cons hA
  obtain ⟨v1, vs1, d1, ds1, p1, q1, rfl, rfl, rfl, h1, r1⟩ := trodAll_cons r0
  obtain ⟨rfl, rfl, rfl⟩ := trodAll_nil r1
  obtain rfl : args = #[v0, v1] := by cases args; simp_all
  obtain ⟨rfl, rfl⟩ := trodVars_none hV
  obtain ⟨a0, rfl, rfl, rfl, w0⟩ := open_string Tryd.underlying9 (hval 0 9 v0 rfl rfl) h0
  obtain ⟨a1, rfl, rfl, rfl, w1⟩ := open_string Tryd.underlying9 (hval 1 9 v1 rfl rfl) h1
  clear hA0
  refine (plain_walk a0 a1 W (tabs hL) (mx hSO) (le62 hZ (j := 0) rfl rfl) (le62 hZ (j := 1) rfl rfl)).mono fun e W' ⟨he, bel⟩ => ?_
  subst he
  exact ⟨_, rfl, _, _, _, [], _, [], hW', trodAll_mk1 (shut_bool Tryd.underlying4 _), (trodAll_cons_mk (shut_string Tryd.underlying9 w0) (trodAll_cons_mk (shut_string Tryd.underlying9 w1) trodAll_mk0)), rfl, bel.frame _, fun h => by cases h⟩

/-- What the tables' initialisers lay. -/
def lay0 : Obj → Obj
  | .cells _ t frozen => .cells #[.int .i64 0, .int .i64 0, .int .i64 192, .int .i64 224, .int .i64 240] t frozen
  | o => o
def layN : Obj → Obj
  | .cells _ t frozen => .cells #[.string ⟨#[97, 109, 112]⟩, .int .i64 38, .bool true, .string ⟨#[108, 116]⟩, .int .i64 60, .bool true, .string ⟨#[103, 116]⟩, .int .i64 62, .bool true, .string ⟨#[113, 117, 111, 116]⟩, .int .i64 34, .bool true, .string ⟨#[110, 98, 115, 112]⟩, .int .i64 160, .bool true, .string ⟨#[99, 111, 112, 121]⟩, .int .i64 169, .bool true, .string ⟨#[114, 101, 103]⟩, .int .i64 174, .bool true, .string ⟨#[110, 111, 116]⟩, .int .i64 172, .bool true, .string ⟨#[110, 111, 116, 105, 110]⟩, .int .i64 8713, .bool false, .string ⟨#[116, 105, 109, 101, 115]⟩, .int .i64 215, .bool true, .string ⟨#[112, 97, 114, 97]⟩, .int .i64 182, .bool true, .string ⟨#[115, 101, 99, 116]⟩, .int .i64 167, .bool true, .string ⟨#[101, 97, 99, 117, 116, 101]⟩, .int .i64 233, .bool true, .string ⟨#[69, 97, 99, 117, 116, 101]⟩, .int .i64 201, .bool true, .string ⟨#[97, 117, 109, 108]⟩, .int .i64 228, .bool true, .string ⟨#[65, 117, 109, 108]⟩, .int .i64 196, .bool true, .string ⟨#[115, 122, 108, 105, 103]⟩, .int .i64 223, .bool true, .string ⟨#[101, 117, 114, 111]⟩, .int .i64 8364, .bool false, .string ⟨#[104, 101, 108, 108, 105, 112]⟩, .int .i64 8230, .bool false, .string ⟨#[109, 100, 97, 115, 104]⟩, .int .i64 8212, .bool false, .string ⟨#[110, 100, 97, 115, 104]⟩, .int .i64 8211, .bool false, .string ⟨#[97, 108, 112, 104, 97]⟩, .int .i64 945, .bool false, .string ⟨#[98, 101, 116, 97]⟩, .int .i64 946, .bool false, .string ⟨#[114, 97, 114, 114]⟩, .int .i64 8594, .bool false, .string ⟨#[108, 97, 114, 114]⟩, .int .i64 8592, .bool false, .string ⟨#[97, 112, 111, 115]⟩, .int .i64 39, .bool false, .string ⟨#[121, 101, 110]⟩, .int .i64 165, .bool true, .string ⟨#[109, 105, 99, 114, 111]⟩, .int .i64 181, .bool true] t frozen
  | o => o
def layO : Obj → Obj
  | .cells _ t frozen => .cells #[.int .i64 8364, .int .i64 0, .int .i64 8218, .int .i64 402, .int .i64 8222, .int .i64 8230, .int .i64 8224, .int .i64 8225, .int .i64 710, .int .i64 8240, .int .i64 352, .int .i64 8249, .int .i64 338, .int .i64 0, .int .i64 381, .int .i64 0, .int .i64 0, .int .i64 8216, .int .i64 8217, .int .i64 8220, .int .i64 8221, .int .i64 8226, .int .i64 8211, .int .i64 8212, .int .i64 732, .int .i64 8482, .int .i64 353, .int .i64 8250, .int .i64 339, .int .i64 0, .int .i64 382, .int .i64 376] t frozen
  | o => o
def lay1 : Obj → Obj
  | .cells _ t frozen => .cells #[.int .i64 0, .int .i64 128, .int .i64 2048, .int .i64 65536, .int .i64 1114112] t frozen
  | o => o
theorem laid_met (os : Os) : laidMet Tryd.prog Rows.toksPlainRow.laid (({ World.holding Tryd.prog os ⟨#[], #[], []⟩ with heap := ((((World.holding Tryd.prog os ⟨#[], #[], []⟩).heap.modify 3 layN).modify 2 layO).modify 0 lay0).modify 1 lay1 } : World).forCall (fun _ _ => 0) ⟨#[], #[.string ⟨#[]⟩, .string ⟨#[]⟩], []⟩).memory :=
  laidMet_of_run' 8 (by kernel_rfl) (by kernel_rfl)
theorem reads (os : Os) {H : Type} (enc : TypeId × Value → H) : ∃ places, DataW.whole enc Tryd.prog (({ World.holding Tryd.prog os ⟨#[], #[], []⟩ with heap := ((((World.holding Tryd.prog os ⟨#[], #[], []⟩).heap.modify 3 layN).modify 2 layO).modify 0 lay0).modify 1 lay1 } : World).forCall (fun _ _ => 0) ⟨#[], #[.string ⟨#[]⟩, .string ⟨#[]⟩], []⟩).memory Tryd.f6.params.toList Rows.toksPlainSpec.vars false #[Value.string ⟨#[]⟩, Value.string ⟨#[]⟩].toList 8 = some ([.lit (.string []), .lit (.string [])], [], places) :=
  ⟨[], by kernel_rfl⟩

set_option maxRecDepth 100000 in
theorem lifted (os : Os) (started : os.Started) (H : Type) (enc : TypeId × Value → H) (F : Stop.Interp) :
    ReturnsInHanded {} Tryd.checked os 6 .any ((OpenSpec.ofChange Rows.toksPlainSpec).preRow enc Tryd.prog Tryd.f6 Rows.toksPlainRow.domain false Rows.toksPlainRow.laid) (((OpenSpec.ofChange Rows.toksPlainSpec).at F).post enc Tryd.prog Tryd.f6 false true false false) := by
  obtain ⟨places, hx⟩ := reads os enc
  refine returnsInHanded_of_row (C := Tryd.checked) (s := OpenSpec.ofChange Rows.toksPlainSpec) own started (by kernel_rfl) Tryd.func6
    (witness_row_at (enc := enc) (C := Tryd.checked) false ({ World.holding Tryd.prog os ⟨#[], #[], []⟩ with heap := ((((World.holding Tryd.prog os ⟨#[], #[], []⟩).heap.modify 3 layN).modify 2 layO).modify 0 lay0).modify 1 lay1 } : World) #[.string ⟨#[]⟩, .string ⟨#[]⟩] rfl (by kernel_rfl) (by kernel_rfl) (by kernel_rfl)
      (OpenSpec.preRow_of_cond 8 hx (by kernel_rfl) (fun k hk => by cases hk) (by kernel_rfl) (laid_met os))) ?_
  intro W base args ds gs before hval hW _ _ hZ hL hSO _
  exact contract H enc W base args ds gs before hval hW hL hSO hZ

theorem said : Rows.ToksPlainSaid :=
  OpenClaim.holds_of_cond 6 Tryd.f6 rfl rfl rfl rfl rfl rfl rfl ⟨rfl, rfl, rfl, rfl, rfl⟩ rfl rfl rfl rfl rfl (by kernel_rfl) Tryd.func6 (by kernel_rfl)
    (of_decide_eq_true (by kernel_rfl)) (by unfold Func.isWrapper; first | (rw [if_pos (by decide +kernel)]; kernel_rfl) | (rw [if_neg (by decide +kernel)]; exact ⟨rfl, rfl⟩))
    (fun os started H enc _ F => by rw [OpenClaim.pre_eq_preRow]; exact lifted os started H enc F)

theorem plain (f : FuncId) (fn : Func) (hf : Tryd.pinned.checked.prog.funcNamed "recto/rectolaw05.ToksPlain" = some f) (hfn : Tryd.pinned.checked.prog.funcs[f]? = some fn) :
    false = Tryd.pinned.checked.prog.looks [] ∧ ∀ (j : Nat) t, fn.params[j]? = some t → Tryd.pinned.checked.prog.wantsStandIn t = false := by
  obtain rfl : f = 6 := Option.some.inj ((show Tryd.prog.funcNamed "recto/rectolaw05.ToksPlain" = some 6 by kernel_rfl).symm.trans hf) |>.symm
  obtain rfl : fn = Tryd.f6 := (Option.some.inj (Tryd.func6.symm.trans hfn)).symm
  refine ⟨by kernel_rfl, fun j t ht => ?_⟩
  rw [Tryd.params6] at ht
  obtain rfl : t = 9 := by simpa using Array.mem_of_getElem? ht
  exact (show Tryd.prog.wantsStandIn 9 = false by kernel_rfl)

theorem card : Rows.ToksPlainCardSaid :=
  Claim7.holds_tied_plain_at .later [] _ _ _ _ said (fun _ h => by cases h) (by kernel_rfl) (fun _ h => by cases h) toksPlain_row_tie rfl ⟨rfl, rfl⟩ (by kernel_rfl) rfl plain (by kernel_rfl)
end Go.Proofs.YtakjlolmmoladaaDoor.plainF

namespace Go.Proofs.YtakjlolmmoladaaDoor
theorem toksPlain_card : Rows.ToksPlainCardSaid := plainF.card
end Go.Proofs.YtakjlolmmoladaaDoor
