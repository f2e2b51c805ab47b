/-
  The law PenRawBack walked: what was written to be read as it is is read as it is, up to the tag that ends it.
-/
import Derived.Test.YtmiehnknnkcdlacDoorQLPc
import Derived.Test.YtmiehnknnkcdlacDoorQPRx
import Derived.Test.YtmiehnknnkcdlacDoorQTRw
namespace Go.Proofs.YtmiehnknnkcdlacDoor
open Go.RowKit
set_option linter.unusedVariables false

theorem end_hit (sep : List UInt8) : ∀ (k : Nat) (x : List UInt8), k < x.length → sep.isPrefixOf (x.drop k) = true → stopHd (x.drop (k + sep.length)) = true → endB sep x = true
  | 0, x, hk, hp, hs => by
    have := endB_step sep (l := x) (k := 0) hk
    rw [List.drop_zero] at this hp
    rw [this, hp, hs]; rfl
  | k + 1, x, hk, hp, hs => by
    have := endB_step sep (l := x) (k := 0) (by omega)
    rw [List.drop_zero, Nat.zero_add, Nat.zero_add] at this
    rw [this, end_hit sep k (x.drop 1) (by rw [List.length_drop]; omega) (by rw [List.drop_drop, Nat.add_comm]; exact hp) (by rw [List.drop_drop, show 1 + (k + sep.length) = k + 1 + sep.length by omega]; exact hs)]
    simp
theorem en_stop (b : Nat) : enB b = stopN b := by
  unfold enB stopN
  cases spN b <;> cases decide (b = 47) <;> cases decide (b = 62) <;> rfl
theorem low_stop {c : UInt8} (h : stopN c.toNat = true) : lowB c = c := by
  unfold lowB
  have hu : upN c.toNat = false := by
    apply upN_no
    intro hu
    unfold stopN spN at h
    simp at h
    omega
  rw [hu]; rfl
theorem pre_two2 {l : List UInt8} (h : [60, 47].isPrefixOf l = true) : ∃ t, l = 60 :: 47 :: t := by
  obtain ⟨t, rfl⟩ := List.isPrefixOf_iff_prefix.1 h; exact ⟨t, rfl⟩
theorem cut_name (n : List UInt8) (r C : List UInt8) : r.length ≤ n.length → (60 : UInt8) ∈ (r ++ 60 :: C).take n.length ∨ n.length = r.length := by
  intro h
  by_cases e : n.length = r.length
  · exact .inr e
  · refine .inl ?_
    rw [List.take_append]
    refine List.mem_append_right _ ?_
    obtain ⟨k, hk⟩ : ∃ k, n.length - r.length = k + 1 := ⟨n.length - r.length - 1, by omega⟩
    rw [hk, List.take_succ_cons]
    exact List.mem_cons_self ..
theorem low60 : lowB 60 = 60 := by decide
/-- An end that begins in a text that has none, ahead of the tag that ends it, is none. -/
theorem last_no {n l C : List UInt8} (hn : nameB n = true) (he : endB (sepL n) (lowL l) = false) {j : Nat} (hj : j < l.length) : lastB ((l ++ 60 :: C).drop j) n = false := by
  cases hb : lastB ((l ++ 60 :: C).drop j) n with
  | false => rfl
  | true =>
    exfalso
    unfold lastB at hb
    rw [Bool.and_eq_true, Bool.and_eq_true, Bool.and_eq_true] at hb
    obtain ⟨hp, hd, hen, hlw⟩ := hb
    have hlw := beq_iff_eq.1 hlw
    have hdr : (l ++ 60 :: C).drop j = l.drop j ++ 60 :: C := List.drop_append_of_le_length (by omega)
    rw [hdr] at hp hen hlw
    have hrl : 0 < (l.drop j).length := by rw [List.length_drop]; omega
    generalize hr : l.drop j = r at *
    have hno := name_no60 hn
    obtain ⟨t, ht⟩ := pre_two2 hp
    match r, hrl with
    | [a], _ =>
      rw [List.singleton_append] at ht
      have := (List.cons.inj ht).2
      have := (List.cons.inj this).1
      exact absurd this (by decide)
    | a :: b :: r2, _ =>
      rw [List.cons_append, List.cons_append] at ht hen hlw
      have h1 := List.cons.inj ht
      have h2 := List.cons.inj h1.2
      have ha : a = 60 := h1.1
      have hb2 : b = 47 := h2.1
      subst ha; subst hb2
      rw [List.drop_succ_cons, List.drop_succ_cons, List.drop_zero] at hlw
      have hen2 : enB (dgt (r2 ++ 60 :: C) n.length) = true := by
        have : dgt (60 :: 47 :: (r2 ++ 60 :: C)) (2 + n.length) = dgt (r2 ++ 60 :: C) n.length := by
          rw [show 2 + n.length = n.length + 1 + 1 by omega, dgt_succ, dgt_succ]
        rw [this] at hen; exact hen
      by_cases hlen : r2.length ≤ n.length
      · rcases cut_name n r2 C hlen with hm | hm
        · have : lowB 60 ∈ lowL ((r2 ++ 60 :: C).take n.length) := List.mem_map_of_mem hm
          rw [low60, hlw] at this
          exact hno _ this rfl
        · have : dgt (r2 ++ 60 :: C) n.length = 60 := by
            rw [hm, show r2.length = r2.length + 0 by omega, dgt_app2]; rfl
          rw [this] at hen2
          exact absurd hen2 (by decide)
      · have hlt : n.length < r2.length := by omega
        have htk : (r2 ++ 60 :: C).take n.length = r2.take n.length := List.take_append_of_le_length (by omega)
        rw [htk] at hlw
        rw [dgt_app _ _ _ hlt] at hen2
        have hlow : (lowL l).drop j = 60 :: 47 :: lowL r2 := by
          unfold lowL
          rw [← List.map_drop, hr]; rfl
        have hpre : (sepL n).isPrefixOf ((lowL l).drop j) = true := by
          rw [hlow]
          unfold sepL
          have : n.isPrefixOf (lowL r2) = true := by
            rw [List.isPrefixOf_iff_prefix]
            have e : (lowL r2).take n.length = n := by unfold lowL at hlw ⊢; rw [← List.map_take]; exact hlw
            rw [← e]; exact List.take_prefix _ _
          simpa [List.isPrefixOf] using this
        obtain ⟨c, hc, hcn⟩ := drop_at r2 n.length hlt
        rw [← hcn, en_stop] at hen2
        have hst : stopHd ((lowL l).drop (j + (sepL n).length)) = true := by
          rw [← List.drop_drop, hlow]
          have : (sepL n).length = n.length + 1 + 1 := by unfold sepL; simp
          rw [this, List.drop_succ_cons, List.drop_succ_cons]
          have : (lowL r2).drop n.length = lowB c :: lowL (r2.drop (n.length + 1)) := by
            unfold lowL; rw [← List.map_drop, hc]; rfl
          rw [this, low_stop hen2]
          exact hen2
        have := end_hit (sepL n) j (lowL l) (by rw [lowL_len]; exact hj) hpre hst
        rw [he] at this; cases this
theorem last_close2 {n b : List UInt8} (h : nameB n = true) : lastB (closeL n ++ b) n = true := by
  have hp := name_pos h
  unfold lastB
  have ec : closeL n ++ b = [60, 47] ++ (n ++ (62 :: b)) := by unfold closeL; simp
  have e1 : [60, 47].isPrefixOf (closeL n ++ b) = true := rfl
  have e2 : n ≠ [] ∧ n.length + 2 < (closeL n ++ b).length := ⟨List.length_pos_iff.1 hp.1, by rw [ec]; simp <;> omega⟩
  have e3 : dgt (closeL n ++ b) (2 + n.length) = 62 := by
    have : closeL n ++ b = ([60, 47] ++ n) ++ (62 :: b) := by rw [ec]; simp
    rw [this, show 2 + n.length = ([60, 47] ++ n).length + 0 by simp; omega, dgt_app2]; rfl
  have e4 : ((closeL n ++ b).drop 2).take n.length = n := by rw [ec]; simp
  rw [e1, decide_eq_true e2, e3, e4, low_name h]
  simp [enB]
theorem seek_raw {l n b : List UInt8} {X N : ByteArray} (hX : X.data.toList = l ++ (closeL n ++ b)) (hN : N.data.toList = n) (hn : nameB n = true) (he : endB (sepL n) (lowL l) = false) : seekN (lastP X N) X.size 0 = l.length := by
  have hz : X.size = l.length + (closeL n ++ b).length := by rw [← data_len, hX, List.length_append]
  refine seek_to (lastP X N) X.size l.length (by omega) (fun h => ?_) l.length 0 (by omega) (fun j _ hj => ?_)
  · unfold lastP
    rw [hX, List.drop_left, hN]; exact last_close2 hn
  · unfold lastP
    rw [hX, hN]
    have : closeL n ++ b = 60 :: (47 :: (n ++ [62]) ++ b) := by unfold closeL; simp
    rw [this]
    exact last_no hn he hj
theorem name_goes {n : List UInt8} (hn : nameB n = true) {q : Nat} (hq : q < n.length) : enB (dgt n q) = false := by
  unfold nameB at hn
  rw [Bool.and_eq_true, Bool.and_eq_true] at hn
  have ha := List.all_eq_true.1 hn.2.2 _ (List.getElem_mem hq)
  have e : dgt n q = (n[q]).toNat := by unfold dgt; rw [List.getD, List.getElem?_eq_getElem hq]; rfl
  rw [e]
  unfold okN smN dgN at ha
  unfold enB spN
  simp at ha ⊢
  omega
theorem seek_name {n b : List UInt8} {X : ByteArray} (hX : X.data.toList = closeL n ++ b) (hn : nameB n = true) : seekN (enP X) X.size 2 = 2 + n.length := by
  have ec : closeL n ++ b = [60, 47] ++ (n ++ (62 :: b)) := by unfold closeL; simp
  have hz : X.size = n.length + 3 + b.length := by rw [← data_len, hX, ec]; simp; omega
  refine seek_to (enP X) X.size (2 + n.length) (by omega) (fun h => ?_) n.length 2 (by omega) (fun j h1 hj => ?_)
  · unfold enP
    have : X.data.toList = ([60, 47] ++ n) ++ (62 :: b) := by rw [hX, ec]; simp
    rw [this, show 2 + n.length = ([60, 47] ++ n).length + 0 by simp; omega, dgt_app2]; rfl
  · unfold enP
    obtain ⟨q, rfl⟩ : ∃ q, j = 2 + q := ⟨j - 2, by omega⟩
    have : dgt X.data.toList (2 + q) = dgt n q := by
      rw [hX, ec, show 2 + q = ([60, 47] : List UInt8).length + q by rfl, dgt_app2, dgt_app _ _ _ (by omega)]
    rw [this]; exact name_goes hn (by omega)
end Go.Proofs.YtmiehnknnkcdlacDoor
