/-
  The statement ToksRaw, walked.
-/
import Derived.Test.YtakjlolmmoladaaDoorLTg
import Derived.Deep.RegionHeld3
import Derived.Deep.RegionWith
namespace Go.Proofs.YtakjlolmmoladaaDoor
open Go.RowKit
set_option linter.unusedVariables false

/-- No byte of a name ends it. -/
def noEnd (l : List UInt8) (k : Nat) : Prop := ∀ j, j < k → enB (dgt l j) = false
theorem enB_low (b : Nat) (h : enB b = true) : lowN b = b := by
  unfold enB at h
  have hu : upN b = false := by
    cases hu : upN b with
    | false => rfl
    | true =>
      exfalso
      have h1 : 65 ≤ b ∧ b ≤ 90 := of_decide_eq_true hu
      rw [Bool.or_eq_true, Bool.or_eq_true] at h
      rcases h with h | h | h
      · have := of_decide_eq_true h; omega
      · have := of_decide_eq_true h; omega
      · have := of_decide_eq_true h; omega
  exact lowN_no hu
theorem dgt_lowL (l : List UInt8) (j : Nat) (h : j < l.length) : dgt (lowL l) j = lowN (dgt l j) := by
  have h' : j < (lowL l).length := by rw [lowL_len]; exact h
  have := lowL_dgt l j h
  have hlt := lowN_lt l j
  unfold dgt at *
  rw [List.getD, List.getElem?_eq_getElem h']
  show ((lowL l)[j]).toNat = _
  rw [this, UInt8.toNat_ofNat']
  omega
theorem dgt_take (l : List UInt8) (n j : Nat) (h : j < n) : dgt (l.take n) j = dgt l j := by
  unfold dgt; rw [List.getD, List.getD, List.getElem?_take, if_pos h]

theorem raw_name {s n : ByteArray} {i : Nat} (h : lastP s n i = true) (hne : noEnd n.data.toList n.size) : tagN s i = n ∧ n.size ≠ 0 := by
  have hb := last_bounds h
  unfold lastP lastB at h
  rw [Bool.and_eq_true, Bool.and_eq_true, Bool.and_eq_true] at h
  obtain ⟨_, h2, h3, h4⟩ := h
  have h2 := of_decide_eq_true h2
  have h4 := beq_iff_eq.1 h4
  simp only [List.length_drop, data_len] at h2 h3 h4
  have hn0 : n.size ≠ 0 := by
    intro e
    exact h2.1 (List.eq_nil_of_length_eq_zero (by rw [data_len]; exact e))
  rw [List.drop_drop] at h4
  rw [dgt_drop] at h3
  have eg : tagG s i = i + 2 := if_pos hb.2
  have ez : tagZ s i = i + 2 + n.size := by
    unfold tagZ
    rw [eg]
    refine seek_to (enP s) s.size (i + 2 + n.size) (by omega) (fun _ => ?_) n.size (i + 2) rfl ?_
    · unfold enP; rw [← h3]; congr 2; omega
    · intro j hj1 hj2
      unfold enP
      cases he : enB (dgt s.data.toList j) with
      | false => rfl
      | true =>
        exfalso
        have h5 : dgt (lowL ((s.data.toList.drop (i + 2)).take n.size)) (j - (i + 2)) = dgt n.data.toList (j - (i + 2)) := by rw [h4]
        rw [dgt_lowL _ _ (by rw [List.length_take, List.length_drop, data_len]; omega), dgt_take _ _ _ (by omega), dgt_drop, show i + 2 + (j - (i + 2)) = j by omega, enB_low _ he] at h5
        have := hne (j - (i + 2)) (by omega)
        rw [← h5, he] at this
        cases this
  refine ⟨?_, hn0⟩
  unfold tagN
  rw [eg, ez, show i + 2 + n.size - (i + 2) = n.size by omega, h4, bs_self]

/-- What is read in Title and Raw, from the beginning on. -/
theorem raw_next (s n : ByteArray) (kind : Int) (hk : kind = 1 ∨ kind = 2) (hne : noEnd n.data.toList n.size) :
    ((nextT s n kind false 0).1.1 = 2 ∧ (nextT s n kind false 0).1.2.1 = n ∧ n.size ≠ 0) ∨ ((nextT s n kind false 0).1.1 = 0 ∧ (nextT s n kind false 0).2 = s.size) ∨
    ((nextT s n kind false 0).1.1 = 3 ∧ (nextT s n kind false 0).2 ≤ s.size ∧ (kind = 2 → (nextT s n kind false 0).1.2.2.2.2 = s.extract 0 (nextT s n kind false 0).2)) := by
  unfold nextT
  by_cases h0 : (0 : Int) < 0 ∨ (s.size : Int) ≤ 0
  · rw [if_pos h0]; exact Or.inr (Or.inl ⟨rfl, rfl⟩)
  rw [if_neg h0, if_pos hk]
  have hi : 0 < s.size := by omega
  show ((encT s n kind 0).1 = 2 ∧ (encT s n kind 0).2.1 = n ∧ n.size ≠ 0) ∨ ((encT s n kind 0).1 = 0 ∧ encE s n 0 = s.size) ∨ ((encT s n kind 0).1 = 3 ∧ encE s n 0 ≤ s.size ∧ (kind = 2 → (encT s n kind 0).2.2.2.2 = s.extract 0 (encE s n 0)))
  unfold encT encE
  have hz := seekN_le (lastP s n) (n := s.size) (k := 0) (by omega)
  have e : seekN (lastP s n) s.size 0 = encZ s n 0 := rfl
  by_cases h : encZ s n 0 = 0
  · rw [if_pos h, if_pos h]
    have hl := seek_now hi (e.trans h)
    have hb := last_bounds hl
    have hr := raw_name hl hne
    unfold tagT tagE
    by_cases hR : (tagR s 0).1 < s.size
    · rw [if_pos hR, if_pos hb.2]
      exact Or.inl ⟨rfl, hr.1, hr.2⟩
    · rw [if_neg hR, if_neg hR]
      exact Or.inr (Or.inl ⟨rfl, rfl⟩)
  · rw [if_neg h, if_neg h]
    refine Or.inr (Or.inr ⟨rfl, by rw [e] at hz; exact hz.1, fun hk2 => ?_⟩)
    show encX s n kind 0 = s.extract 0 (encZ s n 0)
    unfold encX
    rw [if_neg (by omega)]

/-- What the law's last statement finds and leaves. -/
def KeepT (w0 : World) (g : Nat) (k : Int) (x : ByteArray) (w : World) : Prop :=
  Tab4 w ∧ Mx w ∧ w.cell? ⟨g, 0, none⟩ = some (.int .i64 k) ∧ w.cell? ⟨g, 4, none⟩ = some (.string x) ∧ Below w0.heap.size w0 w
theorem KeepT.below {w0 w w' : World} {g : Nat} {k : Int} {x : ByteArray} (h : KeepT w0 g k x w) (hb : Below w.heap.size w w') : KeepT w0 g k x w' :=
  ⟨h.1.below hb, h.2.1.below hb, cell_later hb h.2.2.1, cell_later hb h.2.2.2.1, tr2 h.2.2.2.2 hb⟩
theorem KeepT.both {w0 w : World} {g : Nat} {k : Int} {x : ByteArray} (h : KeepT w0 g k x w) : w.cell? ⟨g, 0, none⟩ = some (.int .i64 k) ∧ w.cell? ⟨g, 4, none⟩ = some (.string x) ∧ KeepT w0 g k x w := ⟨h.2.2.1, h.2.2.2.1, h⟩
theorem tags_keep {w0 : World} {g : Nat} {k : Int} {x : ByteArray} (w : World) (h : KeepT w0 g k x w) : Calls Tryd.prog 7 #[] w fun e w' => e = .returned (.bool true) ∧ KeepT w0 g k x w' :=
  (tags_ok w h.1 h.2.1).mono fun e w' ⟨h1, h2⟩ => ⟨h1, h.below h2⟩

set_option maxHeartbeats 4000000 in
set_option maxRecDepth 100000 in
theorem raw_long (s n : ByteArray) (title : Bool) (w : World) (ht : Tab4 w) (hm : Mx w) (h : ¬ (s.size ≤ 2000 ∧ n.size ≤ 2000)) :
    Calls Tryd.prog 5 #[.string s, .bool title, .string n] w fun e w' => e = .returned (.bool true) ∧ Below w.heap.size w w' := by
  have C := hide (tags_ok w ht hm)
  by_cases h1 : 2000 < s.size
  · have i1 : (2000 : Int) < (s.size : Int) := by omega
    clear h h1 ht hm
    go_enter Tryd.func5, Tryd.ntmps5
    go_wp2_with fail
    refine (unhide C).mono ?_
    rintro e w1 ⟨rfl, hb⟩
    go_wp2
    go_ret
    exact ⟨rfl, hb⟩
  · have i1 : decide ((2000 : Int) < (s.size : Int)) = false := decide_eq_false (by omega)
    have i2 : (2000 : Int) < (n.size : Int) := by omega
    clear h h1 ht hm
    go_enter Tryd.func5, Tryd.ntmps5
    go_wp2_with fail
    refine (unhide C).mono ?_
    rintro e w1 ⟨rfl, hb⟩
    go_wp2
    go_ret
    exact ⟨rfl, hb⟩

set_option maxHeartbeats 8000000 in
set_option maxRecDepth 100000 in
theorem raw_main (s n : ByteArray) (title : Bool) (w : World) (ht : Tab4 w) (hm : Mx w) (h1 : s.size ≤ 2000) (h2 : n.size ≤ 2000) :
    Calls Tryd.prog 5 #[.string s, .bool title, .string n] w fun e w' => e = .returned (.bool true) ∧ Below w.heap.size w w' := by
  have i1 : decide ((2000 : Int) < (s.size : Int)) = false := decide_eq_false (by omega)
  have i2 : decide ((2000 : Int) < (n.size : Int)) = false := decide_eq_false (by omega)
  have HT := hide ht
  have HM := hide hm
  have CT := hide tags_ok
  have CN := hide (fun kind w ht hm => next_any s n kind false 0 w ht hm (by omega) (by omega))
  have RN := hide (fun kind hk hne => raw_next s n kind hk hne)
  clear ht hm
  go_enter Tryd.func5, Tryd.ntmps5
  go_wp2
  go_loopw [7] (fun a wr => ∃ k : Nat, k ≤ n.size ∧ a = .int .i64 (k : Int) ∧ noEnd n.data.toList k ∧ wr = w) (fun a _ => n.size - (intOf a).toNat)
  case atStart => exact ⟨0, Nat.zero_le _, rfl, fun j h => by omega, rfl⟩
  case round =>
    obtain ⟨k, hk, rfl, hne, hw⟩ := hrel
    obtain rfl : w = wr := hw.symm
    have HN := hide hne
    clear hne
    by_cases hp : k < n.size
    · have hpi : (k : Int) < (n.size : Int) := by omega
      have e0 := dgt_at n k hp
      have CS := hide (fun w => space_any (dgt n.data.toList k) w)
      cases hen : enB (dgt n.data.toList k) with
      | true =>
        unfold enB at hen
        generalize dgt n.data.toList k = b at *
        cases hsp : spN b with
        | true =>
          rw [hsp] at CS
          clear hsp hen
          go_wp2_with fail
          refine (unhide CS _).mono ?_
          rintro e w1 ⟨rfl, hw1⟩
          obtain rfl : w = w1 := hw1.symm
          go_wp2_with fail
          refine (unhide CT _ (unhide HT) (unhide HM)).mono ?_
          rintro e w1 ⟨rfl, hb⟩
          go_wp2
          go_ret
          exact ⟨rfl, hb⟩
        | false =>
          rw [hsp] at CS hen
          by_cases h47 : b = 47
          · subst h47
            clear hsp hen
            go_wp2_with fail
            refine (unhide CS _).mono ?_
            rintro e w1 ⟨rfl, hw1⟩
            obtain rfl : w = w1 := hw1.symm
            go_wp2_with fail
            refine (unhide CT _ (unhide HT) (unhide HM)).mono ?_
            rintro e w1 ⟨rfl, hb⟩
            go_wp2
            go_ret
            exact ⟨rfl, hb⟩
          · have h62 : b = 62 := by
              rw [decide_eq_false h47] at hen
              simpa using hen
            subst h62
            clear hsp hen h47
            go_wp2_with fail
            refine (unhide CS _).mono ?_
            rintro e w1 ⟨rfl, hw1⟩
            obtain rfl : w = w1 := hw1.symm
            go_wp2_with fail
            refine (unhide CT _ (unhide HT) (unhide HM)).mono ?_
            rintro e w1 ⟨rfl, hb⟩
            go_wp2
            go_ret
            exact ⟨rfl, hb⟩
      | false =>
        have HE := hide hen
        have hen' := hen
        unfold enB at hen'
        rw [Bool.or_eq_false_iff, Bool.or_eq_false_iff] at hen'
        obtain ⟨a1, a2, a3⟩ := hen'
        have n47 : ((dgt n.data.toList k : Int) == 47) = false := bneI (by have := of_decide_eq_false a1; omega)
        have n62 : ((dgt n.data.toList k : Int) == 62) = false := bneI (by have := of_decide_eq_false a2; omega)
        rw [a3] at CS
        generalize hbb : dgt n.data.toList k = b at *
        have HBB := hide hbb
        clear hen a1 a2 a3 hbb
        go_wp2_with fail
        refine (unhide CS _).mono ?_
        rintro e w1 ⟨rfl, hw1⟩
        obtain rfl : w = w1 := hw1.symm
        go_wp2
        go_roundw
        case rel => exact ⟨k + 1, by omega, by go_num, fun j hj => by
          by_cases e : j = k
          · subst e; rw [unhide HBB]; exact unhide HE
          · exact unhide HN j (by omega), by first | exact rfl | trivial⟩
        case measure => simp [intOf]; omega
    · have hkn : k = n.size := by omega
      subst hkn
      have hpi : ¬ (n.size : Int) < (n.size : Int) := by omega
      clear hp
      cases title with
      | true =>
        have R := unhide RN 1 (Or.inl rfl) (unhide HN)
        have C := hide (unhide CN 1)
        generalize nextT s n 1 false 0 = r at *
        obtain ⟨⟨tk, tn, ta, tf, tx⟩, E⟩ := r
        have HR := hide R
        clear R CN RN
        go_wp2_with fail
        refine calls_from (fun W => Below w.heap.size w W) ((Below.refl _ _).alloc (Nat.le_refl _) _) ?_
        intro W hb
        refine (unhide C _ ((unhide HT).below hb) ((unhide HM).below hb)).mono ?_
        rintro e W2 ⟨q, cap, rfl, hsl, hb'⟩
        replace hb := tr2 hb hb'
        clear hsl hb'
        have hbz := hb.alloc hb.size (Obj.cells #[.int .i64 tk, .string tn, .slice q ta.length cap, .bool tf, .string tx] 27)
        have C2 := hide (unhide CT _ ((unhide HT).below hbz) ((unhide HM).below hbz))
        rcases unhide HR with ⟨r1, r2, r3⟩ | ⟨r1, r2⟩ | ⟨r1, r2, r3⟩
        · have q1 : tk = 2 := r1
          have q2 : tn = n := r2
          have q3 := not_empty n (by omega)
          have q4 := not_bare n (by omega)
          subst q1 q2
          have q5 := beq_yes (rfl : tn = tn)
          clear r1 r2 r3 HR C
          go_wp2_with fail
          refine (unhide C2).mono ?_
          rintro e W3 ⟨rfl, hb3⟩
          go_wp2
          go_ret
          exact ⟨rfl, tr2 hbz hb3⟩
        · have q1 : tk = 0 := r1
          have q2 : E = s.size := r2
          have q3 : ((E : Int) == (s.size : Int)) = true := by rw [q2]; simp
          subst q1
          clear r1 r2 HR C q2
          go_wp2_with fail
          refine (unhide C2).mono ?_
          rintro e W3 ⟨rfl, hb3⟩
          go_wp2
          go_ret
          exact ⟨rfl, tr2 hbz hb3⟩
        · have q1 : tk = 3 := r1
          have q2 : (E : Int) ≤ (s.size : Int) := by have : E ≤ s.size := r2; omega
          subst q1
          have hk0 : KeepT w W2.heap.size 3 tx (W2.alloc (Obj.cells #[.int .i64 3, .string tn, .slice q ta.length cap, .bool tf, .string tx] 27)).drew := KeepT.below ⟨(unhide HT).below hbz, (unhide HM).below hbz, World.cell?_alloc_at _ _ _ _ rfl, World.cell?_alloc_at _ _ _ _ rfl, hbz⟩ (Below.drew (Below.refl _ _))
          have HK0 := hide hk0
          have KT := hide (fun W h => tags_keep (w0 := w) (g := W2.heap.size) (k := 3) (x := tx) W h)
          clear r1 r2 r3 HR C C2 CT hbz hb hk0 HT HM
          go_wp2_with fail
          refine wp_region_any (by kernel_rfl) ?_
          change wpAny _ _ _ _ _ _ _ (World.drew _)
          refine wpAny_take (i := 0) (v := ?v0) rfl (by kernel_rfl) (by kernel_rfl) (by kernel_rfl) (fun _ _ _ h => h) (Or.inl ⟨by kernel_rfl, ?h0⟩) ?r0
          case h0 => first | (intro w; go_simp; done) | (intro w; go_simp; with_reducible rfl)
          refine wpAny_ready (rs := [1]) (by kernel_rfl) (by simp) ?_
          refine AllReady.cons rfl (fun K hK => ?_) AllReady.nil
          go_simp
          refine hK _ _ ?_
          clear hK K
          refine wpAny_take (i := 2) (v := ?v2) rfl (by kernel_rfl) (by kernel_rfl) (by kernel_rfl) (fun _ _ _ h => h) (Or.inl ⟨by kernel_rfl, ?h2⟩) ?r2
          case h2 => first | (intro w; go_simp; done) | (intro w; go_simp; with_reducible rfl)
          refine wpAny_take (i := 3) (v := ?v3) rfl (by kernel_rfl) (by kernel_rfl) (by kernel_rfl) (fun _ _ _ h => h) (Or.inl ⟨by kernel_rfl, ?h3⟩) ?r3
          case h3 => first | (intro w; go_simp; done) | (intro w; go_simp; with_reducible rfl)
          refine wpAny_take (i := 4) (v := ?v4) rfl (by kernel_rfl) (by kernel_rfl) (by kernel_rfl) (fun _ _ _ h => h) (Or.inl ⟨by kernel_rfl, ?h4⟩) ?r4
          case h4 => first | (intro w; go_simp; done) | (intro w; go_simp; with_reducible rfl)
          refine wpAny_take (i := 5) (v := ?v5) rfl (by kernel_rfl) (by kernel_rfl) (by kernel_rfl) (fun _ _ _ h => h) (Or.inl ⟨by kernel_rfl, ?h5⟩) ?r5
          case h5 => first | (intro w; go_simp; done) | (intro w; go_simp; with_reducible rfl)
          refine wpAny_take (i := 6) (v := undef) rfl (by kernel_rfl) (by kernel_rfl) (by kernel_rfl) (fun _ _ _ h => h) (Or.inr ⟨by kernel_rfl, rfl⟩) ?_
          refine wpAny_take (i := 7) (v := undef) rfl (by kernel_rfl) (by kernel_rfl) (by kernel_rfl) (fun _ _ _ h => h) (Or.inr ⟨by kernel_rfl, rfl⟩) ?_
          refine wpAny_take (i := 8) (v := undef) rfl (by kernel_rfl) (by kernel_rfl) (by kernel_rfl) (fun _ _ _ h => h) (Or.inr ⟨by kernel_rfl, rfl⟩) ?_
          refine wpAny_take (i := 9) (v := undef) rfl (by kernel_rfl) (by kernel_rfl) (by kernel_rfl) (fun _ _ _ h => h) (Or.inr ⟨by kernel_rfl, rfl⟩) ?_
          refine wpAny_take (i := 10) (v := undef) rfl (by kernel_rfl) (by kernel_rfl) (by kernel_rfl) (fun _ _ _ h => h) (Or.inr ⟨by kernel_rfl, rfl⟩) ?_
          refine wpAny_take (i := 11) (v := undef) rfl (by kernel_rfl) (by kernel_rfl) (by kernel_rfl) (fun _ _ _ h => h) (Or.inr ⟨by kernel_rfl, rfl⟩) ?_
          refine wpAny_take (i := 12) (v := ?v12) rfl (by kernel_rfl) (by kernel_rfl) (by kernel_rfl) (fun _ _ _ h => h) (Or.inl ⟨by kernel_rfl, ?h12⟩) ?r12
          case h12 => first | (intro w; go_simp; done) | (intro w; go_simp; with_reducible rfl)
          refine wpAny_take (i := 13) (v := ?v13) rfl (by kernel_rfl) (by kernel_rfl) (by kernel_rfl) (fun _ _ _ h => h) (Or.inl ⟨by kernel_rfl, ?h13⟩) ?r13
          case h13 => first | (intro w; go_simp; done) | (intro w; go_simp; with_reducible rfl)
          refine wpAny_take (i := 14) (v := ?v14) rfl (by kernel_rfl) (by kernel_rfl) (by kernel_rfl) (fun _ _ _ h => h) (Or.inl ⟨by kernel_rfl, ?h14⟩) ?r14
          case h14 => first | (intro w; go_simp; done) | (intro w; go_simp; with_reducible rfl)
          refine wpAny_ready (rs := [15]) (by kernel_rfl) (by simp) ?_
          refine AllReady.cons rfl (fun K hK => ?_) AllReady.nil
          go_simp
          refine (unhide KT _ (unhide HK0)).mono ?_
          rintro e3 W3 ⟨rfl, hk1⟩
          refine hK _ _ ?_
          clear hK K
          refine wpAny_take (i := 16) (v := ?v16) rfl (by kernel_rfl) (by kernel_rfl) (by kernel_rfl) (fun _ _ _ h => h) (Or.inl ⟨by kernel_rfl, ?h16⟩) ?r16
          case h16 => first | (intro w; go_simp; done) | (intro w; go_simp; with_reducible rfl)
          refine wpAny_take (i := 17) (v := ?v17) rfl (by kernel_rfl) (by kernel_rfl) (by kernel_rfl) (fun _ _ _ h => h) (Or.inl ⟨by kernel_rfl, ?h17⟩) ?r17
          case h17 => first | (intro w; go_simp; done) | (intro w; go_simp; with_reducible rfl)
          refine wpAny_done (by kernel_rfl) ?_ _
          go_wp2
          go_ret
          exact ⟨rfl, hk1.2.2.2.2⟩
      | false =>
        have R := unhide RN 2 (Or.inr rfl) (unhide HN)
        have C := hide (unhide CN 2)
        generalize nextT s n 2 false 0 = r at *
        obtain ⟨⟨tk, tn, ta, tf, tx⟩, E⟩ := r
        have HR := hide R
        clear R CN RN
        go_wp2_with fail
        refine calls_from (fun W => Below w.heap.size w W) ((Below.refl _ _).alloc (Nat.le_refl _) _) ?_
        intro W hb
        refine (unhide C _ ((unhide HT).below hb) ((unhide HM).below hb)).mono ?_
        rintro e W2 ⟨q, cap, rfl, hsl, hb'⟩
        replace hb := tr2 hb hb'
        clear hsl hb'
        have hbz := hb.alloc hb.size (Obj.cells #[.int .i64 tk, .string tn, .slice q ta.length cap, .bool tf, .string tx] 27)
        have C2 := hide (unhide CT _ ((unhide HT).below hbz) ((unhide HM).below hbz))
        rcases unhide HR with ⟨r1, r2, r3⟩ | ⟨r1, r2⟩ | ⟨r1, r2, r3⟩
        · have q1 : tk = 2 := r1
          have q2 : tn = n := r2
          have q3 := not_empty n (by omega)
          have q4 := not_bare n (by omega)
          subst q1 q2
          have q5 := beq_yes (rfl : tn = tn)
          clear r1 r2 r3 HR C
          go_wp2_with fail
          refine (unhide C2).mono ?_
          rintro e W3 ⟨rfl, hb3⟩
          go_wp2
          go_ret
          exact ⟨rfl, tr2 hbz hb3⟩
        · have q1 : tk = 0 := r1
          have q2 : E = s.size := r2
          have q3 : ((E : Int) == (s.size : Int)) = true := by rw [q2]; simp
          subst q1
          clear r1 r2 HR C q2
          go_wp2_with fail
          refine (unhide C2).mono ?_
          rintro e W3 ⟨rfl, hb3⟩
          go_wp2
          go_ret
          exact ⟨rfl, tr2 hbz hb3⟩
        · have q1 : tk = 3 := r1
          have q2 : (E : Int) ≤ (s.size : Int) := by have : E ≤ s.size := r2; omega
          have q3 : tx = s.extract 0 E := r3 (by trivial)
          have q4 := beq_yes q3
          clear q3
          subst q1
          have hk0 : KeepT w W2.heap.size 3 tx (W2.alloc (Obj.cells #[.int .i64 3, .string tn, .slice q ta.length cap, .bool tf, .string tx] 27)).drew := KeepT.below ⟨(unhide HT).below hbz, (unhide HM).below hbz, World.cell?_alloc_at _ _ _ _ rfl, World.cell?_alloc_at _ _ _ _ rfl, hbz⟩ (Below.drew (Below.refl _ _))
          have HK0 := hide hk0
          have KT := hide (fun W h => tags_keep (w0 := w) (g := W2.heap.size) (k := 3) (x := tx) W h)
          clear r1 r2 r3 HR C C2 CT hbz hb hk0 HT HM
          go_wp2_with fail
          go_region_held3 (fun w' => w'.cell? ⟨W2.heap.size, 0, none⟩ = some (.int .i64 3) ∧ w'.cell? ⟨W2.heap.size, 4, none⟩ = some (.string tx) ∧ KeepT w W2.heap.size 3 tx w')
            (first | exact (unhide HK0).both | exact hk1.both)
            (first
            | (go_at_call 7; refine (unhide KT _ (unhide HK0)).mono ?_; rintro e3 W3 ⟨rfl, hk1⟩))
          go_wp2
          go_ret
          exact ⟨rfl, hk1.2.2.2.2⟩
theorem raw_walk (s n : ByteArray) (title : Bool) (w : World) (ht : Tab4 w) (hm : Mx w) :
    Calls Tryd.prog 5 #[.string s, .bool title, .string n] w fun e w' => e = .returned (.bool true) ∧ Below w.heap.size w w' := by
  by_cases h : s.size ≤ 2000 ∧ n.size ≤ 2000
  · exact raw_main s n title w ht hm h.1 h.2
  · exact raw_long s n title w ht hm h
end Go.Proofs.YtakjlolmmoladaaDoor
