/-
  Several texts in one: what the functions of the program and of the document's answer do.
-/
import Derived.Test.YtfdhmhdemfbfeaaGreatDoorWOn
import Derived.Test.YtfdhmhdemfbfeaaGreatDoorDLo

/-
  Plain facts on policies: what the reference counts is what the program finds.
-/
namespace Go.Proofs.YtfdhmhdemfbfeaaGreatDoor
open Go.RowKit
set_option linter.unusedVariables false
set_option linter.unusedSimpArgs false

theorem same_iff (a b : ByteArray) : sameS a b = true ↔ a = b := by
  unfold sameS
  rw [beq_iff_eq]
  exact toList_eq
theorem isIn_iff (x : ByteArray) (zs : List ByteArray) : isIn x zs = true ↔ x ∈ zs := Lib.containsS_iff zs x
theorem cnt_pos {zs : List ByteArray} {x : ByteArray} {k : Nat} (h : 1 ≤ cntK zs x k) : x ∈ zs.take k := by
  unfold cntK at h
  obtain ⟨y, hy⟩ := List.exists_mem_of_length_pos (l := (zs.take k).filter fun y => sameS y x) (by omega)
  rw [List.mem_filter] at hy
  rw [← (same_iff y x).1 hy.2]
  exact hy.1
theorem cnt_mem {zs : List ByteArray} {x : ByteArray} {k : Nat} (h : x ∈ zs.take k) : 1 ≤ cntK zs x k := by
  unfold cntK
  have : x ∈ (zs.take k).filter fun y => sameS y x := List.mem_filter.2 ⟨h, (same_iff x x).2 rfl⟩
  exact List.length_pos_of_mem this
theorem cnt_one {zs : List ByteArray} (h : twB zs = false) (x : ByteArray) : ∀ k, k ≤ zs.length → cntK zs x k ≤ 1
  | 0, _ => by simp [cntK]
  | k + 1, hk => by
    have ih := cnt_one h x k (by omega)
    cases hs : sameS (zs.getD k ByteArray.empty) x with
    | false => rw [cntK_no (by omega) hs]; exact ih
    | true =>
      rw [cntK_yes (by omega) hs]
      rcases Nat.lt_or_ge (cntK zs x k) 1 with h1 | h1
      · omega
      · exfalso
        have hm := cnt_pos h1
        rw [← (same_iff _ _).1 hs] at hm
        have := tw_yes (zs := zs) (k := k) (by omega) ((isIn_iff _ _).2 hm)
        rw [h] at this; cases this
theorem cnt_mono (zs : List ByteArray) (x : ByteArray) (k : Nat) (hk : k < zs.length) : cntK zs x k ≤ cntK zs x (k + 1) := by
  cases hs : sameS (zs.getD k ByteArray.empty) x with
  | false => rw [cntK_no hk hs]; exact Nat.le_refl _
  | true => rw [cntK_yes hk hs]; omega
theorem cnt_up (zs : List ByteArray) (x : ByteArray) (k : Nat) : ∀ n, k + n ≤ zs.length → cntK zs x k ≤ cntK zs x (k + n)
  | 0, _ => Nat.le_refl _
  | n + 1, h => by
    have := cnt_up zs x k n (by omega)
    have h2 := cnt_mono zs x (k + n) (by omega)
    rw [show k + (n + 1) = k + n + 1 by omega]; omega
theorem tw_dup (zs : List ByteArray) : dupB zs = twB zs := by
  cases h : twB zs with
  | false =>
    refine dup_no (fun j hj => ?_)
    exact cnt_one h _ _ (Nat.le_refl _)
  | true =>
    rw [twB, List.any_eq_true] at h
    obtain ⟨i, hi, hx⟩ := h
    have hil := List.mem_range.1 hi
    refine dup_yes hil ?_
    have h1 := cnt_mem ((isIn_iff _ _).1 hx)
    have h2 := cntK_yes hil ((same_iff (zs.getD i ByteArray.empty) _).2 rfl)
    have h3 := cnt_up zs (zs.getD i ByteArray.empty) (i + 1) (zs.length - (i + 1)) (by omega)
    rw [show i + 1 + (zs.length - (i + 1)) = zs.length by omega] at h3
    omega
theorem eK_all (zs : List ByteArray) : eK zs zs.length = if zs.all isN = true then 0 else 4 := by
  unfold eK; rw [List.take_length]
theorem keep_is (nm : ByteArray) : rkeepB nm = (!badG (ofN nm.toList) && !imgB nm) := by
  unfold rkeepB badG
  generalize ofN nm.toList = g
  cases imgB nm with
  | true => simp
  | false =>
    by_cases h : g = 15 ∨ g = 13 ∨ g = 14 ∨ g = 16 ∨ g = 1 ∨ g = 17
    · rw [decide_eq_true h]
      by_cases h1 : g = 1
      · rw [decide_eq_false (by simpa using h1)]; simp
      · rw [decide_eq_false (show ¬ (g < 13 ∨ 17 < g) by omega)]; simp
    · rw [decide_eq_false h, decide_eq_true (show ¬ g = 1 by omega), decide_eq_true (show g < 13 ∨ 17 < g by omega)]; simp
/-- A rule that is right but for names that stand twice. -/
def soundR (r : PRul) : Bool := nmsB r && (actB r && kepB r)
theorem one_is (r : PRul) : oneR r = if onceB r = false then 8 else if soundR r = true then 0 else 4 := by
  unfold oneR onceB
  rw [tw_dup, eK_all]
  cases twB (r.ats ++ r.lks) with
  | true => simp
  | false =>
    rw [if_neg (by decide : ¬ (false = true)), if_neg (by decide : ¬ ((!false) = false))]
    unfold soundR badB nmsB actB kepB remB
    rw [keep_is, List.all_append]
    generalize isN r.nm = d1
    generalize r.ats.all isN = d2
    generalize r.lks.all isN = d3
    generalize badG (ofN r.nm.toList) = d4
    generalize imgB r.nm = d5
    by_cases h1 : r.ac = 1
    · rw [h1]; cases d1 <;> cases d2 <;> cases d3 <;> cases d4 <;> cases d5 <;> rfl
    · by_cases h2 : r.ac = 2
      · rw [h2]; cases d1 <;> cases d2 <;> cases d3 <;> cases d4 <;> cases d5 <;> rfl
      · by_cases h3 : r.ac = 3
        · rw [h3]; cases d1 <;> cases d2 <;> cases d3 <;> cases d4 <;> cases d5 <;> rfl
        · have hb : (decide (r.ac < 1) || (decide (3 < r.ac) || (decide (r.ac = 1) && !(!d4 && !d5)))) = true := by
            by_cases h4 : r.ac < 1
            · rw [decide_eq_true h4]; rfl
            · rw [decide_eq_true (show 3 < r.ac by omega)]; simp
          rw [hb, decide_eq_false h1, decide_eq_false (show ¬ (r.ac = 2 ∨ r.ac = 3) by omega)]
          simp

/-! ### the reference's Check, plainly -/

/-- Does an elder rule have this one's name? -/
def elB (rs : List PRul) (i : Nat) : Bool := isIn (rs.getD i noR).nm ((rs.map PRul.nm).take i)
def xAt (rs : List PRul) (i : Nat) : Int := if elB rs i = true then 8 else oneR (rs.getD i noR)
def eAt (rs : List PRul) : Nat → Int
  | 0 => 0
  | k + 1 => if eAt rs k < xAt rs k then xAt rs k else eAt rs k
def x8 (rs : List PRul) (i : Nat) : Bool := elB rs i || !onceB (rs.getD i noR)
theorem xAt_is (rs : List PRul) (i : Nat) : xAt rs i = if x8 rs i = true then 8 else if soundR (rs.getD i noR) = true then 0 else 4 := by
  unfold xAt x8
  rw [one_is]
  cases elB rs i <;> cases onceB (rs.getD i noR) <;> simp
theorem eAt_is (rs : List PRul) : ∀ k, eAt rs k = if (List.range k).any (x8 rs) = true then 8 else if (List.range k).all (fun i => soundR (rs.getD i noR)) = true then 0 else 4
  | 0 => rfl
  | k + 1 => by
    rw [eAt, eAt_is rs k, xAt_is, List.range_succ, List.any_append, List.all_append]
    simp only [List.any_cons, List.any_nil, Bool.or_false, List.all_cons, List.all_nil, Bool.and_true]
    generalize (List.range k).any (x8 rs) = a
    generalize ((List.range k).all fun i => soundR (rs.getD i noR)) = b
    generalize x8 rs k = c
    generalize soundR (rs.getD k noR) = d
    cases a <;> cases b <;> cases c <;> cases d <;> decide
theorem range_all {P : PRul → Bool} (rs : List PRul) : ((List.range rs.length).all fun i => P (rs.getD i noR)) = rs.all P := by
  cases h : rs.all P with
  | true =>
    rw [List.all_eq_true] at h ⊢
    intro i hi
    exact h _ (getD_in _ _ _ (List.mem_range.1 hi))
  | false =>
    rw [List.all_eq_false] at h ⊢
    obtain ⟨x, hx, hp⟩ := h
    obtain ⟨j, hj, e⟩ := List.getElem_of_mem hx
    refine ⟨j, List.mem_range.2 hj, ?_⟩
    rw [List.getD, List.getElem?_eq_getElem hj]
    show ¬ P rs[j] = true
    rw [e]; exact hp
theorem x8_any (rs : List PRul) : (List.range rs.length).any (x8 rs) = (twB (rs.map PRul.nm) || !rs.all onceB) := by
  have h1 : (List.range rs.length).any (x8 rs) = ((List.range rs.length).any (elB rs) || (List.range rs.length).any (fun i => !onceB (rs.getD i noR))) := by
    generalize List.range rs.length = l
    induction l with
    | nil => rfl
    | cons i l ih =>
      simp only [List.any_cons, ih, x8]
      cases elB rs i <;> cases onceB (rs.getD i noR) <;> cases l.any (elB rs) <;> simp
  have h2 : (List.range rs.length).any (elB rs) = twB (rs.map PRul.nm) := by
    unfold twB
    rw [List.length_map]
    have : ∀ l : List Nat, (∀ i ∈ l, i < rs.length) → l.any (elB rs) = l.any fun i => isIn ((rs.map PRul.nm).getD i ByteArray.empty) ((rs.map PRul.nm).take i) := by
      intro l
      induction l with
      | nil => intro _; rfl
      | cons i l ih =>
        intro h
        have hi := h i (by simp)
        rw [List.any_cons, List.any_cons, ih (fun j hj => h j (by simp [hj]))]
        have e : (rs.map PRul.nm).getD i ByteArray.empty = (rs.getD i noR).nm := by
          rw [List.getD, List.getElem?_map, List.getD, List.getElem?_eq_getElem hi]; rfl
        rw [e]; rfl
    exact this _ (fun i hi => List.mem_range.1 hi)
  have h3 : (List.range rs.length).any (fun i => !onceB (rs.getD i noR)) = !rs.all onceB := by
    rw [← range_all rs]
    generalize List.range rs.length = l
    induction l with
    | nil => rfl
    | cons i l ih => rw [List.any_cons, ih, List.all_cons]; cases onceB (rs.getD i noR) <;> simp
  rw [h1, h2, h3]
/-- What the reference's Check answers. -/
def chkR (p : PPol) : Int := if longB p = true then 2 else if eAt p.rs p.rs.length = 8 then 8 else if (remB p.ot && remB p.st) = false then 4 else if p.sc.all smlB = false then 4 else eAt p.rs p.rs.length
theorem all_sound (rs : List PRul) : rs.all soundR = (rs.all nmsB && (rs.all actB && rs.all kepB)) := by
  induction rs with
  | nil => rfl
  | cons r t ih =>
    simp only [List.all_cons, ih, soundR]
    cases nmsB r <;> cases actB r <;> cases kepB r <;> simp
theorem chk_is (p : PPol) : chkR p = chkP p := by
  unfold chkR chkP longB
  rw [eAt_is, x8_any, range_all (P := soundR), all_sound]
  cases shB p with
  | false => rfl
  | true =>
    generalize twB (p.rs.map PRul.nm) = a
    generalize p.rs.all onceB = b
    generalize p.rs.all nmsB = c
    generalize p.rs.all actB = d
    generalize p.rs.all kepB = e
    generalize (remB p.ot && remB p.st) = f
    generalize p.sc.all smlB = g
    cases a <;> cases b <;> cases c <;> cases d <;> cases e <;> cases f <;> cases g <;> decide
end Go.Proofs.YtfdhmhdemfbfeaaGreatDoor

/-
  The reference's Lower of layer 3, of whatever text.
-/
namespace Go.Proofs.YtfdhmhdemfbfeaaGreatDoor
open Go.RowKit
set_option linter.unusedVariables false

set_option maxHeartbeats 400000 in
theorem rlower_long (s : ByteArray) (w : World) (hs : s.size ≤ 9223372036854775807) :
    Calls Tryz.prog 22 #[.string s] w fun e w' => e = .returned (.string (bs (lowL s.data.toList))) ∧ Below w.heap.size w w' := by
  go_enter Tryz.func22, Tryz.ntmps22
  go_wp2
  go_loopw [3, 4] (fun o i wr => ∃ k : Nat, k ≤ s.size ∧ i = .int .i64 k ∧ o = .string (bs (lowK s.data.toList k)) ∧ Below w.heap.size w wr) (fun _ i _ => s.size - (intOf i).toNat)
  case atStart => exact ⟨0, Nat.zero_le _, rfl, rfl, Below.refl _ _⟩
  case round =>
    obtain ⟨k, hk, rfl, rfl, hbw⟩ := hrel
    have hsz := lowK_len s.data.toList k (by rw [data_len]; exact hk)
    rw [← bs_size] at hsz
    by_cases hp : k < s.size
    · have hpi : (k : Int) < (s.size : Int) := by omega
      have hkl : k < s.data.toList.length := by rw [data_len]; exact hp
      have e := dgt_at s k hp
      have hst := lowK_step s.data.toList k hkl
      have hone := one_at s k hp
      have hone' := congrArg ByteArray.size hone
      rw [bs_size] at hone'
      have hblt := dgt_lt s.data.toList k
      have hlN := @lowN_up (dgt s.data.toList k)
      have hlO := @lowN_no (dgt s.data.toList k)
      generalize dgt s.data.toList k = b at *
      generalize hx : bs (lowK s.data.toList k) = x at *
      have hcat : (x.size : Int) + 1 ≤ 9223372036854775807 := by omega
      have hcat2 : ¬ 9223372036854775807 < x.size + 1 := by omega
      cases hb : upN b with
      | true =>
        have hup := upN_true hb
        have i0 : (65 : Int) ≤ (b : Int) := by omega
        have i1 : (b : Int) ≤ 90 := by omega
        rw [hlN hb] at hst
        have HS := hide hst
        have HX := hide hx
        have hcv : Sem.run Tryz.prog (convert 79 9 (Value.slice (some { block := wr.heap.size, off := 0 }) 1 1)) (wr.alloc (Obj.cells #[.int .u8 ((b : Int) + 32)] 5)) = .ok (.string (str [(b : Int) + 32])) (wr.alloc (Obj.cells #[.int .u8 ((b : Int) + 32)] 5)) := convL wr wr.heap.size [(b : Int) + 32] rfl
        have hq : (str [(b : Int) + 32]).size = 1 := str_size _
        clear hst hlN hlO hb hone hone' hx
        go_wp2
        go_roundw
        case rel => exact ⟨k + 1, by omega, by go_num, by rw [unhide HS, ← unhide HX, str_bs, bs_bs]; rfl, by first | exact hbw | exact hbw.alloc hbw.size _ | exact (hbw.alloc hbw.size _).drew | exact _root_.Go.below_drewN hbw _⟩
        case measure => simp [intOf]; omega
      | false =>
        have hup := upN_false hb
        rw [hlO hb] at hst
        have HS := hide hst
        have HX := hide hx
        have HO := hide hone
        clear hst hlN hlO hone hx
        by_cases h65 : 65 ≤ b
        · have i0 : (65 : Int) ≤ (b : Int) := by omega
          have i1 : decide ((b : Int) ≤ 90) = false := by simp; omega
          clear hup hb
          go_wp2
          go_roundw
          case rel => exact ⟨k + 1, by omega, by go_num, by rw [unhide HS, ← unhide HX, unhide HO, bs_bs], by first | exact hbw | exact hbw.alloc hbw.size _ | exact (hbw.alloc hbw.size _).drew | exact _root_.Go.below_drewN hbw _⟩
          case measure => simp [intOf]; omega
        · have i0 : decide ((65 : Int) ≤ (b : Int)) = false := by simp; omega
          clear hup hb h65
          go_wp2
          go_roundw
          case rel => exact ⟨k + 1, by omega, by go_num, by rw [unhide HS, ← unhide HX, unhide HO, bs_bs], by first | exact hbw | exact hbw.alloc hbw.size _ | exact (hbw.alloc hbw.size _).drew | exact _root_.Go.below_drewN hbw _⟩
          case measure => simp [intOf]; omega
    · have he : lowK s.data.toList k = lowL s.data.toList := by rw [lowK, List.take_of_length_le (by rw [data_len]; omega)]
      have HE := hide he
      clear he
      go_wp2
      go_ret
      exact ⟨by rw [unhide HE]; rfl, hbw⟩
end Go.Proofs.YtfdhmhdemfbfeaaGreatDoor
