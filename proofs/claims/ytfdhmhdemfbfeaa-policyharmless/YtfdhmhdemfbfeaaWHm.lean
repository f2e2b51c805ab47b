/-
  'rectolaw16.leafless', 'harmless' and 'PolicyHarmless' (made by mk_lwh.py).
-/
import Derived.Test.YtfdhmhdemfbfeaaWWd
import Derived.Test.YtfdhmhdemfbfeaaWSc
import Derived.Test.YtfdhmhdemfbfeaaWEq
namespace Go.Proofs.Ytfdhmhdemfbfeaa
open Go.RowKit
set_option linter.unusedVariables false
set_option linter.unusedSimpArgs false

def eqL (x : ByteArray) (l : List UInt8) : Bool := x.toList == l
/-- Does an address lead to a script? -/
def badL (xn xv : ByteArray) : Bool := (eqL xn [104, 114, 101, 102] || eqL xn [115, 114, 99]) && (decide (0 < schN (plL xv.data.toList)) && (!eqL (bs (sSc (plL xv.data.toList))) [104, 116, 116, 112] && (!eqL (bs (sSc (plL xv.data.toList))) [104, 116, 116, 112, 115] && !eqL (bs (sSc (plL xv.data.toList))) [109, 97, 105, 108, 116, 111])))
def onB (xn : ByteArray) : Bool := decide (1 < xn.size) && eqL (xn.extract 0 2) [111, 110]
def atB (x : ByteArray × ByteArray) : Bool := !badL x.1 x.2 && !onB x.1
def nodB (k sp : Int) (n : ByteArray) : Bool := decide (k = 1) && (!decide (sp = 0) || (eqL n [115, 99, 114, 105, 112, 116] || eqL n [115, 116, 121, 108, 101]))
def hmF : Forest → Bool
  | .nil => true
  | .cons k sp n ats tx kids rest => !nodB k sp n && (ats.all atB && (hmF kids && hmF rest))
def lfF : Forest → Bool
  | .nil => false
  | .cons k sp n ats tx kids rest => (!decide (k = 1) && (decide (0 < ats.length) || decide (0 < kids.len))) || (lfF kids || lfF rest)

/-! ### plainly -/
theorem find_mem (ot : Int) (nm : ByteArray) : ∀ rs : List PRul, findR ot nm rs = bareR ot ∨ (findR ot nm rs ∈ rs ∧ sameS (findR ot nm rs).nm nm = true)
  | [] => Or.inl rfl
  | r :: t => by
    cases h : sameS r.nm nm with
    | true =>
      have e : findR ot nm (r :: t) = r := by rw [findR, h]; rfl
      right; rw [e]; exact ⟨List.mem_cons_self .., h⟩
    | false =>
      have e : findR ot nm (r :: t) = findR ot nm t := by rw [findR, h]; rfl
      rw [e]
      rcases find_mem ot nm t with h1 | ⟨h1, h2⟩
      · exact Or.inl h1
      · exact Or.inr ⟨List.mem_cons_of_mem _ h1, h2⟩
def onD (l : List UInt8) : Bool := decide (1 < l.length) && (l.take 2 == [111, 110])
def okRule (r : PRul) : Bool := !decide (r.ac = 1) || ((!(r.nm.data.toList == [115, 99, 114, 105, 112, 116]) && !(r.nm.data.toList == [115, 116, 121, 108, 101])) && (r.ats.all (fun x => (!(x.data.toList == [104, 114, 101, 102]) && !(x.data.toList == [115, 114, 99])) && !onD x.data.toList) && r.lks.all (fun x => !onD x.data.toList)))
theorem plain_rules : plainP.rs.all okRule = true := by kernel_rfl
theorem eqL_is (x : ByteArray) (l : List UInt8) : eqL x l = (x.data.toList == l) := by unfold eqL; rw [Lib.toList_data]
theorem onB_is (x : ByteArray) : onB x = onD x.data.toList := by
  unfold onB onD
  rw [eqL_is, show (2 : Nat) = 0 + 2 from rfl, extract_take, data_len, bs_toList, List.drop_zero]
theorem eqL_yes {x : ByteArray} {l : List UInt8} (h : x = bs l) : eqL x l = true := by rw [eqL_is, h, bs_toList]; simp
theorem plain_attr {n : ByteArray} (ha : (findR 2 n plainP.rs).ac = 1) : (eqL n [115, 99, 114, 105, 112, 116] = false ∧ eqL n [115, 116, 121, 108, 101] = false) ∧ ∀ x : ByteArray × ByteArray, stB plainP (findR 2 n plainP.rs) x.1 x.2 = true → atB x = true := by
  rcases find_mem 2 n plainP.rs with h | ⟨h1, h2⟩
  · rw [h] at ha; exact absurd ha (by decide)
  · have h3 := List.all_eq_true.1 plain_rules _ h1
    have h4 := (same_iff _ _).1 h2
    generalize findR 2 n plainP.rs = r at *
    unfold okRule at h3
    rw [decide_eq_true ha] at h3
    simp only [Bool.not_true, Bool.false_or, Bool.and_eq_true, List.all_eq_true, Bool.not_eq_true'] at h3
    obtain ⟨⟨g1, g2⟩, g3, g4⟩ := h3
    rw [h4] at g1 g2
    refine ⟨⟨by rw [eqL_is]; exact g1, by rw [eqL_is]; exact g2⟩, fun x hx => ?_⟩
    unfold stB at hx
    rw [decide_eq_true ha, Bool.true_and, Bool.or_eq_true, Bool.and_eq_true] at hx
    unfold atB badL
    rcases hx with h5 | ⟨h5, h6⟩
    · obtain ⟨⟨k1, k2⟩, k3⟩ := g3 _ ((isIn_iff _ _).1 h5)
      rw [eqL_is x.1 [104, 114, 101, 102], eqL_is x.1 [115, 114, 99], onB_is, k1, k2, k3]; rfl
    · have k3 := g4 _ ((isIn_iff _ _).1 h5)
      rw [onB_is, k3]
      unfold safeB at h6
      cases hs : decide (0 < schN (plL x.2.data.toList)) with
      | false => simp
      | true =>
        rw [hs, Bool.not_true, Bool.false_or] at h6
        have h7 := (isIn_iff _ _).1 h6
        have h8 : bs (sSc (plL x.2.data.toList)) = bs [104, 116, 116, 112] ∨ bs (sSc (plL x.2.data.toList)) = bs [104, 116, 116, 112, 115] ∨ bs (sSc (plL x.2.data.toList)) = bs [109, 97, 105, 108, 116, 111] := by
          have : plainP.sc = [bs [104, 116, 116, 112], bs [104, 116, 116, 112, 115], bs [109, 97, 105, 108, 116, 111]] := rfl
          rw [this] at h7
          simpa using h7
        rcases h8 with h8 | h8 | h8
        · rw [eqL_yes h8]; simp
        · rw [eqL_yes h8]; simp
        · rw [eqL_yes h8]; simp
def noRef (f : Forest) (e : Nat) : Prop := ∀ it ∈ items f e, refI plainP it = false
theorem harm_plain : ∀ (f : Forest) (e : Nat), noRef f e → lfF f = false → hmF f = true
  | .nil, e, _, _ => rfl
  | .cons k sp n ats tx kids rest, e, h, hlf => by
    have h0 := h ⟨k, sp, n, ats, tx, kids, e⟩ (List.mem_cons_self ..)
    have hk : noRef kids (e + 1) := fun it hi => h it (by show it ∈ _ :: (items kids (e + 1) ++ items rest e); simp [hi])
    have hr : noRef rest e := fun it hi => h it (by show it ∈ _ :: (items kids (e + 1) ++ items rest e); simp [hi])
    rw [lfF, Bool.or_eq_false_iff, Bool.or_eq_false_iff] at hlf
    obtain ⟨l1, l2, l3⟩ := hlf
    rw [hmF, harm_plain kids (e + 1) hk l2, harm_plain rest e hr l3]
    have h0' : refN plainP k sp n ats = false := h0
    unfold refN at h0'
    by_cases hk1 : k = 1
    · rw [if_pos hk1, Bool.or_eq_false_iff] at h0'
      obtain ⟨g1, g2⟩ := h0'
      have g1' : (rulOf plainP sp n).ac = 1 := by simpa using g1
      by_cases hsp : sp = 0
      · have e1 : rulOf plainP sp n = findR 2 n plainP.rs := by unfold rulOf; rw [if_pos hsp]; rfl
        rw [e1] at g1' g2
        obtain ⟨⟨s1, s2⟩, s3⟩ := plain_attr g1'
        have hn : nodB k sp n = false := by unfold nodB; rw [s1, s2, hsp]; simp
        have ha : ats.all atB = true := by
          rw [List.all_eq_true]
          intro x hx
          refine s3 x ?_
          have := List.any_eq_false.1 g2 x hx
          simpa using this
        rw [hn, ha]; rfl
      · have e1 : rulOf plainP sp n = bareR 3 := by unfold rulOf; rw [if_neg hsp]; rfl
        rw [e1] at g1'
        exact absurd g1' (by decide)
    · rw [decide_eq_false hk1] at l1
      have hal : ats = [] := by
        cases ats with
        | nil => rfl
        | cons a t => simp at l1
      have hn : nodB k sp n = false := by unfold nodB; rw [decide_eq_false hk1]; rfl
      rw [hn, hal]; rfl
theorem harm_is {f : Forest} (h : alwF plainP f = true) (hl : lfF f = false) : hmF f = true := by
  unfold alwF at h
  rw [Bool.and_eq_true] at h
  refine harm_plain f 1 (fun it hi => ?_) hl
  have := List.all_eq_true.1 h.2 it hi
  simpa using this
theorem item_depth : ∀ (f : Forest) (d e : Nat) (it : Item), it ∈ items f d → ∃ it', it' ∈ items f e ∧ (OkN it' → OkN it)
  | .nil, d, e, it, h => by cases h
  | .cons k sp n ats tx kids rest, d, e, it, h => by
    have h' : it ∈ (⟨k, sp, n, ats, tx, kids, d⟩ : Item) :: (items kids (d + 1) ++ items rest d) := h
    rcases List.mem_cons.1 h' with rfl | h2
    · exact ⟨⟨k, sp, n, ats, tx, kids, e⟩, List.mem_cons_self .., fun x => x⟩
    · rcases List.mem_append.1 h2 with h3 | h3
      · obtain ⟨it', g1, g2⟩ := item_depth kids (d + 1) (e + 1) it h3
        exact ⟨it', by show it' ∈ _ :: (items kids (e + 1) ++ items rest e); simp [g1], g2⟩
      · obtain ⟨it', g1, g2⟩ := item_depth rest d e it h3
        exact ⟨it', by show it' ∈ _ :: (items kids (e + 1) ++ items rest e); simp [g1], g2⟩
theorem all_depths {f : Forest} (h : ∀ it ∈ items f 1, OkN it) : ∀ e, ∀ it ∈ items f e, OkN it := fun e it hi => by
  obtain ⟨it', g1, g2⟩ := item_depth f e 1 it hi
  exact g2 (h it' g1)
theorem drop_ok {f : Forest} {j : Nat} {k sp : Int} {n : ByteArray} {ats : List (ByteArray × ByteArray)} {tx : ByteArray} {kids rest : Forest} (h : ∀ e, ∀ it ∈ items f e, OkN it) (hd : f.drop j = .cons k sp n ats tx kids rest) : (ats.length ≤ 40 ∧ n.size ≤ 100 ∧ tx.size ≤ 5000 ∧ ∀ x ∈ ats, x.1.size ≤ 100 ∧ x.2.size ≤ 2000) ∧ ∀ e, ∀ it ∈ items kids e, OkN it := by
  constructor
  · exact h 0 ⟨k, sp, n, ats, tx, kids, 0⟩ (drop_items j f 0 _ (by rw [hd]; exact List.mem_cons_self ..))
  · intro e it hi
    cases e with
    | zero =>
      obtain ⟨it', h1, h2⟩ : ∃ it', it' ∈ items kids 1 ∧ (OkN it' → OkN it) := item_depth kids 0 1 it hi
      exact h2 (h 0 it' (drop_items j f 0 _ (by rw [hd]; show it' ∈ _ :: (items kids 1 ++ items rest 0); simp [h1])))
    | succ e => exact h e it (drop_items j f e _ (by rw [hd]; show it ∈ _ :: (items kids (e + 1) ++ items rest e); simp [hi]))

/-! ### leafless -/
set_option maxHeartbeats 2000000 in
theorem leaf_none (q : Option Addr) (cap : Nat) (w : World) : Calls Try.prog 21 #[.slice q 0 cap] w fun e w' => e = .returned (.bool false) ∧ Below w.heap.size w w' := by
  go_enter Try.func21, Try.ntmps21
  go_wp2
  refine wp_loop_rounds 1 ?_
  rw [rounds_succ]; go_wp2
  go_ret
  exact ⟨rfl, Below.refl _ _⟩
set_option maxHeartbeats 4000000 in
theorem leaf_some (f : Forest) (g oo cap : Nat) (w : World) (hl : Lies f g oo w) (hc : f.count ≤ 1000000) (hok : ∀ e, ∀ it ∈ items f e, OkN it)
    (ih : ∀ j k sp n ats tx kids, f.drop j = .cons k sp n ats tx kids (f.drop (j + 1)) → ∀ q cap w, Fo q kids w → Calls Try.prog 21 #[.slice q kids.len cap] w fun e w' => e = .returned (.bool (lfF kids)) ∧ Below w.heap.size w w') :
    Calls Try.prog 21 #[.slice (some ⟨g, oo, none⟩) f.len cap] w fun e w' => e = .returned (.bool (lfF f)) ∧ Below w.heap.size w w' := by
  have HL := hide hl
  have IH := hide ih
  have HOK := hide hok
  have hlc := f.len_count
  clear hl ih hok
  go_enter Try.func21, Try.ntmps21
  go_wp2
  go_loopw [7] (fun b wr => ∃ j : Nat, j ≤ f.len ∧ b = .int .i64 j ∧ lfF (f.drop j) = lfF f ∧ Below w.heap.size w wr) (fun b _ => f.len - (intOf b).toNat)
  case atStart => exact ⟨0, Nat.zero_le _, rfl, by rw [Forest.drop_zero], Below.refl _ _⟩
  case round =>
    obtain ⟨j, hj, rfl, hsum, hbw⟩ := hrel
    by_cases hp : j < f.len
    · have hpi : (j : Int) < (f.len : Int) := by omega
      obtain ⟨k, sp, n, ats, tx, kids, hd⟩ := f.drop_cons j hp
      have hlj := (unhide HL).drop j
      have hlw := hlj.below hbw
      have hdo := drop_ok (unhide HOK) hd
      rw [hd] at hlw hsum
      obtain ⟨⟨c0, c1, c2, ⟨qa, ca, c3, hsl⟩, c4, ⟨qk, ck, c5, hck, hfo⟩⟩, _⟩ := hlw
      have CK := hide (fun w h => unhide IH j k sp n ats tx kids hd qk ck w h)
      have hbA := (Below.refl wr.heap.size wr).alloc (Nat.le_refl _) (Obj.cells #[.int .i64 k, .int .i64 sp, .string n, .slice qa ats.length ca, .string tx, .slice qk kids.len ck] 43)
      have HF := hide ((show Fo qk kids wr from hfo).below hbA)
      have HB := hide (tr2 hbw hbA)
      have HS : Hid (((!decide (k = 1) && (decide (0 < ats.length) || decide (0 < kids.len))) || (lfF kids || lfF (f.drop (j + 1)))) = lfF f) := hide hsum
      have hna := hdo.1.1
      have hkl : kids.len ≤ 1000000 := by
        have h1 := f.count_drop j
        rw [hd] at h1
        have := kids.len_count
        simp only [Forest.count] at h1; omega
      generalize ats.length = na at *
      generalize kids.len = nk at *
      generalize lfF kids = D at *
      clear hlj hsl hfo hd hsum hbA hbw hdo hck
      by_cases hk1 : k = 1
      · subst hk1
        cases D with
        | true =>
          go_wp2_with fail
          refine (unhide CK _ (unhide HF)).mono ?_
          rintro e w1 ⟨rfl, hb1⟩
          have HB1 := hide (tr2 (unhide HB) hb1)
          clear hb1 HF
          go_wp2
          go_ret
          exact ⟨by rw [← unhide HS]; simp, unhide HB1⟩
        | false =>
          go_wp2_with fail
          refine (unhide CK _ (unhide HF)).mono ?_
          rintro e w1 ⟨rfl, hb1⟩
          have HB1 := hide (tr2 (unhide HB) hb1)
          clear hb1 HF
          go_wp2
          go_roundw
          case rel => exact ⟨j + 1, by omega, by go_num, by rw [← unhide HS]; simp, unhide HB1⟩
          case measure => simp [intOf]; omega
      · have i1 : (k == 1) = false := beqI _ _ hk1
        have i2 : (k != 1) = true := bneI' _ _ hk1
        have HD := hide (decide_eq_false hk1)
        clear hk1
        by_cases ha : 0 < na
        · have ia : (0 : Int) < (na : Int) := by omega
          go_wp2
          go_ret
          exact ⟨by rw [← unhide HS, unhide HD, decide_eq_true ha]; simp, unhide HB⟩
        have hna0 : na = 0 := by omega
        subst hna0
        by_cases hb : 0 < nk
        · have ib : (0 : Int) < (nk : Int) := by omega
          go_wp2
          go_ret
          exact ⟨by rw [← unhide HS, unhide HD, decide_eq_true hb]; simp, unhide HB⟩
        have hnk0 : nk = 0 := by omega
        have HS2 : Hid ((D || lfF (f.drop (j + 1))) = lfF f) := hide (by rw [← unhide HS, unhide HD, decide_eq_false ha, decide_eq_false hb]; simp)
        subst hnk0
        clear HS HD ha hb
        cases D with
        | true =>
          go_wp2_with fail
          refine (unhide CK _ (unhide HF)).mono ?_
          rintro e w1 ⟨rfl, hb1⟩
          have HB1 := hide (tr2 (unhide HB) hb1)
          clear hb1 HF
          go_wp2
          go_ret
          exact ⟨by rw [← unhide HS2]; simp, unhide HB1⟩
        | false =>
          go_wp2_with fail
          refine (unhide CK _ (unhide HF)).mono ?_
          rintro e w1 ⟨rfl, hb1⟩
          have HB1 := hide (tr2 (unhide HB) hb1)
          clear hb1 HF
          go_wp2
          go_roundw
          case rel => exact ⟨j + 1, by omega, by go_num, by rw [← unhide HS2]; simp, unhide HB1⟩
          case measure => simp [intOf]; omega
    · have hpi : ¬ (j : Int) < (f.len : Int) := by omega
      rw [f.drop_out j (by omega)] at hsum
      have HS : Hid (false = lfF f) := hide hsum
      clear hp hsum
      go_wp2
      go_ret
      exact ⟨by rw [← unhide HS]; rfl, hbw⟩
theorem leaf_any : ∀ (m : Nat) (f : Forest), f.count ≤ m → m ≤ 1000000 → (∀ e, ∀ it ∈ items f e, OkN it) → ∀ (q : Option Addr) (cap : Nat) (w : World), Fo q f w → Calls Try.prog 21 #[.slice q f.len cap] w fun e w' => e = .returned (.bool (lfF f)) ∧ Below w.heap.size w w'
  | m, f, hm, hM, hok, q, cap, w, h => by
    rcases h with rfl | ⟨g, o, rfl, hl⟩
    · exact leaf_none q cap w
    · refine leaf_some f g o cap w hl (by omega) hok (fun j k sp n ats tx kids hd q cap w hf => ?_)
      have h1 : (f.drop j).count ≤ f.count := f.count_drop j
      rw [hd] at h1
      have h2 : 1 + kids.count + (f.drop (j + 1)).count ≤ f.count := h1
      match m, hm with
      | 0, hm => omega
      | m + 1, hm => exact leaf_any m kids (by omega) (by omega) (drop_ok hok hd).2 q cap w hf

/-! ### harmless -/
set_option maxHeartbeats 2000000 in
theorem harm_none (q : Option Addr) (cap : Nat) (w : World) : Calls Try.prog 22 #[.slice q 0 cap] w fun e w' => e = .returned (.bool true) ∧ Below w.heap.size w w' := by
  go_enter Try.func22, Try.ntmps22
  go_wp2
  refine wp_loop_rounds 1 ?_
  rw [rounds_succ]; go_wp2
  go_ret
  exact ⟨rfl, Below.refl _ _⟩
def atK (ats : List (ByteArray × ByteArray)) (m : Nat) : Prop := ∀ j, j < m → atB (an ats j, av ats j) = true
theorem at_all {ats : List (ByteArray × ByteArray)} (h : atK ats ats.length) : ats.all atB = true := by
  rw [List.all_eq_true]
  intro x hx
  obtain ⟨j, hj, e⟩ := List.getElem_of_mem hx
  have := h j hj
  unfold an av at this
  rw [List.getD, List.getElem?_eq_getElem hj, e] at this
  exact this
theorem at_not {ats : List (ByteArray × ByteArray)} {k : Nat} (hk : k < ats.length) (h : atB (an ats k, av ats k) = false) : ats.all atB = false := by
  rw [List.all_eq_false]
  exact ⟨ats.getD k (ByteArray.empty, ByteArray.empty), getD_in _ _ _ hk, by
    have h' : atB (ats.getD k (ByteArray.empty, ByteArray.empty)) = false := h
    rw [h']; decide⟩
theorem xn_le {ats : List (ByteArray × ByteArray)} {k : Nat} (h : ∀ x ∈ ats, x.1.size ≤ 100 ∧ x.2.size ≤ 2000) (hk : k < ats.length) : (an ats k).size ≤ 100 ∧ (av ats k).size ≤ 2000 := h _ (getD_in _ _ _ hk)
theorem neL {x : ByteArray} {l : List UInt8} {b : Bool} (h : (x.toList == l) = b) : (x.toList != l) = !b := by simp [bne, h]
set_option maxHeartbeats 20000000 in
set_option maxRecDepth 20000 in
theorem harm_some (f : Forest) (g oo cap : Nat) (w : World) (hl : Lies f g oo w) (hc : f.count ≤ 1000000) (hok : ∀ e, ∀ it ∈ items f e, OkN it)
    (ih : ∀ j k sp n ats tx kids, f.drop j = .cons k sp n ats tx kids (f.drop (j + 1)) → ∀ q cap w, Fo q kids w → Calls Try.prog 22 #[.slice q kids.len cap] w fun e w' => e = .returned (.bool (hmF kids)) ∧ Below w.heap.size w w') :
    Calls Try.prog 22 #[.slice (some ⟨g, oo, none⟩) f.len cap] w fun e w' => e = .returned (.bool (hmF f)) ∧ Below w.heap.size w w' := by
  have HL := hide hl
  have IH := hide ih
  have HOK := hide hok
  have hlc := f.len_count
  clear hl ih hok
  go_enter Try.func22, Try.ntmps22
  go_wp2
  go_loopw [11] (fun b wr => ∃ j : Nat, j ≤ f.len ∧ b = .int .i64 j ∧ hmF (f.drop j) = hmF f ∧ Below w.heap.size w wr) (fun b _ => f.len - (intOf b).toNat)
  case atStart => exact ⟨0, Nat.zero_le _, rfl, by rw [Forest.drop_zero], Below.refl _ _⟩
  case round =>
    obtain ⟨j, hj, rfl, hsum, hbw⟩ := hrel
    generalize wr = wo at *
    by_cases hp : j < f.len
    · have hpi : (j : Int) < (f.len : Int) := by omega
      obtain ⟨k, sp, n, ats, tx, kids, hd⟩ := f.drop_cons j hp
      have hlj := (unhide HL).drop j
      have hlw := hlj.below hbw
      have hdo := drop_ok (unhide HOK) hd
      rw [hd] at hlw hsum
      obtain ⟨⟨c0, c1, c2, ⟨qa, ca, c3, hsl⟩, c4, ⟨qk, ck, c5, hck, hfo⟩⟩, _⟩ := hlw
      have CK := hide (fun w h => unhide IH j k sp n ats tx kids hd qk ck w h)
      have hbA := (Below.refl wo.heap.size wo).alloc (Nat.le_refl _) (Obj.cells #[.int .i64 k, .int .i64 sp, .string n, .slice qa ats.length ca, .string tx, .slice qk kids.len ck] 43)
      have HF := hide (show Fo qk kids wo from hfo)
      have HSL := hide hsl
      have HB := hide (tr2 hbw hbA)
      have HBA := hide hbA
      have HS : Hid ((!nodB k sp n && (ats.all atB && (hmF kids && hmF (f.drop (j + 1))))) = hmF f) := hide hsum
      have HAL := hide (@at_all ats)
      have HAN := hide (fun m hm h => @at_not ats m hm h)
      have HSZ := hide (fun m hm => @xn_le ats m hdo.1.2.2.2 hm)
      have hna := hdo.1.1
      have HND : Hid (nodB k sp n = (decide (k = 1) && (!decide (sp = 0) || ((n.toList == [115, 99, 114, 105, 112, 116]) || (n.toList == [115, 116, 121, 108, 101]))))) := hide rfl
      have KN : Hid (Blk (wo.alloc (Obj.cells #[.int .i64 k, .int .i64 sp, .string n, .slice qa ats.length ca, .string tx, .slice qk kids.len ck] 43)) wo.heap.size #[.int .i64 k, .int .i64 sp, .string n, .slice qa ats.length ca, .string tx, .slice qk kids.len ck] 43) := hide (Blk.new wo _ _)
      generalize hnk : kids.len = nk at *
      have HNK := hide hnk
      clear hnk
      generalize hmF kids = D at *
      generalize nodB k sp n = ND at *
      clear hlj hsl hfo hd hsum hbA hbw hdo hck
      have hbad : ∀ r : Bool, ND = true → (r = hmF f ↔ r = false) := fun r h => by rw [← unhide HS, h]; simp
      have HBAD : Hid (ND = true → hmF f = false) := hide (fun h => by rw [← unhide HS, h]; rfl)
      clear hbad
      by_cases hk1 : k = 1
      · subst hk1
        by_cases hsp : sp = 0
        · subst hsp
          cases hn1 : (n.toList == [115, 99, 114, 105, 112, 116]) with
          | true =>
            have H := hide (unhide HBAD (by rw [unhide HND, hn1]; rfl))
            go_wp2
            go_ret
            exact ⟨by rw [unhide H]; rfl, unhide HB⟩
          | false =>
            cases hn2 : (n.toList == [115, 116, 121, 108, 101]) with
            | true =>
              have H := hide (unhide HBAD (by rw [unhide HND, hn1, hn2]; rfl))
              go_wp2
              go_ret
              exact ⟨by rw [unhide H]; rfl, unhide HB⟩
            | false =>
              have HN0 : ND = false := by rw [unhide HND, hn1, hn2]; rfl
              have HS2 : Hid ((ats.all atB && (D && hmF (f.drop (j + 1)))) = hmF f) := hide (by rw [← unhide HS, HN0]; rfl)
              clear HN0 HS HBAD HND
              go_wp2
              go_loopw [36] (fun b wi => ∃ m : Nat, m ≤ ats.length ∧ b = .int .i64 m ∧ atK ats m ∧ Below (wo.heap.size + 1) (wo.alloc (Obj.cells #[.int .i64 1, .int .i64 0, .string n, .slice qa ats.length ca, .string tx, .slice qk nk ck] 43)) wi) (fun b _ => ats.length - (intOf b).toNat)
              case atStart => exact ⟨0, Nat.zero_le _, rfl, fun j hj => absurd hj (Nat.not_lt_zero _), Below.refl _ _⟩
              case round =>
                obtain ⟨m, hm, rfl, hr, hbi⟩ := hrel
                have HR := hide hr
                have HBI0 := hide (show Below (wo.alloc (Obj.cells #[.int .i64 1, .int .i64 0, .string n, .slice qa ats.length ca, .string tx, .slice qk nk ck] 43)).heap.size (wo.alloc (Obj.cells #[.int .i64 1, .int .i64 0, .string n, .slice qa ats.length ca, .string tx, .slice qk nk ck] 43)) wr from by simpa using hbi)
                have HBO := hide ((unhide HBA).trans ((unhide HBI0).mono (by simp)))
                have HBF := hide ((unhide HB).trans ((unhide HBI0).mono (unhide HB).size))
                have HBI := hide hbi
                have hszi : wo.heap.size + 1 ≤ wr.heap.size := by have := hbi.size; simpa using this
                clear hr hbi
                by_cases hq : m < ats.length
                · have hqi : (m : Int) < (ats.length : Int) := by omega
                  rcases (unhide HSL).below (unhide HBO) with h | ⟨g2, o2, rfl, hcell⟩
                  · rw [h] at hq; simp at hq
                  obtain ⟨d0, d1⟩ := hcell m hq
                  obtain ⟨z1, z2⟩ := unhide HSZ m hq
                  have CS := hide (fun W => schm_any (av ats m) W (by omega))
                  have hno := unhide HAN m hq
                  have HR2 : Hid (atB (an ats m, av ats m) = true → atK ats (m + 1)) := hide (fun hx i hi => by
                    by_cases ei : i = m
                    · rw [ei]; exact hx
                    · exact unhide HR i (by omega))
                  have HNO : Hid (atB (an ats m, av ats m) = false → hmF f = false) := hide (fun h => by rw [← unhide HS2, hno h]; rfl)
                  have HAT : Hid (atB (an ats m, av ats m) = (!badL (an ats m) (av ats m) && !onB (an ats m))) := hide rfl
                  have HBD : Hid (badL (an ats m) (av ats m) = ((((an ats m).toList == [104, 114, 101, 102]) || ((an ats m).toList == [115, 114, 99])) && (decide (0 < schN (plL (av ats m).data.toList)) && (!((bs (sSc (plL (av ats m).data.toList))).toList == [104, 116, 116, 112]) && (!((bs (sSc (plL (av ats m).data.toList))).toList == [104, 116, 116, 112, 115]) && !((bs (sSc (plL (av ats m).data.toList))).toList == [109, 97, 105, 108, 116, 111])))))) := hide rfl
                  have HON : Hid (onB (an ats m) = (decide (1 < (an ats m).size) && (((an ats m).extract 0 2).toList == [111, 110]))) := hide rfl
                  generalize atB (an ats m, av ats m) = AT at *
                  generalize badL (an ats m) (av ats m) = BD at *
                  generalize onB (an ats m) = ON at *
                  generalize decide (0 < schN (plL (av ats m).data.toList)) = HS1 at *
                  generalize bs (sSc (plL (av ats m).data.toList)) = sch at *
                  generalize an ats m = xn at *
                  generalize av ats m = xv at *
                  clear hcell hno HAN
                  have KI := hide ((unhide KN).later (unhide HBI0))
                  have alA := (Below.refl wr.heap.size wr).alloc (Nat.le_refl _) (Obj.cells #[.string xn, .string xv] 45)
                  have KA := hide (Blk.new wr #[.string xn, .string xv] 45)
                  have HB4 := hide ((unhide HBI).alloc hszi (Obj.cells #[.string xn, .string xv] 45))
                  have HB4F := hide (tr2 (unhide HBF) alA)
                  clear alA
                  go_wp2_with fail
                  refine (unhide CS _).mono ?_
                  rintro e1 w4 ⟨rfl, hb4⟩
                  have HB5 := hide ((unhide HB4).trans (hb4.mono (by simp; omega)))
                  have HB5F := hide (tr2 (unhide HB4F) hb4)
                  have y0 : w4.cell? ⟨wr.heap.size, 0, none⟩ = some (.string xn) := ((unhide KA).later hb4).cell 0
                  clear hb4 d0 d1 CS KA
                  cases hx1 : (xn.toList == [104, 114, 101, 102]) with
                  | true =>
                    cases HS1 with
                    | false =>
                      have HBD0 : Hid (BD = false) := hide (by rw [unhide HBD]; simp [hx1])
                      by_cases hz1 : 1 < xn.size
                      · have iz1 : (1 : Int) < (xn.size : Int) := by omega
                        have iz2 : (2 : Int) ≤ (xn.size : Int) := by omega
                        cases hon : ((xn.extract 0 2).toList == [111, 110]) with
                        | true =>
                          have H := hide (unhide HNO (by rw [unhide HAT, unhide HON, hon, decide_eq_true hz1]; simp))
                          clear HBD0
                          go_wp2
                          go_ret
                          exact ⟨by rw [unhide H]; rfl, unhide HB5F⟩
                        | false =>
                          have H := hide (unhide HR2 (by rw [unhide HAT, unhide HON, hon, unhide HBD0]; simp))
                          clear HBD0
                          go_wp2
                          go_roundw
                          case rel => exact ⟨m + 1, by omega, by go_num, unhide H, unhide HB5⟩
                          case measure => simp [intOf]; omega
                      · have iz1 : ¬ (1 : Int) < (xn.size : Int) := by omega
                        have H := hide (unhide HR2 (by rw [unhide HAT, unhide HON, decide_eq_false hz1, unhide HBD0]; simp))
                        clear HBD0
                        go_wp2
                        go_roundw
                        case rel => exact ⟨m + 1, by omega, by go_num, unhide H, unhide HB5⟩
                        case measure => simp [intOf]; omega
                    | true =>
                      cases hs1 : (sch.toList == [104, 116, 116, 112]) with
                      | true =>
                        have hs1' := neL hs1
                        have HBD0 : Hid (BD = false) := hide (by rw [unhide HBD]; simp [hx1, hs1])
                        by_cases hz1 : 1 < xn.size
                        · have iz1 : (1 : Int) < (xn.size : Int) := by omega
                          have iz2 : (2 : Int) ≤ (xn.size : Int) := by omega
                          cases hon : ((xn.extract 0 2).toList == [111, 110]) with
                          | true =>
                            have H := hide (unhide HNO (by rw [unhide HAT, unhide HON, hon, decide_eq_true hz1]; simp))
                            clear HBD0
                            go_wp2
                            go_ret
                            exact ⟨by rw [unhide H]; rfl, unhide HB5F⟩
                          | false =>
                            have H := hide (unhide HR2 (by rw [unhide HAT, unhide HON, hon, unhide HBD0]; simp))
                            clear HBD0
                            go_wp2
                            go_roundw
                            case rel => exact ⟨m + 1, by omega, by go_num, unhide H, unhide HB5⟩
                            case measure => simp [intOf]; omega
                        · have iz1 : ¬ (1 : Int) < (xn.size : Int) := by omega
                          have H := hide (unhide HR2 (by rw [unhide HAT, unhide HON, decide_eq_false hz1, unhide HBD0]; simp))
                          clear HBD0
                          go_wp2
                          go_roundw
                          case rel => exact ⟨m + 1, by omega, by go_num, unhide H, unhide HB5⟩
                          case measure => simp [intOf]; omega
                      | false =>
                        have hs1' := neL hs1
                        cases hs2 : (sch.toList == [104, 116, 116, 112, 115]) with
                        | true =>
                          have hs2' := neL hs2
                          have HBD0 : Hid (BD = false) := hide (by rw [unhide HBD]; simp [hx1, hs1, hs2])
                          by_cases hz1 : 1 < xn.size
                          · have iz1 : (1 : Int) < (xn.size : Int) := by omega
                            have iz2 : (2 : Int) ≤ (xn.size : Int) := by omega
                            cases hon : ((xn.extract 0 2).toList == [111, 110]) with
                            | true =>
                              have H := hide (unhide HNO (by rw [unhide HAT, unhide HON, hon, decide_eq_true hz1]; simp))
                              clear HBD0
                              go_wp2
                              go_ret
                              exact ⟨by rw [unhide H]; rfl, unhide HB5F⟩
                            | false =>
                              have H := hide (unhide HR2 (by rw [unhide HAT, unhide HON, hon, unhide HBD0]; simp))
                              clear HBD0
                              go_wp2
                              go_roundw
                              case rel => exact ⟨m + 1, by omega, by go_num, unhide H, unhide HB5⟩
                              case measure => simp [intOf]; omega
                          · have iz1 : ¬ (1 : Int) < (xn.size : Int) := by omega
                            have H := hide (unhide HR2 (by rw [unhide HAT, unhide HON, decide_eq_false hz1, unhide HBD0]; simp))
                            clear HBD0
                            go_wp2
                            go_roundw
                            case rel => exact ⟨m + 1, by omega, by go_num, unhide H, unhide HB5⟩
                            case measure => simp [intOf]; omega
                        | false =>
                          have hs2' := neL hs2
                          cases hs3 : (sch.toList == [109, 97, 105, 108, 116, 111]) with
                          | true =>
                            have hs3' := neL hs3
                            have HBD0 : Hid (BD = false) := hide (by rw [unhide HBD]; simp [hx1, hs1, hs2, hs3])
                            by_cases hz1 : 1 < xn.size
                            · have iz1 : (1 : Int) < (xn.size : Int) := by omega
                              have iz2 : (2 : Int) ≤ (xn.size : Int) := by omega
                              cases hon : ((xn.extract 0 2).toList == [111, 110]) with
                              | true =>
                                have H := hide (unhide HNO (by rw [unhide HAT, unhide HON, hon, decide_eq_true hz1]; simp))
                                clear HBD0
                                go_wp2
                                go_ret
                                exact ⟨by rw [unhide H]; rfl, unhide HB5F⟩
                              | false =>
                                have H := hide (unhide HR2 (by rw [unhide HAT, unhide HON, hon, unhide HBD0]; simp))
                                clear HBD0
                                go_wp2
                                go_roundw
                                case rel => exact ⟨m + 1, by omega, by go_num, unhide H, unhide HB5⟩
                                case measure => simp [intOf]; omega
                            · have iz1 : ¬ (1 : Int) < (xn.size : Int) := by omega
                              have H := hide (unhide HR2 (by rw [unhide HAT, unhide HON, decide_eq_false hz1, unhide HBD0]; simp))
                              clear HBD0
                              go_wp2
                              go_roundw
                              case rel => exact ⟨m + 1, by omega, by go_num, unhide H, unhide HB5⟩
                              case measure => simp [intOf]; omega
                          | false =>
                            have hs3' := neL hs3
                            have H := hide (unhide HNO (by rw [unhide HAT, unhide HBD]; simp [hx1, hs1, hs2, hs3]))
                            go_wp2
                            go_ret
                            exact ⟨by rw [unhide H]; rfl, unhide HB5F⟩
                  | false =>
                    cases hx2 : (xn.toList == [115, 114, 99]) with
                    | true =>
                      cases HS1 with
                      | false =>
                        have HBD0 : Hid (BD = false) := hide (by rw [unhide HBD]; simp [hx1, hx2])
                        by_cases hz1 : 1 < xn.size
                        · have iz1 : (1 : Int) < (xn.size : Int) := by omega
                          have iz2 : (2 : Int) ≤ (xn.size : Int) := by omega
                          cases hon : ((xn.extract 0 2).toList == [111, 110]) with
                          | true =>
                            have H := hide (unhide HNO (by rw [unhide HAT, unhide HON, hon, decide_eq_true hz1]; simp))
                            clear HBD0
                            go_wp2
                            go_ret
                            exact ⟨by rw [unhide H]; rfl, unhide HB5F⟩
                          | false =>
                            have H := hide (unhide HR2 (by rw [unhide HAT, unhide HON, hon, unhide HBD0]; simp))
                            clear HBD0
                            go_wp2
                            go_roundw
                            case rel => exact ⟨m + 1, by omega, by go_num, unhide H, unhide HB5⟩
                            case measure => simp [intOf]; omega
                        · have iz1 : ¬ (1 : Int) < (xn.size : Int) := by omega
                          have H := hide (unhide HR2 (by rw [unhide HAT, unhide HON, decide_eq_false hz1, unhide HBD0]; simp))
                          clear HBD0
                          go_wp2
                          go_roundw
                          case rel => exact ⟨m + 1, by omega, by go_num, unhide H, unhide HB5⟩
                          case measure => simp [intOf]; omega
                      | true =>
                        cases hs1 : (sch.toList == [104, 116, 116, 112]) with
                        | true =>
                          have hs1' := neL hs1
                          have HBD0 : Hid (BD = false) := hide (by rw [unhide HBD]; simp [hx1, hx2, hs1])
                          by_cases hz1 : 1 < xn.size
                          · have iz1 : (1 : Int) < (xn.size : Int) := by omega
                            have iz2 : (2 : Int) ≤ (xn.size : Int) := by omega
                            cases hon : ((xn.extract 0 2).toList == [111, 110]) with
                            | true =>
                              have H := hide (unhide HNO (by rw [unhide HAT, unhide HON, hon, decide_eq_true hz1]; simp))
                              clear HBD0
                              go_wp2
                              go_ret
                              exact ⟨by rw [unhide H]; rfl, unhide HB5F⟩
                            | false =>
                              have H := hide (unhide HR2 (by rw [unhide HAT, unhide HON, hon, unhide HBD0]; simp))
                              clear HBD0
                              go_wp2
                              go_roundw
                              case rel => exact ⟨m + 1, by omega, by go_num, unhide H, unhide HB5⟩
                              case measure => simp [intOf]; omega
                          · have iz1 : ¬ (1 : Int) < (xn.size : Int) := by omega
                            have H := hide (unhide HR2 (by rw [unhide HAT, unhide HON, decide_eq_false hz1, unhide HBD0]; simp))
                            clear HBD0
                            go_wp2
                            go_roundw
                            case rel => exact ⟨m + 1, by omega, by go_num, unhide H, unhide HB5⟩
                            case measure => simp [intOf]; omega
                        | false =>
                          have hs1' := neL hs1
                          cases hs2 : (sch.toList == [104, 116, 116, 112, 115]) with
                          | true =>
                            have hs2' := neL hs2
                            have HBD0 : Hid (BD = false) := hide (by rw [unhide HBD]; simp [hx1, hx2, hs1, hs2])
                            by_cases hz1 : 1 < xn.size
                            · have iz1 : (1 : Int) < (xn.size : Int) := by omega
                              have iz2 : (2 : Int) ≤ (xn.size : Int) := by omega
                              cases hon : ((xn.extract 0 2).toList == [111, 110]) with
                              | true =>
                                have H := hide (unhide HNO (by rw [unhide HAT, unhide HON, hon, decide_eq_true hz1]; simp))
                                clear HBD0
                                go_wp2
                                go_ret
                                exact ⟨by rw [unhide H]; rfl, unhide HB5F⟩
                              | false =>
                                have H := hide (unhide HR2 (by rw [unhide HAT, unhide HON, hon, unhide HBD0]; simp))
                                clear HBD0
                                go_wp2
                                go_roundw
                                case rel => exact ⟨m + 1, by omega, by go_num, unhide H, unhide HB5⟩
                                case measure => simp [intOf]; omega
                            · have iz1 : ¬ (1 : Int) < (xn.size : Int) := by omega
                              have H := hide (unhide HR2 (by rw [unhide HAT, unhide HON, decide_eq_false hz1, unhide HBD0]; simp))
                              clear HBD0
                              go_wp2
                              go_roundw
                              case rel => exact ⟨m + 1, by omega, by go_num, unhide H, unhide HB5⟩
                              case measure => simp [intOf]; omega
                          | false =>
                            have hs2' := neL hs2
                            cases hs3 : (sch.toList == [109, 97, 105, 108, 116, 111]) with
                            | true =>
                              have hs3' := neL hs3
                              have HBD0 : Hid (BD = false) := hide (by rw [unhide HBD]; simp [hx1, hx2, hs1, hs2, hs3])
                              by_cases hz1 : 1 < xn.size
                              · have iz1 : (1 : Int) < (xn.size : Int) := by omega
                                have iz2 : (2 : Int) ≤ (xn.size : Int) := by omega
                                cases hon : ((xn.extract 0 2).toList == [111, 110]) with
                                | true =>
                                  have H := hide (unhide HNO (by rw [unhide HAT, unhide HON, hon, decide_eq_true hz1]; simp))
                                  clear HBD0
                                  go_wp2
                                  go_ret
                                  exact ⟨by rw [unhide H]; rfl, unhide HB5F⟩
                                | false =>
                                  have H := hide (unhide HR2 (by rw [unhide HAT, unhide HON, hon, unhide HBD0]; simp))
                                  clear HBD0
                                  go_wp2
                                  go_roundw
                                  case rel => exact ⟨m + 1, by omega, by go_num, unhide H, unhide HB5⟩
                                  case measure => simp [intOf]; omega
                              · have iz1 : ¬ (1 : Int) < (xn.size : Int) := by omega
                                have H := hide (unhide HR2 (by rw [unhide HAT, unhide HON, decide_eq_false hz1, unhide HBD0]; simp))
                                clear HBD0
                                go_wp2
                                go_roundw
                                case rel => exact ⟨m + 1, by omega, by go_num, unhide H, unhide HB5⟩
                                case measure => simp [intOf]; omega
                            | false =>
                              have hs3' := neL hs3
                              have H := hide (unhide HNO (by rw [unhide HAT, unhide HBD]; simp [hx1, hx2, hs1, hs2, hs3]))
                              go_wp2
                              go_ret
                              exact ⟨by rw [unhide H]; rfl, unhide HB5F⟩
                    | false =>
                      have HBD0 : Hid (BD = false) := hide (by rw [unhide HBD]; simp [hx1, hx2])
                      by_cases hz1 : 1 < xn.size
                      · have iz1 : (1 : Int) < (xn.size : Int) := by omega
                        have iz2 : (2 : Int) ≤ (xn.size : Int) := by omega
                        cases hon : ((xn.extract 0 2).toList == [111, 110]) with
                        | true =>
                          have H := hide (unhide HNO (by rw [unhide HAT, unhide HON, hon, decide_eq_true hz1]; simp))
                          clear HBD0
                          go_wp2
                          go_ret
                          exact ⟨by rw [unhide H]; rfl, unhide HB5F⟩
                        | false =>
                          have H := hide (unhide HR2 (by rw [unhide HAT, unhide HON, hon, unhide HBD0]; simp))
                          clear HBD0
                          go_wp2
                          go_roundw
                          case rel => exact ⟨m + 1, by omega, by go_num, unhide H, unhide HB5⟩
                          case measure => simp [intOf]; omega
                      · have iz1 : ¬ (1 : Int) < (xn.size : Int) := by omega
                        have H := hide (unhide HR2 (by rw [unhide HAT, unhide HON, decide_eq_false hz1, unhide HBD0]; simp))
                        clear HBD0
                        go_wp2
                        go_roundw
                        case rel => exact ⟨m + 1, by omega, by go_num, unhide H, unhide HB5⟩
                        case measure => simp [intOf]; omega
                · have hmn : m = ats.length := by omega
                  have HA1 := hide (unhide HAL (by rw [← hmn]; exact unhide HR))
                  have k5 : wr.cell? ⟨wo.heap.size, 5, none⟩ = some (.slice qk nk ck) := ((unhide KN).later (unhide HBI0)).cell 5
                  have HF4 := hide ((unhide HF).below (unhide HBO))
                  have HS3 : Hid ((D && hmF (f.drop (j + 1))) = hmF f) := hide (by rw [← unhide HS2, unhide HA1]; rfl)
                  clear HA1 HS2 HAL HAN
                  cases D with
                  | true =>
                    go_wp2_with fail
                    refine (unhide CK _ (unhide HF4)).mono ?_
                    rintro e1 w5 ⟨rfl, hb5⟩
                    have HB5 := hide (tr2 (unhide HBF) hb5)
                    clear hb5
                    go_wp2
                    go_roundw
                    case rel => exact ⟨j + 1, by omega, by go_num, by rw [← unhide HS3]; rfl, unhide HB5⟩
                    case measure => simp [intOf]; omega
                  | false =>
                    go_wp2_with fail
                    refine (unhide CK _ (unhide HF4)).mono ?_
                    rintro e1 w5 ⟨rfl, hb5⟩
                    have HB5 := hide (tr2 (unhide HBF) hb5)
                    clear hb5
                    go_wp2
                    go_ret
                    exact ⟨by rw [← unhide HS3]; rfl, unhide HB5⟩
        · have i0 : (sp == 0) = false := beqI _ _ hsp
          have i1 : (sp != 0) = true := bneI' _ _ hsp
          have H := hide (unhide HBAD (by rw [unhide HND, decide_eq_false hsp]; rfl))
          clear hsp
          go_wp2
          go_ret
          exact ⟨by rw [unhide H]; rfl, unhide HB⟩
      · have i0 : (k == 1) = false := beqI _ _ hk1
        have HN0 : ND = false := by rw [unhide HND, decide_eq_false hk1]; rfl
        clear hk1
        have HS2 : Hid ((ats.all atB && (D && hmF (f.drop (j + 1)))) = hmF f) := hide (by rw [← unhide HS, HN0]; rfl)
        clear HN0 HS HBAD HND
        go_wp2
        go_loopw [36] (fun b wi => ∃ m : Nat, m ≤ ats.length ∧ b = .int .i64 m ∧ atK ats m ∧ Below (wo.heap.size + 1) (wo.alloc (Obj.cells #[.int .i64 k, .int .i64 sp, .string n, .slice qa ats.length ca, .string tx, .slice qk nk ck] 43)) wi) (fun b _ => ats.length - (intOf b).toNat)
        case atStart => exact ⟨0, Nat.zero_le _, rfl, fun j hj => absurd hj (Nat.not_lt_zero _), Below.refl _ _⟩
        case round =>
          obtain ⟨m, hm, rfl, hr, hbi⟩ := hrel
          have HR := hide hr
          have HBI0 := hide (show Below (wo.alloc (Obj.cells #[.int .i64 k, .int .i64 sp, .string n, .slice qa ats.length ca, .string tx, .slice qk nk ck] 43)).heap.size (wo.alloc (Obj.cells #[.int .i64 k, .int .i64 sp, .string n, .slice qa ats.length ca, .string tx, .slice qk nk ck] 43)) wr from by simpa using hbi)
          have HBO := hide ((unhide HBA).trans ((unhide HBI0).mono (by simp)))
          have HBF := hide ((unhide HB).trans ((unhide HBI0).mono (unhide HB).size))
          have HBI := hide hbi
          have hszi : wo.heap.size + 1 ≤ wr.heap.size := by have := hbi.size; simpa using this
          clear hr hbi
          by_cases hq : m < ats.length
          · have hqi : (m : Int) < (ats.length : Int) := by omega
            rcases (unhide HSL).below (unhide HBO) with h | ⟨g2, o2, rfl, hcell⟩
            · rw [h] at hq; simp at hq
            obtain ⟨d0, d1⟩ := hcell m hq
            obtain ⟨z1, z2⟩ := unhide HSZ m hq
            have CS := hide (fun W => schm_any (av ats m) W (by omega))
            have hno := unhide HAN m hq
            have HR2 : Hid (atB (an ats m, av ats m) = true → atK ats (m + 1)) := hide (fun hx i hi => by
              by_cases ei : i = m
              · rw [ei]; exact hx
              · exact unhide HR i (by omega))
            have HNO : Hid (atB (an ats m, av ats m) = false → hmF f = false) := hide (fun h => by rw [← unhide HS2, hno h]; rfl)
            have HAT : Hid (atB (an ats m, av ats m) = (!badL (an ats m) (av ats m) && !onB (an ats m))) := hide rfl
            have HBD : Hid (badL (an ats m) (av ats m) = ((((an ats m).toList == [104, 114, 101, 102]) || ((an ats m).toList == [115, 114, 99])) && (decide (0 < schN (plL (av ats m).data.toList)) && (!((bs (sSc (plL (av ats m).data.toList))).toList == [104, 116, 116, 112]) && (!((bs (sSc (plL (av ats m).data.toList))).toList == [104, 116, 116, 112, 115]) && !((bs (sSc (plL (av ats m).data.toList))).toList == [109, 97, 105, 108, 116, 111])))))) := hide rfl
            have HON : Hid (onB (an ats m) = (decide (1 < (an ats m).size) && (((an ats m).extract 0 2).toList == [111, 110]))) := hide rfl
            generalize atB (an ats m, av ats m) = AT at *
            generalize badL (an ats m) (av ats m) = BD at *
            generalize onB (an ats m) = ON at *
            generalize decide (0 < schN (plL (av ats m).data.toList)) = HS1 at *
            generalize bs (sSc (plL (av ats m).data.toList)) = sch at *
            generalize an ats m = xn at *
            generalize av ats m = xv at *
            clear hcell hno HAN
            have KI := hide ((unhide KN).later (unhide HBI0))
            have alA := (Below.refl wr.heap.size wr).alloc (Nat.le_refl _) (Obj.cells #[.string xn, .string xv] 45)
            have KA := hide (Blk.new wr #[.string xn, .string xv] 45)
            have HB4 := hide ((unhide HBI).alloc hszi (Obj.cells #[.string xn, .string xv] 45))
            have HB4F := hide (tr2 (unhide HBF) alA)
            clear alA
            go_wp2_with fail
            refine (unhide CS _).mono ?_
            rintro e1 w4 ⟨rfl, hb4⟩
            have HB5 := hide ((unhide HB4).trans (hb4.mono (by simp; omega)))
            have HB5F := hide (tr2 (unhide HB4F) hb4)
            have y0 : w4.cell? ⟨wr.heap.size, 0, none⟩ = some (.string xn) := ((unhide KA).later hb4).cell 0
            clear hb4 d0 d1 CS KA
            cases hx1 : (xn.toList == [104, 114, 101, 102]) with
            | true =>
              cases HS1 with
              | false =>
                have HBD0 : Hid (BD = false) := hide (by rw [unhide HBD]; simp [hx1])
                by_cases hz1 : 1 < xn.size
                · have iz1 : (1 : Int) < (xn.size : Int) := by omega
                  have iz2 : (2 : Int) ≤ (xn.size : Int) := by omega
                  cases hon : ((xn.extract 0 2).toList == [111, 110]) with
                  | true =>
                    have H := hide (unhide HNO (by rw [unhide HAT, unhide HON, hon, decide_eq_true hz1]; simp))
                    clear HBD0
                    go_wp2
                    go_ret
                    exact ⟨by rw [unhide H]; rfl, unhide HB5F⟩
                  | false =>
                    have H := hide (unhide HR2 (by rw [unhide HAT, unhide HON, hon, unhide HBD0]; simp))
                    clear HBD0
                    go_wp2
                    go_roundw
                    case rel => exact ⟨m + 1, by omega, by go_num, unhide H, unhide HB5⟩
                    case measure => simp [intOf]; omega
                · have iz1 : ¬ (1 : Int) < (xn.size : Int) := by omega
                  have H := hide (unhide HR2 (by rw [unhide HAT, unhide HON, decide_eq_false hz1, unhide HBD0]; simp))
                  clear HBD0
                  go_wp2
                  go_roundw
                  case rel => exact ⟨m + 1, by omega, by go_num, unhide H, unhide HB5⟩
                  case measure => simp [intOf]; omega
              | true =>
                cases hs1 : (sch.toList == [104, 116, 116, 112]) with
                | true =>
                  have hs1' := neL hs1
                  have HBD0 : Hid (BD = false) := hide (by rw [unhide HBD]; simp [hx1, hs1])
                  by_cases hz1 : 1 < xn.size
                  · have iz1 : (1 : Int) < (xn.size : Int) := by omega
                    have iz2 : (2 : Int) ≤ (xn.size : Int) := by omega
                    cases hon : ((xn.extract 0 2).toList == [111, 110]) with
                    | true =>
                      have H := hide (unhide HNO (by rw [unhide HAT, unhide HON, hon, decide_eq_true hz1]; simp))
                      clear HBD0
                      go_wp2
                      go_ret
                      exact ⟨by rw [unhide H]; rfl, unhide HB5F⟩
                    | false =>
                      have H := hide (unhide HR2 (by rw [unhide HAT, unhide HON, hon, unhide HBD0]; simp))
                      clear HBD0
                      go_wp2
                      go_roundw
                      case rel => exact ⟨m + 1, by omega, by go_num, unhide H, unhide HB5⟩
                      case measure => simp [intOf]; omega
                  · have iz1 : ¬ (1 : Int) < (xn.size : Int) := by omega
                    have H := hide (unhide HR2 (by rw [unhide HAT, unhide HON, decide_eq_false hz1, unhide HBD0]; simp))
                    clear HBD0
                    go_wp2
                    go_roundw
                    case rel => exact ⟨m + 1, by omega, by go_num, unhide H, unhide HB5⟩
                    case measure => simp [intOf]; omega
                | false =>
                  have hs1' := neL hs1
                  cases hs2 : (sch.toList == [104, 116, 116, 112, 115]) with
                  | true =>
                    have hs2' := neL hs2
                    have HBD0 : Hid (BD = false) := hide (by rw [unhide HBD]; simp [hx1, hs1, hs2])
                    by_cases hz1 : 1 < xn.size
                    · have iz1 : (1 : Int) < (xn.size : Int) := by omega
                      have iz2 : (2 : Int) ≤ (xn.size : Int) := by omega
                      cases hon : ((xn.extract 0 2).toList == [111, 110]) with
                      | true =>
                        have H := hide (unhide HNO (by rw [unhide HAT, unhide HON, hon, decide_eq_true hz1]; simp))
                        clear HBD0
                        go_wp2
                        go_ret
                        exact ⟨by rw [unhide H]; rfl, unhide HB5F⟩
                      | false =>
                        have H := hide (unhide HR2 (by rw [unhide HAT, unhide HON, hon, unhide HBD0]; simp))
                        clear HBD0
                        go_wp2
                        go_roundw
                        case rel => exact ⟨m + 1, by omega, by go_num, unhide H, unhide HB5⟩
                        case measure => simp [intOf]; omega
                    · have iz1 : ¬ (1 : Int) < (xn.size : Int) := by omega
                      have H := hide (unhide HR2 (by rw [unhide HAT, unhide HON, decide_eq_false hz1, unhide HBD0]; simp))
                      clear HBD0
                      go_wp2
                      go_roundw
                      case rel => exact ⟨m + 1, by omega, by go_num, unhide H, unhide HB5⟩
                      case measure => simp [intOf]; omega
                  | false =>
                    have hs2' := neL hs2
                    cases hs3 : (sch.toList == [109, 97, 105, 108, 116, 111]) with
                    | true =>
                      have hs3' := neL hs3
                      have HBD0 : Hid (BD = false) := hide (by rw [unhide HBD]; simp [hx1, hs1, hs2, hs3])
                      by_cases hz1 : 1 < xn.size
                      · have iz1 : (1 : Int) < (xn.size : Int) := by omega
                        have iz2 : (2 : Int) ≤ (xn.size : Int) := by omega
                        cases hon : ((xn.extract 0 2).toList == [111, 110]) with
                        | true =>
                          have H := hide (unhide HNO (by rw [unhide HAT, unhide HON, hon, decide_eq_true hz1]; simp))
                          clear HBD0
                          go_wp2
                          go_ret
                          exact ⟨by rw [unhide H]; rfl, unhide HB5F⟩
                        | false =>
                          have H := hide (unhide HR2 (by rw [unhide HAT, unhide HON, hon, unhide HBD0]; simp))
                          clear HBD0
                          go_wp2
                          go_roundw
                          case rel => exact ⟨m + 1, by omega, by go_num, unhide H, unhide HB5⟩
                          case measure => simp [intOf]; omega
                      · have iz1 : ¬ (1 : Int) < (xn.size : Int) := by omega
                        have H := hide (unhide HR2 (by rw [unhide HAT, unhide HON, decide_eq_false hz1, unhide HBD0]; simp))
                        clear HBD0
                        go_wp2
                        go_roundw
                        case rel => exact ⟨m + 1, by omega, by go_num, unhide H, unhide HB5⟩
                        case measure => simp [intOf]; omega
                    | false =>
                      have hs3' := neL hs3
                      have H := hide (unhide HNO (by rw [unhide HAT, unhide HBD]; simp [hx1, hs1, hs2, hs3]))
                      go_wp2
                      go_ret
                      exact ⟨by rw [unhide H]; rfl, unhide HB5F⟩
            | false =>
              cases hx2 : (xn.toList == [115, 114, 99]) with
              | true =>
                cases HS1 with
                | false =>
                  have HBD0 : Hid (BD = false) := hide (by rw [unhide HBD]; simp [hx1, hx2])
                  by_cases hz1 : 1 < xn.size
                  · have iz1 : (1 : Int) < (xn.size : Int) := by omega
                    have iz2 : (2 : Int) ≤ (xn.size : Int) := by omega
                    cases hon : ((xn.extract 0 2).toList == [111, 110]) with
                    | true =>
                      have H := hide (unhide HNO (by rw [unhide HAT, unhide HON, hon, decide_eq_true hz1]; simp))
                      clear HBD0
                      go_wp2
                      go_ret
                      exact ⟨by rw [unhide H]; rfl, unhide HB5F⟩
                    | false =>
                      have H := hide (unhide HR2 (by rw [unhide HAT, unhide HON, hon, unhide HBD0]; simp))
                      clear HBD0
                      go_wp2
                      go_roundw
                      case rel => exact ⟨m + 1, by omega, by go_num, unhide H, unhide HB5⟩
                      case measure => simp [intOf]; omega
                  · have iz1 : ¬ (1 : Int) < (xn.size : Int) := by omega
                    have H := hide (unhide HR2 (by rw [unhide HAT, unhide HON, decide_eq_false hz1, unhide HBD0]; simp))
                    clear HBD0
                    go_wp2
                    go_roundw
                    case rel => exact ⟨m + 1, by omega, by go_num, unhide H, unhide HB5⟩
                    case measure => simp [intOf]; omega
                | true =>
                  cases hs1 : (sch.toList == [104, 116, 116, 112]) with
                  | true =>
                    have hs1' := neL hs1
                    have HBD0 : Hid (BD = false) := hide (by rw [unhide HBD]; simp [hx1, hx2, hs1])
                    by_cases hz1 : 1 < xn.size
                    · have iz1 : (1 : Int) < (xn.size : Int) := by omega
                      have iz2 : (2 : Int) ≤ (xn.size : Int) := by omega
                      cases hon : ((xn.extract 0 2).toList == [111, 110]) with
                      | true =>
                        have H := hide (unhide HNO (by rw [unhide HAT, unhide HON, hon, decide_eq_true hz1]; simp))
                        clear HBD0
                        go_wp2
                        go_ret
                        exact ⟨by rw [unhide H]; rfl, unhide HB5F⟩
                      | false =>
                        have H := hide (unhide HR2 (by rw [unhide HAT, unhide HON, hon, unhide HBD0]; simp))
                        clear HBD0
                        go_wp2
                        go_roundw
                        case rel => exact ⟨m + 1, by omega, by go_num, unhide H, unhide HB5⟩
                        case measure => simp [intOf]; omega
                    · have iz1 : ¬ (1 : Int) < (xn.size : Int) := by omega
                      have H := hide (unhide HR2 (by rw [unhide HAT, unhide HON, decide_eq_false hz1, unhide HBD0]; simp))
                      clear HBD0
                      go_wp2
                      go_roundw
                      case rel => exact ⟨m + 1, by omega, by go_num, unhide H, unhide HB5⟩
                      case measure => simp [intOf]; omega
                  | false =>
                    have hs1' := neL hs1
                    cases hs2 : (sch.toList == [104, 116, 116, 112, 115]) with
                    | true =>
                      have hs2' := neL hs2
                      have HBD0 : Hid (BD = false) := hide (by rw [unhide HBD]; simp [hx1, hx2, hs1, hs2])
                      by_cases hz1 : 1 < xn.size
                      · have iz1 : (1 : Int) < (xn.size : Int) := by omega
                        have iz2 : (2 : Int) ≤ (xn.size : Int) := by omega
                        cases hon : ((xn.extract 0 2).toList == [111, 110]) with
                        | true =>
                          have H := hide (unhide HNO (by rw [unhide HAT, unhide HON, hon, decide_eq_true hz1]; simp))
                          clear HBD0
                          go_wp2
                          go_ret
                          exact ⟨by rw [unhide H]; rfl, unhide HB5F⟩
                        | false =>
                          have H := hide (unhide HR2 (by rw [unhide HAT, unhide HON, hon, unhide HBD0]; simp))
                          clear HBD0
                          go_wp2
                          go_roundw
                          case rel => exact ⟨m + 1, by omega, by go_num, unhide H, unhide HB5⟩
                          case measure => simp [intOf]; omega
                      · have iz1 : ¬ (1 : Int) < (xn.size : Int) := by omega
                        have H := hide (unhide HR2 (by rw [unhide HAT, unhide HON, decide_eq_false hz1, unhide HBD0]; simp))
                        clear HBD0
                        go_wp2
                        go_roundw
                        case rel => exact ⟨m + 1, by omega, by go_num, unhide H, unhide HB5⟩
                        case measure => simp [intOf]; omega
                    | false =>
                      have hs2' := neL hs2
                      cases hs3 : (sch.toList == [109, 97, 105, 108, 116, 111]) with
                      | true =>
                        have hs3' := neL hs3
                        have HBD0 : Hid (BD = false) := hide (by rw [unhide HBD]; simp [hx1, hx2, hs1, hs2, hs3])
                        by_cases hz1 : 1 < xn.size
                        · have iz1 : (1 : Int) < (xn.size : Int) := by omega
                          have iz2 : (2 : Int) ≤ (xn.size : Int) := by omega
                          cases hon : ((xn.extract 0 2).toList == [111, 110]) with
                          | true =>
                            have H := hide (unhide HNO (by rw [unhide HAT, unhide HON, hon, decide_eq_true hz1]; simp))
                            clear HBD0
                            go_wp2
                            go_ret
                            exact ⟨by rw [unhide H]; rfl, unhide HB5F⟩
                          | false =>
                            have H := hide (unhide HR2 (by rw [unhide HAT, unhide HON, hon, unhide HBD0]; simp))
                            clear HBD0
                            go_wp2
                            go_roundw
                            case rel => exact ⟨m + 1, by omega, by go_num, unhide H, unhide HB5⟩
                            case measure => simp [intOf]; omega
                        · have iz1 : ¬ (1 : Int) < (xn.size : Int) := by omega
                          have H := hide (unhide HR2 (by rw [unhide HAT, unhide HON, decide_eq_false hz1, unhide HBD0]; simp))
                          clear HBD0
                          go_wp2
                          go_roundw
                          case rel => exact ⟨m + 1, by omega, by go_num, unhide H, unhide HB5⟩
                          case measure => simp [intOf]; omega
                      | false =>
                        have hs3' := neL hs3
                        have H := hide (unhide HNO (by rw [unhide HAT, unhide HBD]; simp [hx1, hx2, hs1, hs2, hs3]))
                        go_wp2
                        go_ret
                        exact ⟨by rw [unhide H]; rfl, unhide HB5F⟩
              | false =>
                have HBD0 : Hid (BD = false) := hide (by rw [unhide HBD]; simp [hx1, hx2])
                by_cases hz1 : 1 < xn.size
                · have iz1 : (1 : Int) < (xn.size : Int) := by omega
                  have iz2 : (2 : Int) ≤ (xn.size : Int) := by omega
                  cases hon : ((xn.extract 0 2).toList == [111, 110]) with
                  | true =>
                    have H := hide (unhide HNO (by rw [unhide HAT, unhide HON, hon, decide_eq_true hz1]; simp))
                    clear HBD0
                    go_wp2
                    go_ret
                    exact ⟨by rw [unhide H]; rfl, unhide HB5F⟩
                  | false =>
                    have H := hide (unhide HR2 (by rw [unhide HAT, unhide HON, hon, unhide HBD0]; simp))
                    clear HBD0
                    go_wp2
                    go_roundw
                    case rel => exact ⟨m + 1, by omega, by go_num, unhide H, unhide HB5⟩
                    case measure => simp [intOf]; omega
                · have iz1 : ¬ (1 : Int) < (xn.size : Int) := by omega
                  have H := hide (unhide HR2 (by rw [unhide HAT, unhide HON, decide_eq_false hz1, unhide HBD0]; simp))
                  clear HBD0
                  go_wp2
                  go_roundw
                  case rel => exact ⟨m + 1, by omega, by go_num, unhide H, unhide HB5⟩
                  case measure => simp [intOf]; omega
          · have hmn : m = ats.length := by omega
            have HA1 := hide (unhide HAL (by rw [← hmn]; exact unhide HR))
            have k5 : wr.cell? ⟨wo.heap.size, 5, none⟩ = some (.slice qk nk ck) := ((unhide KN).later (unhide HBI0)).cell 5
            have HF4 := hide ((unhide HF).below (unhide HBO))
            have HS3 : Hid ((D && hmF (f.drop (j + 1))) = hmF f) := hide (by rw [← unhide HS2, unhide HA1]; rfl)
            clear HA1 HS2 HAL HAN
            cases D with
            | true =>
              go_wp2_with fail
              refine (unhide CK _ (unhide HF4)).mono ?_
              rintro e1 w5 ⟨rfl, hb5⟩
              have HB5 := hide (tr2 (unhide HBF) hb5)
              clear hb5
              go_wp2
              go_roundw
              case rel => exact ⟨j + 1, by omega, by go_num, by rw [← unhide HS3]; rfl, unhide HB5⟩
              case measure => simp [intOf]; omega
            | false =>
              go_wp2_with fail
              refine (unhide CK _ (unhide HF4)).mono ?_
              rintro e1 w5 ⟨rfl, hb5⟩
              have HB5 := hide (tr2 (unhide HBF) hb5)
              clear hb5
              go_wp2
              go_ret
              exact ⟨by rw [← unhide HS3]; rfl, unhide HB5⟩
    · have hpi : ¬ (j : Int) < (f.len : Int) := by omega
      rw [f.drop_out j (by omega)] at hsum
      have HS : Hid (true = hmF f) := hide hsum
      clear hp hsum
      go_wp2
      go_ret
      exact ⟨by rw [← unhide HS]; rfl, hbw⟩
theorem harm_any : ∀ (m : Nat) (f : Forest), f.count ≤ m → m ≤ 1000000 → (∀ e, ∀ it ∈ items f e, OkN it) → ∀ (q : Option Addr) (cap : Nat) (w : World), Fo q f w → Calls Try.prog 22 #[.slice q f.len cap] w fun e w' => e = .returned (.bool (hmF f)) ∧ Below w.heap.size w w'
  | m, f, hm, hM, hok, q, cap, w, h => by
    rcases h with rfl | ⟨g, o, rfl, hl⟩
    · exact harm_none q cap w
    · refine harm_some f g o cap w hl (by omega) hok (fun j k sp n ats tx kids hd q cap w hf => ?_)
      have h1 : (f.drop j).count ≤ f.count := f.count_drop j
      rw [hd] at h1
      have h2 : 1 + kids.count + (f.drop (j + 1)).count ≤ f.count := h1
      match m, hm with
      | 0, hm => omega
      | m + 1, hm => exact harm_any m kids (by omega) (by omega) (drop_ok hok hd).2 q cap w hf

end Go.Proofs.Ytfdhmhdemfbfeaa
