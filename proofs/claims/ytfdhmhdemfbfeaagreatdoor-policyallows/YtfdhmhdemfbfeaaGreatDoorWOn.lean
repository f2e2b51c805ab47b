/-
  The reference's one of layer 16: what is wrong with a rule.
-/
import Derived.Test.YtfdhmhdemfbfeaaGreatDoorWTi
import Derived.Test.YtfdhmhdemfbfeaaGreatDoorMgBN
import Derived.Test.YtfdhmhdemfbfeaaGreatDoorWPn
namespace Go.Proofs.YtfdhmhdemfbfeaaGreatDoor
open Go.RowKit
set_option linter.unusedVariables false
set_option linter.unusedSimpArgs false

/-- append of whatever list of texts to a row of one's own. -/
theorem wpList_append_src {w : World} {ops : Array Oper} {rest : List Oper} {o : Oper} {a : Act} {Q : Exit → Act → World → Prop} (hgd : o.guard = none) (s x : Operand)
    (ho : o.op = .call { callee := .builtin .append, args := #[s, x], argTypes := #[23, 23] })
    (base : Nat) (v : Value) (n : Nat) (xs : List Value) (hs : a.eval s = v) (hown : w.ownsRow base 9 1 v n xs)
    (u : Value) (zs : List ByteArray) (hx : a.eval x = u) (hsrc : Src w u zs) (hlen : n + zs.length ≤ 1000) (hbase : base ≤ w.heap.size)
    (h : ∀ v' w', w'.ownsRow base 9 1 v' (n + zs.length) (xs ++ zs.map Value.string) → (w.grownBy w' v.ownBlock ∨ w' = w) → wpList Tryz.prog ops Q rest (a.put o.dst v') w') : wpList Tryz.prog ops Q (o :: rest) a w := by
  obtain ⟨i0, hi, hz0, hz1, hz2⟩ := info_parts Tryz.infoStr
  rcases hsrc with ⟨rfl, rfl⟩ | ⟨ad, cap, rfl, hc⟩
  · refine wpList_append_own_none hgd s x 23 ho base 9 i0 1 Tryz.underlying23 hi v n xs hs hown hx ?_
    exact h v w (by simpa using hown) (.inr rfl)
  · refine wpList_append_own _ hgd s x 23 ho base 9 i0 (.string ⟨#[]⟩) 1 16 Tryz.underlying23 hi hz0 hz1 hz2 rfl (by decide) v n xs hs hown ad zs.length cap (zs.map Value.string) hx (by rw [List.length_map]; omega) hc (one_str zs) (by unfold maxLen; omega) (by omega) hbase ?_
    intro v' w' h1 h2 _
    exact h v' w' h1 (.inl h2)
theorem below_src {B : Nat} {w0 w w' : World} {base : Nat} {e : TypeId} {size n : Nat} {v : Value} {xs : List Value} (h : Below B w0 w) (hg : w.grownBy w' v.ownBlock ∨ w' = w) (hown : w.ownsRow base e size v n xs) (hB : B ≤ base) (hw : B ≤ w.heap.size) : Below B w0 w' := by
  rcases hg with hg | rfl
  · exact h.grown hg hw (fun j hj => by have := (hown.lt j hj).1; omega)
  · exact h

/-- Does no text of the first k stand twice? -/
def noDup (zs : List ByteArray) (k : Nat) : Prop := ∀ j, j < k → cntK zs (zs.getD j ByteArray.empty) zs.length ≤ 1
def dupB (zs : List ByteArray) : Bool := (List.range zs.length).any fun i => decide (1 < cntK zs (zs.getD i ByteArray.empty) zs.length)
theorem dup_no {zs : List ByteArray} (h : noDup zs zs.length) : dupB zs = false := by
  rw [dupB, List.any_eq_false]
  intro i hi
  have := h i (List.mem_range.1 hi)
  rw [decide_eq_true_eq]; omega
theorem dup_yes {zs : List ByteArray} {k : Nat} (hk : k < zs.length) (h : 1 < cntK zs (zs.getD k ByteArray.empty) zs.length) : dupB zs = true := by
  rw [dupB, List.any_eq_true]
  exact ⟨k, List.mem_range.2 hk, by simpa using h⟩
def eK (zs : List ByteArray) (k : Nat) : Int := if (zs.take k).all isN = true then 0 else 4
theorem eK_yes {zs : List ByteArray} {k : Nat} (hk : k < zs.length) (h : isN (zs.getD k ByteArray.empty) = true) : eK zs (k + 1) = eK zs k := by
  rw [List.getD, List.getElem?_eq_getElem hk] at h
  have h' : isN zs[k] = true := h
  unfold eK
  rw [List.take_add_one, List.getElem?_eq_getElem hk, List.all_append]
  simp [h']
theorem eK_no {zs : List ByteArray} {k : Nat} (hk : k < zs.length) (h : isN (zs.getD k ByteArray.empty) = false) : eK zs (k + 1) = 4 := by
  rw [List.getD, List.getElem?_eq_getElem hk] at h
  have h' : isN zs[k] = false := h
  unfold eK
  rw [List.take_add_one, List.getElem?_eq_getElem hk, List.all_append]
  simp [h']
def rkeepB (nm : ByteArray) : Bool := decide (¬ ofN nm.toList = 1) && (decide (ofN nm.toList < 13 ∨ 17 < ofN nm.toList) && !imgB nm)
def badB (r : PRul) : Bool := !isN r.nm || (decide (r.ac < 1) || (decide (3 < r.ac) || (decide (r.ac = 1) && !rkeepB r.nm)))
def oneR (r : PRul) : Int := if dupB (r.ats ++ r.lks) = true then 8 else if badB r = true then 4 else eK (r.ats ++ r.lks) (r.ats ++ r.lks).length

set_option maxHeartbeats 4000000 in
set_option maxRecDepth 20000 in
theorem one_any (v : Value) (r : PRul) (w : World) (hv : RulV w v r) (ho : RulOk r) (hl : r.ats.length ≤ 30) (hm : r.lks.length ≤ 30) :
    Calls Tryz.prog 21 #[v] w fun e w' => e = .returned (.int .i64 (oneR r)) ∧ Below w.heap.size w w' := by
  obtain ⟨va, vl, rfl, h1, h2⟩ := hv
  have H1 := hide h1
  have H2 := hide h2
  obtain ⟨q1, m1, rfl⟩ := h1.1.slice
  obtain ⟨q2, m2, rfl⟩ := h2.1.slice
  unfold rulC
  clear h1 h2
  obtain ⟨nm, ac, ats, lks⟩ := r
  dsimp only at *
  have CN := hide (fun w => rname6_any nm w ho.1)
  have HZS : Hid (∀ s ∈ ats ++ lks, s.size ≤ 9223372036854775807) := hide (fun s hs => by
    rcases List.mem_append.1 hs with h | h
    · exact ho.2.1 s h
    · exact ho.2.2.1 s h)
  have hzl : (ats ++ lks).length = ats.length + lks.length := List.length_append
  have CO := hide (fun w => gof_any nm w)
  have HONE : Hid (∀ d b e, dupB (ats ++ lks) = d → badB ⟨nm, ac, ats, lks⟩ = b → eK (ats ++ lks) (ats ++ lks).length = e → oneR ⟨nm, ac, ats, lks⟩ = if d = true then 8 else if b = true then 4 else e) := hide (fun d b e h1 h2 h3 => by subst h1 h2 h3; rfl)
  have HSB : Hid (∀ W, Below w.heap.size w W → Src W (.slice q1 ats.length m1) ats) := hide (fun W hW => src_of (viewN_below (unhide H1) hW))
  have HSC : Hid (∀ W, Below w.heap.size w W → Src W (.slice q2 lks.length m2) lks) := hide (fun W hW => src_of (viewN_below (unhide H2) hW))
  have HBAD : Hid (badB ⟨nm, ac, ats, lks⟩ = (!isN nm || (decide (ac < 1) || (decide (3 < ac) || (decide (ac = 1) && !rkeepB nm))))) := hide rfl
  clear ho H1 H2
  generalize hL1 : ats.length = l1 at *
  generalize hL2 : lks.length = l2 at *
  have al := (Below.refl w.heap.size w).alloc (Nat.le_refl _) (Obj.cells #[.string nm, .int .i64 ac, .slice q1 l1 m1, .slice q2 l2 m2] 53)
  have K := hide (Blk.new w #[.string nm, .int .i64 ac, .slice q1 l1 m1, .slice q2 l2 m2] 53)
  go_enter Tryz.func21, Tryz.ntmps21
  go_wp2_with (at_builtin; refine wpList_append_src rfl _ _ rfl (w.heap.size + 1) _ 0 [] rfl (World.ownsRow_nil _ _ _ _) (.slice q1 l1 m1) ats rfl (unhide HSB _ al) (by omega) (by simp) ?_)
  intro v1 w1 hown1 hg1
  have hb1 := below_src al hg1 (World.ownsRow_nil _ (w.heap.size + 1) 9 1) (by omega) (by simp)
  have K1 : Hid (Blk w1 w.heap.size #[.string nm, .int .i64 ac, .slice q1 l1 m1, .slice q2 l2 m2] 53) := hide (by
    rcases hg1 with hg | rfl
    · exact blk_own (unhide K) hg (by simp [Value.ownBlock])
    · exact unhide K)
  have x3 : w1.cell? ⟨w.heap.size, 3, none⟩ = some (.slice q2 l2 m2) := (unhide K1).cell 3
  have hw1 : w.heap.size + 1 ≤ w1.heap.size := (unhide K1).lt
  obtain ⟨p1, n1, e1, hv1⟩ := slice_of hown1
  subst hv1
  have hown1' : w1.ownsRow (w.heap.size + 1) 9 1 (.slice p1 n1 e1) l1 (ats.map Value.string) := by simpa [hL1] using hown1
  have hsc := unhide HSC _ hb1
  have hln : l1 + lks.length ≤ 1000 := by omega
  clear hg1 al K
  go_wp2_with (at_builtin; refine wpList_append_src rfl _ _ rfl (w.heap.size + 1) _ l1 (ats.map Value.string) rfl hown1' (.slice q2 l2 m2) lks rfl hsc hln hw1 ?_)
  intro v2 w2 hown2 hg2
  have hb2 := below_src hb1 hg2 hown1' (by omega) (by omega)
  have K2 : Hid (Blk w2 w.heap.size #[.string nm, .int .i64 ac, .slice q1 l1 m1, .slice q2 l2 m2] 53) := hide (by
    rcases hg2 with hg | rfl
    · exact blk_own (unhide K1) hg (fun e => by have := (hown1'.lt _ e.symm).1; omega)
    · exact unhide K1)
  have hown3 : w2.ownsRow (w.heap.size + 1) 9 1 v2 (ats ++ lks).length ((ats ++ lks).map Value.string) := by
    have h9 := hown2
    rw [hzl, List.map_append]
    simpa [hL1, hL2] using h9
  have HVW := hide (view_of_owns hown3)
  clear hg2 hown1 hown1' hown2 hsc hln x3 hb1 K1 hw1
  generalize ats ++ lks = zs at *
  clear hL1 hL2 hown3
  obtain ⟨p2, e2, hv2⟩ := (unhide HVW).slice
  subst hv2
  have CT := hide (fun x => times_any _ zs x w2 (unhide HVW))
  have HDY := hide (fun k hk h => @dup_yes zs k hk h)
  have HDN := hide (@dup_no zs)
  have HEY := hide (fun k hk h => @eK_yes zs k hk h)
  have HEN := hide (fun k hk h => @eK_no zs k hk h)
  have hz60 : zs.length ≤ 60 := by omega
  clear hzl
  have CM := hide (fun k (hk : k < zs.length) => rname6_any (zs.getD k ByteArray.empty) w2 (unhide HZS _ (getD_in _ _ _ hk)))
  have HB2 := hide hb2
  clear hb2
  go_wp2
  go_loopw [3, 19] (fun e i wr => ∃ k : Nat, k ≤ zs.length ∧ i = .int .i64 k ∧ e = .int .i64 (eK zs k) ∧ noDup zs k ∧ wr = w2) (fun _ i _ => zs.length - (intOf i).toNat)
  case atStart => exact ⟨0, Nat.zero_le _, rfl, rfl, fun j hj => absurd hj (Nat.not_lt_zero _), rfl⟩
  case round =>
    obtain ⟨k, hk, rfl, rfl, hr, hw⟩ := hrel
    have hw' := hw.symm
    subst hw'
    have HR := hide hr
    clear hr hw
    by_cases hp : k < zs.length
    · have hpi : (k : Int) < (zs.length : Int) := by omega
      obtain ⟨_, a9, c9, e9, hc⟩ := unhide HVW
      cases e9
      obtain ⟨b, off, rfl, hcell⟩ := hc (by omega)
      have hck := hcell k hp
      have C1 := hide (unhide CT (zs.getD k ByteArray.empty))
      have C2 := hide (unhide CM k hp)
      have hdy := unhide HDY k hp
      have hey := unhide HEY k hp
      have hen := unhide HEN k hp
      have HR2 : Hid (cntK zs (zs.getD k ByteArray.empty) zs.length ≤ 1 → noDup zs (k + 1)) := hide (fun hx j hj => by
        by_cases ej : j = k
        · rw [ej]; exact hx
        · exact unhide HR j (by omega))
      have hcl := cntK_le zs (zs.getD k ByteArray.empty) zs.length
      clear hcell hc
      unfold isN at hey hen
      generalize cntK zs (zs.getD k ByteArray.empty) zs.length = cn at *
      by_cases hd : 1 < cn
      · have hdi : (1 : Int) < (cn : Int) := by omega
        have H := hide (unhide HONE _ _ _ (hdy hd) rfl rfl)
        clear hdy hey hen HR2 hd
        generalize zs.getD k ByteArray.empty = y at *
        go_wp2_with fail
        refine (unhide C1).mono ?_
        rintro e1 w3 ⟨rfl, hw3⟩
        obtain rfl : w2 = w3 := hw3.symm
        go_wp2
        go_ret
        exact ⟨by rw [unhide H]; rfl, unhide HB2⟩
      · have hdi : ¬ (1 : Int) < (cn : Int) := by omega
        have HR3 := hide (unhide HR2 (by omega))
        clear hdy HR2 hd
        cases hx : nameB (zs.getD k ByteArray.empty).data.toList with
        | true =>
          have H := hide (hey hx)
          rw [hx] at C2
          clear hey hen hx
          generalize zs.getD k ByteArray.empty = y at *
          generalize eK zs k = ek at *
          go_wp2_with fail
          refine (unhide C1).mono ?_
          rintro e1 w3 ⟨rfl, hw3⟩
          obtain rfl : w2 = w3 := hw3.symm
          clear hw3
          go_wp2_with fail
          refine (unhide C2).mono ?_
          rintro e1 w3 ⟨rfl, hw3⟩
          obtain rfl : w2 = w3 := hw3.symm
          go_wp2
          go_roundw
          case rel => exact ⟨k + 1, by omega, by go_num, by rw [unhide H], unhide HR3, by first | rfl | trivial⟩
          case measure => simp [intOf]; omega
        | false =>
          have H := hide (hen hx)
          rw [hx] at C2
          clear hey hen hx
          generalize zs.getD k ByteArray.empty = y at *
          generalize eK zs k = ek at *
          go_wp2_with fail
          refine (unhide C1).mono ?_
          rintro e1 w3 ⟨rfl, hw3⟩
          obtain rfl : w2 = w3 := hw3.symm
          clear hw3
          go_wp2_with fail
          refine (unhide C2).mono ?_
          rintro e1 w3 ⟨rfl, hw3⟩
          obtain rfl : w2 = w3 := hw3.symm
          go_wp2
          go_roundw
          case rel => exact ⟨k + 1, by omega, by go_num, by rw [unhide H], unhide HR3, by first | rfl | trivial⟩
          case measure => simp [intOf]; omega
    · have hkn : k = zs.length := by omega
      subst hkn
      have hdn := unhide HDN (unhide HR)
      have H := hide (unhide HONE _ _ _ hdn (unhide HBAD) rfl)
      clear hdn HDY HDN HEY HEN CM CT HONE
      generalize eK zs zs.length = ek at *
      have x0 : w2.cell? ⟨w.heap.size, 0, none⟩ = some (.string nm) := (unhide K2).cell 0
      go_wp2_with fail
      refine (unhide CO _).mono ?_
      rintro e1 w4 ⟨rfl, hb4⟩
      have K4 := hide ((unhide K2).later hb4)
      have y0 : w4.cell? ⟨w.heap.size, 0, none⟩ = some (.string nm) := (unhide K4).cell 0
      have y1 : w4.cell? ⟨w.heap.size, 1, none⟩ = some (.int .i64 ac) := (unhide K4).cell 1
      have HB4 := hide (tr2 (unhide HB2) hb4)
      clear x0 hb4
      unfold rkeepB isN imgB at H
      generalize hg : ofN nm.toList = g at *
      clear hg
      generalize nameB nm.data.toList = D at *
      by_cases hk1 : g = 1
      · obtain rfl : g = 1 := hk1
        cases D with
        | false =>
          go_wp2_with fail
          refine (unhide CN _).mono ?_
          rintro e1 w5 ⟨rfl, hw5⟩
          obtain rfl : w4 = w5 := hw5.symm
          clear hw5
          go_wp2
          go_ret
          exact ⟨by rw [unhide H]; simp, unhide HB4⟩
        | true =>
          by_cases c1 : ac < 1
          · have H := hide ((unhide H).trans (by rw [decide_eq_true c1]; simp : _ = (4 : Int)))
            go_wp2_with fail
            refine (unhide CN _).mono ?_
            rintro e1 w5 ⟨rfl, hw5⟩
            obtain rfl : w4 = w5 := hw5.symm
            clear hw5
            go_wp2
            go_ret
            exact ⟨by rw [unhide H]; first | rfl | (simp [*]; done) | (simp; omega) | (simp; intro h; omega), unhide HB4⟩
          by_cases c2 : 3 < ac
          · have H := hide ((unhide H).trans (by rw [decide_eq_false c1, decide_eq_true c2]; simp : _ = (4 : Int)))
            go_wp2_with fail
            refine (unhide CN _).mono ?_
            rintro e1 w5 ⟨rfl, hw5⟩
            obtain rfl : w4 = w5 := hw5.symm
            clear hw5
            go_wp2
            go_ret
            exact ⟨by rw [unhide H]; first | rfl | (simp [*]; done) | (simp; omega) | (simp; intro h; omega), unhide HB4⟩
          by_cases c3 : ac = 1
          · subst c3
            have H := hide ((unhide H).trans (by simp  : _ = (4 : Int)))
            go_wp2_with fail
            refine (unhide CN _).mono ?_
            rintro e1 w5 ⟨rfl, hw5⟩
            obtain rfl : w4 = w5 := hw5.symm
            clear hw5
            go_wp2
            go_ret
            exact ⟨by rw [unhide H]; first | rfl | (simp [*]; done) | (simp; omega) | (simp; intro h; omega), unhide HB4⟩
          have i3 : (ac == 1) = false := beqI _ _ c3
          have H := hide ((unhide H).trans (by rw [decide_eq_false c1, decide_eq_false c2, decide_eq_false c3]; simp : _ = ek))
          go_wp2_with fail
          refine (unhide CN _).mono ?_
          rintro e1 w5 ⟨rfl, hw5⟩
          obtain rfl : w4 = w5 := hw5.symm
          clear hw5
          go_wp2
          go_ret
          exact ⟨by rw [unhide H]; first | rfl | (simp [*]; done) | (simp; omega) | (simp; intro h; omega), unhide HB4⟩
      have g1 : ((g : Int) == 1) = false := bneI (by omega)
      have g1' : ((g : Int) != 1) = true := bneI' _ _ (by omega)
      by_cases hk2 : g < 13
      · have g2 : (g : Int) < 13 := by omega
        cases hI : (nm.toList == [105, 109, 97, 103, 101]) with
        | true =>
          rw [hI] at H
          cases D with
          | false =>
            go_wp2_with fail
            refine (unhide CN _).mono ?_
            rintro e1 w5 ⟨rfl, hw5⟩
            obtain rfl : w4 = w5 := hw5.symm
            clear hw5
            go_wp2
            go_ret
            exact ⟨by rw [unhide H]; simp, unhide HB4⟩
          | true =>
            by_cases c1 : ac < 1
            · have H := hide ((unhide H).trans (by rw [decide_eq_true c1]; simp : _ = (4 : Int)))
              go_wp2_with fail
              refine (unhide CN _).mono ?_
              rintro e1 w5 ⟨rfl, hw5⟩
              obtain rfl : w4 = w5 := hw5.symm
              clear hw5
              go_wp2
              go_ret
              exact ⟨by rw [unhide H]; first | rfl | (simp [*]; done) | (simp; omega) | (simp; intro h; omega), unhide HB4⟩
            by_cases c2 : 3 < ac
            · have H := hide ((unhide H).trans (by rw [decide_eq_false c1, decide_eq_true c2]; simp : _ = (4 : Int)))
              go_wp2_with fail
              refine (unhide CN _).mono ?_
              rintro e1 w5 ⟨rfl, hw5⟩
              obtain rfl : w4 = w5 := hw5.symm
              clear hw5
              go_wp2
              go_ret
              exact ⟨by rw [unhide H]; first | rfl | (simp [*]; done) | (simp; omega) | (simp; intro h; omega), unhide HB4⟩
            by_cases c3 : ac = 1
            · subst c3
              have H := hide ((unhide H).trans (by simp [hk1, hk2] : _ = (4 : Int)))
              go_wp2_with fail
              refine (unhide CN _).mono ?_
              rintro e1 w5 ⟨rfl, hw5⟩
              obtain rfl : w4 = w5 := hw5.symm
              clear hw5
              go_wp2
              go_ret
              exact ⟨by rw [unhide H]; first | rfl | (simp [*]; done) | (simp; omega) | (simp; intro h; omega), unhide HB4⟩
            have i3 : (ac == 1) = false := beqI _ _ c3
            have H := hide ((unhide H).trans (by rw [decide_eq_false c1, decide_eq_false c2, decide_eq_false c3]; simp : _ = ek))
            go_wp2_with fail
            refine (unhide CN _).mono ?_
            rintro e1 w5 ⟨rfl, hw5⟩
            obtain rfl : w4 = w5 := hw5.symm
            clear hw5
            go_wp2
            go_ret
            exact ⟨by rw [unhide H]; first | rfl | (simp [*]; done) | (simp; omega) | (simp; intro h; omega), unhide HB4⟩
        | false =>
          rw [hI] at H
          cases D with
          | false =>
            go_wp2_with fail
            refine (unhide CN _).mono ?_
            rintro e1 w5 ⟨rfl, hw5⟩
            obtain rfl : w4 = w5 := hw5.symm
            clear hw5
            go_wp2
            go_ret
            exact ⟨by rw [unhide H]; simp, unhide HB4⟩
          | true =>
            by_cases c1 : ac < 1
            · have H := hide ((unhide H).trans (by rw [decide_eq_true c1]; simp : _ = (4 : Int)))
              go_wp2_with fail
              refine (unhide CN _).mono ?_
              rintro e1 w5 ⟨rfl, hw5⟩
              obtain rfl : w4 = w5 := hw5.symm
              clear hw5
              go_wp2
              go_ret
              exact ⟨by rw [unhide H]; first | rfl | (simp [*]; done) | (simp; omega) | (simp; intro h; omega), unhide HB4⟩
            by_cases c2 : 3 < ac
            · have H := hide ((unhide H).trans (by rw [decide_eq_false c1, decide_eq_true c2]; simp : _ = (4 : Int)))
              go_wp2_with fail
              refine (unhide CN _).mono ?_
              rintro e1 w5 ⟨rfl, hw5⟩
              obtain rfl : w4 = w5 := hw5.symm
              clear hw5
              go_wp2
              go_ret
              exact ⟨by rw [unhide H]; first | rfl | (simp [*]; done) | (simp; omega) | (simp; intro h; omega), unhide HB4⟩
            by_cases c3 : ac = 1
            · subst c3
              have H := hide ((unhide H).trans (by simp [hk1, hk2] : _ = ek))
              go_wp2_with fail
              refine (unhide CN _).mono ?_
              rintro e1 w5 ⟨rfl, hw5⟩
              obtain rfl : w4 = w5 := hw5.symm
              clear hw5
              go_wp2
              go_ret
              exact ⟨by rw [unhide H]; first | rfl | (simp [*]; done) | (simp; omega) | (simp; intro h; omega), unhide HB4⟩
            have i3 : (ac == 1) = false := beqI _ _ c3
            have H := hide ((unhide H).trans (by rw [decide_eq_false c1, decide_eq_false c2, decide_eq_false c3]; simp : _ = ek))
            go_wp2_with fail
            refine (unhide CN _).mono ?_
            rintro e1 w5 ⟨rfl, hw5⟩
            obtain rfl : w4 = w5 := hw5.symm
            clear hw5
            go_wp2
            go_ret
            exact ⟨by rw [unhide H]; first | rfl | (simp [*]; done) | (simp; omega) | (simp; intro h; omega), unhide HB4⟩
      have g2 : ¬ (g : Int) < 13 := by omega
      by_cases hk3 : 17 < g
      · have g3 : (17 : Int) < (g : Int) := by omega
        cases hI : (nm.toList == [105, 109, 97, 103, 101]) with
        | true =>
          rw [hI] at H
          cases D with
          | false =>
            go_wp2_with fail
            refine (unhide CN _).mono ?_
            rintro e1 w5 ⟨rfl, hw5⟩
            obtain rfl : w4 = w5 := hw5.symm
            clear hw5
            go_wp2
            go_ret
            exact ⟨by rw [unhide H]; simp, unhide HB4⟩
          | true =>
            by_cases c1 : ac < 1
            · have H := hide ((unhide H).trans (by rw [decide_eq_true c1]; simp : _ = (4 : Int)))
              go_wp2_with fail
              refine (unhide CN _).mono ?_
              rintro e1 w5 ⟨rfl, hw5⟩
              obtain rfl : w4 = w5 := hw5.symm
              clear hw5
              go_wp2
              go_ret
              exact ⟨by rw [unhide H]; first | rfl | (simp [*]; done) | (simp; omega) | (simp; intro h; omega), unhide HB4⟩
            by_cases c2 : 3 < ac
            · have H := hide ((unhide H).trans (by rw [decide_eq_false c1, decide_eq_true c2]; simp : _ = (4 : Int)))
              go_wp2_with fail
              refine (unhide CN _).mono ?_
              rintro e1 w5 ⟨rfl, hw5⟩
              obtain rfl : w4 = w5 := hw5.symm
              clear hw5
              go_wp2
              go_ret
              exact ⟨by rw [unhide H]; first | rfl | (simp [*]; done) | (simp; omega) | (simp; intro h; omega), unhide HB4⟩
            by_cases c3 : ac = 1
            · subst c3
              have H := hide ((unhide H).trans (by simp [hk1, hk2, hk3] : _ = (4 : Int)))
              go_wp2_with fail
              refine (unhide CN _).mono ?_
              rintro e1 w5 ⟨rfl, hw5⟩
              obtain rfl : w4 = w5 := hw5.symm
              clear hw5
              go_wp2
              go_ret
              exact ⟨by rw [unhide H]; first | rfl | (simp [*]; done) | (simp; omega) | (simp; intro h; omega), unhide HB4⟩
            have i3 : (ac == 1) = false := beqI _ _ c3
            have H := hide ((unhide H).trans (by rw [decide_eq_false c1, decide_eq_false c2, decide_eq_false c3]; simp : _ = ek))
            go_wp2_with fail
            refine (unhide CN _).mono ?_
            rintro e1 w5 ⟨rfl, hw5⟩
            obtain rfl : w4 = w5 := hw5.symm
            clear hw5
            go_wp2
            go_ret
            exact ⟨by rw [unhide H]; first | rfl | (simp [*]; done) | (simp; omega) | (simp; intro h; omega), unhide HB4⟩
        | false =>
          rw [hI] at H
          cases D with
          | false =>
            go_wp2_with fail
            refine (unhide CN _).mono ?_
            rintro e1 w5 ⟨rfl, hw5⟩
            obtain rfl : w4 = w5 := hw5.symm
            clear hw5
            go_wp2
            go_ret
            exact ⟨by rw [unhide H]; simp, unhide HB4⟩
          | true =>
            by_cases c1 : ac < 1
            · have H := hide ((unhide H).trans (by rw [decide_eq_true c1]; simp : _ = (4 : Int)))
              go_wp2_with fail
              refine (unhide CN _).mono ?_
              rintro e1 w5 ⟨rfl, hw5⟩
              obtain rfl : w4 = w5 := hw5.symm
              clear hw5
              go_wp2
              go_ret
              exact ⟨by rw [unhide H]; first | rfl | (simp [*]; done) | (simp; omega) | (simp; intro h; omega), unhide HB4⟩
            by_cases c2 : 3 < ac
            · have H := hide ((unhide H).trans (by rw [decide_eq_false c1, decide_eq_true c2]; simp : _ = (4 : Int)))
              go_wp2_with fail
              refine (unhide CN _).mono ?_
              rintro e1 w5 ⟨rfl, hw5⟩
              obtain rfl : w4 = w5 := hw5.symm
              clear hw5
              go_wp2
              go_ret
              exact ⟨by rw [unhide H]; first | rfl | (simp [*]; done) | (simp; omega) | (simp; intro h; omega), unhide HB4⟩
            by_cases c3 : ac = 1
            · subst c3
              have H := hide ((unhide H).trans (by simp [hk1, hk2, hk3] : _ = ek))
              go_wp2_with fail
              refine (unhide CN _).mono ?_
              rintro e1 w5 ⟨rfl, hw5⟩
              obtain rfl : w4 = w5 := hw5.symm
              clear hw5
              go_wp2
              go_ret
              exact ⟨by rw [unhide H]; first | rfl | (simp [*]; done) | (simp; omega) | (simp; intro h; omega), unhide HB4⟩
            have i3 : (ac == 1) = false := beqI _ _ c3
            have H := hide ((unhide H).trans (by rw [decide_eq_false c1, decide_eq_false c2, decide_eq_false c3]; simp : _ = ek))
            go_wp2_with fail
            refine (unhide CN _).mono ?_
            rintro e1 w5 ⟨rfl, hw5⟩
            obtain rfl : w4 = w5 := hw5.symm
            clear hw5
            go_wp2
            go_ret
            exact ⟨by rw [unhide H]; first | rfl | (simp [*]; done) | (simp; omega) | (simp; intro h; omega), unhide HB4⟩
      have g3 : ¬ (17 : Int) < (g : Int) := by omega
      cases D with
      | false =>
        go_wp2_with fail
        refine (unhide CN _).mono ?_
        rintro e1 w5 ⟨rfl, hw5⟩
        obtain rfl : w4 = w5 := hw5.symm
        clear hw5
        go_wp2
        go_ret
        exact ⟨by rw [unhide H]; simp, unhide HB4⟩
      | true =>
        by_cases c1 : ac < 1
        · have H := hide ((unhide H).trans (by rw [decide_eq_true c1]; simp : _ = (4 : Int)))
          go_wp2_with fail
          refine (unhide CN _).mono ?_
          rintro e1 w5 ⟨rfl, hw5⟩
          obtain rfl : w4 = w5 := hw5.symm
          clear hw5
          go_wp2
          go_ret
          exact ⟨by rw [unhide H]; first | rfl | (simp [*]; done) | (simp; omega) | (simp; intro h; omega), unhide HB4⟩
        by_cases c2 : 3 < ac
        · have H := hide ((unhide H).trans (by rw [decide_eq_false c1, decide_eq_true c2]; simp : _ = (4 : Int)))
          go_wp2_with fail
          refine (unhide CN _).mono ?_
          rintro e1 w5 ⟨rfl, hw5⟩
          obtain rfl : w4 = w5 := hw5.symm
          clear hw5
          go_wp2
          go_ret
          exact ⟨by rw [unhide H]; first | rfl | (simp [*]; done) | (simp; omega) | (simp; intro h; omega), unhide HB4⟩
        by_cases c3 : ac = 1
        · subst c3
          have H := hide ((unhide H).trans (by simp [hk1, hk2, hk3] : _ = (4 : Int)))
          go_wp2_with fail
          refine (unhide CN _).mono ?_
          rintro e1 w5 ⟨rfl, hw5⟩
          obtain rfl : w4 = w5 := hw5.symm
          clear hw5
          go_wp2
          go_ret
          exact ⟨by rw [unhide H]; first | rfl | (simp [*]; done) | (simp; omega) | (simp; intro h; omega), unhide HB4⟩
        have i3 : (ac == 1) = false := beqI _ _ c3
        have H := hide ((unhide H).trans (by rw [decide_eq_false c1, decide_eq_false c2, decide_eq_false c3]; simp : _ = ek))
        go_wp2_with fail
        refine (unhide CN _).mono ?_
        rintro e1 w5 ⟨rfl, hw5⟩
        obtain rfl : w4 = w5 := hw5.symm
        clear hw5
        go_wp2
        go_ret
        exact ⟨by rw [unhide H]; first | rfl | (simp [*]; done) | (simp; omega) | (simp; intro h; omega), unhide HB4⟩
end Go.Proofs.YtfdhmhdemfbfeaaGreatDoor
