/-
  The reference's First of layer 16 (made by mk_wft.py).
-/
import Derived.Test.YtfdhmhdemfbfeaaGreatDoorWFt
namespace Go.Proofs.YtfdhmhdemfbfeaaGreatDoor
open Go.RowKit
set_option linter.unusedVariables false
set_option linter.unusedSimpArgs false

theorem item_depth : ∀ (f : Forest) (d e : Nat) (it : Item), it ∈ items f d → ∃ it', it' ∈ items f e ∧ (OkN it' → OkN it)
  | .nil, d, e, it, h => by cases h
  | .cons k sp n ats tx kids rest, d, e, it, h => by
    have h' : it ∈ (⟨k, sp, n, ats, tx, kids, d⟩ : Item) :: (items kids (d + 1) ++ items rest d) := h
    rcases List.mem_cons.1 h' with rfl | h2
    · exact ⟨⟨k, sp, n, ats, tx, kids, e⟩, List.mem_cons_self .., fun x => x⟩
    · rcases List.mem_append.1 h2 with h3 | h3
      · obtain ⟨it', g1, g2⟩ := item_depth kids (d + 1) (e + 1) it h3
        exact ⟨it', by show it' ∈ _ :: (items kids (e + 1) ++ items rest e); simp [g1], g2⟩
      · obtain ⟨it', g1, g2⟩ := item_depth rest d e it h3
        exact ⟨it', by show it' ∈ _ :: (items kids (e + 1) ++ items rest e); simp [g1], g2⟩
theorem all_depths {f : Forest} (h : ∀ it ∈ items f 1, OkN it) : ∀ e, ∀ it ∈ items f e, OkN it := fun e it hi => by
  obtain ⟨it', g1, g2⟩ := item_depth f e 1 it hi
  exact g2 (h it' g1)
theorem drop_ok {f : Forest} {j : Nat} {k sp : Int} {n : ByteArray} {ats : List (ByteArray × ByteArray)} {tx : ByteArray} {kids rest : Forest} (h : ∀ e, ∀ it ∈ items f e, OkN it) (hd : f.drop j = .cons k sp n ats tx kids rest) : (ats.length ≤ 40 ∧ n.size ≤ 100 ∧ tx.size ≤ 5000 ∧ ∀ x ∈ ats, x.1.size ≤ 100 ∧ x.2.size ≤ 2000) ∧ ∀ e, ∀ it ∈ items kids e, OkN it := by
  constructor
  · exact h 0 ⟨k, sp, n, ats, tx, kids, 0⟩ (drop_items j f 0 _ (by rw [hd]; exact List.mem_cons_self ..))
  · intro e it hi
    cases e with
    | zero =>
      obtain ⟨it', h1, h2⟩ : ∃ it', it' ∈ items kids 1 ∧ (OkN it' → OkN it) := item_depth kids 0 1 it hi
      exact h2 (h 0 it' (drop_items j f 0 _ (by rw [hd]; show it' ∈ _ :: (items kids 1 ++ items rest 0); simp [h1])))
    | succ e => exact h e it (drop_items j f e _ (by rw [hd]; show it ∈ _ :: (items kids (e + 1) ++ items rest e); simp [hi]))
def stQ (p : PPol) (n : ByteArray) (ats : List (ByteArray × ByteArray)) (m : Nat) : Prop := ∀ j, j < m → stB p (findR p.ot n p.rs) (an ats j) (av ats j) = true
/-- How a node is judged by the reference is how it is judged. -/
theorem ref_other {p : PPol} {k : Int} (sp : Int) (n : ByteArray) (ats : List (ByteArray × ByteArray)) (h1 : ¬ k = 1) : refN p k sp n ats = !decide (k = 2) := by unfold refN; rw [if_neg h1]
theorem ref_act {p : PPol} (sp : Int) (n : ByteArray) (ats : List (ByteArray × ByteArray)) (h : ¬ (rulOf p sp n).ac = 1) : refN p 1 sp n ats = true := by unfold refN; rw [if_pos rfl, decide_eq_false h]; rfl
theorem rul_space {p : PPol} (hc : chkP p = 0) {sp : Int} {n : ByteArray} (h : (rulOf p sp n).ac = 1) : rulOf p sp n = findR p.ot n p.rs := by
  unfold rulOf at h ⊢
  by_cases hs : sp = 0
  · rw [if_pos hs]
  · rw [if_neg hs] at h; exact absurd h (chk_strange hc)
theorem ref_no {p : PPol} (hc : chkP p = 0) {sp : Int} {n : ByteArray} {ats : List (ByteArray × ByteArray)} (h : (rulOf p sp n).ac = 1) (hs : stQ p n ats ats.length) : refN p 1 sp n ats = false := by
  have e := rul_space hc h
  unfold refN
  rw [if_pos rfl, decide_eq_true h, e]
  exact refA_no hs
theorem ref_yes {p : PPol} (hc : chkP p = 0) {sp : Int} {n : ByteArray} {ats : List (ByteArray × ByteArray)} {m : Nat} (h : (rulOf p sp n).ac = 1) (hm : m < ats.length) (hs : stB p (findR p.ot n p.rs) (an ats m) (av ats m) = false) : refN p 1 sp n ats = true := by
  have e := rul_space hc h
  unfold refN
  rw [if_pos rfl, decide_eq_true h, e]
  exact refA_yes hm hs
theorem fd_yes {p : PPol} {k sp : Int} {n : ByteArray} {ats : List (ByteArray × ByteArray)} {tx : ByteArray} {kids rest : Forest} (h : refN p k sp n ats = true) : fdF p (.cons k sp n ats tx kids rest) = (txI k n ats tx, true) := by rw [fdF, if_pos h]
theorem fd_no {p : PPol} {k sp : Int} {n : ByteArray} {ats : List (ByteArray × ByteArray)} {tx : ByteArray} {kids rest : Forest} (h : refN p k sp n ats = false) : fdF p (.cons k sp n ats tx kids rest) = if (fdF p kids).2 = true then fdF p kids else fdF p rest := by rw [fdF, if_neg (by rw [h]; decide)]

set_option maxHeartbeats 2000000 in
theorem rfirst_none (v : Value) (p : PPol) (q : Option Addr) (cap : Nat) (w : World) (hv : PolV w v p) : Calls Tryz.prog 11 #[v, .slice q 0 cap] w fun e w' => e = .returned (.agg #[.string ⟨#[]⟩, .bool false]) ∧ Below w.heap.size w w' := by
  obtain ⟨vrs, vs, rfl, h1, h2⟩ := hv
  obtain ⟨a2, c2, rfl⟩ := h2.slice
  obtain ⟨hrl, a1, c1, rfl, _⟩ := h1
  unfold polC
  clear h2
  obtain ⟨rs, sc, ot, st⟩ := p
  dsimp only at *
  generalize rs.length = n1 at *
  generalize sc.length = n2 at *
  have KR : Hid (Blk ((w.alloc (Obj.cells #[.slice a1 n1 c1, .slice a2 n2 c2, .int .i64 ot, .int .i64 st] 32)).alloc (Obj.cells #[.string ⟨#[]⟩, .bool false] 38)) (w.heap.size + 1) #[.string ⟨#[]⟩, .bool false] 38) := hide (blk_next (by simp))
  have al : Below w.heap.size w ((w.alloc (Obj.cells #[.slice a1 n1 c1, .slice a2 n2 c2, .int .i64 ot, .int .i64 st] 32)).alloc (Obj.cells #[.string ⟨#[]⟩, .bool false] 38)) := ((Below.refl _ _).alloc (Nat.le_refl _) _).alloc (by simp) _
  have HAL := hide al
  clear al
  go_enter Tryz.func11, Tryz.ntmps11
  go_wp2
  refine wp_loop_rounds 1 ?_
  rw [rounds_succ]; go_wp2
  have dd0 := (unhide KR).cell 0
  have dd1 := (unhide KR).cell 1
  refine bodyPost_ret (v := .agg #[.string ⟨#[]⟩, .bool false]) (by simp [results, Tryz.results11, go_sem, dd0, dd1]) rfl ?_
  exact ⟨rfl, unhide HAL⟩

theorem xn_le2 {ats : List (ByteArray × ByteArray)} {k : Nat} (h : ∀ x ∈ ats, x.1.size ≤ 100 ∧ x.2.size ≤ 2000) (hk : k < ats.length) : (an ats k).size ≤ 100 ∧ (av ats k).size ≤ 2000 := h _ (getD_in _ _ _ hk)
set_option maxHeartbeats 20000000 in
set_option maxRecDepth 20000 in
theorem rfirst_some (v : Value) (p : PPol) (f : Forest) (g oo cap : Nat) (w : World) (hv : PolV w v p) (hch : chkP p = 0) (hl : Lies f g oo w) (hc : f.count ≤ 1000000) (hok : ∀ e, ∀ it ∈ items f e, OkN it)
    (ih : ∀ j k sp n ats tx kids, f.drop j = .cons k sp n ats tx kids (f.drop (j + 1)) → ∀ q cap W, Below w.heap.size w W → Fo q kids W → Calls Tryz.prog 11 #[v, .slice q kids.len cap] W fun e w' => e = .returned (.agg #[.string (fdF p kids).1, .bool (fdF p kids).2]) ∧ Below W.heap.size W w') :
    Calls Tryz.prog 11 #[v, .slice (some ⟨g, oo, none⟩) f.len cap] w fun e w' => e = .returned (.agg #[.string (fdF p f).1, .bool (fdF p f).2]) ∧ Below w.heap.size w w' := by
  have HL := hide hl
  have IH := hide ih
  have HOK := hide hok
  have hlc := f.len_count
  have CA := hide (fun sp n W (hW : Below w.heap.size w W) => ract_any v p sp n W (hv.below hW))
  have CT := hide (fun n xn xv W (hW : Below w.heap.size w W) hz => rstays_any v p n xn xv W (hv.below hW) hz)
  have CO := hide (fun sp n ats tx qa qk ca kl ck W hs hF hn => jropen_yes sp n ats tx qa qk ca kl ck W hs hF hn)
  have HRO := hide (fun k sp n ats h => @ref_other p k sp n ats h)
  have HRA := hide (fun sp n ats h => @ref_act p sp n ats h)
  have HRN := hide (fun sp n ats h hs => @ref_no p hch sp n ats h hs)
  have HRY := hide (fun sp n ats m h hm hs => @ref_yes p hch sp n ats m h hm hs)
  have HFY := hide (fun k sp n ats tx kids rest h => @fd_yes p k sp n ats tx kids rest h)
  have HFN := hide (fun k sp n ats tx kids rest h => @fd_no p k sp n ats tx kids rest h)
  obtain ⟨vrs, vs, rfl, h1, h2⟩ := hv
  obtain ⟨a2, c2, rfl⟩ := h2.slice
  obtain ⟨hrl, a1, c1, rfl, _⟩ := h1
  unfold polC at *
  clear hl ih hok h2 hch
  generalize hn1 : p.rs.length = n1 at *
  generalize p.sc.length = n2 at *
  generalize hot : p.ot = ot at *
  generalize hst : p.st = st at *
  clear hn1
  have al : Below w.heap.size w ((w.alloc (Obj.cells #[.slice a1 n1 c1, .slice a2 n2 c2, .int .i64 ot, .int .i64 st] 32)).alloc (Obj.cells #[.string ⟨#[]⟩, .bool false] 38)) := ((Below.refl _ _).alloc (Nat.le_refl _) _).alloc (by simp) _
  have KP : Hid (Blk ((w.alloc (Obj.cells #[.slice a1 n1 c1, .slice a2 n2 c2, .int .i64 ot, .int .i64 st] 32)).alloc (Obj.cells #[.string ⟨#[]⟩, .bool false] 38)) w.heap.size #[.slice a1 n1 c1, .slice a2 n2 c2, .int .i64 ot, .int .i64 st] 32) := hide ((Blk.new w _ _).alloc _)
  have KR : Hid (Blk ((w.alloc (Obj.cells #[.slice a1 n1 c1, .slice a2 n2 c2, .int .i64 ot, .int .i64 st] 32)).alloc (Obj.cells #[.string ⟨#[]⟩, .bool false] 38)) (w.heap.size + 1) #[.string ⟨#[]⟩, .bool false] 38) := hide (blk_next (by simp))
  have HAL := hide al
  clear al
  go_enter Tryz.func11, Tryz.ntmps11
  go_wp2
  go_loopw [12] (fun b wr => ∃ j : Nat, j ≤ f.len ∧ b = .int .i64 j ∧ fdF p (f.drop j) = fdF p f ∧ Blk wr w.heap.size #[.slice a1 n1 c1, .slice a2 n2 c2, .int .i64 ot, .int .i64 st] 32 ∧ Blk wr (w.heap.size + 1) #[.string ⟨#[]⟩, .bool false] 38 ∧ Below w.heap.size w wr) (fun b _ => f.len - (intOf b).toNat)
  case atStart => exact ⟨0, Nat.zero_le _, rfl, by rw [Forest.drop_zero], unhide KP, unhide KR, unhide HAL⟩
  case round =>
    clear KP KR HAL
    obtain ⟨j, hj, rfl, hsum, kp, kr, hbw⟩ := hrel
    generalize wr = wo at *
    by_cases hp : j < f.len
    · have hpi : (j : Int) < (f.len : Int) := by omega
      obtain ⟨k, sp, n, ats, tx, kids, hd⟩ := f.drop_cons j hp
      have hlj := (unhide HL).drop j
      have hlw := hlj.below hbw
      have hdo := drop_ok (unhide HOK) hd
      rw [hd] at hlw hsum
      obtain ⟨⟨d0, d1, d2, ⟨qa, ca, d3, hsl⟩, d4, ⟨qk, ck, d5, hck, hfo⟩⟩, _⟩ := hlw
      have CK := hide (fun W hW h => unhide IH j k sp n ats tx kids hd qk ck W hW h)
      have hbA := (Below.refl wo.heap.size wo).alloc (Nat.le_refl _) (Obj.cells #[.int .i64 k, .int .i64 sp, .string n, .slice qa ats.length ca, .string tx, .slice qk kids.len ck] 61)
      have HF := hide (show Fo qk kids wo from hfo)
      have HSL := hide hsl
      have HBA := hide hbA
      have HB := hide (tr2 hbw hbA)
      have HS := hide hsum
      have KPA := hide (kp.later hbA)
      have KRA := hide (kr.later hbA)
      have KNA := hide (Blk.new wo #[.int .i64 k, .int .i64 sp, .string n, .slice qa ats.length ca, .string tx, .slice qk kids.len ck] 61)
      have HFT := hide (okN_fits hdo.1.1 hdo.1.2.2.2)
      have HNS : Hid (n.size ≤ 10000) := hide (by have := hdo.1.2.1; omega)
      have HSZ := hide (fun m hm => @xn_le2 ats m hdo.1.2.2.2 hm)
      have hna := hdo.1.1
      have hltw : w.heap.size + 1 < wo.heap.size := kr.lt
      have hltw' : w.heap.size < wo.heap.size := by omega
      have CO1 := hide (fun W (hW : Below wo.heap.size wo W) => unhide CO sp n ats tx qa qk ca kids.len ck W ((unhide HSL).below hW) (unhide HFT) (unhide HNS))
      have HRO1 := hide (unhide HRO k sp n ats)
      have HRA1 := hide (unhide HRA sp n ats)
      have HRN1 := hide (unhide HRN sp n ats)
      have HRY1 := hide (fun m => unhide HRY sp n ats m)
      have HFY1 := hide (unhide HFY k sp n ats tx kids (f.drop (j + 1)))
      have HFN1 := hide (unhide HFN k sp n ats tx kids (f.drop (j + 1)))
      clear hlj hsl hfo hd hsum hbA hdo hck HRO HRA HRN HRY HFY HFN IH
      have r0 : wo.cell? ⟨w.heap.size + 1, 0, none⟩ = some (.string ⟨#[]⟩) := kr.cell 0
      have r1 : wo.cell? ⟨w.heap.size + 1, 1, none⟩ = some (.bool false) := kr.cell 1
      have f0 := kr.frozen 0
      have f1 := kr.frozen 1
      have p0 : wo.cell? ⟨w.heap.size, 0, none⟩ = some (.slice a1 n1 c1) := kp.cell 0
      have p1 : wo.cell? ⟨w.heap.size, 1, none⟩ = some (.slice a2 n2 c2) := kp.cell 1
      have p2 : wo.cell? ⟨w.heap.size, 2, none⟩ = some (.int .i64 ot) := kp.cell 2
      have p3 : wo.cell? ⟨w.heap.size, 3, none⟩ = some (.int .i64 st) := kp.cell 3
      have KPO := hide kp
      have KRO := hide kr
      have HBW0 := hide hbw
      clear kp kr
      by_cases hk1 : k = 1
      · subst hk1
        have CA1 := hide (unhide CA sp n _ (unhide HB))
        have HTX : Hid (txI 1 n ats tx = bs (openL n.data.toList ats)) := hide rfl
        generalize hnal : ats.length = na at *
        generalize hnkl : kids.len = nk at *
        have HNAL := hide hnal
        clear hnal hnkl
        generalize bs (openL n.data.toList ats) = X at *
        generalize hac : (rulOf p sp n).ac = ac at *
        clear hac
        go_wp2_with fail
        refine (unhide CA1).mono ?_
        rintro e1 w1 ⟨rfl, hb1⟩
        clear r0 r1 f0 f1 p0 p1 p2 p3 d0 d1 d2 d3 d4 d5
        have KP1 := hide ((unhide KPA).later hb1)
        have KR1 := hide ((unhide KRA).later hb1)
        have KN1 := hide ((unhide KNA).later hb1)
        have HB1 := hide (tr2 (unhide HB) hb1)
        have HBO1 := hide ((unhide HBA).trans (hb1.mono (by simp)))
        have hlt1 : w.heap.size + 1 < w1.heap.size := (unhide KR1).lt
        clear hb1 CA1
        by_cases hac : ac = 1
        · subst hac
          have HRN2 := hide (unhide HRN1 rfl)
          have HRY2 := hide (fun m => unhide HRY1 m rfl)
          have t3 : w1.cell? ⟨wo.heap.size, 3, none⟩ = some (.slice qa na ca) := (unhide KN1).cell 3
          go_wp2
          go_loopw [43] (fun b wi => ∃ m : Nat, m ≤ na ∧ b = .int .i64 m ∧ stQ p n ats m ∧ Below w1.heap.size w1 wi) (fun b _ => na - (intOf b).toNat)
          case atStart => exact ⟨0, Nat.zero_le _, rfl, fun j hj => absurd hj (Nat.not_lt_zero _), Below.refl _ _⟩
          case round =>
            obtain ⟨m, hm, rfl, hr, hbi⟩ := hrel
            have HR := hide hr
            have hszi := hbi.size
            have KP2 := hide ((unhide KP1).later hbi)
            have KR2 := hide ((unhide KR1).later hbi)
            have KN2 := hide ((unhide KN1).later hbi)
            have HB2 := hide (tr2 (unhide HB1) hbi)
            have HBO2 := hide (tr2 (unhide HBO1) hbi)
            have HBI := hide hbi
            have hlt2 : wo.heap.size < wr.heap.size := (unhide KN2).lt
            have hlt2' : w.heap.size + 1 < wr.heap.size := by omega
            have hlt2'' : w.heap.size < wr.heap.size := by omega
            clear hr hbi t3
            by_cases hq : m < na
            · have hqi : (m : Int) < (na : Int) := by omega
              have hq2 : m < ats.length := by rw [unhide HNAL]; exact hq
              rcases (unhide HSL).below (unhide HBO2) with h | ⟨g2, o2, rfl, hcell⟩
              · rw [h] at hq2; simp at hq2
              obtain ⟨x0, x1⟩ := hcell m hq2
              have hzz := unhide HSZ m hq
              have alX := (Below.refl wr.heap.size wr).alloc (Nat.le_refl _) (Obj.cells #[.string (an ats m), .string (av ats m)] 48)
              have CT2 := hide (unhide CT n (an ats m) (av ats m) _ (tr2 (unhide HB2) alX) (by omega))
              have HRY3 := hide (unhide HRY2 m hq)
              have HR2 : Hid (stB p (findR ot n p.rs) (an ats m) (av ats m) = true → stQ p n ats (m + 1)) := hide (fun hx i hi => by
                by_cases ei : i = m
                · rw [ei, hot]; exact hx
                · exact unhide HR i (by omega))
              have HRY4 : Hid (stB p (findR ot n p.rs) (an ats m) (av ats m) = false → refN p 1 sp n ats = true) := hide (fun h => unhide HRY3 (by first | exact h | (rw [hot]; exact h)))
              generalize stB p (findR ot n p.rs) (an ats m) (av ats m) = D at *
              generalize an ats m = xn at *
              generalize av ats m = xv at *
              have KP3 := hide ((unhide KP2).later alX)
              have KR3 := hide ((unhide KR2).later alX)
              have KN3 := hide ((unhide KN2).later alX)
              have HB3 := hide (tr2 (unhide HB2) alX)
              have HBO3 := hide (tr2 (unhide HBO2) alX)
              have HBI3 := hide (tr2 (unhide HBI) alX)
              have p0 : wr.cell? ⟨w.heap.size, 0, none⟩ = some (.slice a1 n1 c1) := (unhide KP2).cell 0
              have p1 : wr.cell? ⟨w.heap.size, 1, none⟩ = some (.slice a2 n2 c2) := (unhide KP2).cell 1
              have p2 : wr.cell? ⟨w.heap.size, 2, none⟩ = some (.int .i64 ot) := (unhide KP2).cell 2
              have p3 : wr.cell? ⟨w.heap.size, 3, none⟩ = some (.int .i64 st) := (unhide KP2).cell 3
              have s2 : wr.cell? ⟨wo.heap.size, 2, none⟩ = some (.string n) := (unhide KN2).cell 2
              clear hcell alX hzz HRY3
              go_wp2_with fail
              refine (unhide CT2).mono ?_
              rintro e1 w4 ⟨rfl, hb4⟩
              clear p0 p1 p2 p3 s2 x0 x1 CT2
              have KP4 := hide ((unhide KP3).later hb4)
              have KR4 := hide ((unhide KR3).later hb4)
              have KN4 := hide ((unhide KN3).later hb4)
              have HB4 := hide (tr2 (unhide HB3) hb4)
              have HBO4 := hide (tr2 (unhide HBO3) hb4)
              have HBI4 := hide (tr2 (unhide HBI3) hb4)
              clear hb4
              cases D with
              | true =>
                have H := hide (unhide HR2 (by first | rfl | trivial))
                go_wp2
                go_roundw
                case rel => exact ⟨m + 1, by omega, by go_num, unhide H, unhide HBI4⟩
                case measure => simp [intOf]; omega
              | false =>
                have HE : Hid (fdF p f = (X, true)) := hide (by rw [← unhide HS, unhide HFY1 (unhide HRY4 (by first | rfl | trivial)), unhide HTX])
                have C5 := hide (unhide CO1 w4 (unhide HBO4))
                have s0 : w4.cell? ⟨wo.heap.size, 0, none⟩ = some (.int .i64 1) := (unhide KN4).cell 0
                have s1 : w4.cell? ⟨wo.heap.size, 1, none⟩ = some (.int .i64 sp) := (unhide KN4).cell 1
                have s2 : w4.cell? ⟨wo.heap.size, 2, none⟩ = some (.string n) := (unhide KN4).cell 2
                have s3 : w4.cell? ⟨wo.heap.size, 3, none⟩ = some (.slice (some ⟨g2, o2, none⟩) na ca) := (unhide KN4).cell 3
                have s4 : w4.cell? ⟨wo.heap.size, 4, none⟩ = some (.string tx) := (unhide KN4).cell 4
                have s5 : w4.cell? ⟨wo.heap.size, 5, none⟩ = some (.slice qk nk ck) := (unhide KN4).cell 5
                go_wp2_with fail
                refine (unhide C5).mono ?_
                rintro e1 w5 ⟨rfl, hb5⟩
                clear s0 s1 s2 s3 s4 s5
                have KR5 := hide ((unhide KR4).later hb5)
                have HB5 := hide (tr2 (unhide HB4) hb5)
                have r0 : w5.cell? ⟨w.heap.size + 1, 0, none⟩ = some (.string ⟨#[]⟩) := (unhide KR5).cell 0
                have r1 : w5.cell? ⟨w.heap.size + 1, 1, none⟩ = some (.bool false) := (unhide KR5).cell 1
                have f0 := (unhide KR5).frozen 0
                have f1 := (unhide KR5).frozen 1
                clear hb5 C5
                go_wp2
                have kk := ((unhide KR5).set 0 (by simp) (.string X)).set 1 (by simp) (.bool true)
                have dd0 := kk.cell 0
                have dd1 := kk.cell 1
                refine bodyPost_ret (v := .agg #[.string X, .bool true]) (by simp [results, Tryz.results11, go_sem, dd0, dd1]) rfl ?_
                exact ⟨by rw [unhide HE], ((unhide HB5).setCell (by simp) _).setCell (by simp) _⟩
            · have hmn : m = na := by omega
              subst hmn
              have HNF : refN p 1 sp n ats = false := unhide HRN2 (by first | exact unhide HR | (rw [unhide HNAL]; exact unhide HR))
              have HNFh := hide HNF
              clear HNF
              have HS2 : Hid ((if (fdF p kids).2 = true then fdF p kids else fdF p (f.drop (j + 1))) = fdF p f) := hide (by rw [← unhide HS, unhide HFN1 (unhide HNFh)])
              have CK2 := hide (unhide CK wr (unhide HB2) ((unhide HF).below (unhide HBO2)))
              have p0 : wr.cell? ⟨w.heap.size, 0, none⟩ = some (.slice a1 n1 c1) := (unhide KP2).cell 0
              have p1 : wr.cell? ⟨w.heap.size, 1, none⟩ = some (.slice a2 n2 c2) := (unhide KP2).cell 1
              have p2 : wr.cell? ⟨w.heap.size, 2, none⟩ = some (.int .i64 ot) := (unhide KP2).cell 2
              have p3 : wr.cell? ⟨w.heap.size, 3, none⟩ = some (.int .i64 st) := (unhide KP2).cell 3
              have s5 : wr.cell? ⟨wo.heap.size, 5, none⟩ = some (.slice qk nk ck) := (unhide KN2).cell 5
              generalize hfk : fdF p kids = FK at *
              obtain ⟨FS, FB⟩ := FK
              clear hfk
              go_wp2_with fail
              refine (unhide CK2).mono ?_
              rintro e1 w7 ⟨rfl, hb7⟩
              clear p0 p1 p2 p3 s5
              have alF := (Below.refl w7.heap.size w7).alloc (Nat.le_refl _) (Obj.cells #[.string FS, .bool FB] 38)
              have KP7 := hide ((unhide KP2).later hb7)
              have KR7 := hide ((unhide KR2).later hb7)
              have KP8 := hide ((unhide KP7).later alF)
              have KR8 := hide ((unhide KR7).later alF)
              have HB7 := hide (tr2 (unhide HB2) hb7)
              have HB8 := hide (tr2 (unhide HB7) alF)
              have hlt7 : w.heap.size + 1 < w7.heap.size := (unhide KR7).lt
              have r0 : w7.cell? ⟨w.heap.size + 1, 0, none⟩ = some (.string ⟨#[]⟩) := (unhide KR7).cell 0
              have r1 : w7.cell? ⟨w.heap.size + 1, 1, none⟩ = some (.bool false) := (unhide KR7).cell 1
              have f0 := (unhide KR7).frozen 0
              have f1 := (unhide KR7).frozen 1
              clear hb7 alF CK2 KP7
              cases FB with
              | true =>
                go_wp2
                have kk := (((unhide KR7).set 0 (by simp) (.string FS)).set 1 (by simp) (.bool true)).alloc (Obj.cells #[.string FS, .bool true] 38)
                have dd0 := kk.cell 0
                have dd1 := kk.cell 1
                refine bodyPost_ret (v := .agg #[.string FS, .bool true]) (by simp [results, Tryz.results11, go_sem, dd0, dd1]) rfl ?_
                exact ⟨by rw [← unhide HS2]; rfl, (((unhide HB7).setCell (by simp) _).setCell (by simp) _).alloc (by simp; omega) _⟩
              | false =>
                go_wp2
                go_roundw
                case rel => exact ⟨j + 1, by omega, by go_num, by rw [← unhide HS2]; rfl, unhide KP8, unhide KR8, unhide HB8⟩
                case measure => simp [intOf]; omega
        · have ia : (ac == 1) = false := beqI _ _ hac
          have ib : (ac != 1) = true := bneI' _ _ hac
          have HE : Hid (fdF p f = (X, true)) := hide (by rw [← unhide HS, unhide HFY1 (unhide HRA1 hac), unhide HTX])
          have C5 := hide (unhide CO1 w1 (unhide HBO1))
          clear hac
          have s0 : w1.cell? ⟨wo.heap.size, 0, none⟩ = some (.int .i64 1) := (unhide KN1).cell 0
          have s1 : w1.cell? ⟨wo.heap.size, 1, none⟩ = some (.int .i64 sp) := (unhide KN1).cell 1
          have s2 : w1.cell? ⟨wo.heap.size, 2, none⟩ = some (.string n) := (unhide KN1).cell 2
          have s3 : w1.cell? ⟨wo.heap.size, 3, none⟩ = some (.slice qa na ca) := (unhide KN1).cell 3
          have s4 : w1.cell? ⟨wo.heap.size, 4, none⟩ = some (.string tx) := (unhide KN1).cell 4
          have s5 : w1.cell? ⟨wo.heap.size, 5, none⟩ = some (.slice qk nk ck) := (unhide KN1).cell 5
          go_wp2_with fail
          refine (unhide C5).mono ?_
          rintro e1 w5 ⟨rfl, hb5⟩
          clear s0 s1 s2 s3 s4 s5
          have KR5 := hide ((unhide KR1).later hb5)
          have HB5 := hide (tr2 (unhide HB1) hb5)
          have r0 : w5.cell? ⟨w.heap.size + 1, 0, none⟩ = some (.string ⟨#[]⟩) := (unhide KR5).cell 0
          have r1 : w5.cell? ⟨w.heap.size + 1, 1, none⟩ = some (.bool false) := (unhide KR5).cell 1
          have f0 := (unhide KR5).frozen 0
          have f1 := (unhide KR5).frozen 1
          clear hb5 C5
          go_wp2
          have kk := ((unhide KR5).set 0 (by simp) (.string X)).set 1 (by simp) (.bool true)
          have dd0 := kk.cell 0
          have dd1 := kk.cell 1
          refine bodyPost_ret (v := .agg #[.string X, .bool true]) (by simp [results, Tryz.results11, go_sem, dd0, dd1]) rfl ?_
          exact ⟨by rw [unhide HE], ((unhide HB5).setCell (by simp) _).setCell (by simp) _⟩
      · have i1 : (k == 1) = false := beqI _ _ hk1
        have i2 : (k != 1) = true := bneI' _ _ hk1
        have HRO2 := hide (unhide HRO1 hk1)
        have HTX : Hid (txI k n ats tx = tx) := hide (if_neg hk1)
        clear hk1
        by_cases hk2 : k = 2
        · subst hk2
          have HNFh : Hid (refN p 2 sp n ats = false) := hide ((unhide HRO2).trans (by decide))
          generalize hnal : ats.length = na at *
          generalize hnkl : kids.len = nk at *
          have HNAL := hide hnal
          clear hnal hnkl
          clear r0 r1 f0 f1 p0 p1 p2 p3
          have HS2 : Hid ((if (fdF p kids).2 = true then fdF p kids else fdF p (f.drop (j + 1))) = fdF p f) := hide (by rw [← unhide HS, unhide HFN1 (unhide HNFh)])
          have CK2 := hide (unhide CK _ (unhide HB) ((unhide HF).below (unhide HBA)))
          have p0 : wo.cell? ⟨w.heap.size, 0, none⟩ = some (.slice a1 n1 c1) := (unhide KPO).cell 0
          have p1 : wo.cell? ⟨w.heap.size, 1, none⟩ = some (.slice a2 n2 c2) := (unhide KPO).cell 1
          have p2 : wo.cell? ⟨w.heap.size, 2, none⟩ = some (.int .i64 ot) := (unhide KPO).cell 2
          have p3 : wo.cell? ⟨w.heap.size, 3, none⟩ = some (.int .i64 st) := (unhide KPO).cell 3
          generalize hfk : fdF p kids = FK at *
          obtain ⟨FS, FB⟩ := FK
          clear hfk
          go_wp2_with fail
          refine (unhide CK2).mono ?_
          rintro e1 w7 ⟨rfl, hb7⟩
          clear p0 p1 p2 p3
          have alF := (Below.refl w7.heap.size w7).alloc (Nat.le_refl _) (Obj.cells #[.string FS, .bool FB] 38)
          have KP7 := hide ((unhide KPA).later hb7)
          have KR7 := hide ((unhide KRA).later hb7)
          have KP8 := hide ((unhide KP7).later alF)
          have KR8 := hide ((unhide KR7).later alF)
          have HB7 := hide (tr2 (unhide HB) hb7)
          have HB8 := hide (tr2 (unhide HB7) alF)
          have hlt7 : w.heap.size + 1 < w7.heap.size := (unhide KR7).lt
          have r0 : w7.cell? ⟨w.heap.size + 1, 0, none⟩ = some (.string ⟨#[]⟩) := (unhide KR7).cell 0
          have r1 : w7.cell? ⟨w.heap.size + 1, 1, none⟩ = some (.bool false) := (unhide KR7).cell 1
          have f0 := (unhide KR7).frozen 0
          have f1 := (unhide KR7).frozen 1
          clear hb7 alF CK2 KP7
          cases FB with
          | true =>
            go_wp2
            have kk := (((unhide KR7).set 0 (by simp) (.string FS)).set 1 (by simp) (.bool true)).alloc (Obj.cells #[.string FS, .bool true] 38)
            have dd0 := kk.cell 0
            have dd1 := kk.cell 1
            refine bodyPost_ret (v := .agg #[.string FS, .bool true]) (by simp [results, Tryz.results11, go_sem, dd0, dd1]) rfl ?_
            exact ⟨by rw [← unhide HS2]; rfl, (((unhide HB7).setCell (by simp) _).setCell (by simp) _).alloc (by simp; omega) _⟩
          | false =>
            go_wp2
            go_roundw
            case rel => exact ⟨j + 1, by omega, by go_num, by rw [← unhide HS2]; rfl, unhide KP8, unhide KR8, unhide HB8⟩
            case measure => simp [intOf]; omega
        · have i3 : (k == 2) = false := beqI _ _ hk2
          have i4 : (k != 2) = true := bneI' _ _ hk2
          have HE : Hid (fdF p f = (tx, true)) := hide (by rw [← unhide HS, unhide HFY1 ((unhide HRO2).trans (by rw [decide_eq_false hk2]; rfl)), unhide HTX])
          clear hk2
          generalize hnal : ats.length = na at *
          generalize hnkl : kids.len = nk at *
          have HNAL := hide hnal
          clear hnal hnkl
          clear p0 p1 p2 p3
          go_wp2
          have kk := (((unhide KRO).set 0 (by simp) (.string tx)).set 1 (by simp) (.bool true)).alloc (Obj.cells #[.int .i64 k, .int .i64 sp, .string n, .slice qa na ca, .string tx, .slice qk nk ck] 61)
          have dd0 := kk.cell 0
          have dd1 := kk.cell 1
          refine bodyPost_ret (v := .agg #[.string tx, .bool true]) (by simp [results, Tryz.results11, go_sem, dd0, dd1]) rfl ?_
          exact ⟨by rw [unhide HE], (((unhide HBW0).setCell (by simp) _).setCell (by simp) _).alloc (by simp; omega) _⟩
    · have hpi : ¬ (j : Int) < (f.len : Int) := by omega
      rw [f.drop_out j (by omega)] at hsum
      have HS : Hid ((⟨#[]⟩, false) = fdF p f) := hide hsum
      have HKR := hide kr
      have HBW := hide hbw
      have r0 : wo.cell? ⟨w.heap.size + 1, 0, none⟩ = some (.string ⟨#[]⟩) := kr.cell 0
      have r1 : wo.cell? ⟨w.heap.size + 1, 1, none⟩ = some (.bool false) := kr.cell 1
      have f0 := kr.frozen 0
      have f1 := kr.frozen 1
      clear hp hsum kp kr hbw
      go_wp2
      have kk := ((unhide HKR).set 0 (by simp) (.string ⟨#[]⟩)).set 1 (by simp) (.bool false)
      have dd0 := kk.cell 0
      have dd1 := kk.cell 1
      refine bodyPost_ret (v := .agg #[.string ⟨#[]⟩, .bool false]) (by simp [results, Tryz.results11, go_sem, dd0, dd1]) rfl ?_
      exact ⟨by rw [← unhide HS], ((unhide HBW).setCell (by simp) _).setCell (by simp) _⟩
theorem rfirst_any : ∀ (m : Nat) (f : Forest), f.count ≤ m → m ≤ 1000000 → (∀ e, ∀ it ∈ items f e, OkN it) → ∀ (v : Value) (p : PPol) (q : Option Addr) (cap : Nat) (w : World), PolV w v p → chkP p = 0 → Fo q f w → Calls Tryz.prog 11 #[v, .slice q f.len cap] w fun e w' => e = .returned (.agg #[.string (fdF p f).1, .bool (fdF p f).2]) ∧ Below w.heap.size w w'
  | m, f, hm, hM, hok, v, p, q, cap, w, hv, hch, h => by
    rcases h with rfl | ⟨g, o, rfl, hl⟩
    · exact rfirst_none v p q cap w hv
    · refine rfirst_some v p f g o cap w hv hch hl (by omega) hok (fun j k sp n ats tx kids hd q cap W hW hf => ?_)
      have h1 : (f.drop j).count ≤ f.count := f.count_drop j
      rw [hd] at h1
      have h2 : 1 + kids.count + (f.drop (j + 1)).count ≤ f.count := h1
      match m, hm with
      | 0, hm => omega
      | m + 1, hm => exact rfirst_any m kids (by omega) (by omega) (drop_ok hok hd).2 v p q cap W (hv.below hW) hch hf
end Go.Proofs.YtfdhmhdemfbfeaaGreatDoor
