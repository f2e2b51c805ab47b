/-
  'judge.refuses': whether a node is not allowed, whatever its kids are (made by mk_wre.py).
-/
import Derived.Test.YtfdhmhdemfbfeaaGreatDoorWPn
import Derived.Test.YtfdhmhdemfbfeaaGreatDoorMgAW
import Derived.Deep.RegionHeld
namespace Go.Proofs.YtfdhmhdemfbfeaaGreatDoor
open Go.RowKit
set_option linter.unusedVariables false
set_option linter.unusedSimpArgs false

/-- A judge and a rule that lie in blocks of their own. -/
def JuAt (w : World) (bj br : Nat) (p : PPol) (r : PRul) : Prop := ∃ vr vs va vl, RulsV w vr p.rs ∧ View w vs p.sc ∧ Blk w bj (polC p vr vs) 58 ∧ ViewN w va r.ats ∧ ViewN w vl r.lks ∧ Blk w br (rulC r va vl) 41
theorem JuAt.below {w w' : World} {bj br : Nat} {p : PPol} {r : PRul} (h : JuAt w bj br p r) (hb : Below w.heap.size w w') : JuAt w' bj br p r := by
  obtain ⟨vr, vs, va, vl, h1, h2, h3, h4, h5, h6⟩ := h
  exact ⟨vr, vs, va, vl, h1.below hb, view_below h2 hb, h3.later hb, viewN_below h4 hb, viewN_below h5 hb, h6.later hb⟩

set_option maxHeartbeats 2000000 in
theorem ref1_any (bj br : Nat) (p : PPol) (r : PRul) (an av : ByteArray) (w : World) (hj : JuAt w bj br p r) (hz : av.size ≤ 100000) :
    Calls Tryz.prog 31 #[.agg #[.string an, .string av], .pointer (some ⟨bj, 0, none⟩), .pointer (some ⟨br, 0, none⟩)] w fun e w' => e = .returned (.bool (!stB p r an av)) ∧ Below w.heap.size w w' := by
  have HJ := hide hj
  obtain ⟨vr, vs, va, vl, h1, h2, h3, h4, h5, h6⟩ := hj
  have al := (Below.refl w.heap.size w).alloc (Nat.le_refl _) (Obj.cells #[.string an, .string av] 48)
  have C := hide (jstays_any (.agg (polC p vr vs)) (.agg (rulC r va vl)) p r an av (w.alloc (Obj.cells #[.string an, .string av] 48)) ⟨vr, vs, rfl, h1.below al, view_below h2 al⟩ ⟨va, vl, rfl, viewN_below h4 al, viewN_below h5 al⟩ hz)
  obtain ⟨hrl, a1, c1, rfl, _⟩ := h1
  obtain ⟨a2, c2, rfl⟩ := h2.slice
  obtain ⟨a3, c3, rfl⟩ := h4.1.slice
  obtain ⟨a4, c4, rfl⟩ := h5.1.slice
  unfold polC at C h3
  unfold rulC at C h6
  generalize stB p r an av = D at *
  obtain ⟨rs, sc, ot, st⟩ := p
  obtain ⟨rn, ac, ats, lks⟩ := r
  dsimp only at *
  generalize rs.length = n1 at *
  generalize sc.length = n2 at *
  generalize ats.length = n3 at *
  generalize lks.length = n4 at *
  have x0 : w.cell? ⟨bj, 0, none⟩ = some (.slice a1 n1 c1) := h3.cell 0
  have x1 : w.cell? ⟨bj, 1, none⟩ = some (.slice a2 n2 c2) := h3.cell 1
  have x2 : w.cell? ⟨bj, 2, none⟩ = some (.int .i64 ot) := h3.cell 2
  have x3 : w.cell? ⟨bj, 3, none⟩ = some (.int .i64 st) := h3.cell 3
  have y0 : w.cell? ⟨br, 0, none⟩ = some (.string rn) := h6.cell 0
  have y1 : w.cell? ⟨br, 1, none⟩ = some (.int .i64 ac) := h6.cell 1
  have y2 : w.cell? ⟨br, 2, none⟩ = some (.slice a3 n3 c3) := h6.cell 2
  have y3 : w.cell? ⟨br, 3, none⟩ = some (.slice a4 n4 c4) := h6.cell 3
  have l1 := h3.lt
  have l2 := h6.lt
  clear h2 h3 h4 h5 h6 HJ
  go_enter Tryz.func31, Tryz.ntmps31
  go_wp2_with fail
  refine (unhide C).mono ?_
  rintro e1 w1 ⟨rfl, hb1⟩
  go_wp2
  go_ret
  exact ⟨rfl, bel_of hb1⟩

/-- Do all of the first k attributes stay? -/
def stK (p : PPol) (r : PRul) (ats : List (ByteArray × ByteArray)) (k : Nat) : Prop := ∀ j, j < k → stB p r (an ats j) (av ats j) = true
def refA (p : PPol) (r : PRul) (ats : List (ByteArray × ByteArray)) : Bool := ats.any fun x => !stB p r x.1 x.2
theorem refA_no {p : PPol} {r : PRul} {ats : List (ByteArray × ByteArray)} (h : stK p r ats ats.length) : refA p r ats = false := by
  rw [refA, List.any_eq_false]
  intro x hx
  obtain ⟨j, hj, e⟩ := List.getElem_of_mem hx
  have := h j hj
  unfold an av at this
  rw [List.getD, List.getElem?_eq_getElem hj, e] at this
  have h' : stB p r x.1 x.2 = true := this
  rw [h']; decide
theorem refA_yes {p : PPol} {r : PRul} {ats : List (ByteArray × ByteArray)} {k : Nat} (hk : k < ats.length) (h : stB p r (an ats k) (av ats k) = false) : refA p r ats = true := by
  rw [refA, List.any_eq_true]
  refine ⟨ats.getD k (ByteArray.empty, ByteArray.empty), getD_in _ _ _ hk, ?_⟩
  have h' : stB p r (ats.getD k (ByteArray.empty, ByteArray.empty)).1 (ats.getD k (ByteArray.empty, ByteArray.empty)).2 = false := h
  rw [h']; rfl
theorem av_le {ats : List (ByteArray × ByteArray)} {k m : Nat} (h : ∀ x ∈ ats, x.2.size ≤ m) (hk : k < ats.length) : (av ats k).size ≤ m := h _ (getD_in _ _ _ hk)
set_option maxHeartbeats 2000000 in
theorem aidx_any (q : Option Addr) (ca : Nat) (ats : List (ByteArray × ByteArray)) (bj br : Nat) (p : PPol) (r : PRul) (w : World) (hj : JuAt w bj br p r) (hs : Sl q ats w) (hal : ats.length ≤ 1000000) (hz : ∀ x ∈ ats, x.2.size ≤ 100000) :
    Calls Tryz.prog 54 #[.slice q ats.length ca, .func (Fn.func 31) #[] #[.pointer (some ⟨bj, 0, none⟩), .pointer (some ⟨br, 0, none⟩)]] w fun e w' => IdxSaid (refA p r ats) e ∧ Below w.heap.size w w' := by
  have HS := hide hs
  have HN := hide (@refA_no p r ats)
  have HY := hide (fun k hk h => @refA_yes p r ats k hk h)
  have CC := hide (fun k (hk : k < ats.length) W hW => ref1_any bj br p r (an ats k) (av ats k) W (hj.below hW) (av_le hz hk))
  clear hs
  go_enter Tryz.func54, Tryz.ntmps54
  go_wp2
  go_loopw [8] (fun i wr => ∃ k : Nat, k ≤ ats.length ∧ i = .int .i64 k ∧ stK p r ats k ∧ Below w.heap.size w wr) (fun i _ => ats.length - (intOf i).toNat)
  case atStart => exact ⟨0, Nat.zero_le _, rfl, fun j hj => absurd hj (Nat.not_lt_zero _), Below.refl _ _⟩
  case round =>
    obtain ⟨k, hk, rfl, hr, hbw⟩ := hrel
    have HR := hide hr
    clear hr
    by_cases hp : k < ats.length
    · have hpi : (k : Int) < (ats.length : Int) := by omega
      rcases (unhide HS).below hbw with h | ⟨g, oo, rfl, hcell⟩
      · rw [h] at hp; simp at hp
      obtain ⟨d0, d1⟩ := hcell k hp
      have hyk := unhide HY k hp
      have C := hide (unhide CC k hp wr hbw)
      have HR2 : Hid (stB p r (an ats k) (av ats k) = true → stK p r ats (k + 1)) := hide (fun hx j hj => by
        by_cases ej : j = k
        · rw [ej]; exact hx
        · exact unhide HR j (by omega))
      clear hcell
      cases hx : stB p r (an ats k) (av ats k) with
      | false =>
        rw [hx] at C
        have H := hide (hyk hx)
        clear hyk hx HR2
        generalize an ats k = xn at *
        generalize av ats k = xv at *
        go_wp2_with fail
        refine (unhide C).mono ?_
        rintro e1 w1 ⟨rfl, hb1⟩
        go_wp2
        go_ret
        exact ⟨⟨_, rfl, by rw [unhide H]; simp⟩, tr2 hbw hb1⟩
      | true =>
        rw [hx] at C
        have H := hide (unhide HR2 hx)
        clear hyk hx HR2
        generalize an ats k = xn at *
        generalize av ats k = xv at *
        go_wp2_with fail
        refine (unhide C).mono ?_
        rintro e1 w1 ⟨rfl, hb1⟩
        go_wp2
        go_roundw
        case rel => exact ⟨k + 1, by omega, by go_num, unhide H, tr2 hbw hb1⟩
        case measure => simp [intOf]; omega
    · have hkn : k = ats.length := by omega
      have hn := unhide HN (by rw [← hkn]; exact unhide HR)
      have H := hide hn
      clear hn
      go_wp2
      go_ret
      exact ⟨⟨_, rfl, by rw [unhide H]; decide⟩, hbw⟩
set_option maxHeartbeats 1000000 in
theorem acont_any (q : Option Addr) (ca : Nat) (ats : List (ByteArray × ByteArray)) (bj br : Nat) (p : PPol) (r : PRul) (w : World) (hj : JuAt w bj br p r) (hs : Sl q ats w) (hal : ats.length ≤ 1000000) (hz : ∀ x ∈ ats, x.2.size ≤ 100000) :
    Calls Tryz.prog 30 #[.slice q ats.length ca, .func (Fn.func 31) #[] #[.pointer (some ⟨bj, 0, none⟩), .pointer (some ⟨br, 0, none⟩)]] w fun e w' => e = .returned (.bool (refA p r ats)) ∧ Below w.heap.size w w' := by
  have C := hide (aidx_any q ca ats bj br p r w hj hs hal hz)
  clear hj hs hz
  generalize refA p r ats = D at *
  generalize ats.length = n at *
  go_enter Tryz.func30, Tryz.ntmps30
  go_wp2_with fail
  refine (unhide C).mono ?_
  rintro e1 w1 ⟨⟨i, rfl, hi⟩, hb1⟩
  go_wp2
  go_ret
  exact ⟨rfl, hb1⟩

/-- Is a node not allowed, whatever its kids are? -/
def refN (p : PPol) (k sp : Int) (n : ByteArray) (ats : List (ByteArray × ByteArray)) : Bool :=
  if k = 1 then (!decide ((rulOf p sp n).ac = 1) || refA p (rulOf p sp n) ats) else !decide (k = 2)
def KeepN1 (j g oo : Nat) (a1 a2 : Option Addr) (n1 c1 n2 c2 : Nat) (ot st sp : Int) (n : ByteArray) (W : World) : Prop :=
  W.cell? ⟨j, 0, none⟩ = some (.slice a1 n1 c1) ∧ W.cell? ⟨j, 1, none⟩ = some (.slice a2 n2 c2) ∧ W.cell? ⟨j, 2, none⟩ = some (.int .i64 ot) ∧ W.cell? ⟨j, 3, none⟩ = some (.int .i64 st) ∧ W.cell? ⟨g, oo + 1, none⟩ = some (.int .i64 sp) ∧ W.cell? ⟨g, oo + 2, none⟩ = some (.string n)
theorem KeepN1.of {w : World} {j g oo : Nat} {a1 a2 : Option Addr} {n1 c1 n2 c2 : Nat} {ot st sp : Int} {n : ByteArray} {W : World} {t : TypeId} (h : Blk W j #[.slice a1 n1 c1, .slice a2 n2 c2, .int .i64 ot, .int .i64 st] t) (hb : Below w.heap.size w W) (l1 : w.cell? ⟨g, oo + 1, none⟩ = some (.int .i64 sp)) (l2 : w.cell? ⟨g, oo + 2, none⟩ = some (.string n)) : KeepN1 j g oo a1 a2 n1 c1 n2 c2 ot st sp n W :=
  ⟨h.cell 0, h.cell 1, h.cell 2, h.cell 3, cell_on hb l1, cell_on hb l2⟩

set_option maxHeartbeats 4000000 in
set_option maxRecDepth 20000 in
theorem refuses_any (v : Value) (p : PPol) (k sp : Int) (n : ByteArray) (ats : List (ByteArray × ByteArray)) (tx : ByteArray) (kids rest : Forest) (g oo : Nat) (w : World) (hv : PolV w v p) (hl : Lies (.cons k sp n ats tx kids rest) g oo w) (hal : ats.length ≤ 1000000) (hz : ∀ x ∈ ats, x.2.size ≤ 100000) :
    Calls Tryz.prog 18 #[v, .pointer (some ⟨g, oo, none⟩)] w fun e w' => e = .returned (.bool (refN p k sp n ats)) ∧ Below w.heap.size w w' := by
  have C2 := hide (fun W hW => rule_old v p sp n w W hv hW)
  obtain ⟨vrs, vs, rfl, h1, h2⟩ := hv
  have HRV := hide h1
  have HSV := hide h2
  obtain ⟨a2, c2, rfl⟩ := h2.slice
  obtain ⟨hrl, a1, c1, rfl, _⟩ := h1
  obtain ⟨⟨l0, l1, l2, ⟨qa, ca, l3, hsl⟩, _, _⟩, _⟩ := hl
  have HSL := hide hsl
  have HREF : Hid (refN p k sp n ats = if k = 1 then (!decide ((rulOf p sp n).ac = 1) || refA p (rulOf p sp n) ats) else !decide (k = 2)) := hide rfl
  have CA := hide (fun bj br W hj hs => acont_any qa ca ats bj br p (rulOf p sp n) W hj hs hal hz)
  have HJU : Hid (∀ W bj br va vl, Below w.heap.size w W → Blk W bj (polC p (.slice a1 p.rs.length c1) (.slice a2 p.sc.length c2)) 58 → ViewN W va (rulOf p sp n).ats → ViewN W vl (rulOf p sp n).lks → Blk W br (rulC (rulOf p sp n) va vl) 41 → JuAt W bj br p (rulOf p sp n)) := hide (fun W bj br va vl hb h3 h4 h5 h6 => ⟨_, _, va, vl, (unhide HRV).below hb, view_below (unhide HSV) hb, h3, h4, h5, h6⟩)
  generalize refA p (rulOf p sp n) ats = D at *
  generalize refN p k sp n ats = RR at *
  generalize rulOf p sp n = rr at *
  unfold polC at *
  clear h2 HRV HSV hsl
  obtain ⟨rs, sc, ot, st⟩ := p
  obtain ⟨rn, ac, rats, rlks⟩ := rr
  dsimp only at *
  generalize rs.length = n1 at *
  generalize sc.length = n2 at *
  generalize ats.length = na at *
  have al := (Below.refl w.heap.size w).alloc (Nat.le_refl _) (Obj.cells #[.slice a1 n1 c1, .slice a2 n2 c2, .int .i64 ot, .int .i64 st] 58)
  have hgl := cell_lt l0
  by_cases hk1 : k = 1
  · subst hk1
    rw [if_pos rfl] at HREF
    have HB0 : Hid (Below w.heap.size w (w.alloc (Obj.cells #[.slice a1 n1 c1, .slice a2 n2 c2, .int .i64 ot, .int .i64 st] 58)).drew) := hide (al.trans ((below_draws _ 1).mono (by simp)))
    have KJ0 : Hid (Blk (w.alloc (Obj.cells #[.slice a1 n1 c1, .slice a2 n2 c2, .int .i64 ot, .int .i64 st] 58)).drew w.heap.size #[.slice a1 n1 c1, .slice a2 n2 c2, .int .i64 ot, .int .i64 st] 58) := hide ((Blk.new w _ _).later (below_draws _ 1))
    have HB0a : Hid (Below w.heap.size w ((w.alloc (Obj.cells #[.slice a1 n1 c1, .slice a2 n2 c2, .int .i64 ot, .int .i64 st] 58)).alloc (Obj.cells #[.string ⟨#[]⟩, .int .i64 0, .slice none 0 0, .slice none 0 0] 41)).drew) := hide ((al.alloc (by simp) _).trans ((below_draws _ 1).mono (by simp; omega)))
    have KJ0a : Hid (Blk ((w.alloc (Obj.cells #[.slice a1 n1 c1, .slice a2 n2 c2, .int .i64 ot, .int .i64 st] 58)).alloc (Obj.cells #[.string ⟨#[]⟩, .int .i64 0, .slice none 0 0, .slice none 0 0] 41)).drew w.heap.size #[.slice a1 n1 c1, .slice a2 n2 c2, .int .i64 ot, .int .i64 st] 58) := hide (((Blk.new w _ _).alloc _).later (below_draws _ 1))
    have KR0a : Hid (Blk ((w.alloc (Obj.cells #[.slice a1 n1 c1, .slice a2 n2 c2, .int .i64 ot, .int .i64 st] 58)).alloc (Obj.cells #[.string ⟨#[]⟩, .int .i64 0, .slice none 0 0, .slice none 0 0] 41)).drew (w.heap.size + 1) #[.string ⟨#[]⟩, .int .i64 0, .slice none 0 0, .slice none 0 0] 41) := hide ((show Blk ((w.alloc (Obj.cells #[.slice a1 n1 c1, .slice a2 n2 c2, .int .i64 ot, .int .i64 st] 58)).alloc (Obj.cells #[.string ⟨#[]⟩, .int .i64 0, .slice none 0 0, .slice none 0 0] 41)) (w.heap.size + 1) #[.string ⟨#[]⟩, .int .i64 0, .slice none 0 0, .slice none 0 0] 41 from blk_next (by simp)).later (below_draws _ 1))
    have L1 := hide l1
    have L2 := hide l2
    have L3 := hide l3
    go_enter Tryz.func18, Tryz.ntmps18
    go_wp2_with fail
    clear l0 l1 l2 l3 al
    have hSa : KeepN1 w.heap.size g oo a1 a2 n1 c1 n2 c2 ot st sp n (w.alloc (Obj.cells #[.slice a1 n1 c1, .slice a2 n2 c2, .int .i64 ot, .int .i64 st] 58)).drew := KeepN1.of (unhide KJ0) (unhide HB0) (unhide L1) (unhide L2)
    refine wp_region_held (S := KeepN1 w.heap.size g oo a1 a2 n1 c1 n2 c2 ot st sp n) (by kernel_rfl) ?_
    change wpAnyH _ _ _ _ _ _ _ _ (World.drew _)
    refine wpAnyH_take (i := 0) (oi := { dst := some 16, op := _, type := _, pos := _, after := _, guard := _ }) (v := ?va0_1) rfl (by kernel_rfl) (by kernel_rfl) (by kernel_rfl) (fun _ _ _ h => h) (Or.inl ⟨by kernel_rfl, ?ha0_1⟩) hSa ?ra0_1
    case ha0_1 => first | (intro w hSw; obtain ⟨s0, s1, s2, s3, s4, s5⟩ := hSw; go_simp; done) | (intro w hSw; obtain ⟨s0, s1, s2, s3, s4, s5⟩ := hSw; go_simp; with_reducible rfl)
    try simp only [Act.put, List.setIfInBounds_toArray, List.set_cons_zero, List.set_cons_succ]
    refine wpAnyH_take (i := 1) (oi := { dst := some 17, op := _, type := _, pos := _, after := _, guard := _ }) (v := ?va1_2) rfl (by kernel_rfl) (by kernel_rfl) (by kernel_rfl) (fun _ _ _ h => h) (Or.inl ⟨by kernel_rfl, ?ha1_2⟩) hSa ?ra1_2
    case ha1_2 => first | (intro w hSw; obtain ⟨s0, s1, s2, s3, s4, s5⟩ := hSw; go_simp; done) | (intro w hSw; obtain ⟨s0, s1, s2, s3, s4, s5⟩ := hSw; go_simp; with_reducible rfl)
    try simp only [Act.put, List.setIfInBounds_toArray, List.set_cons_zero, List.set_cons_succ]
    refine wpAnyH_take (i := 2) (oi := { dst := some 18, op := _, type := _, pos := _, after := _, guard := _ }) (v := ?va2_3) rfl (by kernel_rfl) (by kernel_rfl) (by kernel_rfl) (fun _ _ _ h => h) (Or.inl ⟨by kernel_rfl, ?ha2_3⟩) hSa ?ra2_3
    case ha2_3 => first | (intro w hSw; obtain ⟨s0, s1, s2, s3, s4, s5⟩ := hSw; go_simp; done) | (intro w hSw; obtain ⟨s0, s1, s2, s3, s4, s5⟩ := hSw; go_simp; with_reducible rfl)
    try simp only [Act.put, List.setIfInBounds_toArray, List.set_cons_zero, List.set_cons_succ]
    refine wpAnyH_take (i := 3) (oi := { dst := some 19, op := _, type := _, pos := _, after := _, guard := _ }) (v := ?va3_4) rfl (by kernel_rfl) (by kernel_rfl) (by kernel_rfl) (fun _ _ _ h => h) (Or.inl ⟨by kernel_rfl, ?ha3_4⟩) hSa ?ra3_4
    case ha3_4 => first | (intro w hSw; obtain ⟨s0, s1, s2, s3, s4, s5⟩ := hSw; go_simp; done) | (intro w hSw; obtain ⟨s0, s1, s2, s3, s4, s5⟩ := hSw; go_simp; with_reducible rfl)
    try simp only [Act.put, List.setIfInBounds_toArray, List.set_cons_zero, List.set_cons_succ]
    refine wpAnyH_take (i := 4) (oi := { dst := some 20, op := _, type := _, pos := _, after := _, guard := _ }) (v := ?va4_5) rfl (by kernel_rfl) (by kernel_rfl) (by kernel_rfl) (fun _ _ _ h => h) (Or.inl ⟨by kernel_rfl, ?ha4_5⟩) hSa ?ra4_5
    case ha4_5 => first | (intro w hSw; obtain ⟨s0, s1, s2, s3, s4, s5⟩ := hSw; go_simp; done) | (intro w hSw; obtain ⟨s0, s1, s2, s3, s4, s5⟩ := hSw; go_simp; with_reducible rfl)
    try simp only [Act.put, List.setIfInBounds_toArray, List.set_cons_zero, List.set_cons_succ]
    refine wpAnyH_take (i := 5) (oi := { dst := some 21, op := _, type := _, pos := _, after := _, guard := _ }) (v := ?va5_6) rfl (by kernel_rfl) (by kernel_rfl) (by kernel_rfl) (fun _ _ _ h => h) (Or.inl ⟨by kernel_rfl, ?ha5_6⟩) hSa ?ra5_6
    case ha5_6 => first | (intro w hSw; obtain ⟨s0, s1, s2, s3, s4, s5⟩ := hSw; go_simp; done) | (intro w hSw; obtain ⟨s0, s1, s2, s3, s4, s5⟩ := hSw; go_simp; with_reducible rfl)
    try simp only [Act.put, List.setIfInBounds_toArray, List.set_cons_zero, List.set_cons_succ]
    refine wpAnyH_take (i := 6) (oi := { dst := some 22, op := _, type := _, pos := _, after := _, guard := _ }) (v := ?va6_7) rfl (by kernel_rfl) (by kernel_rfl) (by kernel_rfl) (fun _ _ _ h => h) (Or.inl ⟨by kernel_rfl, ?ha6_7⟩) hSa ?ra6_7
    case ha6_7 => first | (intro w hSw; obtain ⟨s0, s1, s2, s3, s4, s5⟩ := hSw; go_simp; done) | (intro w hSw; obtain ⟨s0, s1, s2, s3, s4, s5⟩ := hSw; go_simp; with_reducible rfl)
    try simp only [Act.put, List.setIfInBounds_toArray, List.set_cons_zero, List.set_cons_succ]
    refine wpAnyH_take (i := 7) (oi := { dst := some 23, op := _, type := _, pos := _, after := _, guard := _ }) (v := ?va7_8) rfl (by kernel_rfl) (by kernel_rfl) (by kernel_rfl) (fun _ _ _ h => h) (Or.inl ⟨by kernel_rfl, ?ha7_8⟩) hSa ?ra7_8
    case ha7_8 => first | (intro w hSw; obtain ⟨s0, s1, s2, s3, s4, s5⟩ := hSw; go_simp; done) | (intro w hSw; obtain ⟨s0, s1, s2, s3, s4, s5⟩ := hSw; go_simp; with_reducible rfl)
    try simp only [Act.put, List.setIfInBounds_toArray, List.set_cons_zero, List.set_cons_succ]
    refine wpAnyH_take (i := 8) (oi := { dst := some 24, op := _, type := _, pos := _, after := _, guard := _ }) (v := ?va8_9) rfl (by kernel_rfl) (by kernel_rfl) (by kernel_rfl) (fun _ _ _ h => h) (Or.inl ⟨by kernel_rfl, ?ha8_9⟩) hSa ?ra8_9
    case ha8_9 => first | (intro w hSw; obtain ⟨s0, s1, s2, s3, s4, s5⟩ := hSw; go_simp; done) | (intro w hSw; obtain ⟨s0, s1, s2, s3, s4, s5⟩ := hSw; go_simp; with_reducible rfl)
    try simp only [Act.put, List.setIfInBounds_toArray, List.set_cons_zero, List.set_cons_succ]
    refine wpAnyH_ready (rs := [9, 10]) (by kernel_rfl) (by simp) ?_
    refine AllReadyH.cons rfl (fun K hK => ?_) (AllReadyH.cons rfl (fun K hK => ?_) AllReadyH.nil)
    · go_simp
      refine (unhide C2 _ (unhide HB0)).mono ?_
      rintro e w4 ⟨⟨v', rfl, hrv⟩, hb⟩
      obtain ⟨va, vl, rfl, hva, hvl⟩ := hrv
      have HVA := hide hva
      have HVL := hide hvl
      obtain ⟨q1, m1, hq1⟩ := hva.1.slice
      obtain ⟨q2, m2, hq2⟩ := hvl.1.slice
      subst hq1 hq2
      have KJ4 := hide ((unhide KJ0).later hb)
      have HB4 := hide (tr2 (unhide HB0) hb)
      have hSa' := KeepN1.of (unhide KJ4) (unhide HB4) (unhide L1) (unhide L2)
      clear hb hva hvl
      refine hK _ _ hSa' (fun _ => ?_)
      clear hK K hSa
      have hSa := hSa'
      clear hSa'
      refine wpAnyH_ready (rs := [10]) (by kernel_rfl) (by simp) ?_
      refine AllReadyH.cons rfl (fun K hK => ?_) AllReadyH.nil
      go_simp
      have KR5 := hide (Blk.new w4 #[.string ⟨#[]⟩, .int .i64 0, .slice none 0 0, .slice none 0 0] 41)
      have KJ5 := hide ((unhide KJ4).alloc (Obj.cells #[.string ⟨#[]⟩, .int .i64 0, .slice none 0 0, .slice none 0 0] 41))
      have HB5 := hide ((unhide HB4).alloc (unhide HB4).size (Obj.cells #[.string ⟨#[]⟩, .int .i64 0, .slice none 0 0, .slice none 0 0] 41))
      have hSa' := KeepN1.of (unhide KJ5) (unhide HB5) (unhide L1) (unhide L2)
      refine hK _ _ hSa' (fun _ => ?_)
      clear hK K hSa
      have hSa := hSa'
      clear hSa'
      refine wpAnyH_ready (rs := [11]) (by kernel_rfl) (by simp) ?_
      refine AllReadyH.cons rfl (fun K hK => ?_) AllReadyH.nil
      have HNE : Hid (w.heap.size ≠ w4.heap.size) := hide (by have := (unhide KJ4).lt; omega)
      have HLE : Hid (w.heap.size ≤ w4.heap.size) := hide (unhide HB4).size
      generalize hW5 : w4.alloc (Obj.cells #[.string ⟨#[]⟩, .int .i64 0, .slice none 0 0, .slice none 0 0] 41) = w5 at *
      generalize w4.heap.size = br at *
      have x0 : w5.cell? ⟨br, 0, none⟩ = some (.string ⟨#[]⟩) := (unhide KR5).cell 0
      have x1 : w5.cell? ⟨br, 1, none⟩ = some (.int .i64 0) := (unhide KR5).cell 1
      have x2 : w5.cell? ⟨br, 2, none⟩ = some (.slice none 0 0) := (unhide KR5).cell 2
      have x3 : w5.cell? ⟨br, 3, none⟩ = some (.slice none 0 0) := (unhide KR5).cell 3
      have y0 := (unhide KR5).frozen 0
      have y1 := (unhide KR5).frozen 1
      have y2 := (unhide KR5).frozen 2
      have y3 := (unhide KR5).frozen 3
      unfold rulC
      dsimp only
      go_simp
      clear x0 x1 x2 x3 y0 y1 y2 y3
      have KR6 : Hid (Blk ((((w5.setCell ⟨br, 0, none⟩ (.string rn)).setCell ⟨br, 1, none⟩ (.int .i64 ac)).setCell ⟨br, 2, none⟩ (.slice q1 rats.length m1)).setCell ⟨br, 3, none⟩ (.slice q2 rlks.length m2)) br #[.string rn, .int .i64 ac, .slice q1 rats.length m1, .slice q2 rlks.length m2] 41) := hide (((((unhide KR5).set 0 (by simp) (.string rn)).set 1 (by simp) (.int .i64 ac)).set 2 (by simp) (.slice q1 rats.length m1)).set 3 (by simp) (.slice q2 rlks.length m2))
      have hcz : Cz br w5 ((((w5.setCell ⟨br, 0, none⟩ (.string rn)).setCell ⟨br, 1, none⟩ (.int .i64 ac)).setCell ⟨br, 2, none⟩ (.slice q1 rats.length m1)).setCell ⟨br, 3, none⟩ (.slice q2 rlks.length m2)) := ((((Cz.refl _ _).set _).set _).set _).set _
      have KJ6 := hide (hcz.blk (unhide KJ5) (unhide HNE))
      have HB6 : Hid (Below w.heap.size w ((((w5.setCell ⟨br, 0, none⟩ (.string rn)).setCell ⟨br, 1, none⟩ (.int .i64 ac)).setCell ⟨br, 2, none⟩ (.slice q1 rats.length m1)).setCell ⟨br, 3, none⟩ (.slice q2 rlks.length m2))) := hide (((((unhide HB5).setCell (unhide HLE) _).setCell (unhide HLE) _).setCell (unhide HLE) _).setCell (unhide HLE) _)
      have hSa' := KeepN1.of (unhide KJ6) (unhide HB6) (unhide L1) (unhide L2)
      clear hcz
      refine hK _ _ hSa' (fun _ => ?_)
      clear hK K hSa
      have hSa := hSa'
      clear hSa'
      refine wpAnyH_done (by kernel_rfl) ?_ _
      clear hSa
      have HVA6 := hide (viewN_below (unhide HVA) (unhide HB6))
      have HVL6 := hide (viewN_below (unhide HVL) (unhide HB6))
      generalize hW6 : ((((w5.setCell ⟨br, 0, none⟩ (.string rn)).setCell ⟨br, 1, none⟩ (.int .i64 ac)).setCell ⟨br, 2, none⟩ (.slice q1 rats.length m1)).setCell ⟨br, 3, none⟩ (.slice q2 rlks.length m2)) = w6 at *
      have m3 := cell_on (unhide HB6) (unhide L3)
      have kc1 : w6.cell? ⟨br, 1, none⟩ = some (.int .i64 ac) := (unhide KR6).cell 1
      clear hW6
      by_cases ha : ac = 1
      · subst ha
        have CA6 := hide (unhide CA w.heap.size br w6 (unhide HJU w6 w.heap.size br _ _ (unhide HB6) (unhide KJ6) (unhide HVA6) (unhide HVL6) (unhide KR6)) ((unhide HSL).below (unhide HB6)))
        go_wp2_with fail
        refine (unhide CA6).mono ?_
        rintro e1 w7 ⟨rfl, hb7⟩
        go_wp2
        go_ret
        exact ⟨by rw [unhide HREF]; simp, tr2 (unhide HB6) hb7⟩
      · have j1 : (ac == 1) = false := beqI _ _ ha
        have j2 : (ac != 1) = true := bneI' _ _ ha
        have HD := hide (decide_eq_false ha)
        clear ha
        go_wp2
        go_ret
        exact ⟨by rw [unhide HREF, unhide HD]; rfl, unhide HB6⟩
    · go_simp
      have hSa' := KeepN1.of (unhide KJ0a) (unhide HB0a) (unhide L1) (unhide L2)
      refine hK _ _ hSa' (fun _ => ?_)
      clear hK K hSa
      have hSa := hSa'
      clear hSa'
      refine wpAnyH_ready (rs := [9]) (by kernel_rfl) (by simp) ?_
      refine AllReadyH.cons rfl (fun K hK => ?_) AllReadyH.nil
      go_simp
      refine (unhide C2 _ (unhide HB0a)).mono ?_
      rintro e w4 ⟨⟨v', rfl, hrv⟩, hb⟩
      obtain ⟨va, vl, rfl, hva, hvl⟩ := hrv
      have HVA := hide hva
      have HVL := hide hvl
      obtain ⟨q1, m1, hq1⟩ := hva.1.slice
      obtain ⟨q2, m2, hq2⟩ := hvl.1.slice
      subst hq1 hq2
      have KJ4 := hide ((unhide KJ0a).later hb)
      have HB4 := hide (tr2 (unhide HB0a) hb)
      have KR5 := hide ((unhide KR0a).later hb)
      have hSa' := KeepN1.of (unhide KJ4) (unhide HB4) (unhide L1) (unhide L2)
      clear hb hva hvl
      refine hK _ _ hSa' (fun _ => ?_)
      clear hK K hSa
      have hSa := hSa'
      clear hSa'
      refine wpAnyH_ready (rs := [11]) (by kernel_rfl) (by simp) ?_
      refine AllReadyH.cons rfl (fun K hK => ?_) AllReadyH.nil
      have HNE : Hid (w.heap.size ≠ w.heap.size + 1) := hide (by omega)
      have HLE : Hid (w.heap.size ≤ w.heap.size + 1) := hide (by omega)
      generalize w4 = w5 at *
      generalize hbr : w.heap.size + 1 = br at *
      have x0 : w5.cell? ⟨br, 0, none⟩ = some (.string ⟨#[]⟩) := (unhide KR5).cell 0
      have x1 : w5.cell? ⟨br, 1, none⟩ = some (.int .i64 0) := (unhide KR5).cell 1
      have x2 : w5.cell? ⟨br, 2, none⟩ = some (.slice none 0 0) := (unhide KR5).cell 2
      have x3 : w5.cell? ⟨br, 3, none⟩ = some (.slice none 0 0) := (unhide KR5).cell 3
      have y0 := (unhide KR5).frozen 0
      have y1 := (unhide KR5).frozen 1
      have y2 := (unhide KR5).frozen 2
      have y3 := (unhide KR5).frozen 3
      unfold rulC
      dsimp only
      go_simp
      clear x0 x1 x2 x3 y0 y1 y2 y3
      have KR6 : Hid (Blk ((((w5.setCell ⟨br, 0, none⟩ (.string rn)).setCell ⟨br, 1, none⟩ (.int .i64 ac)).setCell ⟨br, 2, none⟩ (.slice q1 rats.length m1)).setCell ⟨br, 3, none⟩ (.slice q2 rlks.length m2)) br #[.string rn, .int .i64 ac, .slice q1 rats.length m1, .slice q2 rlks.length m2] 41) := hide (((((unhide KR5).set 0 (by simp) (.string rn)).set 1 (by simp) (.int .i64 ac)).set 2 (by simp) (.slice q1 rats.length m1)).set 3 (by simp) (.slice q2 rlks.length m2))
      have hcz : Cz br w5 ((((w5.setCell ⟨br, 0, none⟩ (.string rn)).setCell ⟨br, 1, none⟩ (.int .i64 ac)).setCell ⟨br, 2, none⟩ (.slice q1 rats.length m1)).setCell ⟨br, 3, none⟩ (.slice q2 rlks.length m2)) := ((((Cz.refl _ _).set _).set _).set _).set _
      have KJ6 := hide (hcz.blk (unhide KJ4) (unhide HNE))
      have HB6 : Hid (Below w.heap.size w ((((w5.setCell ⟨br, 0, none⟩ (.string rn)).setCell ⟨br, 1, none⟩ (.int .i64 ac)).setCell ⟨br, 2, none⟩ (.slice q1 rats.length m1)).setCell ⟨br, 3, none⟩ (.slice q2 rlks.length m2))) := hide (((((unhide HB4).setCell (unhide HLE) _).setCell (unhide HLE) _).setCell (unhide HLE) _).setCell (unhide HLE) _)
      have hSa' := KeepN1.of (unhide KJ6) (unhide HB6) (unhide L1) (unhide L2)
      clear hcz
      refine hK _ _ hSa' (fun _ => ?_)
      clear hK K hSa
      have hSa := hSa'
      clear hSa'
      refine wpAnyH_done (by kernel_rfl) ?_ _
      clear hSa
      have HVA6 := hide (viewN_below (unhide HVA) (unhide HB6))
      have HVL6 := hide (viewN_below (unhide HVL) (unhide HB6))
      generalize hW6 : ((((w5.setCell ⟨br, 0, none⟩ (.string rn)).setCell ⟨br, 1, none⟩ (.int .i64 ac)).setCell ⟨br, 2, none⟩ (.slice q1 rats.length m1)).setCell ⟨br, 3, none⟩ (.slice q2 rlks.length m2)) = w6 at *
      have m3 := cell_on (unhide HB6) (unhide L3)
      have kc1 : w6.cell? ⟨br, 1, none⟩ = some (.int .i64 ac) := (unhide KR6).cell 1
      clear hW6
      by_cases ha : ac = 1
      · subst ha
        have CA6 := hide (unhide CA w.heap.size br w6 (unhide HJU w6 w.heap.size br _ _ (unhide HB6) (unhide KJ6) (unhide HVA6) (unhide HVL6) (unhide KR6)) ((unhide HSL).below (unhide HB6)))
        go_wp2_with fail
        refine (unhide CA6).mono ?_
        rintro e1 w7 ⟨rfl, hb7⟩
        go_wp2
        go_ret
        exact ⟨by rw [unhide HREF]; simp, tr2 (unhide HB6) hb7⟩
      · have j1 : (ac == 1) = false := beqI _ _ ha
        have j2 : (ac != 1) = true := bneI' _ _ ha
        have HD := hide (decide_eq_false ha)
        clear ha
        go_wp2
        go_ret
        exact ⟨by rw [unhide HREF, unhide HD]; rfl, unhide HB6⟩
  · have i1 : (k == 1) = false := beqI _ _ hk1
    have i2 : (k != 1) = true := bneI' _ _ hk1
    rw [if_neg hk1] at HREF
    clear hk1
    by_cases hk2 : k = 2
    · subst hk2
      go_enter Tryz.func18, Tryz.ntmps18
      go_wp2
      go_ret
      exact ⟨by rw [unhide HREF]; rfl, al⟩
    · have i3 : (k == 2) = false := beqI _ _ hk2
      have i4 : (k != 2) = true := bneI' _ _ hk2
      have HD := hide (decide_eq_false hk2)
      clear hk2
      go_enter Tryz.func18, Tryz.ntmps18
      go_wp2
      go_ret
      exact ⟨by rw [unhide HREF, unhide HD]; rfl, al⟩
end Go.Proofs.YtfdhmhdemfbfeaaGreatDoor
