/-
  Several texts in one: what the functions of the program and of the document's answer do.
-/
import Derived.Test.YtfdhmhdemfbfeaaGreatDoorWCk
import Derived.Test.YtfdhmhdemfbfeaaGreatDoorMgAJ
import Derived.Test.YtfdhmhdemfbfeaaGreatDoorMgAK
import Derived.Deep.RegionHeld

/-
  'judge.rule', 'judge.stays', 'policy.Act', 'policy.Stays'.
-/
namespace Go.Proofs.YtfdhmhdemfbfeaaGreatDoor
open Go.RowKit
set_option linter.unusedVariables false
set_option linter.unusedSimpArgs false

def sameS (a b : ByteArray) : Bool := a.toList == b.toList
def bareR (a : Int) : PRul := ⟨⟨#[]⟩, a, [], []⟩
/-- The rule of a name. -/
def findR (ot : Int) (nm : ByteArray) : List PRul → PRul
  | [] => bareR ot
  | r :: t => if sameS r.nm nm = true then r else findR ot nm t
theorem find_at (ot : Int) (nm : ByteArray) : ∀ (rs : List PRul) (k : Nat), k < rs.length → (∀ j, j < k → sameS (rs.getD j noR).nm nm = false) → sameS (rs.getD k noR).nm nm = true → findR ot nm rs = rs.getD k noR
  | [], k, hk, _, _ => by simp at hk
  | r :: t, 0, _, _, h => by
    have h' : sameS r.nm nm = true := h
    rw [findR, if_pos h']; rfl
  | r :: t, k + 1, hk, hj, h => by
    have h0 : sameS r.nm nm = false := hj 0 (by omega)
    rw [findR, if_neg (by rw [h0]; decide), find_at ot nm t k (by simp at hk; exact hk) (fun j hj' => hj (j + 1) (by omega)) h]; rfl
theorem find_none (ot : Int) (nm : ByteArray) : ∀ (rs : List PRul), (∀ j, j < rs.length → sameS (rs.getD j noR).nm nm = false) → findR ot nm rs = bareR ot
  | [], _ => rfl
  | r :: t, h => by
    have h0 : sameS r.nm nm = false := h 0 (by simp)
    rw [findR, if_neg (by rw [h0]; decide)]
    exact find_none ot nm t (fun j hj => h (j + 1) (by simp; omega))
def rulOf (p : PPol) (sp : Int) (nm : ByteArray) : PRul := if sp = 0 then findR p.ot nm p.rs else bareR p.st
theorem viewN_nil (w : World) : ViewN w (.slice none 0 0) [] := ⟨view_nil w, fun n c h => by cases h; rfl⟩

set_option maxHeartbeats 2000000 in
theorem rule_old (v : Value) (p : PPol) (sp : Int) (nm : ByteArray) (w0 w : World) (hv : PolV w0 v p) (hb0 : Below w0.heap.size w0 w) :
    Calls Tryz.prog 28 #[v, .int .i64 sp, .string nm] w fun e w' => (∃ v', e = .returned v' ∧ RulV w0 v' (rulOf p sp nm)) ∧ Below w.heap.size w w' := by
  obtain ⟨vr, vs, rfl, h1, h2⟩ := hv
  have HRV := hide h1
  obtain ⟨a2, c2, rfl⟩ := h2.slice
  obtain ⟨hrl, a1, c1, rfl, _⟩ := h1
  unfold polC
  clear h2
  obtain ⟨rs, sc, ot, st⟩ := p
  dsimp only at *
  generalize sc.length = n2 at *
  have al : Below w.heap.size w ((w.alloc (Obj.cells #[.slice a1 rs.length c1, .slice a2 n2 c2, .int .i64 ot, .int .i64 st] 58)).alloc (Obj.cells #[.string ⟨#[]⟩, .int .i64 0, .slice none 0 0, .slice none 0 0] 41)) := ((Below.refl _ _).alloc (Nat.le_refl _) _).alloc (by simp) _
  have KJ : Blk ((w.alloc (Obj.cells #[.slice a1 rs.length c1, .slice a2 n2 c2, .int .i64 ot, .int .i64 st] 58)).alloc (Obj.cells #[.string ⟨#[]⟩, .int .i64 0, .slice none 0 0, .slice none 0 0] 41)) w.heap.size #[.slice a1 rs.length c1, .slice a2 n2 c2, .int .i64 ot, .int .i64 st] 58 := (Blk.new w _ _).alloc _
  have KR : Blk ((w.alloc (Obj.cells #[.slice a1 rs.length c1, .slice a2 n2 c2, .int .i64 ot, .int .i64 st] 58)).alloc (Obj.cells #[.string ⟨#[]⟩, .int .i64 0, .slice none 0 0, .slice none 0 0] 41)) (w.heap.size + 1) #[.string ⟨#[]⟩, .int .i64 0, .slice none 0 0, .slice none 0 0] 41 := blk_next (by simp)
  have KJh := hide KJ
  have KRh := hide KR
  have HAL := hide al
  clear KJ KR al
  by_cases hsp : sp = 0
  · subst hsp
    have hru : rulOf ⟨rs, sc, ot, st⟩ 0 nm = findR ot nm rs := rfl
    rw [hru]
    have HF := hide (find_at ot nm rs)
    have HN := hide (find_none ot nm rs)
    clear hru
    go_enter Tryz.func28, Tryz.ntmps28
    go_wp2
    go_loopw [19] (fun i wr => ∃ k : Nat, k ≤ rs.length ∧ i = .int .i64 k ∧ (∀ j, j < k → sameS (rs.getD j noR).nm nm = false) ∧ Blk wr w.heap.size #[.slice a1 rs.length c1, .slice a2 n2 c2, .int .i64 ot, .int .i64 st] 58 ∧ Blk wr (w.heap.size + 1) #[.string ⟨#[]⟩, .int .i64 0, .slice none 0 0, .slice none 0 0] 41 ∧ Below w.heap.size w wr) (fun i _ => rs.length - (intOf i).toNat)
    case atStart => exact ⟨0, Nat.zero_le _, rfl, fun j hj => absurd hj (Nat.not_lt_zero _), unhide KJh, unhide KRh, unhide HAL⟩
    case round =>
      clear KJh KRh HAL
      obtain ⟨k, hk, rfl, hr, kj, kr, hbw⟩ := hrel
      have HR := hide hr
      have HKJ := hide kj
      have HKR := hide kr
      have hlt := kr.lt
      have hsz := hbw.size
      clear hr
      by_cases hp : k < rs.length
      · have hpi : (k : Int) < (rs.length : Int) := by omega
        obtain ⟨_, a9, c9, e9, hcs⟩ := unhide HRV
        cases e9
        obtain ⟨b, off, rfl, hcell⟩ := hcs (by omega)
        obtain ⟨va, vl, d0', d1', d2', d3', hva, hvl⟩ := hcell k hp
        have d0 := cell_on hbw (cell_on hb0 d0')
        have d1 := cell_on hbw (cell_on hb0 d1')
        have d2 := cell_on hbw (cell_on hb0 d2')
        have d3 := cell_on hbw (cell_on hb0 d3')
        clear d0' d1' d2' d3'
        have HVA := hide hva
        have HVL := hide hvl
        obtain ⟨q1, m1, rfl⟩ := hva.1.slice
        obtain ⟨q2, m2, rfl⟩ := hvl.1.slice
        have HF2 := hide (unhide HF k hp (unhide HR))
        have HR2 : Hid (sameS (rs.getD k noR).nm nm = false → ∀ j, j < k + 1 → sameS (rs.getD j noR).nm nm = false) := hide (fun hx j hj => by
          by_cases ej : j = k
          · rw [ej]; exact hx
          · exact unhide HR j (by omega))
        clear hcell hva hvl hcs kj
        cases hx : sameS (rs.getD k noR).nm nm with
        | true =>
          have H := hide (unhide HF2 hx)
          clear HF2 HR2
          unfold sameS at hx
          generalize rs.getD k noR = r at *
          obtain ⟨rn, ac, ats, lks⟩ := r
          dsimp only at *
          generalize el1 : ats.length = l1 at *
          generalize el2 : lks.length = l2 at *
          have x0 : wr.cell? ⟨w.heap.size + 1, 0, none⟩ = some (.string ⟨#[]⟩) := kr.cell 0
          have x1 : wr.cell? ⟨w.heap.size + 1, 1, none⟩ = some (.int .i64 0) := kr.cell 1
          have x2 : wr.cell? ⟨w.heap.size + 1, 2, none⟩ = some (.slice none 0 0) := kr.cell 2
          have x3 : wr.cell? ⟨w.heap.size + 1, 3, none⟩ = some (.slice none 0 0) := kr.cell 3
          have y0 := kr.frozen 0
          have y1 := kr.frozen 1
          have y2 := kr.frozen 2
          have y3 := kr.frozen 3
          clear kr
          go_wp2
          have kk := (((((unhide HKR).set 0 (by simp) (.string rn)).set 1 (by simp) (.int .i64 ac)).set 2 (by simp) (.slice q1 l1 m1)).set 3 (by simp) (.slice q2 l2 m2)).alloc (Obj.cells #[.string rn, .int .i64 ac, .slice q1 l1 m1, .slice q2 l2 m2] 41)
          have dd0 := kk.cell 0
          have dd1 := kk.cell 1
          have dd2 := kk.cell 2
          have dd3 := kk.cell 3
          refine bodyPost_ret (v := .agg #[.string rn, .int .i64 ac, .slice q1 l1 m1, .slice q2 l2 m2]) (by simp [results, Tryz.results28, go_sem, dd0, dd1, dd2, dd3]) rfl ?_
          refine ⟨⟨_, rfl, ?_⟩, ?_⟩
          · rw [unhide H]
            exact ⟨_, _, rfl, unhide HVA, unhide HVL⟩
          · exact ((((hbw.setCell (by simp) _).setCell (by simp) _).setCell (by simp) _).setCell (by simp) _).alloc (by simp; omega) _
        | false =>
          have H := hide (unhide HR2 hx)
          clear HF2 HR2
          unfold sameS at hx
          generalize rs.getD k noR = r at *
          obtain ⟨rn, ac, ats, lks⟩ := r
          dsimp only at *
          generalize ats.length = l1 at *
          generalize lks.length = l2 at *
          clear kr
          go_wp2
          go_roundw
          case rel => exact ⟨k + 1, by omega, by go_num, unhide H, (unhide HKJ).alloc _, (unhide HKR).alloc _, hbw.alloc hsz _⟩
          case measure => simp [intOf]; omega
      · have hkn : k = rs.length := by omega
        have H := hide (unhide HN (by rw [← hkn]; exact unhide HR))
        have x0 : wr.cell? ⟨w.heap.size + 1, 0, none⟩ = some (.string ⟨#[]⟩) := kr.cell 0
        have x1 : wr.cell? ⟨w.heap.size + 1, 1, none⟩ = some (.int .i64 0) := kr.cell 1
        have x2 : wr.cell? ⟨w.heap.size + 1, 2, none⟩ = some (.slice none 0 0) := kr.cell 2
        have x3 : wr.cell? ⟨w.heap.size + 1, 3, none⟩ = some (.slice none 0 0) := kr.cell 3
        have y0 := kr.frozen 0
        have y1 := kr.frozen 1
        have y2 := kr.frozen 2
        have y3 := kr.frozen 3
        have z2 : wr.cell? ⟨w.heap.size, 2, none⟩ = some (.int .i64 ot) := kj.cell 2
        have z3 : wr.cell? ⟨w.heap.size, 3, none⟩ = some (.int .i64 st) := kj.cell 3
        clear kr kj
        go_wp2
        have kk := ((((unhide HKR).set 0 (by simp) (.string ⟨#[]⟩)).set 1 (by simp) (.int .i64 ot)).set 2 (by simp) (.slice none 0 0)).set 3 (by simp) (.slice none 0 0)
        have dd0 := kk.cell 0
        have dd1 := kk.cell 1
        have dd2 := kk.cell 2
        have dd3 := kk.cell 3
        refine bodyPost_ret (v := .agg #[.string ⟨#[]⟩, .int .i64 ot, .slice none 0 0, .slice none 0 0]) (by simp [results, Tryz.results28, go_sem, dd0, dd1, dd2, dd3]) rfl ?_
        refine ⟨⟨_, rfl, ?_⟩, ?_⟩
        · rw [unhide H]
          exact ⟨_, _, rfl, viewN_nil _, viewN_nil _⟩
        · exact (((hbw.setCell (by simp) _).setCell (by simp) _).setCell (by simp) _).setCell (by simp) _
  · have i0 : (sp == 0) = false := beqI _ _ hsp
    have i1 : (sp != 0) = true := bneI' _ _ hsp
    have H : Hid (rulOf ⟨rs, sc, ot, st⟩ sp nm = bareR st) := hide (if_neg hsp)
    clear hsp
    have kk : Hid (Blk ((w.alloc (Obj.cells #[.slice a1 rs.length c1, .slice a2 n2 c2, .int .i64 ot, .int .i64 st] 58)).alloc (Obj.cells #[.string ⟨#[]⟩, .int .i64 st, .slice none 0 0, .slice none 0 0] 41)) (w.heap.size + 1) #[.string ⟨#[]⟩, .int .i64 st, .slice none 0 0, .slice none 0 0] 41) := hide (blk_next (by simp))
    go_enter Tryz.func28, Tryz.ntmps28
    go_wp2
    have dd0 := (unhide kk).cell 0
    have dd1 := (unhide kk).cell 1
    have dd2 := (unhide kk).cell 2
    have dd3 := (unhide kk).cell 3
    refine bodyPost_ret (v := .agg #[.string ⟨#[]⟩, .int .i64 st, .slice none 0 0, .slice none 0 0]) (by simp [results, Tryz.results28, go_sem, dd0, dd1, dd2, dd3]) rfl ?_
    refine ⟨⟨_, rfl, ?_⟩, ((Below.refl _ _).alloc (Nat.le_refl _) _).alloc (by simp) _⟩
    rw [unhide H]
    exact ⟨_, _, rfl, viewN_nil _, viewN_nil _⟩
theorem rule_any (v : Value) (p : PPol) (sp : Int) (nm : ByteArray) (w : World) (hv : PolV w v p) :
    Calls Tryz.prog 28 #[v, .int .i64 sp, .string nm] w fun e w' => (∃ v', e = .returned v' ∧ RulV w' v' (rulOf p sp nm)) ∧ Below w.heap.size w w' :=
  (rule_old v p sp nm w w hv (Below.refl _ _)).mono fun e w' ⟨⟨v', h1, h2⟩, h3⟩ => ⟨⟨v', h1, h2.below h3⟩, h3⟩
end Go.Proofs.YtfdhmhdemfbfeaaGreatDoor

/-
  What 'urls.Join' does, and the reference's: what parts tell.
-/
namespace Go.Proofs.YtfdhmhdemfbfeaaGreatDoor
open Go.RowKit
set_option linter.unusedVariables false

def cB : ByteArray := ⟨#[58]⟩
def ssB : ByteArray := ⟨#[47, 47]⟩
def qB : ByteArray := ⟨#[63]⟩
def hB : ByteArray := ⟨#[35]⟩
theorem sz_add (a b : ByteArray) : (a ++ b).size = a.size + b.size := by simp

/-- What parts tell, one behind the other. -/
def jnB (sc ho pa qu ma : ByteArray) (hs hh hq hm : Bool) : ByteArray :=
  bs ((if hs = true then sc.data.toList ++ [58] else []) ++ ((if hh = true then [47, 47] ++ ho.data.toList else []) ++ (pa.data.toList ++ ((if hq = true then 63 :: qu.data.toList else []) ++ (if hm = true then 35 :: ma.data.toList else [])))))

theorem ba_eq {a b : ByteArray} (h : a.data.toList = b.data.toList) : a = b := by
  have := congrArg bs h
  rwa [bs_self, bs_self] at this
theorem ba_add (a b : ByteArray) : (a ++ b).data.toList = a.data.toList ++ b.data.toList := by simp

end Go.Proofs.YtfdhmhdemfbfeaaGreatDoor

/-
  The law UrlsJoins walked (made by mk_lvj.py).
-/
namespace Go.Proofs.YtfdhmhdemfbfeaaGreatDoor
open Go.RowKit
set_option linter.unusedVariables false
set_option linter.unusedSimpArgs false

def KeepP (b : Nat) (sc ho pa qu ma : ByteArray) (hs hh hq hm : Bool) (W : World) : Prop :=
  W.cell? ⟨b, 0, none⟩ = some (.string sc) ∧ W.cell? ⟨b, 1, none⟩ = some (.string ho) ∧ W.cell? ⟨b, 2, none⟩ = some (.string pa) ∧ W.cell? ⟨b, 3, none⟩ = some (.string qu) ∧ W.cell? ⟨b, 4, none⟩ = some (.string ma) ∧
  W.cell? ⟨b, 5, none⟩ = some (.bool hs) ∧ W.cell? ⟨b, 6, none⟩ = some (.bool hh) ∧ W.cell? ⟨b, 7, none⟩ = some (.bool hq) ∧ W.cell? ⟨b, 8, none⟩ = some (.bool hm)
theorem KeepP.of {b : Nat} {sc ho pa qu ma : ByteArray} {hs hh hq hm : Bool} {W : World} {t : TypeId} (h : Blk W b (ptC sc ho pa qu ma hs hh hq hm) t) : KeepP b sc ho pa qu ma hs hh hq hm W :=
  ⟨h.cell 0, h.cell 1, h.cell 2, h.cell 3, h.cell 4, h.cell 5, h.cell 6, h.cell 7, h.cell 8⟩

end Go.Proofs.YtfdhmhdemfbfeaaGreatDoor

/-
  'judge.stays', 'policy.Act', 'policy.Stays'.
-/
namespace Go.Proofs.YtfdhmhdemfbfeaaGreatDoor
open Go.RowKit
set_option linter.unusedVariables false
set_option linter.unusedSimpArgs false

def stB (p : PPol) (r : PRul) (an av : ByteArray) : Bool := decide (r.ac = 1) && (isIn an r.ats || (isIn an r.lks && vsafeB (plL av.data.toList) p.sc))

set_option maxHeartbeats 2000000 in
theorem jstays_any (v vr : Value) (p : PPol) (r : PRul) (an av : ByteArray) (w : World) (hv : PolV w v p) (hr : RulV w vr r) (hz : av.size ≤ 100000) :
    Calls Tryz.prog 29 #[v, vr, .agg #[.string an, .string av]] w fun e w' => e = .returned (.bool (stB p r an av)) ∧ Below w.heap.size w w' := by
  obtain ⟨vrs, vs, rfl, h1, h2⟩ := hv
  obtain ⟨va, vl, rfl, h3, h4⟩ := hr
  have C1 := hide (fun W hW => contains_any va r.ats an W (view_below (w := w) h3.1 hW))
  have C2 := hide (fun W hW => contains_any vl r.lks an W (view_below (w := w) h4.1 hW))
  have C3 := hide (fun W hW => safe_any av vs p.sc W hz (view_below (w := w) h2 hW))
  obtain ⟨a2, c2, rfl⟩ := h2.slice
  obtain ⟨hrl, a1, c1, rfl, _⟩ := h1
  obtain ⟨q1, m1, rfl⟩ := h3.1.slice
  obtain ⟨q2, m2, rfl⟩ := h4.1.slice
  unfold polC rulC stB
  clear h2 h3 h4
  obtain ⟨rs, sc, ot, st⟩ := p
  obtain ⟨rn, ac, ats, lks⟩ := r
  dsimp only at *
  generalize isIn an ats = D1 at *
  generalize isIn an lks = D2 at *
  generalize vsafeB (plL av.data.toList) sc = D3 at *
  generalize rs.length = n1 at *
  generalize sc.length = n2 at *
  generalize ats.length = l1 at *
  generalize lks.length = l2 at *
  have al : Below w.heap.size w (((w.alloc (Obj.cells #[.slice a1 n1 c1, .slice a2 n2 c2, .int .i64 ot, .int .i64 st] 58)).alloc (Obj.cells #[.string rn, .int .i64 ac, .slice q1 l1 m1, .slice q2 l2 m2] 41)).alloc (Obj.cells #[.string an, .string av] 48)) := (((Below.refl _ _).alloc (Nat.le_refl _) _).alloc (by simp) _).alloc (by simp; omega) _
  by_cases i1 : ac = 1
  · subst i1
    have D1' := hide (unhide C1 _ al)
    have D2' := hide (unhide C2 _ al)
    have D3' := hide (unhide C3 _ al)
    clear C1 C2 C3
    cases D1 with
    | true =>
      go_enter Tryz.func29, Tryz.ntmps29
      go_wp2_with fail
      refine (unhide D1').mono ?_
      rintro e1 w1 ⟨rfl, hw1⟩
      subst hw1
      go_wp2
      go_ret
      exact ⟨rfl, al⟩
    | false =>
      cases D2 with
      | false =>
        go_enter Tryz.func29, Tryz.ntmps29
        go_wp2_with fail
        refine (unhide D1').mono ?_
        rintro e1 w1 ⟨rfl, hw1⟩
        subst hw1
        go_wp2_with fail
        refine (unhide D2').mono ?_
        rintro e1 w1 ⟨rfl, hw1⟩
        subst hw1
        go_wp2
        go_ret
        exact ⟨rfl, al⟩
      | true =>
        go_enter Tryz.func29, Tryz.ntmps29
        go_wp2_with fail
        refine (unhide D1').mono ?_
        rintro e1 w1 ⟨rfl, hw1⟩
        subst hw1
        go_wp2_with fail
        refine (unhide D2').mono ?_
        rintro e1 w1 ⟨rfl, hw1⟩
        subst hw1
        go_wp2_with fail
        refine (unhide D3').mono ?_
        rintro e1 w1 ⟨rfl, hb1⟩
        go_wp2
        go_ret
        exact ⟨by simp, tr2 al hb1⟩
  · have j1 : (ac == 1) = false := beqI _ _ i1
    have j2 : (ac != 1) = true := bneI' _ _ i1
    rw [decide_eq_false i1]
    clear i1 C1 C2 C3
    go_enter Tryz.func29, Tryz.ntmps29
    go_wp2
    go_ret
    exact ⟨rfl, al⟩

def actP (p : PPol) (sp : Int) (nm : ByteArray) : Int := if chkP p = 0 then (rulOf p sp nm).ac else 3
theorem chk_ne {c : Int} (h : ¬ c = 0) : (c == 0) = false ∧ (c != 0) = true := ⟨beqI _ _ h, bneI' _ _ h⟩

theorem fld1 (s : ByteArray) (a : Int) (x y : Value) (w : World) : (Instr.field 41 (.agg #[.string s, .int .i64 a, x, y]) 1).run Tryz.prog w = .ok (.int .i64 a) w := by kernel_rfl
set_option maxHeartbeats 2000000 in
theorem pact_any (v : Value) (p : PPol) (sp : Int) (nm : ByteArray) (w : World) (hv : PolV w v p) (ho : PolOk p) :
    Calls Tryz.prog 15 #[v, .int .i64 sp, .string nm] w fun e w' => e = .returned (.int .i64 (actP p sp nm)) ∧ Below w.heap.size w w' := by
  have HV := hide hv
  have C1 := hide (fun W hW => check_any v p W (hv.below hW) ho)
  have C2 := hide (fun W hW => rule_any v p sp nm W (hv.below (w := w) hW))
  obtain ⟨vrs, vs, rfl, h1, h2⟩ := hv
  obtain ⟨a2, c2, rfl⟩ := h2.slice
  obtain ⟨hrl, a1, c1, rfl, _⟩ := h1
  unfold actP
  unfold polC at *
  clear h2
  generalize chkP p = ch at *
  generalize rulOf p sp nm = rr at *
  obtain ⟨rs, sc, ot, st⟩ := p
  dsimp only at *
  generalize rs.length = n1 at *
  generalize sc.length = n2 at *
  have al : Below w.heap.size w (w.alloc (Obj.cells #[.slice a1 n1 c1, .slice a2 n2 c2, .int .i64 ot, .int .i64 st] 25)) := (Below.refl _ _).alloc (Nat.le_refl _) _
  have K := hide (Blk.new w #[.slice a1 n1 c1, .slice a2 n2 c2, .int .i64 ot, .int .i64 st] 25)
  have C1' := hide (unhide C1 _ al)
  by_cases h0 : ch = 0
  · subst h0
    go_enter Tryz.func15, Tryz.ntmps15
    go_wp2_with fail
    refine (unhide C1').mono ?_
    rintro e1 w1 ⟨rfl, hb1⟩
    have K1 := hide ((unhide K).later hb1)
    have HB1 := hide (al.trans (hb1.mono (by simp)))
    have z0 : w1.cell? ⟨w.heap.size, 0, none⟩ = some (.slice a1 n1 c1) := (unhide K1).cell 0
    have z1 : w1.cell? ⟨w.heap.size, 1, none⟩ = some (.slice a2 n2 c2) := (unhide K1).cell 1
    have z2 : w1.cell? ⟨w.heap.size, 2, none⟩ = some (.int .i64 ot) := (unhide K1).cell 2
    have z3 : w1.cell? ⟨w.heap.size, 3, none⟩ = some (.int .i64 st) := (unhide K1).cell 3
    have C2' := hide (unhide C2 _ (unhide HB1))
    clear hb1 al C2 C1 C1'
    go_wp2_with fail
    refine (unhide C2').mono ?_
    rintro e1 w2 ⟨⟨v', rfl, va, vl, rfl, _, _⟩, hb2⟩
    have hf := fld1 rr.nm rr.ac va vl
    unfold rulC
    go_wp2
    go_ret
    exact ⟨rfl, tr2 (unhide HB1) hb2⟩
  · obtain ⟨i0, i1⟩ := chk_ne h0
    rw [if_neg h0]
    clear h0
    go_enter Tryz.func15, Tryz.ntmps15
    go_wp2_with fail
    refine (unhide C1').mono ?_
    rintro e1 w1 ⟨rfl, hb1⟩
    have HB1 := hide (al.trans (hb1.mono (by simp)))
    go_wp2
    go_ret
    exact ⟨rfl, unhide HB1⟩
end Go.Proofs.YtfdhmhdemfbfeaaGreatDoor
