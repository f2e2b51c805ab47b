/-
  Several texts in one: what the functions of the program and of the document's answer do.
-/
import Derived.Test.YtfdhmhdemfbfeaaGreatDoorMgAJ
import Derived.Test.YtfdhmhdemfbfeaaGreatDoorMgAI
import Derived.Test.YtfdhmhdemfbfeaaGreatDoorMgAC
import Derived.Test.YtfdhmhdemfbfeaaGreatDoorUPl

/-
  What 'urls.Safe' does, and the reference's; and the small case 'java'.
-/
namespace Go.Proofs.YtfdhmhdemfbfeaaGreatDoor
open Go.RowKit
set_option linter.unusedVariables false

/-- Whether a text is one of some. -/
def isIn (x : ByteArray) (zs : List ByteArray) : Bool := Lib.containsS zs x

theorem contains_any (v : Value) (zs : List ByteArray) (x : ByteArray) (w : World) (hv : View w v zs) :
    Calls Tryz.prog 52 #[v, .string x] w fun e w' => e = .returned (.bool (isIn x zs)) ∧ w' = w := by
  obtain ⟨hl, a, cap, rfl, hc⟩ := hv
  by_cases h0 : zs.length = 0
  · have hz : zs = [] := List.eq_nil_of_length_eq_zero h0
    subst hz
    exact Tryz.slices_Contains_string_empty a cap x w
  · obtain ⟨b, off, rfl, hcell⟩ := hc (by omega)
    have := Tryz.slices_Contains_string b off zs.length cap zs x w (Nat.le_refl _) hl hcell
    rw [List.take_length] at this
    exact this

/-- Whether one of the first k texts is such. -/
def inK (zs : List ByteArray) (x : ByteArray) (k : Nat) : Prop := ∀ j, j < k → ¬ zs.getD j ByteArray.empty = x
theorem in_yes {zs : List ByteArray} {x : ByteArray} {k : Nat} (hk : k < zs.length) (h : zs.getD k ByteArray.empty = x) : isIn x zs = true := by
  apply (Lib.containsS_iff zs x).2
  rw [List.getD, List.getElem?_eq_getElem hk] at h
  rw [← h]
  exact List.getElem_mem hk
theorem in_no {zs : List ByteArray} {x : ByteArray} (h : inK zs x zs.length) : isIn x zs = false := by
  cases hcs : isIn x zs with
  | false => rfl
  | true =>
  exfalso
  have hm := (Lib.containsS_iff zs x).1 hcs
  obtain ⟨j, hj, e⟩ := List.getElem_of_mem hm
  refine h j hj ?_
  rw [List.getD, List.getElem?_eq_getElem hj]
  exact e
set_option maxHeartbeats 1000000 in
theorem vin_any (v : Value) (zs : List ByteArray) (x : ByteArray) (w : World) (hv : View w v zs) :
    Calls Tryz.prog 40 #[.string x, v] w fun e w' => e = .returned (.bool (isIn x zs)) ∧ w' = w := by
  obtain ⟨hl, a, cap, rfl, hc⟩ := hv
  have HC := hide hc
  have HN := hide (@in_no zs x)
  have HY := hide (fun k hk h => @in_yes zs x k hk h)
  clear hc
  go_enter Tryz.func40, Tryz.ntmps40
  go_wp2
  go_loopw [9] (fun i wr => ∃ k : Nat, k ≤ zs.length ∧ i = .int .i64 k ∧ inK zs x k ∧ wr = w) (fun i _ => zs.length - (intOf i).toNat)
  case atStart => exact ⟨0, Nat.zero_le _, rfl, fun j hj => absurd hj (Nat.not_lt_zero _), rfl⟩
  case round =>
    obtain ⟨k, hk, rfl, hr, hw⟩ := hrel
    have hw' := hw.symm
    subst hw'
    have HR := hide hr
    clear hr hw
    by_cases hp : k < zs.length
    · have hpi : (k : Int) < (zs.length : Int) := by omega
      obtain ⟨b, off, rfl, hcell⟩ := unhide HC (by omega)
      have hck := hcell k hp
      clear hcell
      have hyk := unhide HY k hp
      by_cases he : zs.getD k ByteArray.empty = x
      · have hy := hyk he
        have hb := beq_yes he
        have H := hide hy
        clear hy hyk he
        generalize zs.getD k ByteArray.empty = y at *
        go_wp2
        go_ret
        exact ⟨by rw [unhide H]; rfl, rfl⟩
      · have hb := beq_no he
        have HR2 : Hid (inK zs x (k + 1)) := hide (fun j hj => by
          by_cases ej : j = k
          · rw [ej]; exact he
          · exact unhide HR j (by omega))
        clear hyk he
        generalize zs.getD k ByteArray.empty = y at *
        go_wp2
        go_roundw
        case rel => exact ⟨k + 1, by omega, by go_num, unhide HR2, by first | rfl | trivial⟩
        case measure => simp [intOf]; omega
    · have hkn : k = zs.length := by omega
      have hn := unhide HN (by rw [← hkn]; exact unhide HR)
      have H := hide hn
      clear hn
      go_wp2
      go_ret
      exact ⟨by rw [unhide H]; rfl, rfl⟩

def vsafeB (x : List UInt8) (zs : List ByteArray) : Bool := !decide (0 < schN x) || isIn (bs (sSc x)) zs

set_option maxHeartbeats 1000000 in
theorem safe_any (s : ByteArray) (v : Value) (zs : List ByteArray) (w : World) (hs : s.size ≤ 100000) (hv : View w v zs) :
    Calls Tryz.prog 53 #[.string s, v] w fun e w' => e = .returned (.bool (vsafeB (plL s.data.toList) zs)) ∧ Below w.heap.size w w' := by
  have C := hide (fun w => schm_any s w hs)
  unfold vsafeB
  have HV := hide (fun w1 hb => @view_below w w1 v zs hv hb)
  generalize plL s.data.toList = x at *
  have CC := hide (fun w h => contains_any v zs (bs (sSc x)) w h)
  generalize bs (sSc x) = Y at *
  generalize isIn Y zs = D at *
  obtain ⟨hl, a, cap, rfl, hc⟩ := hv
  clear hc
  cases hD : decide (0 < schN x) with
  | false =>
    rw [hD] at C
    clear hD
    go_enter Tryz.func53, Tryz.ntmps53
    go_wp2_with fail
    refine (unhide C _).mono ?_
    rintro e1 w1 ⟨rfl, hb⟩
    go_wp2
    go_ret
    exact ⟨by simp, hb⟩
  | true =>
    rw [hD] at C
    clear hD
    go_enter Tryz.func53, Tryz.ntmps53
    go_wp2_with fail
    refine (unhide C _).mono ?_
    rintro e1 w1 ⟨rfl, hb⟩
    go_wp2_with fail
    refine (unhide CC _ (unhide HV _ hb)).mono ?_
    rintro e1 w2 ⟨rfl, hw2⟩
    obtain rfl : w1 = w2 := hw2.symm
    go_wp2
    go_ret
    exact ⟨by simp, hb⟩

theorem view_nil (w : World) : View w (.slice none 0 0) [] := ⟨by decide, none, 0, rfl, fun h => absurd h (by decide)⟩

def jvS : ByteArray := ⟨#[32, 74, 97, 118, 97, 10, 83, 99, 114, 105, 112, 116, 58, 120]⟩
def hpS : ByteArray := ⟨#[47, 47, 104, 47, 112, 63, 113, 35, 109]⟩
theorem jv_is : bs (sSc (plL jvS.data.toList)) = ⟨#[106, 97, 118, 97, 115, 99, 114, 105, 112, 116]⟩ ∧ decide (0 < schN (plL jvS.data.toList)) = true := by
  constructor <;> decide
theorem hp_is : spC (plL hpS.data.toList) = ptC noS ⟨#[104]⟩ ⟨#[47, 112]⟩ ⟨#[113]⟩ ⟨#[109]⟩ false true true true := by
  kernel_rfl
theorem sf1 : vsafeB (plL (⟨#[47, 120, 58, 121]⟩ : ByteArray).data.toList) [] = true := by decide
theorem sf2 : vsafeB (plL (⟨#[120, 58, 121]⟩ : ByteArray).data.toList) [] = false := by decide

end Go.Proofs.YtfdhmhdemfbfeaaGreatDoor

/-
  Policies as they lie in memory, and told plainly.
-/
namespace Go.Proofs.YtfdhmhdemfbfeaaGreatDoor
open Go.RowKit
set_option linter.unusedVariables false

/-- A rule, told plainly. -/
structure PRul where
  nm : ByteArray
  ac : Int
  ats : List ByteArray
  lks : List ByteArray
/-- A policy, told plainly. -/
structure PPol where
  rs : List PRul
  sc : List ByteArray
  ot : Int
  st : Int
/-- A list of texts; nothing has no room. -/
def ViewN (w : World) (v : Value) (zs : List ByteArray) : Prop := View w v zs ∧ ∀ n c, v = .slice none n c → c = 0
theorem viewN_below {w w' : World} {v : Value} {zs : List ByteArray} (h : ViewN w v zs) (hb : Below w.heap.size w w') : ViewN w' v zs := ⟨view_below h.1 hb, h.2⟩
def noR : PRul := ⟨⟨#[]⟩, 0, [], []⟩
def rulC (r : PRul) (va vl : Value) : Array Value := #[.string r.nm, .int .i64 r.ac, va, vl]
/-- A rule's value. -/
def RulV (w : World) (v : Value) (r : PRul) : Prop := ∃ va vl, v = .agg (rulC r va vl) ∧ ViewN w va r.ats ∧ ViewN w vl r.lks
/-- A rule in memory. -/
def RulAt (w : World) (b o : Nat) (r : PRul) : Prop := ∃ va vl, w.cell? ⟨b, o, none⟩ = some (.string r.nm) ∧ w.cell? ⟨b, o + 1, none⟩ = some (.int .i64 r.ac) ∧ w.cell? ⟨b, o + 2, none⟩ = some va ∧ w.cell? ⟨b, o + 3, none⟩ = some vl ∧ ViewN w va r.ats ∧ ViewN w vl r.lks
/-- Rules behind a slice. -/
def RulsV (w : World) (v : Value) (rs : List PRul) : Prop := rs.length ≤ 9223372036854775807 ∧ ∃ a cap, v = .slice a rs.length cap ∧ (0 < rs.length → ∃ b off, a = some ⟨b, off, none⟩ ∧ ∀ i, i < rs.length → RulAt w b (off + i * 4) (rs.getD i noR))
/-- A policy's value. -/
def polC (p : PPol) (vr vs : Value) : Array Value := #[vr, vs, .int .i64 p.ot, .int .i64 p.st]
def PolV (w : World) (v : Value) (p : PPol) : Prop := ∃ vr vs, v = .agg (polC p vr vs) ∧ RulsV w vr p.rs ∧ View w vs p.sc

theorem cell_lt {w : World} {b o : Nat} {v : Value} (h : w.cell? ⟨b, o, none⟩ = some v) : b < w.heap.size := World.block_lt_of_cell? _ _ h
theorem cell_on {w w' : World} {b o : Nat} {v : Value} (hb : Below w.heap.size w w') (h : w.cell? ⟨b, o, none⟩ = some v) : w'.cell? ⟨b, o, none⟩ = some v :=
  (hb.cell (p := ⟨b, o, none⟩) (cell_lt h)).trans h
theorem RulV.below {w w' : World} {v : Value} {r : PRul} (h : RulV w v r) (hb : Below w.heap.size w w') : RulV w' v r := by
  obtain ⟨va, vl, h1, h2, h3⟩ := h
  exact ⟨va, vl, h1, viewN_below h2 hb, viewN_below h3 hb⟩
theorem RulAt.below {w w' : World} {b o : Nat} {r : PRul} (h : RulAt w b o r) (hb : Below w.heap.size w w') : RulAt w' b o r := by
  obtain ⟨va, vl, h1, h2, h3, h4, h5, h6⟩ := h
  exact ⟨va, vl, cell_on hb h1, cell_on hb h2, cell_on hb h3, cell_on hb h4, viewN_below h5 hb, viewN_below h6 hb⟩
theorem RulsV.below {w w' : World} {v : Value} {rs : List PRul} (h : RulsV w v rs) (hb : Below w.heap.size w w') : RulsV w' v rs := by
  obtain ⟨h1, a, cap, h2, h3⟩ := h
  refine ⟨h1, a, cap, h2, fun h => ?_⟩
  obtain ⟨b, off, h4, h5⟩ := h3 h
  exact ⟨b, off, h4, fun i hi => (h5 i hi).below hb⟩
theorem PolV.below {w w' : World} {v : Value} {p : PPol} (h : PolV w v p) (hb : Below w.heap.size w w') : PolV w' v p := by
  obtain ⟨vr, vs, h1, h2, h3⟩ := h
  exact ⟨vr, vs, h1, h2.below hb, view_below h3 hb⟩
theorem View.slice {w : World} {v : Value} {zs : List ByteArray} (h : View w v zs) : ∃ a cap, v = .slice a zs.length cap := by
  obtain ⟨_, a, cap, h, _⟩ := h
  exact ⟨a, cap, h⟩

/-- Every text of a policy is short enough for an int. -/
def RulOk (r : PRul) : Prop := r.nm.size ≤ 9223372036854775807 ∧ (∀ s ∈ r.ats, s.size ≤ 9223372036854775807) ∧ (∀ s ∈ r.lks, s.size ≤ 9223372036854775807) ∧ r.ats.length ≤ 9223372036854775807 ∧ r.lks.length ≤ 9223372036854775807
def PolOk (p : PPol) : Prop := (∀ r ∈ p.rs, RulOk r) ∧ ∀ s ∈ p.sc, s.size ≤ 9223372036854775807
theorem getD_in {α : Type} (l : List α) (d : α) (i : Nat) (h : i < l.length) : l.getD i d ∈ l := by
  rw [List.getD, List.getElem?_eq_getElem h]
  exact List.getElem_mem h

/-! ### what a rule must meet -/

def fewB (r : PRul) : Bool := decide (r.ats.length ≤ 20 ∧ r.lks.length ≤ 20)
def remB (a : Int) : Bool := decide (a = 2 ∨ a = 3)
def actB (r : PRul) : Bool := decide (r.ac = 1) || remB r.ac
theorem rem_yes {a : Int} (h : a = 2 ∨ a = 3) : remB a = true := by simp [remB, h]
theorem rem_no {a : Int} (h : ¬ (a = 2 ∨ a = 3)) : remB a = false := by simp only [remB, decide_eq_false_iff_not]; exact h

theorem removes_any (a : Int) (w : World) :
    Calls Tryz.prog 68 #[.int .i64 a] w fun e w' => e = .returned (.bool (remB a)) ∧ w' = w := by
  by_cases h2 : a = 2
  · subst h2
    go_enter Tryz.func68, Tryz.ntmps68
    go_wp2
    go_ret
    exact ⟨rfl, rfl⟩
  · have i2 : (a == 2) = false := beqI _ _ h2
    by_cases h3 : a = 3
    · subst h3
      go_enter Tryz.func68, Tryz.ntmps68
      go_wp2
      go_ret
      exact ⟨rfl, rfl⟩
    · have i3 : (a == 3) = false := beqI _ _ h3
      rw [rem_no (by omega)]
      clear h2 h3
      go_enter Tryz.func68, Tryz.ntmps68
      go_wp2
      go_ret
      exact ⟨rfl, rfl⟩

set_option maxHeartbeats 1000000 in
theorem few_any (v : Value) (r : PRul) (w : World) (hv : RulV w v r) :
    Calls Tryz.prog 61 #[v] w fun e w' => e = .returned (.bool (fewB r)) ∧ Below w.heap.size w w' := by
  obtain ⟨va, vl, rfl, h1, h2⟩ := hv
  obtain ⟨a1, c1, rfl⟩ := h1.1.slice
  obtain ⟨a2, c2, rfl⟩ := h2.1.slice
  unfold rulC fewB
  clear h1 h2
  obtain ⟨nm, ac, ats, lks⟩ := r
  dsimp only
  generalize ats.length = n1 at *
  generalize lks.length = n2 at *
  by_cases i1 : n1 ≤ 20
  · have j1 : (n1 : Int) ≤ 20 := by omega
    by_cases i2 : n2 ≤ 20
    · have j2 : (n2 : Int) ≤ 20 := by omega
      rw [decide_eq_true (And.intro i1 i2)]
      go_enter Tryz.func61, Tryz.ntmps61
      go_wp2
      go_ret
      exact ⟨rfl, (Below.refl _ _).alloc (Nat.le_refl _) _⟩
    · have j2 : decide ((n2 : Int) ≤ 20) = false := by simp; omega
      rw [decide_eq_false (fun h => i2 h.2)]
      go_enter Tryz.func61, Tryz.ntmps61
      go_wp2
      go_ret
      exact ⟨rfl, (Below.refl _ _).alloc (Nat.le_refl _) _⟩
  · have j1 : decide ((n1 : Int) ≤ 20) = false := by simp; omega
    rw [decide_eq_false (fun h => i1 h.1)]
    go_enter Tryz.func61, Tryz.ntmps61
    go_wp2
    go_ret
    exact ⟨rfl, (Below.refl _ _).alloc (Nat.le_refl _) _⟩

set_option maxHeartbeats 1000000 in
theorem act_any (v : Value) (r : PRul) (w : World) (hv : RulV w v r) :
    Calls Tryz.prog 48 #[v] w fun e w' => e = .returned (.bool (actB r)) ∧ Below w.heap.size w w' := by
  obtain ⟨va, vl, rfl, h1, h2⟩ := hv
  obtain ⟨a1, c1, rfl⟩ := h1.1.slice
  obtain ⟨a2, c2, rfl⟩ := h2.1.slice
  unfold rulC actB
  clear h1 h2
  obtain ⟨nm, ac, ats, lks⟩ := r
  dsimp only
  have C := hide (fun w => removes_any ac w)
  generalize ats.length = n1 at *
  generalize lks.length = n2 at *
  generalize remB ac = D at *
  by_cases i1 : ac = 1
  · subst i1
    go_enter Tryz.func48, Tryz.ntmps48
    go_wp2
    go_ret
    exact ⟨by simp, (Below.refl _ _).alloc (Nat.le_refl _) _⟩
  · have j1 : (ac == 1) = false := beqI _ _ i1
    rw [decide_eq_false i1]
    clear i1
    go_enter Tryz.func48, Tryz.ntmps48
    go_wp2_with fail
    refine (unhide C _).mono ?_
    rintro e1 w1 ⟨rfl, hw1⟩
    subst hw1
    go_wp2
    go_ret
    exact ⟨by simp, (Below.refl _ _).alloc (Nat.le_refl _) _⟩

set_option maxHeartbeats 1000000 in
theorem others_any (v : Value) (p : PPol) (w : World) (hv : PolV w v p) :
    Calls Tryz.prog 50 #[v] w fun e w' => e = .returned (.bool (remB p.ot && remB p.st)) ∧ Below w.heap.size w w' := by
  obtain ⟨vr, vs, rfl, h1, h2⟩ := hv
  obtain ⟨a2, c2, rfl⟩ := h2.slice
  obtain ⟨_, a1, c1, rfl, _⟩ := h1
  unfold polC
  clear h2
  obtain ⟨rs, sc, ot, st⟩ := p
  dsimp only
  have C := hide (fun w => removes_any ot w)
  have C2 := hide (fun w => removes_any st w)
  generalize rs.length = n1 at *
  generalize sc.length = n2 at *
  generalize remB st = D at *
  cases hr : remB ot with
  | false =>
    rw [hr] at C
    go_enter Tryz.func50, Tryz.ntmps50
    go_wp2_with fail
    refine (unhide C _).mono ?_
    rintro e1 w1 ⟨rfl, hw1⟩
    subst hw1
    go_wp2
    go_ret
    exact ⟨by simp, (Below.refl _ _).alloc (Nat.le_refl _) _⟩
  | true =>
    rw [hr] at C
    go_enter Tryz.func50, Tryz.ntmps50
    go_wp2_with fail
    refine (unhide C _).mono ?_
    rintro e1 w1 ⟨rfl, hw1⟩
    subst hw1
    go_wp2_with fail
    refine (unhide C2 _).mono ?_
    rintro e1 w1 ⟨rfl, hw1⟩
    subst hw1
    go_wp2
    go_ret
    exact ⟨by simp, (Below.refl _ _).alloc (Nat.le_refl _) _⟩
end Go.Proofs.YtfdhmhdemfbfeaaGreatDoor

/-
  What pen and its reference make of texts, as plain functions of lists of bytes.
-/
namespace Go.Proofs.YtfdhmhdemfbfeaaGreatDoor
open Go.RowKit
set_option linter.unusedVariables false

def smN (b : Nat) : Bool := decide (97 ≤ b ∧ b ≤ 122)
def okN (b : Nat) : Bool := smN b || (dgN b || (decide (b = 45) || decide (b = 58)))
def moreN (b : Nat) : Bool := decide ((48 ≤ b ∧ b ≤ 58) ∨ b = 45)
theorem ok_more (b : Nat) : okN b = (smN b || moreN b) := by
  unfold okN dgN moreN
  cases smN b with
  | true => rfl
  | false =>
    simp only [Bool.false_or]
    by_cases h : (48 ≤ b ∧ b ≤ 58) ∨ b = 45
    · rw [decide_eq_true h]
      by_cases h1 : 48 ≤ b ∧ b ≤ 57
      · simp [h1]
      · by_cases h2 : b = 45
        · simp [h2]
        · have : b = 58 := by omega
          simp [this]
    · rw [decide_eq_false h, decide_eq_false (by omega), decide_eq_false (by omega), decide_eq_false (by omega)]; rfl
def gdN (b : Nat) : Bool := decide (b ≠ 0 ∧ b ≠ 13)
def allN (p : Nat → Bool) (l : List UInt8) : Bool := l.all fun c => p c.toNat
theorem allN_nil (p : Nat → Bool) : allN p [] = true := rfl
theorem allN_step (p : Nat → Bool) {l : List UInt8} {k : Nat} (h : k < l.length) : allN p (l.drop k) = (p (dgt l k) && allN p (l.drop (k + 1))) := by
  obtain ⟨c, hc, hn⟩ := drop_at l k h
  rw [hc, ← hn]; rfl
theorem allN_end (p : Nat → Bool) {l : List UInt8} {k : Nat} (h : l.length ≤ k) : allN p (l.drop k) = true := by
  rw [List.drop_eq_nil_of_le h]; rfl
def nameB (l : List UInt8) : Bool := decide (0 < l.length ∧ l.length ≤ 24) && (smN (dgt l 0) && allN okN l)
def goodB (l : List UInt8) : Bool := rightB l && allN gdN l
theorem smN_yes {b : Nat} (h : 97 ≤ b ∧ b ≤ 122) : smN b = true := decide_eq_true h
theorem smN_no {b : Nat} (h : ¬ (97 ≤ b ∧ b ≤ 122)) : smN b = false := decide_eq_false h

theorem small_any : ByteIs 80 smN := by
  intro b w
  by_cases h1 : 97 ≤ b
  · have i1 : (97 : Int) ≤ (b : Int) := by omega
    by_cases h2 : b ≤ 122
    · have i2 : (b : Int) ≤ 122 := by omega
      rw [smN_yes ⟨h1, h2⟩]
      go_enter Tryz.func80, Tryz.ntmps80
      go_wp2
      go_ret
      exact ⟨rfl, rfl⟩
    · have i2 : decide ((b : Int) ≤ 122) = false := decide_eq_false (by omega)
      rw [smN_no (by omega)]
      clear h2
      go_enter Tryz.func80, Tryz.ntmps80
      go_wp2
      go_ret
      exact ⟨rfl, rfl⟩
  · have i1 : decide ((97 : Int) ≤ (b : Int)) = false := decide_eq_false (by omega)
    rw [smN_no (by omega)]
    clear h1
    go_enter Tryz.func80, Tryz.ntmps80
    go_wp2
    go_ret
    exact ⟨rfl, rfl⟩
/-- The variable that the test of names captures. -/
def Cap (g : Nat) (w : World) : Prop := w.cell? ⟨g, 0, none⟩ = some (.func (.func 80) #[] #[])
theorem sign_any (b g : Nat) (w : World) (hg : Cap g w) :
    Calls Tryz.prog 82 #[.int .u8 (b : Int), .pointer (some ⟨g, 0, none⟩)] w fun e w' => e = .returned (.bool (okN b)) ∧ w' = w := by
  unfold Cap at hg
  unfold okN
  have CS := hide (small_any b)
  have CD := hide (digit_any b)
  generalize smN b = sb at *
  generalize dgN b = db at *
  cases sb with
  | true =>
    rw [Bool.true_or]
    go_enter Tryz.func82, Tryz.ntmps82
    go_wp2_with (first
      | (go_at_call 80; refine (unhide CS _).mono ?_; rintro e w1 ⟨rfl, rfl⟩)
      | (go_at_call 83; refine (unhide CD _).mono ?_; rintro e w1 ⟨rfl, rfl⟩))
    go_ret
    exact ⟨rfl, rfl⟩
  | false =>
    rw [Bool.false_or]
    cases db with
    | true =>
      rw [Bool.true_or]
      go_enter Tryz.func82, Tryz.ntmps82
      go_wp2_with (first
        | (go_at_call 80; refine (unhide CS _).mono ?_; rintro e w1 ⟨rfl, rfl⟩)
        | (go_at_call 83; refine (unhide CD _).mono ?_; rintro e w1 ⟨rfl, rfl⟩))
      go_ret
      exact ⟨rfl, rfl⟩
    | false =>
      rw [Bool.false_or]
      by_cases h1 : b = 45
      · subst h1
        rw [decide_eq_true rfl, Bool.true_or]
        go_enter Tryz.func82, Tryz.ntmps82
        go_wp2_with (first
          | (go_at_call 80; refine (unhide CS _).mono ?_; rintro e w1 ⟨rfl, rfl⟩)
          | (go_at_call 83; refine (unhide CD _).mono ?_; rintro e w1 ⟨rfl, rfl⟩))
        go_ret
        exact ⟨rfl, rfl⟩
      · have n1 : ((b : Int) == 45) = false := bneI (by omega)
        rw [decide_eq_false h1, Bool.false_or]
        by_cases h2 : b = 58
        · subst h2
          rw [decide_eq_true rfl]
          go_enter Tryz.func82, Tryz.ntmps82
          go_wp2_with (first
            | (go_at_call 80; refine (unhide CS _).mono ?_; rintro e w1 ⟨rfl, rfl⟩)
            | (go_at_call 83; refine (unhide CD _).mono ?_; rintro e w1 ⟨rfl, rfl⟩))
          go_ret
          exact ⟨rfl, rfl⟩
        · have n2 : ((b : Int) == 58) = false := bneI (by omega)
          rw [decide_eq_false h2]
          clear h1 h2
          go_enter Tryz.func82, Tryz.ntmps82
          go_wp2_with (first
            | (go_at_call 80; refine (unhide CS _).mono ?_; rintro e w1 ⟨rfl, rfl⟩)
            | (go_at_call 83; refine (unhide CD _).mono ?_; rintro e w1 ⟨rfl, rfl⟩))
          go_ret
          exact ⟨rfl, rfl⟩

set_option maxHeartbeats 1000000 in
theorem every_name (s : ByteArray) (g : Nat) (w : World) (hg : Cap g w) (hs : s.size ≤ 9223372036854775807) :
    Calls Tryz.prog 81 #[.string s, .func (.func 82) #[] #[.pointer (some ⟨g, 0, none⟩)]] w fun e w' => e = .returned (.bool (allN okN s.data.toList)) ∧ w' = w := by
  have HG := hide hg
  clear hg
  go_enter Tryz.func81, Tryz.ntmps81
  go_wp2
  go_loopw [8] (fun i wr => ∃ k : Nat, k ≤ s.size ∧ i = .int .i64 k ∧ allN okN s.data.toList = allN okN (s.data.toList.drop k) ∧ wr = w) (fun i _ => s.size - (intOf i).toNat)
  case atStart => exact ⟨0, Nat.zero_le _, rfl, rfl, rfl⟩
  case round =>
    obtain ⟨k, hk, rfl, hr, rfl⟩ := hrel
    have HR := hide hr
    clear hr
    by_cases hp : k < s.size
    · have hpi : (k : Int) < (s.size : Int) := by omega
      have e := dgt_at s k hp
      have hst := allN_step okN (l := s.data.toList) (k := k) (by rw [data_len]; exact hp)
      have C := hide (fun w h => sign_any (dgt s.data.toList k) g w h)
      have HST := hide hst
      clear hst
      generalize dgt s.data.toList k = b at *
      cases ho : okN b with
      | true =>
        rw [ho] at C HST
        clear ho
        go_wp2_with (go_at_call 82; refine (unhide C _ (unhide HG)).mono ?_; rintro e1 w1 ⟨rfl, rfl⟩)
        go_roundw
        case rel => exact ⟨k + 1, by omega, by go_num, by rw [unhide HR, unhide HST]; rfl, by first | exact rfl | trivial⟩
        case measure => simp [intOf]; omega
      | false =>
        rw [ho] at C HST
        clear ho
        go_wp2_with (go_at_call 82; refine (unhide C _ (unhide HG)).mono ?_; rintro e1 w1 ⟨rfl, rfl⟩)
        go_ret
        exact ⟨by rw [unhide HR, unhide HST]; rfl, rfl⟩
    · have he : allN okN s.data.toList = true := by rw [unhide HR]; exact allN_end _ (by rw [data_len]; omega)
      have HE := hide he
      clear he
      go_wp2
      go_ret
      exact ⟨by rw [unhide HE]; rfl, rfl⟩
end Go.Proofs.YtfdhmhdemfbfeaaGreatDoor
