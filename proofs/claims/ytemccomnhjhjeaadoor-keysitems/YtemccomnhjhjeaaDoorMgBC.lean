/-
  Several texts in one: what the functions of the program and of the document's answer do.
-/
import Derived.Test.YtemccomnhjhjeaaDoorYCw
import Derived.Test.YtemccomnhjhjeaaDoorMgAF
import Derived.Test.YtemccomnhjhjeaaDoorMgAE

/-
  What keys.copied does: a node in new memory.
-/
namespace Go.Proofs.YtemccomnhjhjeaaDoor
open Go.RowKit
set_option linter.unusedVariables false
set_option linter.unusedSimpArgs false

/-- A node's cells, as one value. -/
def ndV (k sp : Int) (n : ByteArray) (qa : Option Addr) (la ca : Nat) (tx : ByteArray) (qk : Option Addr) (lk ck : Nat) : Value := .agg #[.int .i64 k, .int .i64 sp, .string n, .slice qa la ca, .string tx, .slice qk lk ck]
/-- What lies behind such a value: a node. -/
def NdV (k sp : Int) (n : ByteArray) (ats : List (ByteArray × ByteArray)) (tx : ByteArray) (kids : Forest) (v : Value) (w : World) : Prop :=
  ∃ qa ca qk ck, v = ndV k sp n qa ats.length ca tx qk kids.len ck ∧ Sl qa ats w ∧ Fo qk kids w ∧ kids.len ≤ ck
theorem NdV.below {k sp : Int} {n : ByteArray} {ats : List (ByteArray × ByteArray)} {tx : ByteArray} {kids : Forest} {v : Value} {w w' : World} (h : NdV k sp n ats tx kids v w) (hb : Below w.heap.size w w') : NdV k sp n ats tx kids v w' := by
  obtain ⟨qa, ca, qk, ck, h1, h2, h3, h4⟩ := h
  exact ⟨qa, ca, qk, ck, h1, h2.below hb, h3.below hb, h4⟩
theorem NdV.le {k sp : Int} {n : ByteArray} {ats : List (ByteArray × ByteArray)} {tx : ByteArray} {kids : Forest} {v : Value} {w w' : World} (hc : CellLe w w') (h : NdV k sp n ats tx kids v w) : NdV k sp n ats tx kids v w' := by
  obtain ⟨qa, ca, qk, ck, h1, h2, h3, h4⟩ := h
  exact ⟨qa, ca, qk, ck, h1, h2.le hc, h3.le hc, h4⟩
theorem six_lies {w : World} {k sp : Int} {n : ByteArray} {ats : List (ByteArray × ByteArray)} {tx : ByteArray} {kids : Forest} {qa qk : Option Addr} {ca ck : Nat} {t : TypeId} {b : Nat} (hb : Blk w b #[.int .i64 k, .int .i64 sp, .string n, .slice qa ats.length ca, .string tx, .slice qk kids.len ck] t) (h2 : Sl qa ats w) (h3 : Fo qk kids w) (h4 : kids.len ≤ ck) : Lies (.cons k sp n ats tx kids .nil) b 0 w :=
  ⟨⟨hb.cell 0, hb.cell 1, hb.cell 2, ⟨qa, ca, hb.cell 3, h2⟩, hb.cell 4, ⟨qk, ck, hb.cell 5, h4, h3⟩⟩, trivial⟩
theorem cpI_fo {w0 w : World} {N : Nat → Bool} {f : Forest} {q : Option Addr} (h : CpI w0 N [] f q w) : Fo q f (mask (hiP w0.heap.size) w) :=
  h.top.imp id fun ⟨g, e, hm⟩ => ⟨g, 0, e, hm.done (fun _ _ ⟨e, he, _⟩ => by cases he) (fun i hi => (h.nb i hi).1) _ _ _⟩
set_option maxHeartbeats 4000000 in
set_option maxRecDepth 100000 in
theorem copied_any (k sp : Int) (n : ByteArray) (ats : List (ByteArray × ByteArray)) (tx : ByteArray) (kids : Forest) (v : Value) (w : World) (hv : NdV k sp n ats tx kids v w) (hc : kids.count ≤ 900000) (hs : SmF (.cons k sp n ats tx kids .nil)) :
    Calls Tryd.prog 31 #[v] w fun e w' => ∃ v', e = .returned v' ∧ NdV k sp n ats tx kids v' (mask (hiP w.heap.size) w') ∧ Below w.heap.size w w' := by
  obtain ⟨qa, ca, qk, ck, rfl, h2, h3, h4⟩ := hv
  unfold ndV
  obtain ⟨W1, hW1⟩ : ∃ W1, (w.alloc (Obj.cells #[.int .i64 k, .int .i64 sp, .string n, .slice qa ats.length ca, .string tx, .slice qk kids.len ck] 34)).alloc (Obj.cells #[.int .i64 0, .int .i64 0, .string ⟨#[]⟩, .slice none 0 0, .string ⟨#[]⟩, .slice none 0 0] 34) = W1 := ⟨_, rfl⟩
  have hb1 : Below w.heap.size w W1 := by rw [← hW1]; exact ((Below.refl w.heap.size w).alloc (Nat.le_refl _) _).alloc (by simp) _
  have hs1 : W1.heap.size = w.heap.size + 2 := by rw [← hW1]; simp
  have k0 : Blk W1 w.heap.size #[.int .i64 k, .int .i64 sp, .string n, .slice qa ats.length ca, .string tx, .slice qk kids.len ck] 34 := by rw [← hW1]; exact (Blk.new w _ _).alloc _
  have k1 : Blk W1 (w.heap.size + 1) #[.int .i64 0, .int .i64 0, .string ⟨#[]⟩, .slice none 0 0, .string ⟨#[]⟩, .slice none 0 0] 34 := by
    rw [← hW1]
    have := Blk.new (w.alloc (Obj.cells #[.int .i64 k, .int .i64 sp, .string n, .slice qa ats.length ca, .string tx, .slice qk kids.len ck] 34)) #[.int .i64 0, .int .i64 0, .string ⟨#[]⟩, .slice none 0 0, .string ⟨#[]⟩, .slice none 0 0] 34
    simpa using this
  obtain ⟨W2, hW2⟩ : ∃ W2, W1.alloc (Obj.cells #[.int .i64 k, .int .i64 sp, .string n, .slice qa ats.length ca, .string tx, .slice qk kids.len ck] 34) = W2 := ⟨_, rfl⟩
  have hb2 : Below W1.heap.size W1 W2 := by rw [← hW2]; exact (Below.refl _ _).alloc (Nat.le_refl _) _
  have hb02 : Below w.heap.size w W2 := tr2 hb1 hb2
  have k2 : Blk W2 (w.heap.size + 2) #[.int .i64 k, .int .i64 sp, .string n, .slice qa ats.length ca, .string tx, .slice qk kids.len ck] 34 := by rw [← hW2, ← hs1]; exact Blk.new _ _ _
  have hl := six_lies k2 (h2.below hb02) (h3.below hb02) h4
  have CC := hide (copy_any (.cons k sp n ats tx kids .nil) (some ⟨w.heap.size + 2, 0, none⟩) 1 W2 (Or.inr ⟨_, 0, rfl, hl⟩) (by simp [Forest.count]; omega) hs)
  rw [show (Forest.cons k sp n ats tx kids .nil).len = 1 from rfl] at CC
  have HB := hide hb02
  have K1 := hide (k1.later hb2)
  have hs2 : W2.heap.size = w.heap.size + 3 := by rw [← hW2]; simp [hs1]
  have K0 := hide k0
  have hz0 : W1.heap.size = w.heap.size + 2 := hs1
  have c0 : W1.cell? ⟨w.heap.size, 0, none⟩ = some (.int .i64 k) := k0.cell 0
  have c1 : W1.cell? ⟨w.heap.size, 1, none⟩ = some (.int .i64 sp) := k0.cell 1
  have c2 : W1.cell? ⟨w.heap.size, 2, none⟩ = some (.string n) := k0.cell 2
  have c3 : W1.cell? ⟨w.heap.size, 3, none⟩ = some (.slice qa ats.length ca) := k0.cell 3
  have c4 : W1.cell? ⟨w.heap.size, 4, none⟩ = some (.string tx) := k0.cell 4
  have c5 : W1.cell? ⟨w.heap.size, 5, none⟩ = some (.slice qk kids.len ck) := k0.cell 5
  clear hl k0 k1 k2 hb1 hb2 hb02 h2 h3 h4 hs hc
  obtain ⟨al, hal⟩ : ∃ al, ats.length = al := ⟨_, rfl⟩
  obtain ⟨kl, hkl⟩ : ∃ kl, kids.len = kl := ⟨_, rfl⟩
  rw [hal] at c3 hW1 hW2
  rw [hkl] at c5 hW1 hW2
  rw [hal, hkl]
  have HAL := hide hal
  have HKL := hide hkl
  clear hal hkl
  go_enter Tryd.func31, Tryd.ntmps31
  go_wp2_with fail
  refine (unhide CC).mono ?_
  rintro e w2 ⟨q', c', N, rfl, hc1, hI⟩
  obtain ⟨g, og, hq, hl⟩ : ∃ g og, q' = some ⟨g, og, none⟩ ∧ Lies (.cons k sp n ats tx kids .nil) g og (mask (hiP W2.heap.size) w2) := by
    rcases cpI_fo hI with h | h
    · cases h
    · exact h
  subst hq
  obtain ⟨⟨m0, m1, m2, ⟨qa', ca', m3, msl⟩, m4, ⟨qk', ck', m5, mck, mfo⟩⟩, -⟩ := hl
  have x0 := (mask_cell.1 m0).2
  have x1 := (mask_cell.1 m1).2
  have x2 := (mask_cell.1 m2).2
  have x3 := (mask_cell.1 m3).2
  have x4 := (mask_cell.1 m4).2
  have x5 := (mask_cell.1 m5).2
  rw [unhide HAL] at x3
  rw [unhide HKL] at x5
  have hb2 := hI.bel
  have HBW := hide (tr2 (unhide HB) hb2)
  have k2 := (unhide K1).later hb2
  have y0 : w2.cell? ⟨w.heap.size + 1, 0, none⟩ = some (.int .i64 0) := k2.cell 0
  have y1 : w2.cell? ⟨w.heap.size + 1, 1, none⟩ = some (.int .i64 0) := k2.cell 1
  have y2 : w2.cell? ⟨w.heap.size + 1, 2, none⟩ = some (.string ⟨#[]⟩) := k2.cell 2
  have y3 : w2.cell? ⟨w.heap.size + 1, 3, none⟩ = some (.slice none 0 0) := k2.cell 3
  have y4 : w2.cell? ⟨w.heap.size + 1, 4, none⟩ = some (.string ⟨#[]⟩) := k2.cell 4
  have y5 : w2.cell? ⟨w.heap.size + 1, 5, none⟩ = some (.slice none 0 0) := k2.cell 5
  have yf0 : w2.frozen? ⟨w.heap.size + 1, 0, none⟩ = false := k2.frozen 0
  have yf1 : w2.frozen? ⟨w.heap.size + 1, 1, none⟩ = false := k2.frozen 1
  have yf2 : w2.frozen? ⟨w.heap.size + 1, 2, none⟩ = false := k2.frozen 2
  have yf3 : w2.frozen? ⟨w.heap.size + 1, 3, none⟩ = false := k2.frozen 3
  have yf4 : w2.frozen? ⟨w.heap.size + 1, 4, none⟩ = false := k2.frozen 4
  have yf5 : w2.frozen? ⟨w.heap.size + 1, 5, none⟩ = false := k2.frozen 5
  have K2 := hide k2
  have hw2 : w.heap.size ≤ W2.heap.size := by omega
  have hp : hiP W2.heap.size (w.heap.size + 1) = true := hiP_at (by omega)
  have HM := hide (And.intro msl (And.intro mfo (And.intro mck hp)))
  clear k2 hb2 msl mfo mck m0 m1 m2 m3 m4 m5 hI hp CC c0 c1 c2 c3 c4 c5 hW1 hW2
  go_wp2
  have kk := (((((((unhide K2).set 0 (by simp) (.int .i64 k)).set 1 (by simp) (.int .i64 sp)).set 2 (by simp) (.string n)).set 3 (by simp) (.slice qa' al ca')).set 4 (by simp) (.string tx)).set 5 (by simp) (.slice qk' kl ck'))
  have d0 := kk.cell 0
  have d1 := kk.cell 1
  have d2 := kk.cell 2
  have d3 := kk.cell 3
  have d4 := kk.cell 4
  have d5 := kk.cell 5
  have hle : CellLe (mask (hiP W2.heap.size) w2) (mask (hiP w.heap.size) _) := ((((((mask_set (o := 0) (v := .int .i64 k) (unhide HM).2.2.2).trans (mask_set (o := 1) (v := .int .i64 sp) (unhide HM).2.2.2)).trans (mask_set (o := 2) (v := .string n) (unhide HM).2.2.2)).trans (mask_set (o := 3) (v := .slice qa' al ca') (unhide HM).2.2.2)).trans (mask_set (o := 4) (v := .string tx) (unhide HM).2.2.2)).trans (mask_set (o := 5) (v := .slice qk' kl ck') (unhide HM).2.2.2)).trans (mask_less _ (hiP_less hw2))
  exact bodyPost_ret (v := .agg #[.int .i64 k, .int .i64 sp, .string n, .slice qa' al ca', .string tx, .slice qk' kl ck']) (by simp [results, Tryd.results31, go_sem, d0, d1, d2, d3, d4, d5]) rfl ⟨_, rfl, ⟨qa', ca', qk', ck', by unfold ndV; rw [unhide HAL, unhide HKL], Sl.le hle (unhide HM).1, Fo.le hle (unhide HM).2.1, (unhide HM).2.2.1⟩, ((((((unhide HBW).setCell (p := ⟨w.heap.size + 1, 0, none⟩) (by simp) _).setCell (p := ⟨w.heap.size + 1, 1, none⟩) (by simp) _).setCell (p := ⟨w.heap.size + 1, 2, none⟩) (by simp) _).setCell (p := ⟨w.heap.size + 1, 3, none⟩) (by simp) _).setCell (p := ⟨w.heap.size + 1, 4, none⟩) (by simp) _).setCell (p := ⟨w.heap.size + 1, 5, none⟩) (by simp) _⟩
end Go.Proofs.YtemccomnhjhjeaaDoor

/-
  The node at a way: plain facts.
-/
namespace Go.Proofs.YtemccomnhjhjeaaDoor
open Go.RowKit
set_option linter.unusedVariables false
set_option linter.unusedSimpArgs false

/-- The error of a way, and the list from the node on to which it leads. -/
def atE : Forest → List Int → Int
  | _, [] => 1
  | f, p :: r => if p < 0 ∨ (f.len : Int) ≤ p then 6 else if r = [] then 0 else atE (kidsAt f p.toNat) r
def atN : Forest → List Int → Forest
  | _, [] => .nil
  | f, p :: r => if r = [] then f.drop p.toNat else atN (kidsAt f p.toNat) r
theorem at_led : ∀ (ys : List Int) (f : Forest) (z : Int), (∀ g, ledF f ys = some g → atN f (ys ++ [z]) = g.drop z.toNat ∧ atE f (ys ++ [z]) = if z < 0 ∨ (g.len : Int) ≤ z then 6 else 0) ∧ (ledF f ys = none → atE f (ys ++ [z]) = 6)
  | [], f, z => ⟨fun g h => by
      simp only [ledF, Option.some.injEq] at h; subst h
      refine ⟨?_, ?_⟩
      · simp [atN]
      · show atE f [z] = _
        unfold atE; rw [if_pos rfl], fun h => by simp [ledF] at h⟩
  | p :: r, f, z => by
    have ih := at_led r (kidsAt f p.toNat) z
    have hne : r ++ [z] ≠ [] := by simp
    refine ⟨fun g h => ?_, fun h => ?_⟩
    · simp only [ledF] at h
      by_cases hp : p < 0 ∨ (f.len : Int) ≤ p
      · rw [if_pos hp] at h; cases h
      · rw [if_neg hp] at h
        obtain ⟨i1, i2⟩ := ih.1 g h
        refine ⟨?_, ?_⟩
        · show atN f (p :: (r ++ [z])) = _
          unfold atN; rw [if_neg hne]; exact i1
        · show atE f (p :: (r ++ [z])) = _
          unfold atE; rw [if_neg hp, if_neg hne]; exact i2
    · simp only [ledF] at h
      show atE f (p :: (r ++ [z])) = _
      by_cases hp : p < 0 ∨ (f.len : Int) ≤ p
      · unfold atE; rw [if_pos hp]
      · rw [if_neg hp] at h
        unfold atE; rw [if_neg hp, if_neg hne]; exact ih.2 h
theorem SmF.kidsAt {f : Forest} (h : SmF f) (p : Nat) : SmF (kidsAt f p) := by
  have hd := SmF.drop p f h
  unfold Proofs.YtemccomnhjhjeaaDoor.kidsAt
  cases e : f.drop p with
  | nil => trivial
  | cons k sp n ats tx kids rest => rw [e] at hd; exact hd.2.1
theorem kidsAt_count (f : Forest) (p : Nat) : (kidsAt f p).count ≤ f.count := by
  have := Forest.count_drop p f
  unfold kidsAt
  cases e : f.drop p with
  | nil => simp [Forest.count]
  | cons k sp n ats tx kids rest => rw [e] at this; simp only [Forest.count] at this; show kids.count ≤ _; omega
theorem led_small : ∀ (ys : List Int) (f g : Forest), ledF f ys = some g → SmF f → SmF g ∧ g.count ≤ f.count
  | [], f, g, h, hs => by simp only [ledF, Option.some.injEq] at h; subst h; exact ⟨hs, Nat.le_refl _⟩
  | p :: r, f, g, h, hs => by
    simp only [ledF] at h
    by_cases hp : p < 0 ∨ (f.len : Int) ≤ p
    · rw [if_pos hp] at h; cases h
    · rw [if_neg hp] at h
      have := led_small r _ g h (hs.kidsAt p.toNat)
      exact ⟨this.1, Nat.le_trans this.2 (kidsAt_count f _)⟩
def zeroNd : Value := .agg #[.int .i64 0, .int .i64 0, .string ⟨#[]⟩, .slice none 0 0, .string ⟨#[]⟩, .slice none 0 0]
def NodS (f : Forest) (zs : List Int) (v : Value) (w : World) : Prop :=
  (atE f zs ≠ 0 ∧ v = zeroNd) ∨ (atE f zs = 0 ∧ ∃ k sp n ats tx kids rest, atN f zs = .cons k sp n ats tx kids rest ∧ NdV k sp n ats tx kids v w)
theorem NodS.below {f : Forest} {zs : List Int} {v : Value} {w w' : World} (h : NodS f zs v w) (hb : Below w.heap.size w w') : NodS f zs v w' :=
  h.imp id fun ⟨h1, k, sp, n, ats, tx, kids, rest, h2, h3⟩ => ⟨h1, k, sp, n, ats, tx, kids, rest, h2, h3.below hb⟩
theorem split_last {zs : List Int} (h : zs ≠ []) : ∃ ys z, zs = ys ++ [z] := ⟨zs.dropLast, zs.getLast h, (List.dropLast_concat_getLast h).symm⟩
end Go.Proofs.YtemccomnhjhjeaaDoor

/-
  What the plain comparison of numbers does.
-/
namespace Go.Proofs.YtemccomnhjhjeaaDoor
open Go.RowKit Go.Maps
set_option linter.unusedVariables false
set_option linter.unusedSimpArgs false

theorem IntsV.at {q : Option Addr} {n : Nat} {zs : List Int} {w w' : World} (h : IntsV q n zs w) (hb : Below w.heap.size w w') (j : Nat) (hj : j < n) : ∃ g o, q = some ⟨g, o, none⟩ ∧ w'.cell? ⟨g, o + j, none⟩ = some (.int .i64 (zs.getD j 0)) := by
  obtain ⟨g, o, hq, hc⟩ := (h.below hb).2 (by omega)
  exact ⟨g, o, hq, hc j hj⟩
theorem ints_ext {za zb : List Int} (hl : za.length = zb.length) (h : ∀ j, j < za.length → za.getD j 0 = zb.getD j 0) : za = zb := by
  apply List.ext_getElem hl
  intro j h1 h2
  have := h j h1
  simpa [List.getD, h1, h2] using this
set_option maxHeartbeats 4000000 in
set_option maxRecDepth 100000 in
theorem ints_any (qa qb : Option Addr) (n m ca cb : Nat) (za zb : List Int) (w : World) (ha : IntsV qa n za w) (hb : IntsV qb m zb w) (hn : n ≤ 1000000) (hm : m ≤ 1000000) :
    Calls Tryd.prog 18 #[.slice qa n ca, .slice qb m cb] w fun e w' => e = .returned (.bool (decide (za = zb))) ∧ Below w.heap.size w w' := by
  obtain ⟨E, hE⟩ : ∃ E, decide (za = zb) = E := ⟨_, rfl⟩
  rw [hE]
  have HE := hide hE
  have HA := hide ha
  have HB := hide hb
  have hla := ha.1
  have hlb := hb.1
  have HLA := hide hla
  have HLB := hide hlb
  clear ha hb hE hla hlb
  go_enter Tryd.func18, Tryd.ntmps18
  go_wp2
  go_loopw [8] (fun z wr => ∃ j : Nat, j ≤ n ∧ z = .int .i64 (j : Int) ∧ (∀ k, k < j → k < m ∧ za.getD k 0 = zb.getD k 0) ∧ Below w.heap.size w wr) (fun z _ => n - (intOf z).toNat)
  case atStart => exact ⟨0, Nat.zero_le _, rfl, fun k hk => by omega, Below.refl _ _⟩
  case round =>
    obtain ⟨j, hj, rfl, hall, hbw⟩ := hrel
    have HALL := hide hall
    by_cases hp : j < n
    · have hpi : (j : Int) < (n : Int) := by omega
      obtain ⟨ga, oa, hqa, cA⟩ := (unhide HA).at hbw j hp
      subst hqa
      have HBW := hide hbw
      by_cases hq : m ≤ j
      · have HF : Hid (E = false) := hide (by
          rw [← unhide HE]
          apply decide_eq_false
          intro e
          have := unhide HLA; have := unhide HLB
          rw [e] at *
          omega)
        have hq' : decide (m ≤ j) = true := decide_eq_true hq
        have hqi : (m : Int) ≤ (j : Int) := by omega
        clear hall hbw
        go_wp2
        go_region
        all_goals (
          go_wp2
          go_ret
          exact ⟨by rw [unhide HF]; rfl, (unhide HBW).drew⟩)
      · have hq' : decide (m ≤ j) = false := decide_eq_false hq
        have hqi : (j : Int) < (m : Int) := by omega
        obtain ⟨gb, ob, hqb, cB⟩ := (unhide HB).at hbw j (by omega)
        subst hqb
        by_cases hz : za.getD j 0 = zb.getD j 0
        · have HS : Hid (∀ k, k < j + 1 → k < m ∧ za.getD k 0 = zb.getD k 0) := hide (fun k hk => by
            by_cases e : k = j
            · subst e; exact ⟨by omega, hz⟩
            · exact unhide HALL k (by omega))
          rw [hz] at cA
          generalize zb.getD j 0 = x at *
          clear hall hbw hz hq
          go_wp2
          go_region
          all_goals (
            go_wp2
            go_roundw
            case rel => exact ⟨j + 1, by omega, by go_num, unhide HS, (unhide HBW).drew⟩
            case measure => simp [intOf]; omega)
        · have HF : Hid (E = false) := hide (by
            rw [← unhide HE]
            apply decide_eq_false
            intro e
            rw [e] at hz
            exact hz rfl)
          have hz' : (za.getD j 0 != zb.getD j 0) = true := bne_iff_ne.2 hz
          have hz2 : (za.getD j 0 == zb.getD j 0) = false := beq_eq_false_iff_ne.2 hz
          generalize zb.getD j 0 = x at *
          generalize za.getD j 0 = y at *
          clear hall hbw hq
          go_wp2
          go_region
          all_goals (
            go_wp2
            go_ret
            exact ⟨by rw [unhide HF]; rfl, (unhide HBW).drew⟩)
    · have hpi : ¬ (j : Int) < (n : Int) := by omega
      have hjn : j = n := by omega
      have HR : Hid (((n : Int) == (m : Int)) = E) := hide (by
        rw [← unhide HE]
        have h1 := unhide HLA; have h2 := unhide HLB
        by_cases e : za = zb
        · rw [decide_eq_true e]
          rw [e] at h1
          exact beq_iff_eq.2 (by omega)
        · rw [decide_eq_false e]
          apply beq_eq_false_iff_ne.2
          intro e2
          exact e (ints_ext (by omega) (fun k hk => (unhide HALL k (by omega)).2)))
      have HBW := hide hbw
      clear hall hbw hjn
      go_wp2
      go_ret
      refine ⟨?_, unhide HBW⟩
      rw [← unhide HR]
      by_cases e : n = m
      · subst e; simp
      · have : ((n : Int) == (m : Int)) = false := beq_eq_false_iff_ne.2 (by omega)
        simp [e]
end Go.Proofs.YtemccomnhjhjeaaDoor
