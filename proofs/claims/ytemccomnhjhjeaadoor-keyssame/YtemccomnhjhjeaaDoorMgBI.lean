/-
  Several texts in one: what the functions of the program and of the document's answer do.
-/
import Derived.Test.YtemccomnhjhjeaaDoorMgBH
import Derived.Test.YtemccomnhjhjeaaDoorMgBD

/-
  What keys.lead does.
-/
namespace Go.Proofs.YtemccomnhjhjeaaDoor
open Go.RowKit Go.Maps
set_option linter.unusedVariables false
set_option linter.unusedSimpArgs false

def kidsAt (f : Forest) (p : Nat) : Forest := match f.drop p with
  | .cons _ _ _ _ _ kids _ => kids
  | .nil => .nil
theorem kidsAt_eq {f : Forest} {p : Nat} {k sp : Int} {n : ByteArray} {ats : List (ByteArray × ByteArray)} {tx : ByteArray} {kids rest : Forest} (h : f.drop p = .cons k sp n ats tx kids rest) : kidsAt f p = kids := by unfold kidsAt; rw [h]
/-- The list into which places lead. -/
def ledF : Forest → List Int → Option Forest
  | f, [] => some f
  | f, p :: r => if p < 0 ∨ (f.len : Int) ≤ p then none else ledF (kidsAt f p.toNat) r
/-- .. and where its slice lies. -/
inductive Led (w : World) : Forest → Nat → Nat → List Int → Forest → Nat → Nat → Prop where
  | here (f : Forest) (b o : Nat) : Led w f b o [] f b o
  | down (f : Forest) (b o g og c p : Nat) (r : List Int) (f' : Forest) (b' o' : Nat) (h1 : w.cell? ⟨b, o, none⟩ = some (.slice (some ⟨g, og, none⟩) f.len c)) (h2 : Lies f g og w) (h3 : p < f.len) (h4 : Led w (kidsAt f p) g (og + p * 6 + 5) r f' b' o') : Led w f b o ((p : Int) :: r) f' b' o'
/-- A slice of nodes in a cell. -/
def FoC (w : World) (b o : Nat) (f : Forest) : Prop := ∃ q c, w.cell? ⟨b, o, none⟩ = some (.slice q f.len c) ∧ f.len ≤ c ∧ Fo q f w
def LeadSaid (w : World) (f : Forest) (b o : Nat) (ys : List Int) (z : Int) (more : Nat) (e : Ending) (w' : World) : Prop :=
  Below w.heap.size w w' ∧ (((ledF f ys = none ∨ ∃ g, ledF f ys = some g ∧ (z < 0 ∨ (g.len : Int) + (more : Int) ≤ z)) ∧ e = .returned (.tuple #[.pointer none, .int .i64 6])) ∨
    ∃ g b' o', ledF f ys = some g ∧ 0 ≤ z ∧ z < (g.len : Int) + (more : Int) ∧ Led w f b o ys g b' o' ∧ FoC w b' o' g ∧ e = .returned (.tuple #[.pointer (some ⟨b', o', none⟩), .int .i64 0]))
def LeAt (w : World) (f : Forest) (b o : Nat) (ys : List Int) (j : Nat) (bj oj : Nat) (fj : Forest) : Prop :=
  ledF f ys = ledF fj (ys.drop j) ∧ FoC w bj oj fj ∧ fj.len ≤ 1000000 ∧ fj.count ≤ 1000000 ∧ ∀ f' b' o', Led w fj bj oj (ys.drop j) f' b' o' → Led w f b o ys f' b' o'
theorem LeAt.step {w : World} {f : Forest} {b o : Nat} {ys : List Int} {j bj oj : Nat} {fj : Forest} {p g og c : Nat} (h : LeAt w f b o ys j bj oj fj) (hj : j < ys.length) (hz : ys.getD j 0 = (p : Int)) (hp : p < fj.len) (hc : w.cell? ⟨bj, oj, none⟩ = some (.slice (some ⟨g, og, none⟩) fj.len c)) (hl : Lies fj g og w) : LeAt w f b o ys (j + 1) g (og + p * 6 + 5) (kidsAt fj p) := by
  obtain ⟨h1, h2, h3, hcn, h4⟩ := h
  have hd : ys.drop j = (p : Int) :: ys.drop (j + 1) := by
    rw [List.drop_eq_getElem_cons hj]
    congr 1
    simpa [List.getD, hj] using hz
  obtain ⟨k, sp, n, ats, tx, kids, hdr⟩ := fj.drop_cons p hp
  have hk := kidsAt_eq hdr
  have hll := hl.drop p
  rw [hdr] at hll
  obtain ⟨⟨_, _, _, _, _, ⟨qk, ck, c5, hck, hfo⟩⟩, _⟩ := hll
  have hkc : kids.count ≤ 1000000 := by
    have := Forest.count_drop p fj
    rw [hdr] at this
    simp only [Forest.count] at this
    omega
  refine ⟨?_, ⟨qk, ck, by rw [hk]; exact c5, by rw [hk]; exact hck, by rw [hk]; exact hfo⟩, by rw [hk]; have := kids.len_count; omega, by rw [hk]; exact hkc, fun f' b' o' hL => h4 f' b' o' ?_⟩
  · rw [h1, hd, ledF, if_neg (by omega)]
    rfl
  · rw [hd]
    exact Led.down fj bj oj g og c p _ f' b' o' hc hl hp hL
theorem LeAt.no {w : World} {f : Forest} {b o : Nat} {ys : List Int} {j bj oj : Nat} {fj : Forest} {x : Int} (h : LeAt w f b o ys j bj oj fj) (hj : j < ys.length) (hz : ys.getD j 0 = x) (hx : x < 0 ∨ (fj.len : Int) ≤ x) : ledF f ys = none := by
  have hd : ys.drop j = x :: ys.drop (j + 1) := by
    rw [List.drop_eq_getElem_cons hj]
    congr 1
    simpa [List.getD, hj] using hz
  rw [h.1, hd, ledF, if_pos hx]
set_option maxHeartbeats 4000000 in
set_option maxRecDepth 100000 in
theorem lead_none (b o : Nat) (qw : Option Addr) (cw : Nat) (more : Int) (w : World) :
    Calls Tryd.prog 30 #[.pointer (some ⟨b, o, none⟩), .slice qw 0 cw, .int .i64 more] w fun e w' => e = .returned (.tuple #[.pointer none, .int .i64 1]) ∧ w' = w := by
  go_enter Tryd.func30, Tryd.ntmps30
  go_wp2
  go_ret2
  exact ⟨rfl, rfl⟩
set_option maxHeartbeats 4000000 in
set_option maxRecDepth 100000 in
theorem lead_any (f : Forest) (b o : Nat) (qw : Option Addr) (n cw : Nat) (ys : List Int) (z : Int) (more : Nat) (w : World) (hF : FoC w b o f) (hfc : f.count ≤ 1000000) (hw : IntsV qw n (ys ++ [z]) w) (hcw : n ≤ cw) (hn : n ≤ 1000000) (hm : more ≤ 1) :
    Calls Tryd.prog 30 #[.pointer (some ⟨b, o, none⟩), .slice qw n cw, .int .i64 (more : Int)] w fun e w' => LeadSaid w f b o ys z more e w' := by
  obtain ⟨hnl, hcells⟩ := hw
  obtain ⟨m, hm1⟩ : ∃ m, ys.length = m := ⟨_, rfl⟩
  have hnm : n = m + 1 := by rw [hnl, List.length_append, hm1]; rfl
  subst hnm
  obtain ⟨gw, ow, rfl, hcz⟩ := hcells (by omega)
  have hczl : w.cell? ⟨gw, ow + m, none⟩ = some (.int .i64 z) := by
    have := hcz m (by omega)
    rw [this]; simp [List.getD, ← hm1]
  have hczj : Hid (∀ j, j < m → w.cell? ⟨gw, ow + j, none⟩ = some (.int .i64 (ys.getD j 0))) := hide (fun j hj => by
    have := hcz j (by omega)
    rw [this]; simp [List.getD, List.getElem?_append_left (show j < ys.length by omega)])
  have HAT : Hid (LeAt w f b o ys 0 b o f) := hide ⟨by rw [List.drop_zero], hF, by have := f.len_count; omega, hfc, fun f' b' o' h => by rw [List.drop_zero] at h; exact h⟩
  have HM := hide hm1
  have hmi : (m : Int) + 1 ≤ 1000000 := by omega
  have hcwi : (m : Int) + 1 ≤ (cw : Int) := by omega
  have hne1 : ((m : Int) + 1 == 0) = false := beq_eq_false_iff_ne.2 (by omega)
  have hne2 : ¬ ((m : Int) + 1 = 0) := by omega
  have hm0 : (0 : Int) ≤ (m : Int) := by omega
  clear hcells hcz hF hm1 hnl hcw hn
  go_enter Tryd.func30, Tryd.ntmps30
  go_wp2
  go_loopw [0, 21] (fun a i wr => ∃ (j bj oj : Nat) (fj : Forest), j ≤ m ∧ i = .int .i64 (j : Int) ∧ a = .pointer (some ⟨bj, oj, none⟩) ∧ LeAt w f b o ys j bj oj fj ∧ wr = w) (fun _ i _ => m - (intOf i).toNat)
  case atStart => exact ⟨0, b, o, f, Nat.zero_le _, rfl, rfl, unhide HAT, rfl⟩
  case round =>
    clear HAT
    obtain ⟨j, bj, oj, fj, hj, rfl, rfl, hat, rfl⟩ := hrel
    obtain ⟨qj, cj, d0, hcj, hfo⟩ := hat.2.1
    have hfl := hat.2.2.1
    have HAT := hide hat
    by_cases hjm : j < m
    · have hji : (j : Int) < (m : Int) := by omega
      have cz := unhide hczj j hjm
      have HZ : Hid (ys.getD j 0 = ys.getD j 0) := hide rfl
      obtain ⟨x, hx⟩ : ∃ x, ys.getD j 0 = x := ⟨_, rfl⟩
      rw [hx] at cz
      have HXE := hide hx
      clear hat hx HZ
      have hjl : j < ys.length := by rw [unhide HM]; exact hjm
      by_cases hx0 : x < 0
      · have hx0' : decide (x < 0) = true := decide_eq_true hx0
        have HNO := hide ((unhide HAT).no hjl (unhide HXE) (Or.inl hx0))
        clear HAT hfo hcj hfl hjl
        go_wp2
        go_ret2
        exact ⟨Below.refl _ _, Or.inl ⟨Or.inl (unhide HNO), rfl⟩⟩
      · by_cases hx1 : (fj.len : Int) ≤ x
        · have hx0' : decide (x < 0) = false := decide_eq_false hx0
          have HNO := hide ((unhide HAT).no hjl (unhide HXE) (Or.inr hx1))
          clear HAT hfo hcj hjl
          go_wp2
          go_ret2
          exact ⟨Below.refl _ _, Or.inl ⟨Or.inl (unhide HNO), rfl⟩⟩
        · obtain ⟨xn, rfl⟩ : ∃ xn : Nat, x = (xn : Int) := ⟨x.toNat, by omega⟩
          have hxl : xn < fj.len := by omega
          obtain ⟨g, og, hq, hl⟩ : ∃ g og, qj = some ⟨g, og, none⟩ ∧ Lies fj g og wr := by
            rcases hfo with h | h
            · rw [h] at hxl; simp [Forest.len] at hxl
            · exact h
          subst hq
          have HST := hide ((unhide HAT).step hjl (unhide HXE) hxl d0 hl)
          have hx0' : decide ((xn : Int) < 0) = false := decide_eq_false hx0
          have hx1' : decide (fj.len ≤ xn) = false := decide_eq_false (by omega)
          have hx2 : (xn : Int) < (fj.len : Int) := by omega
          have hx3 : (0 : Int) ≤ (xn : Int) := by omega
          generalize fj.len = fl at *
          clear HAT hfo hcj hl hjl hx0 hx1 hxl
          go_wp2
          go_roundw
          case rel => exact ⟨j + 1, g, og + xn * 6 + 5, _, by omega, by go_num, rfl, unhide HST, by first | rfl | trivial⟩
          case measure => simp [intOf]; omega
    · obtain rfl : j = m := by omega
      have HL : Hid (ledF f ys = some fj) := hide (by rw [hat.1, ← unhide HM, List.drop_length]; rfl)
      have HLED : Hid (Led wr f b o ys fj bj oj) := hide (hat.2.2.2.2 fj bj oj (by rw [← unhide HM, List.drop_length]; exact Led.here _ _ _))
      have HFC := hide hat.2.1
      have hmm : ¬ (j : Int) < (j : Int) := by omega
      clear hat HAT hfo hcj hj
      by_cases hx0 : z < 0
      · have hx0' : decide (z < 0) = true := decide_eq_true hx0
        go_wp2
        go_region
        all_goals (
          go_wp2
          go_ret2
          exact ⟨by first | exact Below.refl _ _ | exact (Below.refl _ _).drew | exact below_draws _ _, Or.inl ⟨Or.inr ⟨_, unhide HL, Or.inl hx0⟩, rfl⟩⟩)
      · have hx0' : decide (z < 0) = false := decide_eq_false hx0
        by_cases hx1 : (fj.len : Int) + (more : Int) ≤ z
        · have hx1' : decide ((fj.len : Int) + (more : Int) ≤ z) = true := decide_eq_true hx1
          go_wp2
          go_region
          all_goals (
            go_wp2
            go_ret2
            exact ⟨by first | exact Below.refl _ _ | exact (Below.refl _ _).drew | exact below_draws _ _, Or.inl ⟨Or.inr ⟨_, unhide HL, Or.inr hx1⟩, rfl⟩⟩)
        · have hx1' : decide ((fj.len : Int) + (more : Int) ≤ z) = false := decide_eq_false hx1
          go_wp2
          go_region
          all_goals (
            go_wp2
            go_ret2
            exact ⟨by first | exact Below.refl _ _ | exact (Below.refl _ _).drew | exact below_draws _ _, Or.inr ⟨fj, bj, oj, unhide HL, by omega, by omega, unhide HLED, unhide HFC, rfl⟩⟩)
end Go.Proofs.YtemccomnhjhjeaaDoor

/-
  The node at a way: plain facts.
-/
namespace Go.Proofs.YtemccomnhjhjeaaDoor
open Go.RowKit
set_option linter.unusedVariables false
set_option linter.unusedSimpArgs false

/-- The error of a way, and the list from the node on to which it leads. -/
def atE : Forest → List Int → Int
  | _, [] => 1
  | f, p :: r => if p < 0 ∨ (f.len : Int) ≤ p then 6 else if r = [] then 0 else atE (kidsAt f p.toNat) r
def atN : Forest → List Int → Forest
  | _, [] => .nil
  | f, p :: r => if r = [] then f.drop p.toNat else atN (kidsAt f p.toNat) r
theorem at_led : ∀ (ys : List Int) (f : Forest) (z : Int), (∀ g, ledF f ys = some g → atN f (ys ++ [z]) = g.drop z.toNat ∧ atE f (ys ++ [z]) = if z < 0 ∨ (g.len : Int) ≤ z then 6 else 0) ∧ (ledF f ys = none → atE f (ys ++ [z]) = 6)
  | [], f, z => ⟨fun g h => by
      simp only [ledF, Option.some.injEq] at h; subst h
      refine ⟨?_, ?_⟩
      · simp [atN]
      · show atE f [z] = _
        unfold atE; rw [if_pos rfl], fun h => by simp [ledF] at h⟩
  | p :: r, f, z => by
    have ih := at_led r (kidsAt f p.toNat) z
    have hne : r ++ [z] ≠ [] := by simp
    refine ⟨fun g h => ?_, fun h => ?_⟩
    · simp only [ledF] at h
      by_cases hp : p < 0 ∨ (f.len : Int) ≤ p
      · rw [if_pos hp] at h; cases h
      · rw [if_neg hp] at h
        obtain ⟨i1, i2⟩ := ih.1 g h
        refine ⟨?_, ?_⟩
        · show atN f (p :: (r ++ [z])) = _
          unfold atN; rw [if_neg hne]; exact i1
        · show atE f (p :: (r ++ [z])) = _
          unfold atE; rw [if_neg hp, if_neg hne]; exact i2
    · simp only [ledF] at h
      show atE f (p :: (r ++ [z])) = _
      by_cases hp : p < 0 ∨ (f.len : Int) ≤ p
      · unfold atE; rw [if_pos hp]
      · rw [if_neg hp] at h
        unfold atE; rw [if_neg hp, if_neg hne]; exact ih.2 h
theorem SmF.kidsAt {f : Forest} (h : SmF f) (p : Nat) : SmF (kidsAt f p) := by
  have hd := SmF.drop p f h
  unfold Proofs.YtemccomnhjhjeaaDoor.kidsAt
  cases e : f.drop p with
  | nil => trivial
  | cons k sp n ats tx kids rest => rw [e] at hd; exact hd.2.1
theorem kidsAt_count (f : Forest) (p : Nat) : (kidsAt f p).count ≤ f.count := by
  have := Forest.count_drop p f
  unfold kidsAt
  cases e : f.drop p with
  | nil => simp [Forest.count]
  | cons k sp n ats tx kids rest => rw [e] at this; simp only [Forest.count] at this; show kids.count ≤ _; omega
theorem led_small : ∀ (ys : List Int) (f g : Forest), ledF f ys = some g → SmF f → SmF g ∧ g.count ≤ f.count
  | [], f, g, h, hs => by simp only [ledF, Option.some.injEq] at h; subst h; exact ⟨hs, Nat.le_refl _⟩
  | p :: r, f, g, h, hs => by
    simp only [ledF] at h
    by_cases hp : p < 0 ∨ (f.len : Int) ≤ p
    · rw [if_pos hp] at h; cases h
    · rw [if_neg hp] at h
      have := led_small r _ g h (hs.kidsAt p.toNat)
      exact ⟨this.1, Nat.le_trans this.2 (kidsAt_count f _)⟩
def zeroNd : Value := .agg #[.int .i64 0, .int .i64 0, .string ⟨#[]⟩, .slice none 0 0, .string ⟨#[]⟩, .slice none 0 0]
def NodS (f : Forest) (zs : List Int) (v : Value) (w : World) : Prop :=
  (atE f zs ≠ 0 ∧ v = zeroNd) ∨ (atE f zs = 0 ∧ ∃ k sp n ats tx kids rest, atN f zs = .cons k sp n ats tx kids rest ∧ NdV k sp n ats tx kids v w)
theorem NodS.below {f : Forest} {zs : List Int} {v : Value} {w w' : World} (h : NodS f zs v w) (hb : Below w.heap.size w w') : NodS f zs v w' :=
  h.imp id fun ⟨h1, k, sp, n, ats, tx, kids, rest, h2, h3⟩ => ⟨h1, k, sp, n, ats, tx, kids, rest, h2, h3.below hb⟩
theorem split_last {zs : List Int} (h : zs ≠ []) : ∃ ys z, zs = ys ++ [z] := ⟨zs.dropLast, zs.getLast h, (List.dropLast_concat_getLast h).symm⟩
end Go.Proofs.YtemccomnhjhjeaaDoor

/-
  What the plain comparison of numbers does.
-/
namespace Go.Proofs.YtemccomnhjhjeaaDoor
open Go.RowKit Go.Maps
set_option linter.unusedVariables false
set_option linter.unusedSimpArgs false

theorem IntsV.at {q : Option Addr} {n : Nat} {zs : List Int} {w w' : World} (h : IntsV q n zs w) (hb : Below w.heap.size w w') (j : Nat) (hj : j < n) : ∃ g o, q = some ⟨g, o, none⟩ ∧ w'.cell? ⟨g, o + j, none⟩ = some (.int .i64 (zs.getD j 0)) := by
  obtain ⟨g, o, hq, hc⟩ := (h.below hb).2 (by omega)
  exact ⟨g, o, hq, hc j hj⟩
theorem ints_ext {za zb : List Int} (hl : za.length = zb.length) (h : ∀ j, j < za.length → za.getD j 0 = zb.getD j 0) : za = zb := by
  apply List.ext_getElem hl
  intro j h1 h2
  have := h j h1
  simpa [List.getD, h1, h2] using this
set_option maxHeartbeats 4000000 in
set_option maxRecDepth 100000 in
theorem ints_any (qa qb : Option Addr) (n m ca cb : Nat) (za zb : List Int) (w : World) (ha : IntsV qa n za w) (hb : IntsV qb m zb w) (hn : n ≤ 1000000) (hm : m ≤ 1000000) :
    Calls Tryd.prog 18 #[.slice qa n ca, .slice qb m cb] w fun e w' => e = .returned (.bool (decide (za = zb))) ∧ Below w.heap.size w w' := by
  obtain ⟨E, hE⟩ : ∃ E, decide (za = zb) = E := ⟨_, rfl⟩
  rw [hE]
  have HE := hide hE
  have HA := hide ha
  have HB := hide hb
  have hla := ha.1
  have hlb := hb.1
  have HLA := hide hla
  have HLB := hide hlb
  clear ha hb hE hla hlb
  go_enter Tryd.func18, Tryd.ntmps18
  go_wp2
  go_loopw [8] (fun z wr => ∃ j : Nat, j ≤ n ∧ z = .int .i64 (j : Int) ∧ (∀ k, k < j → k < m ∧ za.getD k 0 = zb.getD k 0) ∧ Below w.heap.size w wr) (fun z _ => n - (intOf z).toNat)
  case atStart => exact ⟨0, Nat.zero_le _, rfl, fun k hk => by omega, Below.refl _ _⟩
  case round =>
    obtain ⟨j, hj, rfl, hall, hbw⟩ := hrel
    have HALL := hide hall
    by_cases hp : j < n
    · have hpi : (j : Int) < (n : Int) := by omega
      obtain ⟨ga, oa, hqa, cA⟩ := (unhide HA).at hbw j hp
      subst hqa
      have HBW := hide hbw
      by_cases hq : m ≤ j
      · have HF : Hid (E = false) := hide (by
          rw [← unhide HE]
          apply decide_eq_false
          intro e
          have := unhide HLA; have := unhide HLB
          rw [e] at *
          omega)
        have hq' : decide (m ≤ j) = true := decide_eq_true hq
        have hqi : (m : Int) ≤ (j : Int) := by omega
        clear hall hbw
        go_wp2
        go_region
        all_goals (
          go_wp2
          go_ret
          exact ⟨by rw [unhide HF]; rfl, (unhide HBW).drew⟩)
      · have hq' : decide (m ≤ j) = false := decide_eq_false hq
        have hqi : (j : Int) < (m : Int) := by omega
        obtain ⟨gb, ob, hqb, cB⟩ := (unhide HB).at hbw j (by omega)
        subst hqb
        by_cases hz : za.getD j 0 = zb.getD j 0
        · have HS : Hid (∀ k, k < j + 1 → k < m ∧ za.getD k 0 = zb.getD k 0) := hide (fun k hk => by
            by_cases e : k = j
            · subst e; exact ⟨by omega, hz⟩
            · exact unhide HALL k (by omega))
          rw [hz] at cA
          generalize zb.getD j 0 = x at *
          clear hall hbw hz hq
          go_wp2
          go_region
          all_goals (
            go_wp2
            go_roundw
            case rel => exact ⟨j + 1, by omega, by go_num, unhide HS, (unhide HBW).drew⟩
            case measure => simp [intOf]; omega)
        · have HF : Hid (E = false) := hide (by
            rw [← unhide HE]
            apply decide_eq_false
            intro e
            rw [e] at hz
            exact hz rfl)
          have hz' : (za.getD j 0 != zb.getD j 0) = true := bne_iff_ne.2 hz
          have hz2 : (za.getD j 0 == zb.getD j 0) = false := beq_eq_false_iff_ne.2 hz
          generalize zb.getD j 0 = x at *
          generalize za.getD j 0 = y at *
          clear hall hbw hq
          go_wp2
          go_region
          all_goals (
            go_wp2
            go_ret
            exact ⟨by rw [unhide HF]; rfl, (unhide HBW).drew⟩)
    · have hpi : ¬ (j : Int) < (n : Int) := by omega
      have hjn : j = n := by omega
      have HR : Hid (((n : Int) == (m : Int)) = E) := hide (by
        rw [← unhide HE]
        have h1 := unhide HLA; have h2 := unhide HLB
        by_cases e : za = zb
        · rw [decide_eq_true e]
          rw [e] at h1
          exact beq_iff_eq.2 (by omega)
        · rw [decide_eq_false e]
          apply beq_eq_false_iff_ne.2
          intro e2
          exact e (ints_ext (by omega) (fun k hk => (unhide HALL k (by omega)).2)))
      have HBW := hide hbw
      clear hall hbw hjn
      go_wp2
      go_ret
      refine ⟨?_, unhide HBW⟩
      rw [← unhide HR]
      by_cases e : n = m
      · subst e; simp
      · have : ((n : Int) == (m : Int)) = false := beq_eq_false_iff_ne.2 (by omega)
        simp [e]
end Go.Proofs.YtemccomnhjhjeaaDoor
