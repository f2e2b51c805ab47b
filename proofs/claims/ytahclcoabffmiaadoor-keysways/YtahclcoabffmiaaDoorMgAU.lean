/-
  Several texts in one: what the functions of the program and of the document's answer do.
-/
import Derived.Test.YtahclcoabffmiaaDoorMgAT
import Derived.Test.YtahclcoabffmiaaDoorQPl
import Derived.Test.YtahclcoabffmiaaDoorMgAP

/-
  What keys.lead does.
-/
namespace Go.Proofs.YtahclcoabffmiaaDoor
open Go.RowKit Go.Maps
set_option linter.unusedVariables false
set_option linter.unusedSimpArgs false

def kidsAt (f : Forest) (p : Nat) : Forest := match f.drop p with
  | .cons _ _ _ _ _ kids _ => kids
  | .nil => .nil
theorem kidsAt_eq {f : Forest} {p : Nat} {k sp : Int} {n : ByteArray} {ats : List (ByteArray × ByteArray)} {tx : ByteArray} {kids rest : Forest} (h : f.drop p = .cons k sp n ats tx kids rest) : kidsAt f p = kids := by unfold kidsAt; rw [h]
/-- The list into which places lead. -/
def ledF : Forest → List Int → Option Forest
  | f, [] => some f
  | f, p :: r => if p < 0 ∨ (f.len : Int) ≤ p then none else ledF (kidsAt f p.toNat) r
/-- .. and where its slice lies. -/
inductive Led (w : World) : Forest → Nat → Nat → List Int → Forest → Nat → Nat → Prop where
  | here (f : Forest) (b o : Nat) : Led w f b o [] f b o
  | down (f : Forest) (b o g og c p : Nat) (r : List Int) (f' : Forest) (b' o' : Nat) (h1 : w.cell? ⟨b, o, none⟩ = some (.slice (some ⟨g, og, none⟩) f.len c)) (h2 : Lies f g og w) (h3 : p < f.len) (h4 : Led w (kidsAt f p) g (og + p * 6 + 5) r f' b' o') : Led w f b o ((p : Int) :: r) f' b' o'
/-- A slice of nodes in a cell. -/
def FoC (w : World) (b o : Nat) (f : Forest) : Prop := ∃ q c, w.cell? ⟨b, o, none⟩ = some (.slice q f.len c) ∧ f.len ≤ c ∧ Fo q f w
def LeadSaid (w : World) (f : Forest) (b o : Nat) (ys : List Int) (z : Int) (more : Nat) (e : Ending) (w' : World) : Prop :=
  Below w.heap.size w w' ∧ (((ledF f ys = none ∨ ∃ g, ledF f ys = some g ∧ (z < 0 ∨ (g.len : Int) + (more : Int) ≤ z)) ∧ e = .returned (.tuple #[.pointer none, .int .i64 6])) ∨
    ∃ g b' o', ledF f ys = some g ∧ 0 ≤ z ∧ z < (g.len : Int) + (more : Int) ∧ Led w f b o ys g b' o' ∧ FoC w b' o' g ∧ e = .returned (.tuple #[.pointer (some ⟨b', o', none⟩), .int .i64 0]))
def LeAt (w : World) (f : Forest) (b o : Nat) (ys : List Int) (j : Nat) (bj oj : Nat) (fj : Forest) : Prop :=
  ledF f ys = ledF fj (ys.drop j) ∧ FoC w bj oj fj ∧ fj.len ≤ 1000000 ∧ fj.count ≤ 1000000 ∧ ∀ f' b' o', Led w fj bj oj (ys.drop j) f' b' o' → Led w f b o ys f' b' o'
theorem LeAt.step {w : World} {f : Forest} {b o : Nat} {ys : List Int} {j bj oj : Nat} {fj : Forest} {p g og c : Nat} (h : LeAt w f b o ys j bj oj fj) (hj : j < ys.length) (hz : ys.getD j 0 = (p : Int)) (hp : p < fj.len) (hc : w.cell? ⟨bj, oj, none⟩ = some (.slice (some ⟨g, og, none⟩) fj.len c)) (hl : Lies fj g og w) : LeAt w f b o ys (j + 1) g (og + p * 6 + 5) (kidsAt fj p) := by
  obtain ⟨h1, h2, h3, hcn, h4⟩ := h
  have hd : ys.drop j = (p : Int) :: ys.drop (j + 1) := by
    rw [List.drop_eq_getElem_cons hj]
    congr 1
    simpa [List.getD, hj] using hz
  obtain ⟨k, sp, n, ats, tx, kids, hdr⟩ := fj.drop_cons p hp
  have hk := kidsAt_eq hdr
  have hll := hl.drop p
  rw [hdr] at hll
  obtain ⟨⟨_, _, _, _, _, ⟨qk, ck, c5, hck, hfo⟩⟩, _⟩ := hll
  have hkc : kids.count ≤ 1000000 := by
    have := Forest.count_drop p fj
    rw [hdr] at this
    simp only [Forest.count] at this
    omega
  refine ⟨?_, ⟨qk, ck, by rw [hk]; exact c5, by rw [hk]; exact hck, by rw [hk]; exact hfo⟩, by rw [hk]; have := kids.len_count; omega, by rw [hk]; exact hkc, fun f' b' o' hL => h4 f' b' o' ?_⟩
  · rw [h1, hd, ledF, if_neg (by omega)]
    rfl
  · rw [hd]
    exact Led.down fj bj oj g og c p _ f' b' o' hc hl hp hL
theorem LeAt.no {w : World} {f : Forest} {b o : Nat} {ys : List Int} {j bj oj : Nat} {fj : Forest} {x : Int} (h : LeAt w f b o ys j bj oj fj) (hj : j < ys.length) (hz : ys.getD j 0 = x) (hx : x < 0 ∨ (fj.len : Int) ≤ x) : ledF f ys = none := by
  have hd : ys.drop j = x :: ys.drop (j + 1) := by
    rw [List.drop_eq_getElem_cons hj]
    congr 1
    simpa [List.getD, hj] using hz
  rw [h.1, hd, ledF, if_pos hx]
set_option maxHeartbeats 4000000 in
set_option maxRecDepth 100000 in
theorem lead_none (b o : Nat) (qw : Option Addr) (cw : Nat) (more : Int) (w : World) :
    Calls Tryd.prog 30 #[.pointer (some ⟨b, o, none⟩), .slice qw 0 cw, .int .i64 more] w fun e w' => e = .returned (.tuple #[.pointer none, .int .i64 1]) ∧ w' = w := by
  go_enter Tryd.func30, Tryd.ntmps30
  go_wp2
  go_ret2
  exact ⟨rfl, rfl⟩
set_option maxHeartbeats 4000000 in
set_option maxRecDepth 100000 in
theorem lead_any (f : Forest) (b o : Nat) (qw : Option Addr) (n cw : Nat) (ys : List Int) (z : Int) (more : Nat) (w : World) (hF : FoC w b o f) (hfc : f.count ≤ 1000000) (hw : IntsV qw n (ys ++ [z]) w) (hcw : n ≤ cw) (hn : n ≤ 1000000) (hm : more ≤ 1) :
    Calls Tryd.prog 30 #[.pointer (some ⟨b, o, none⟩), .slice qw n cw, .int .i64 (more : Int)] w fun e w' => LeadSaid w f b o ys z more e w' := by
  obtain ⟨hnl, hcells⟩ := hw
  obtain ⟨m, hm1⟩ : ∃ m, ys.length = m := ⟨_, rfl⟩
  have hnm : n = m + 1 := by rw [hnl, List.length_append, hm1]; rfl
  subst hnm
  obtain ⟨gw, ow, rfl, hcz⟩ := hcells (by omega)
  have hczl : w.cell? ⟨gw, ow + m, none⟩ = some (.int .i64 z) := by
    have := hcz m (by omega)
    rw [this]; simp [List.getD, ← hm1]
  have hczj : Hid (∀ j, j < m → w.cell? ⟨gw, ow + j, none⟩ = some (.int .i64 (ys.getD j 0))) := hide (fun j hj => by
    have := hcz j (by omega)
    rw [this]; simp [List.getD, List.getElem?_append_left (show j < ys.length by omega)])
  have HAT : Hid (LeAt w f b o ys 0 b o f) := hide ⟨by rw [List.drop_zero], hF, by have := f.len_count; omega, hfc, fun f' b' o' h => by rw [List.drop_zero] at h; exact h⟩
  have HM := hide hm1
  have hmi : (m : Int) + 1 ≤ 1000000 := by omega
  have hcwi : (m : Int) + 1 ≤ (cw : Int) := by omega
  have hne1 : ((m : Int) + 1 == 0) = false := beq_eq_false_iff_ne.2 (by omega)
  have hne2 : ¬ ((m : Int) + 1 = 0) := by omega
  have hm0 : (0 : Int) ≤ (m : Int) := by omega
  clear hcells hcz hF hm1 hnl hcw hn
  go_enter Tryd.func30, Tryd.ntmps30
  go_wp2
  go_loopw [0, 21] (fun a i wr => ∃ (j bj oj : Nat) (fj : Forest), j ≤ m ∧ i = .int .i64 (j : Int) ∧ a = .pointer (some ⟨bj, oj, none⟩) ∧ LeAt w f b o ys j bj oj fj ∧ wr = w) (fun _ i _ => m - (intOf i).toNat)
  case atStart => exact ⟨0, b, o, f, Nat.zero_le _, rfl, rfl, unhide HAT, rfl⟩
  case round =>
    clear HAT
    obtain ⟨j, bj, oj, fj, hj, rfl, rfl, hat, rfl⟩ := hrel
    obtain ⟨qj, cj, d0, hcj, hfo⟩ := hat.2.1
    have hfl := hat.2.2.1
    have HAT := hide hat
    by_cases hjm : j < m
    · have hji : (j : Int) < (m : Int) := by omega
      have cz := unhide hczj j hjm
      have HZ : Hid (ys.getD j 0 = ys.getD j 0) := hide rfl
      obtain ⟨x, hx⟩ : ∃ x, ys.getD j 0 = x := ⟨_, rfl⟩
      rw [hx] at cz
      have HXE := hide hx
      clear hat hx HZ
      have hjl : j < ys.length := by rw [unhide HM]; exact hjm
      by_cases hx0 : x < 0
      · have hx0' : decide (x < 0) = true := decide_eq_true hx0
        have HNO := hide ((unhide HAT).no hjl (unhide HXE) (Or.inl hx0))
        clear HAT hfo hcj hfl hjl
        go_wp2
        go_ret2
        exact ⟨Below.refl _ _, Or.inl ⟨Or.inl (unhide HNO), rfl⟩⟩
      · by_cases hx1 : (fj.len : Int) ≤ x
        · have hx0' : decide (x < 0) = false := decide_eq_false hx0
          have HNO := hide ((unhide HAT).no hjl (unhide HXE) (Or.inr hx1))
          clear HAT hfo hcj hjl
          go_wp2
          go_ret2
          exact ⟨Below.refl _ _, Or.inl ⟨Or.inl (unhide HNO), rfl⟩⟩
        · obtain ⟨xn, rfl⟩ : ∃ xn : Nat, x = (xn : Int) := ⟨x.toNat, by omega⟩
          have hxl : xn < fj.len := by omega
          obtain ⟨g, og, hq, hl⟩ : ∃ g og, qj = some ⟨g, og, none⟩ ∧ Lies fj g og wr := by
            rcases hfo with h | h
            · rw [h] at hxl; simp [Forest.len] at hxl
            · exact h
          subst hq
          have HST := hide ((unhide HAT).step hjl (unhide HXE) hxl d0 hl)
          have hx0' : decide ((xn : Int) < 0) = false := decide_eq_false hx0
          have hx1' : decide (fj.len ≤ xn) = false := decide_eq_false (by omega)
          have hx2 : (xn : Int) < (fj.len : Int) := by omega
          have hx3 : (0 : Int) ≤ (xn : Int) := by omega
          generalize fj.len = fl at *
          clear HAT hfo hcj hl hjl hx0 hx1 hxl
          go_wp2
          go_roundw
          case rel => exact ⟨j + 1, g, og + xn * 6 + 5, _, by omega, by go_num, rfl, unhide HST, by first | rfl | trivial⟩
          case measure => simp [intOf]; omega
    · obtain rfl : j = m := by omega
      have HL : Hid (ledF f ys = some fj) := hide (by rw [hat.1, ← unhide HM, List.drop_length]; rfl)
      have HLED : Hid (Led wr f b o ys fj bj oj) := hide (hat.2.2.2.2 fj bj oj (by rw [← unhide HM, List.drop_length]; exact Led.here _ _ _))
      have HFC := hide hat.2.1
      have hmm : ¬ (j : Int) < (j : Int) := by omega
      clear hat HAT hfo hcj hj
      by_cases hx0 : z < 0
      · have hx0' : decide (z < 0) = true := decide_eq_true hx0
        go_wp2
        go_region
        all_goals (
          go_wp2
          go_ret2
          exact ⟨by first | exact Below.refl _ _ | exact (Below.refl _ _).drew | exact below_draws _ _, Or.inl ⟨Or.inr ⟨_, unhide HL, Or.inl hx0⟩, rfl⟩⟩)
      · have hx0' : decide (z < 0) = false := decide_eq_false hx0
        by_cases hx1 : (fj.len : Int) + (more : Int) ≤ z
        · have hx1' : decide ((fj.len : Int) + (more : Int) ≤ z) = true := decide_eq_true hx1
          go_wp2
          go_region
          all_goals (
            go_wp2
            go_ret2
            exact ⟨by first | exact Below.refl _ _ | exact (Below.refl _ _).drew | exact below_draws _ _, Or.inl ⟨Or.inr ⟨_, unhide HL, Or.inr hx1⟩, rfl⟩⟩)
        · have hx1' : decide ((fj.len : Int) + (more : Int) ≤ z) = false := decide_eq_false hx1
          go_wp2
          go_region
          all_goals (
            go_wp2
            go_ret2
            exact ⟨by first | exact Below.refl _ _ | exact (Below.refl _ _).drew | exact below_draws _ _, Or.inr ⟨fj, bj, oj, unhide HL, by omega, by omega, unhide HLED, unhide HFC, rfl⟩⟩)
end Go.Proofs.YtahclcoabffmiaaDoor

/-
  What 'quill.TakeNum' does: of every text the number with which it begins and what is behind, or the error.
-/
namespace Go.Proofs.YtahclcoabffmiaaDoor
open Go.RowKit
set_option linter.unusedVariables false

def numErr : Value := .tuple #[.int .i64 0, .string ⟨#[]⟩, .int .i64 4]
def takeNV (l : List UInt8) : Value :=
  match takeN l with
  | none => numErr
  | some (v, k) => .tuple #[.int .i64 v, .string (bs (l.drop k)), .int .i64 0]

theorem rest_eq (s : ByteArray) (c : Nat) (n : Nat) (hn : n = s.size - 1) : (s.extract 1 s.size).extract c n = bs (s.data.toList.drop (1 + c)) := by
  have e : (s.extract 1 s.size).size = s.size - 1 := by simp
  rw [hn, ← e, Lib.Pa.extract_from, Lib.extract_to_end, List.drop_drop]
  rfl

end Go.Proofs.YtahclcoabffmiaaDoor

/-
  What 'quill.TakeText' does.
-/
namespace Go.Proofs.YtahclcoabffmiaaDoor
open Go.RowKit
set_option linter.unusedVariables false

def textErr : Value := .tuple #[.string ⟨#[]⟩, .string ⟨#[]⟩, .int .i64 4]
def takeTV (l : List UInt8) : Value :=
  match takeT l with
  | none => textErr
  | some (k, n) => .tuple #[.string (bs ((l.drop k).take n)), .string (bs ((l.drop k).drop n)), .int .i64 0]

end Go.Proofs.YtahclcoabffmiaaDoor

/-
  What a tree.reader's num and text take off, where there is such a one.
-/
namespace Go.Proofs.YtahclcoabffmiaaDoor
open Go.RowKit
set_option linter.unusedVariables false
set_option linter.unusedSimpArgs false

/-- All but block R stands as it stood. -/
structure KpR (R : Nat) (w w' : World) : Prop where
  os : w'.os = w.os
  tape : w'.tape = w.tape
  output : w'.output = w.output
  size : w.heap.size ≤ w'.heap.size
  block : ∀ k, k < w.heap.size → k ≠ R → w'.heap[k]? = w.heap[k]?
theorem KpR.refl (R : Nat) (w : World) : KpR R w w := ⟨rfl, rfl, rfl, Nat.le_refl _, fun _ _ _ => rfl⟩
theorem KpR.trans {R : Nat} {w w1 w2 : World} (h : KpR R w w1) (h' : KpR R w1 w2) : KpR R w w2 :=
  ⟨h'.os.trans h.os, h'.tape.trans h.tape, h'.output.trans h.output, Nat.le_trans h.size h'.size, fun k hk hr => (h'.block k (by have := h.size; omega) hr).trans (h.block k hk hr)⟩
theorem KpR.of {R : Nat} {w w1 : World} (h : Below w.heap.size w w1) : KpR R w w1 := ⟨h.os, h.tape, h.output, h.size, fun k hk _ => h.block k hk⟩
theorem KpR.set {R : Nat} {w w1 : World} (h : KpR R w w1) (o : Nat) (v : Value) : KpR R w (w1.setCell ⟨R, o, none⟩ v) :=
  ⟨h.os, h.tape, h.output, by have := h.size; simp; omega, fun k hk hr => (Below.heap_setCell w1 ⟨R, o, none⟩ v k (by show k ≠ R; exact hr)).trans (h.block k hk hr)⟩
theorem KpR.setAt {R b : Nat} {w w1 : World} (h : KpR R w w1) (hb : w.heap.size ≤ b) (o : Nat) (v : Value) : KpR R w (w1.setCell ⟨b, o, none⟩ v) :=
  ⟨h.os, h.tape, h.output, by have := h.size; simp; omega, fun k hk hr => (Below.heap_setCell w1 ⟨b, o, none⟩ v k (by show k ≠ b; omega)).trans (h.block k hk hr)⟩
theorem KpR.alloc {R : Nat} {w w1 : World} (h : KpR R w w1) (o : Obj) : KpR R w (w1.alloc o) :=
  h.trans (KpR.of ((Below.refl _ _).alloc (Nat.le_refl _) o))
theorem KpR.below {R B : Nat} {w w1 : World} (h : KpR R w w1) (hB : B ≤ w.heap.size) (hR : B ≤ R) : Below B w w1 := ⟨h.os, h.tape, h.output, h.size, fun k hk => h.block k (by omega) (by omega)⟩
theorem KpR.blk {R b : Nat} {w w1 : World} {vs : Array Value} {t : TypeId} (h : KpR R w w1) (hb : Blk w b vs t) (hr : b ≠ R) : Blk w1 b vs t := (h.block b hb.lt hr).trans hb

end Go.Proofs.YtahclcoabffmiaaDoor
