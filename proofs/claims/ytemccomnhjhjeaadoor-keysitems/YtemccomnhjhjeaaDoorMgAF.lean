/-
  Several texts in one: what the functions of the program and of the document's answer do.
-/
import Derived.Test.YtemccomnhjhjeaaDoorMgAE
import Derived.Test.YtemccomnhjhjeaaDoorMgAA
import Derived.Deep.LoopGhost
import Derived.Laws.EntriesVeiled
import Derived.Laws.AppendOwn
import Derived.Deep.Cut

/-
  What keys.lead does.
-/
namespace Go.Proofs.YtemccomnhjhjeaaDoor
open Go.RowKit Go.Maps
set_option linter.unusedVariables false
set_option linter.unusedSimpArgs false

def kidsAt (f : Forest) (p : Nat) : Forest := match f.drop p with
  | .cons _ _ _ _ _ kids _ => kids
  | .nil => .nil
theorem kidsAt_eq {f : Forest} {p : Nat} {k sp : Int} {n : ByteArray} {ats : List (ByteArray × ByteArray)} {tx : ByteArray} {kids rest : Forest} (h : f.drop p = .cons k sp n ats tx kids rest) : kidsAt f p = kids := by unfold kidsAt; rw [h]
/-- The list into which places lead. -/
def ledF : Forest → List Int → Option Forest
  | f, [] => some f
  | f, p :: r => if p < 0 ∨ (f.len : Int) ≤ p then none else ledF (kidsAt f p.toNat) r
/-- .. and where its slice lies. -/
inductive Led (w : World) : Forest → Nat → Nat → List Int → Forest → Nat → Nat → Prop where
  | here (f : Forest) (b o : Nat) : Led w f b o [] f b o
  | down (f : Forest) (b o g og c p : Nat) (r : List Int) (f' : Forest) (b' o' : Nat) (h1 : w.cell? ⟨b, o, none⟩ = some (.slice (some ⟨g, og, none⟩) f.len c)) (h2 : Lies f g og w) (h3 : p < f.len) (h4 : Led w (kidsAt f p) g (og + p * 6 + 5) r f' b' o') : Led w f b o ((p : Int) :: r) f' b' o'
/-- A slice of nodes in a cell. -/
def FoC (w : World) (b o : Nat) (f : Forest) : Prop := ∃ q c, w.cell? ⟨b, o, none⟩ = some (.slice q f.len c) ∧ f.len ≤ c ∧ Fo q f w
def LeadSaid (w : World) (f : Forest) (b o : Nat) (ys : List Int) (z : Int) (more : Nat) (e : Ending) (w' : World) : Prop :=
  Below w.heap.size w w' ∧ (((ledF f ys = none ∨ ∃ g, ledF f ys = some g ∧ (z < 0 ∨ (g.len : Int) + (more : Int) ≤ z)) ∧ e = .returned (.tuple #[.pointer none, .int .i64 6])) ∨
    ∃ g b' o', ledF f ys = some g ∧ 0 ≤ z ∧ z < (g.len : Int) + (more : Int) ∧ Led w f b o ys g b' o' ∧ FoC w b' o' g ∧ e = .returned (.tuple #[.pointer (some ⟨b', o', none⟩), .int .i64 0]))
def LeAt (w : World) (f : Forest) (b o : Nat) (ys : List Int) (j : Nat) (bj oj : Nat) (fj : Forest) : Prop :=
  ledF f ys = ledF fj (ys.drop j) ∧ FoC w bj oj fj ∧ fj.len ≤ 1000000 ∧ fj.count ≤ 1000000 ∧ ∀ f' b' o', Led w fj bj oj (ys.drop j) f' b' o' → Led w f b o ys f' b' o'
theorem LeAt.step {w : World} {f : Forest} {b o : Nat} {ys : List Int} {j bj oj : Nat} {fj : Forest} {p g og c : Nat} (h : LeAt w f b o ys j bj oj fj) (hj : j < ys.length) (hz : ys.getD j 0 = (p : Int)) (hp : p < fj.len) (hc : w.cell? ⟨bj, oj, none⟩ = some (.slice (some ⟨g, og, none⟩) fj.len c)) (hl : Lies fj g og w) : LeAt w f b o ys (j + 1) g (og + p * 6 + 5) (kidsAt fj p) := by
  obtain ⟨h1, h2, h3, hcn, h4⟩ := h
  have hd : ys.drop j = (p : Int) :: ys.drop (j + 1) := by
    rw [List.drop_eq_getElem_cons hj]
    congr 1
    simpa [List.getD, hj] using hz
  obtain ⟨k, sp, n, ats, tx, kids, hdr⟩ := fj.drop_cons p hp
  have hk := kidsAt_eq hdr
  have hll := hl.drop p
  rw [hdr] at hll
  obtain ⟨⟨_, _, _, _, _, ⟨qk, ck, c5, hck, hfo⟩⟩, _⟩ := hll
  have hkc : kids.count ≤ 1000000 := by
    have := Forest.count_drop p fj
    rw [hdr] at this
    simp only [Forest.count] at this
    omega
  refine ⟨?_, ⟨qk, ck, by rw [hk]; exact c5, by rw [hk]; exact hck, by rw [hk]; exact hfo⟩, by rw [hk]; have := kids.len_count; omega, by rw [hk]; exact hkc, fun f' b' o' hL => h4 f' b' o' ?_⟩
  · rw [h1, hd, ledF, if_neg (by omega)]
    rfl
  · rw [hd]
    exact Led.down fj bj oj g og c p _ f' b' o' hc hl hp hL
theorem LeAt.no {w : World} {f : Forest} {b o : Nat} {ys : List Int} {j bj oj : Nat} {fj : Forest} {x : Int} (h : LeAt w f b o ys j bj oj fj) (hj : j < ys.length) (hz : ys.getD j 0 = x) (hx : x < 0 ∨ (fj.len : Int) ≤ x) : ledF f ys = none := by
  have hd : ys.drop j = x :: ys.drop (j + 1) := by
    rw [List.drop_eq_getElem_cons hj]
    congr 1
    simpa [List.getD, hj] using hz
  rw [h.1, hd, ledF, if_pos hx]
set_option maxHeartbeats 4000000 in
set_option maxRecDepth 100000 in
theorem lead_none (b o : Nat) (qw : Option Addr) (cw : Nat) (more : Int) (w : World) :
    Calls Tryd.prog 30 #[.pointer (some ⟨b, o, none⟩), .slice qw 0 cw, .int .i64 more] w fun e w' => e = .returned (.tuple #[.pointer none, .int .i64 1]) ∧ w' = w := by
  go_enter Tryd.func30, Tryd.ntmps30
  go_wp2
  go_ret2
  exact ⟨rfl, rfl⟩
set_option maxHeartbeats 4000000 in
set_option maxRecDepth 100000 in
theorem lead_any (f : Forest) (b o : Nat) (qw : Option Addr) (n cw : Nat) (ys : List Int) (z : Int) (more : Nat) (w : World) (hF : FoC w b o f) (hfc : f.count ≤ 1000000) (hw : IntsV qw n (ys ++ [z]) w) (hcw : n ≤ cw) (hn : n ≤ 1000000) (hm : more ≤ 1) :
    Calls Tryd.prog 30 #[.pointer (some ⟨b, o, none⟩), .slice qw n cw, .int .i64 (more : Int)] w fun e w' => LeadSaid w f b o ys z more e w' := by
  obtain ⟨hnl, hcells⟩ := hw
  obtain ⟨m, hm1⟩ : ∃ m, ys.length = m := ⟨_, rfl⟩
  have hnm : n = m + 1 := by rw [hnl, List.length_append, hm1]; rfl
  subst hnm
  obtain ⟨gw, ow, rfl, hcz⟩ := hcells (by omega)
  have hczl : w.cell? ⟨gw, ow + m, none⟩ = some (.int .i64 z) := by
    have := hcz m (by omega)
    rw [this]; simp [List.getD, ← hm1]
  have hczj : Hid (∀ j, j < m → w.cell? ⟨gw, ow + j, none⟩ = some (.int .i64 (ys.getD j 0))) := hide (fun j hj => by
    have := hcz j (by omega)
    rw [this]; simp [List.getD, List.getElem?_append_left (show j < ys.length by omega)])
  have HAT : Hid (LeAt w f b o ys 0 b o f) := hide ⟨by rw [List.drop_zero], hF, by have := f.len_count; omega, hfc, fun f' b' o' h => by rw [List.drop_zero] at h; exact h⟩
  have HM := hide hm1
  have hmi : (m : Int) + 1 ≤ 1000000 := by omega
  have hcwi : (m : Int) + 1 ≤ (cw : Int) := by omega
  have hne1 : ((m : Int) + 1 == 0) = false := beq_eq_false_iff_ne.2 (by omega)
  have hne2 : ¬ ((m : Int) + 1 = 0) := by omega
  have hm0 : (0 : Int) ≤ (m : Int) := by omega
  clear hcells hcz hF hm1 hnl hcw hn
  go_enter Tryd.func30, Tryd.ntmps30
  go_wp2
  go_loopw [0, 21] (fun a i wr => ∃ (j bj oj : Nat) (fj : Forest), j ≤ m ∧ i = .int .i64 (j : Int) ∧ a = .pointer (some ⟨bj, oj, none⟩) ∧ LeAt w f b o ys j bj oj fj ∧ wr = w) (fun _ i _ => m - (intOf i).toNat)
  case atStart => exact ⟨0, b, o, f, Nat.zero_le _, rfl, rfl, unhide HAT, rfl⟩
  case round =>
    clear HAT
    obtain ⟨j, bj, oj, fj, hj, rfl, rfl, hat, rfl⟩ := hrel
    obtain ⟨qj, cj, d0, hcj, hfo⟩ := hat.2.1
    have hfl := hat.2.2.1
    have HAT := hide hat
    by_cases hjm : j < m
    · have hji : (j : Int) < (m : Int) := by omega
      have cz := unhide hczj j hjm
      have HZ : Hid (ys.getD j 0 = ys.getD j 0) := hide rfl
      obtain ⟨x, hx⟩ : ∃ x, ys.getD j 0 = x := ⟨_, rfl⟩
      rw [hx] at cz
      have HXE := hide hx
      clear hat hx HZ
      have hjl : j < ys.length := by rw [unhide HM]; exact hjm
      by_cases hx0 : x < 0
      · have hx0' : decide (x < 0) = true := decide_eq_true hx0
        have HNO := hide ((unhide HAT).no hjl (unhide HXE) (Or.inl hx0))
        clear HAT hfo hcj hfl hjl
        go_wp2
        go_ret2
        exact ⟨Below.refl _ _, Or.inl ⟨Or.inl (unhide HNO), rfl⟩⟩
      · by_cases hx1 : (fj.len : Int) ≤ x
        · have hx0' : decide (x < 0) = false := decide_eq_false hx0
          have HNO := hide ((unhide HAT).no hjl (unhide HXE) (Or.inr hx1))
          clear HAT hfo hcj hjl
          go_wp2
          go_ret2
          exact ⟨Below.refl _ _, Or.inl ⟨Or.inl (unhide HNO), rfl⟩⟩
        · obtain ⟨xn, rfl⟩ : ∃ xn : Nat, x = (xn : Int) := ⟨x.toNat, by omega⟩
          have hxl : xn < fj.len := by omega
          obtain ⟨g, og, hq, hl⟩ : ∃ g og, qj = some ⟨g, og, none⟩ ∧ Lies fj g og wr := by
            rcases hfo with h | h
            · rw [h] at hxl; simp [Forest.len] at hxl
            · exact h
          subst hq
          have HST := hide ((unhide HAT).step hjl (unhide HXE) hxl d0 hl)
          have hx0' : decide ((xn : Int) < 0) = false := decide_eq_false hx0
          have hx1' : decide (fj.len ≤ xn) = false := decide_eq_false (by omega)
          have hx2 : (xn : Int) < (fj.len : Int) := by omega
          have hx3 : (0 : Int) ≤ (xn : Int) := by omega
          generalize fj.len = fl at *
          clear HAT hfo hcj hl hjl hx0 hx1 hxl
          go_wp2
          go_roundw
          case rel => exact ⟨j + 1, g, og + xn * 6 + 5, _, by omega, by go_num, rfl, unhide HST, by first | rfl | trivial⟩
          case measure => simp [intOf]; omega
    · obtain rfl : j = m := by omega
      have HL : Hid (ledF f ys = some fj) := hide (by rw [hat.1, ← unhide HM, List.drop_length]; rfl)
      have HLED : Hid (Led wr f b o ys fj bj oj) := hide (hat.2.2.2.2 fj bj oj (by rw [← unhide HM, List.drop_length]; exact Led.here _ _ _))
      have HFC := hide hat.2.1
      have hmm : ¬ (j : Int) < (j : Int) := by omega
      clear hat HAT hfo hcj hj
      by_cases hx0 : z < 0
      · have hx0' : decide (z < 0) = true := decide_eq_true hx0
        go_wp2
        go_region
        all_goals (
          go_wp2
          go_ret2
          exact ⟨by first | exact Below.refl _ _ | exact (Below.refl _ _).drew | exact below_draws _ _, Or.inl ⟨Or.inr ⟨_, unhide HL, Or.inl hx0⟩, rfl⟩⟩)
      · have hx0' : decide (z < 0) = false := decide_eq_false hx0
        by_cases hx1 : (fj.len : Int) + (more : Int) ≤ z
        · have hx1' : decide ((fj.len : Int) + (more : Int) ≤ z) = true := decide_eq_true hx1
          go_wp2
          go_region
          all_goals (
            go_wp2
            go_ret2
            exact ⟨by first | exact Below.refl _ _ | exact (Below.refl _ _).drew | exact below_draws _ _, Or.inl ⟨Or.inr ⟨_, unhide HL, Or.inr hx1⟩, rfl⟩⟩)
        · have hx1' : decide ((fj.len : Int) + (more : Int) ≤ z) = false := decide_eq_false hx1
          go_wp2
          go_region
          all_goals (
            go_wp2
            go_ret2
            exact ⟨by first | exact Below.refl _ _ | exact (Below.refl _ _).drew | exact below_draws _ _, Or.inr ⟨fj, bj, oj, unhide HL, by omega, by omega, unhide HLED, unhide HFC, rfl⟩⟩)
end Go.Proofs.YtemccomnhjhjeaaDoor

/-
  What 'tree.walk' does, whatever it hands each node to.
-/
namespace Go.Proofs.YtemccomnhjhjeaaDoor
open Go.RowKit
set_option linter.unusedVariables false

/-- A node, and how deep it lies. -/
structure Item where
  k : Int
  sp : Int
  n : ByteArray
  ats : List (ByteArray × ByteArray)
  tx : ByteArray
  kids : Forest
  d : Nat
/-- All nodes in their order, each ahead of its kids. -/
def items : Forest → Nat → List Item
  | .nil, _ => []
  | .cons k sp n ats tx kids rest, d => ⟨k, sp, n, ats, tx, kids, d⟩ :: (items kids (d + 1) ++ items rest d)
theorem items_len : ∀ (f : Forest) (d : Nat), (items f d).length = f.count
  | .nil, d => rfl
  | .cons k sp n ats tx kids rest, d => by
    show (items kids (d + 1) ++ items rest d).length + 1 = 1 + kids.count + rest.count
    rw [List.length_append, items_len kids, items_len rest]; omega
def todo : List Forest → List Item
  | [] => []
  | f :: st => items f (st.length + 1) ++ todo st
/-- What is told of nodes, one behind the other, until it is enough. -/
def tell {σ : Type} (stp : σ → Item → σ × Bool) : σ → List Item → σ
  | s, [] => s
  | s, it :: r => if (stp s it).2 = true then tell stp (stp s it).1 r else (stp s it).1

abbrev Entry := Forest × Option Addr × Nat
def Entry.val (e : Entry) : Value := .slice e.2.1 e.1.len e.2.2
def rowOf (st : List Entry) : List Value := (st.map Entry.val).reverse
theorem rowOf_cons (e : Entry) (st : List Entry) : rowOf (e :: st) = rowOf st ++ [e.val] := by simp [rowOf]
theorem rowOf_len (st : List Entry) : (rowOf st).length = st.length := by simp [rowOf]
/-- The row's last value, where it lies, and the row without it, or with another one in its place. -/
theorem row_last {w : World} {base : Nat} {e : TypeId} {v x : Value} {n : Nat} {xs : List Value} (h : w.ownsRow base e 1 v (n + 1) (xs ++ [x])) (hl : xs.length = n) :
    ∃ b cap, v = .slice (some ⟨b, 0, none⟩) (n + 1) cap ∧ base ≤ b ∧ n + 1 ≤ cap ∧ w.cell? ⟨b, n, none⟩ = some x ∧ w.frozen? ⟨b, n, none⟩ = false ∧ b < w.heap.size ∧
      w.ownsRow base e 1 (.slice (some ⟨b, 0, none⟩) n cap) n xs ∧ ∀ y, (w.setCell ⟨b, n, none⟩ y).ownsRow base e 1 (.slice (some ⟨b, 0, none⟩) (n + 1) cap) (n + 1) (xs ++ [y]) := by
  obtain ⟨hlen, h⟩ := h
  rcases h with ⟨_, h0⟩ | ⟨b, cap, cur, rfl, h1, h2, h3, h4, h5, h6⟩
  · omega
  have hsz : n < cur.size := by omega
  have hx : cur[n]? = some x := by
    have := congrArg (fun l => l[n]?) h6
    simp only [Nat.mul_one] at this
    rw [List.getElem?_take, if_pos (by omega), List.getElem?_append_right (by omega), hl, Nat.sub_self] at this
    simpa using this
  have hc : w.cell? ⟨b, n, none⟩ = some x := (Joins.cell_of_block h2 n).trans hx
  have hblt : b < w.heap.size := World.block_lt_of_cell? w _ hc
  refine ⟨b, cap, rfl, h1, h3, hc, ?_, hblt, ⟨by omega, Or.inr ⟨b, cap, cur, rfl, h1, h2, by omega, h4, h5, ?_⟩⟩, fun y => ⟨by simp; omega, Or.inr ⟨b, cap, cur.set n y hsz, rfl, h1, ?_, h3, h4, by rw [Array.size_set]; exact h5, ?_⟩⟩⟩
  · have : Blk w b cur e := h2
    exact this.frozen n
  · have := congrArg (fun l => l.take n) h6
    simp only [Nat.mul_one] at this ⊢
    rw [List.take_take, Nat.min_eq_left (by omega), List.take_left' hl] at this
    exact this
  · have : Blk w b cur e := h2
    exact this.set n hsz y
  · simp only [Nat.mul_one] at h6 ⊢
    rw [Array.toList_set, List.take_set, h6, List.set_append_right _ _ (by omega), hl, Nat.sub_self]
    rfl
end Go.Proofs.YtemccomnhjhjeaaDoor

/-
  What 'tree.walk' does, whatever it hands each node to, if that writes but into blocks that were there ahead of it.
-/
namespace Go.Proofs.YtemccomnhjhjeaaDoor
open Go.RowKit
set_option linter.unusedVariables false

def Since (B : Nat) (w w' : World) : Prop := w.heap.size ≤ w'.heap.size ∧ ∀ b, B ≤ b → b < w.heap.size → w'.heap[b]? = w.heap[b]?
theorem ownsRow_since {w w' : World} {B base : Nat} {e : TypeId} {size : Nat} {v : Value} {n : Nat} {xs : List Value} (h : w.ownsRow base e size v n xs) (hs : Since B w w') (hB : B ≤ base) : w'.ownsRow base e size v n xs := by
  obtain ⟨hl, h⟩ := h
  refine ⟨hl, ?_⟩
  rcases h with h | ⟨g, cap, cur, h1, h2, h3, h4, h5, h6, h7⟩
  · exact .inl h
  · refine .inr ⟨g, cap, cur, h1, h2, ?_, h4, h5, h6, h7⟩
    have hg : g < w.heap.size := by
      rcases Nat.lt_or_ge g w.heap.size with h | h
      · exact h
      · rw [Array.getElem?_eq_none h] at h3; cases h3
    rw [hs.2 g (by omega) hg]; exact h3
theorem slice_n {w : World} {base : Nat} {e : TypeId} {size : Nat} {v : Value} {n : Nat} {xs : List Value} (h : w.ownsRow base e size v n xs) : ∃ a cap, v = .slice a n cap := by
  rcases h.2 with ⟨h, h0⟩ | ⟨g, cap, cur, h, _⟩
  · exact ⟨none, 0, by rw [h, h0]⟩
  · exact ⟨_, _, h⟩
theorem lit1 {X : World} {v : Value} {t : TypeId} {j : Nat} {u : Value} (h : [v][j]? = some u) : (X.alloc (.cells #[v] t)).cell? ((⟨X.heap.size, 0, none⟩ : Addr).add j) = some u := by
  have e : (⟨X.heap.size, 0, none⟩ : Addr).add j = ⟨X.heap.size, 0 + j, none⟩ := by unfold Addr.add; split <;> simp_all
  rw [e, Nat.zero_add]
  exact ((Blk.new X #[v] t).cell j).trans (by simpa using h)
def cnt : List Entry → Nat
  | [] => 0
  | e :: st => e.1.count + cnt st
theorem todo_len : ∀ st : List Entry, (todo (st.map (·.1))).length = cnt st
  | [] => rfl
  | e :: st => by
    show (items e.1 ((st.map (·.1)).length + 1) ++ todo (st.map (·.1))).length = e.1.count + cnt st
    rw [List.length_append, items_len, todo_len st]
def StackOk (w0 : World) (st : List Entry) : Prop := ∀ e ∈ st, Fo e.2.1 e.1 w0 ∧ e.1.len ≤ e.2.2
def WalkAt {σ : Type} (stp : σ → Item → σ × Bool) (Inv : σ → World → Prop) (w0 : World) (B1 : Nat) (fin : σ) (gk : Nat) (left : Value) (wr : World) : Prop :=
  ∃ (st : List Entry) (s : σ), cnt st ≤ 1000000 ∧ st.length + cnt st ≤ 1000001 ∧ 2 * cnt st + st.length = gk ∧ StackOk w0 st ∧ wr.ownsRow B1 22 1 left st.length (rowOf st) ∧ tell stp s (todo (st.map (·.1))) = fin ∧ Inv s wr ∧ Below w0.heap.size w0 wr ∧ B1 ≤ wr.heap.size

theorem infoNodes0 : (Tryd.prog.info? 22).map (fun i => (i.zero, i.size, i.bytes)) = some (some (.slice none 0 0), 1, 24) := by kernel_rfl

/-! ### tree.Count -/
theorem wrap_one (x : Int) : IntKind.i64.wrap (IntKind.i64.wrap x + 1) = IntKind.i64.wrap (x + 1) := by
  simp [IntKind.wrap, IntKind.bits, IntKind.signed]; omega
theorem wrap_id (x : Nat) (h : x ≤ 1000000) : IntKind.i64.wrap (x : Int) = (x : Int) := by
  simp [IntKind.wrap, IntKind.bits, IntKind.signed]; omega
def CntAt (G c : Nat) (w : World) : Prop := Blk w G #[.int .i64 (IntKind.i64.wrap (c : Int))] 3
theorem tell_count : ∀ (l : List Item) (c : Nat), tell (fun (c : Nat) (_ : Item) => (c + 1, true)) c l = c + l.length
  | [], c => rfl
  | it :: l, c => by rw [tell, if_pos rfl, tell_count l (c + 1), List.length_cons]; omega
end Go.Proofs.YtemccomnhjhjeaaDoor

/-
  'tree.Depth': 'tree.walk' under its closure (made by mk_ywd.py).
-/
namespace Go.Proofs.YtemccomnhjhjeaaDoor
open Go.RowKit
set_option linter.unusedVariables false

/-! ### tree.counts, tree.Depth -/
def countsB (k : Int) : Bool := k != 2 && k != 3
def depStep (m : Nat) (it : Item) : Nat × Bool := (if countsB it.k = true then max m it.d else m, true)
def DepAt (G m : Nat) (w : World) : Prop := Blk w G #[.int .i64 (m : Int)] 3
end Go.Proofs.YtemccomnhjhjeaaDoor
