/-
  Several texts in one: what the functions of the program and of the document's answer do.
-/
import Derived.Test.YtbabmkilbbbmoaaDoorMgBE
import Derived.Test.YtbabmkilbbbmoaaDoorMgBD
import Derived.Test.YtbabmkilbbbmoaaDoorMgBB

/-
  What 'blend.one', 'blend.same' of texts and 'slices.EqualFunc' under it do.
-/
namespace Go.Proofs.YtbabmkilbbbmoaaDoor
open Go.RowKit
set_option linter.unusedVariables false
set_option linter.unusedSimpArgs false

theorem one_any (x : Int) (w : World) (h0 : 0 ≤ x) (h1 : x < 1000000000) :
    Calls Tryd.prog 107 #[.int .i64 x] w fun e w' => e = .returned (.agg #[.int .i64 x, .int .i64 (x + 1)]) ∧ Below w.heap.size w w' := by
  have hw : (x : Int) + 1 < 9223372036854775808 := by omega
  go_enter Tryd.func107, Tryd.ntmps107
  go_wp2
  refine bodyPost_ret (v := .agg #[.int .i64 x, .int .i64 (x + 1)]) (by simp [results, Tryd.results107, go_sem]) rfl ?_
  exact ⟨rfl, (Below.refl _ _).alloc (Nat.le_refl _) _⟩
theorem eqs_any (a b : ByteArray) (w : World) :
    Calls Tryd.prog 75 #[.string a, .string b] w fun e w' => e = .returned (.bool (decide (a = b))) ∧ Below w.heap.size w w' := by
  have he : (a.toList == b.toList) = decide (a = b) := by
    by_cases h : a = b
    · rw [beq_yes h, decide_eq_true h]
    · rw [beq_no h, decide_eq_false h]
  go_enter Tryd.func75, Tryd.ntmps75
  go_wp2
  go_ret
  exact ⟨rfl, Below.refl _ _⟩
def eqK (ta tb : List ByteArray) (k : Nat) : Prop := ∀ j, j < k → ta.getD j ByteArray.empty = tb.getD j ByteArray.empty
def fEq : Value := .func (Fn.func 75) #[] #[]
set_option maxHeartbeats 1000000 in
theorem eqfT_any (va vb : Value) (ta tb : List ByteArray) (w : World) (ha : View w va ta) (hb : View w vb tb) :
    Calls Tryd.prog 125 #[va, vb, .func (Fn.func 75) #[] #[]] w fun e w' => e = .returned (.bool (sameT ta tb)) ∧ Below w.heap.size w w' := by
  have HA := hide ha
  have HB := hide hb
  obtain ⟨hl1, a1, c1, rfl, _⟩ := ha
  obtain ⟨hl2, a2, c2, rfl, _⟩ := hb
  have hneq : ¬ ta.length = tb.length → sameT ta tb = false := fun h => sameT_false (fun e => h (by rw [e]))
  by_cases hl : ta.length = tb.length
  · have CC := hide (fun (k : Nat) w => eqs_any (ta.getD k ByteArray.empty) (tb.getD k ByteArray.empty) w)
    have hli : (ta.length : Int) = (tb.length : Int) := by omega
    have HF : Hid (eqK ta tb ta.length → sameT ta tb = true) := hide (fun h => sameT_true (same_of _ _ hl h))
    have HL := hide hl
    have HG : Hid (∀ k, ¬ ta.getD k ByteArray.empty = tb.getD k ByteArray.empty → sameT ta tb = false) := hide (fun k h => sameT_false (fun e => h (by rw [e])))
    generalize hst : sameT ta tb = st at *
    rw [← hl]
    clear hl hli hneq
    go_enter Tryd.func125, Tryd.ntmps125
    go_wp2
    go_loopw [17] (fun i wr => ∃ k : Nat, k ≤ ta.length ∧ i = .int .i64 k ∧ eqK ta tb k ∧ Below w.heap.size w wr) (fun i _ => ta.length - (intOf i).toNat)
    case atStart => exact ⟨0, Nat.zero_le _, rfl, fun j hj => absurd hj (Nat.not_lt_zero _), Below.refl _ _⟩
    case round =>
      obtain ⟨k, hk, rfl, hr, hbw⟩ := hrel
      have HR := hide hr
      clear hr
      by_cases hp : k < ta.length
      · have hpi : (k : Int) < (ta.length : Int) := by omega
        obtain ⟨_, a9, c9, e9, hc⟩ := view_below (unhide HA) hbw
        cases e9
        obtain ⟨b, off, rfl, hcell⟩ := hc (by omega)
        obtain ⟨_, a8, c8, e8, hc'⟩ := view_below (unhide HB) hbw
        cases e8
        obtain ⟨b', off', rfl, hcell'⟩ := hc' (by have := unhide HL; omega)
        have hck := hcell k hp
        have hck' := hcell' k (by have := unhide HL; omega)
        have C := hide (unhide CC k)
        have HR2 : Hid (ta.getD k ByteArray.empty = tb.getD k ByteArray.empty → eqK ta tb (k + 1)) := hide (fun hx j hj => by
          by_cases ej : j = k
          · rw [ej]; exact hx
          · exact unhide HR j (by omega))
        have HG2 := hide (unhide HG k)
        clear hcell hc hcell' hc'
        generalize ta.getD k ByteArray.empty = x at *
        generalize tb.getD k ByteArray.empty = y at *
        by_cases hx : x = y
        · rw [decide_eq_true hx] at C
          have H := hide (unhide HR2 hx)
          clear HR2 hx HG2
          go_wp2_with fail
          refine (unhide C _).mono ?_
          rintro e1 w1 ⟨rfl, hb1⟩
          go_wp2
          go_roundw
          case rel => exact ⟨k + 1, by omega, by go_num, unhide H, tr2 hbw hb1⟩
          case measure => simp [intOf]; omega
        · rw [decide_eq_false hx] at C
          have H := hide (unhide HG2 hx)
          clear HR2 hx HG2
          go_wp2_with fail
          refine (unhide C _).mono ?_
          rintro e1 w1 ⟨rfl, hb1⟩
          go_wp2
          go_ret
          exact ⟨by rw [unhide H]; rfl, tr2 hbw hb1⟩
      · have hkn : k = ta.length := by omega
        have H := hide (unhide HF (by rw [← hkn]; exact unhide HR))
        have hpi : ¬ (k : Int) < (ta.length : Int) := by omega
        go_wp2
        go_ret
        exact ⟨by rw [unhide H]; rfl, hbw⟩
  · rw [hneq hl]
    have hli : ¬ (ta.length : Int) = (tb.length : Int) := by omega
    have hlb : ((ta.length : Int) == (tb.length : Int)) = false := beq_eq_false_iff_ne.2 hli
    go_enter Tryd.func125, Tryd.ntmps125
    go_wp2
    go_ret
    exact ⟨rfl, Below.refl _ _⟩
theorem bsame_any (va vb : Value) (ta tb : List ByteArray) (w : World) (ha : View w va ta) (hb : View w vb tb) :
    Calls Tryd.prog 119 #[va, vb, .func (Fn.func 75) #[] #[]] w fun e w' => e = .returned (.bool (sameT ta tb)) ∧ Below w.heap.size w w' := by
  have C := hide (eqfT_any va vb ta tb w ha hb)
  obtain ⟨hl1, a1, c1, rfl, _⟩ := ha
  obtain ⟨hl2, a2, c2, rfl, _⟩ := hb
  generalize sameT ta tb = st at *
  go_enter Tryd.func119, Tryd.ntmps119
  go_wp2_with fail
  refine (unhide C).mono ?_
  rintro e1 w1 ⟨rfl, hb1⟩
  go_wp2
  go_ret
  exact ⟨rfl, hb1⟩
end Go.Proofs.YtbabmkilbbbmoaaDoor

/-
  Parts in memory; blend's three lists in memory; slices of texts, cut.
-/
namespace Go.Proofs.YtbabmkilbbbmoaaDoor
open Go.RowKit
set_option linter.unusedVariables false
set_option linter.unusedSimpArgs false

def sub (l : List ByteArray) (i x : Nat) : List ByteArray := (l.take x).drop i
def smT (o a b : List ByteArray) : Sms := ⟨fun i i' j j' => sameT (sub a j j') (sub o i i'), fun i i' k k' => sameT (sub b k k') (sub o i i'), fun j j' k k' => sameT (sub a j j') (sub b k k')⟩
theorem sub_len (l : List ByteArray) (i x : Nat) (h : x ≤ l.length) : (sub l i x).length = x - i := by unfold sub; rw [List.length_drop, List.length_take]; omega
theorem run_partT (q : Option Addr) (n c s x : Nat) (h : s ≤ x) (hx : x ≤ c) (w : World) : (Instr.slice 62 (.slice q n c) (some (.int .i64 (s : Int))) (some (.int .i64 (x : Int))) none).run Tryd.prog w = .ok (.slice (fromQ q s c) (x - s) (c - s)) w := by
  have ht : Tryd.prog.underlying 62 = some (.slice (Tryd.prog.elem 62)) := by kernel_rfl
  have hs : (sizeOf (Tryd.prog.elem 62)).run Tryd.prog w = .ok 1 w := by kernel_rfl
  rw [run_slice_lh w 62 q n c ht .i64 .i64 (s : Int) (x : Int) (by omega) (by omega) (by omega), hs]
  simp [Result.andThen, sliced, fromQ]
theorem view_part {w : World} {q : Option Addr} {n c : Nat} {ss : List ByteArray} (h : View w (.slice q n c) ss) {i x : Nat} (hi : i ≤ x) (hx : x ≤ n) (hc : n ≤ c) : View w (.slice (fromQ q i c) (x - i) (c - i)) (sub ss i x) := by
  obtain ⟨h1, a, cap, he, hx'⟩ := h
  cases he
  have hl : (sub ss i x).length = x - i := sub_len ss i x hx
  refine ⟨by rw [hl]; omega, _, _, by rw [hl], fun h0 => ?_⟩
  rw [hl] at h0
  obtain ⟨b, off, rfl, hcell⟩ := hx' (by omega)
  refine ⟨b, off + i, ?_, fun k hk => ?_⟩
  · unfold fromQ
    rw [if_neg (by omega)]
    simp [Addr.add]
  · rw [hl] at hk
    have := hcell (i + k) (by omega)
    rw [Nat.add_assoc, this]
    simp [sub, List.getD, List.getElem?_drop, List.getElem?_take]
    rw [if_pos (by omega)]

/-- blend's three lists, in a block. -/
def ThreeV (w : World) (tb : Nat) (qo qa qb : Option Addr) (co ca cb : Nat) (o a b : List ByteArray) : Prop :=
  w.cell? ⟨tb, 0, none⟩ = some (.slice qo o.length co) ∧ w.cell? ⟨tb, 1, none⟩ = some (.slice qa a.length ca) ∧ w.cell? ⟨tb, 2, none⟩ = some (.slice qb b.length cb) ∧ w.cell? ⟨tb, 3, none⟩ = some (.func (Fn.func 75) #[] #[]) ∧
  View w (.slice qo o.length co) o ∧ View w (.slice qa a.length ca) a ∧ View w (.slice qb b.length cb) b ∧ o.length ≤ co ∧ a.length ≤ ca ∧ b.length ≤ cb

/-! ### parts in memory -/
def ptL (p : PT) : List Value := [.int .i64 p.1, .int .i64 p.2.1.1, .int .i64 p.2.1.2, .int .i64 p.2.2.1.1, .int .i64 p.2.2.1.2, .int .i64 p.2.2.2.1, .int .i64 p.2.2.2.2]
def flat7 (f : PT → List Value) : List PT → List Value
  | [] => []
  | p :: r => f p ++ flat7 f r
theorem flat7_app (f : PT → List Value) (a b : List PT) : flat7 f (a ++ b) = flat7 f a ++ flat7 f b := by
  induction a with
  | nil => rfl
  | cons e r ih => simp only [List.cons_append, flat7, ih, List.append_assoc]
theorem flat7_len (f : PT → List Value) (hf : ∀ p, (f p).length = 7) (L : List PT) : (flat7 f L).length = L.length * 7 := by
  induction L with
  | nil => rfl
  | cons e r ih => simp only [flat7, List.length_append, ih, List.length_cons, hf]; omega
def p7 : PT := (0, (0, 0), (0, 0), (0, 0))
theorem flat7_split (f : PT → List Value) (hf : ∀ p, (f p).length = 7) (L : List PT) (k : Nat) (h : k < L.length) (j : Nat) (hj : j < 7) : (flat7 f L)[k * 7 + j]? = (f (L.getD k p7))[j]? := by
  induction L generalizing k with
  | nil => cases h
  | cons e r ih =>
    cases k with
    | zero =>
      rw [Nat.zero_mul, Nat.zero_add, flat7, List.getElem?_append_left (by rw [hf]; exact hj)]
      rfl
    | succ k =>
      have e1 : (k + 1) * 7 + j = 7 + (k * 7 + j) := by omega
      rw [e1, flat7, List.getElem?_append_right (by rw [hf]; omega), hf]
      have e2 : 7 + (k * 7 + j) - 7 = k * 7 + j := by omega
      rw [e2]
      exact ih k (by simpa using h)
theorem infoPart0 : (Tryd.prog.info? 99).map (fun i => (i.zero, i.size, i.bytes)) = some (some (.agg #[.int .i64 0, .int .i64 0, .int .i64 0, .int .i64 0, .int .i64 0, .int .i64 0, .int .i64 0]), 7, 56) := by kernel_rfl
theorem infoPart : ∃ i, Tryd.prog.info? 99 = some i ∧ i.zero = some (.agg #[.int .i64 0, .int .i64 0, .int .i64 0, .int .i64 0, .int .i64 0, .int .i64 0, .int .i64 0]) ∧ i.size = 7 ∧ i.bytes = 56 := by
  have h := infoPart0
  cases hi : Tryd.prog.info? 99 with
  | none => rw [hi] at h; cases h
  | some i =>
    rw [hi] at h
    simp only [Option.map_some, Option.some.injEq, Prod.mk.injEq] at h
    exact ⟨i, rfl, h.1, h.2.1, h.2.2⟩
def PartsV (w : World) (base : Nat) (u : Value) (L : List PT) : Prop := w.ownsRow base 99 7 u L.length (flat7 ptL L)
theorem ptL_len (p : PT) : (ptL p).length = 7 := rfl
theorem parts_snoc {w : World} {base : Nat} {u : Value} {L : List PT} {p : PT} (h : w.ownsRow base 99 7 u (L.length + 1) (flat7 ptL L ++ ptL p)) : PartsV w base u (L ++ [p]) := by
  unfold PartsV
  rw [List.length_append, flat7_app]
  simpa [flat7] using h
theorem cell_seven_new (w : World) (x0 x1 x2 x3 x4 x5 x6 : Value) (t : TypeId) : ∀ j u, [x0, x1, x2, x3, x4, x5, x6][j]? = some u → (w.alloc (Obj.cells #[x0, x1, x2, x3, x4, x5, x6] t)).cell? ((⟨w.heap.size, 0, none⟩ : Addr).add j) = some u := by
  intro j u h
  have e : (⟨w.heap.size, 0, none⟩ : Addr).add j = ⟨w.heap.size, 0 + j, none⟩ := by unfold Addr.add; split <;> simp_all
  rw [e, Nat.zero_add]
  exact ((Blk.new w #[x0, x1, x2, x3, x4, x5, x6] t).cell j).trans (by simpa using h)


end Go.Proofs.YtbabmkilbbbmoaaDoor
