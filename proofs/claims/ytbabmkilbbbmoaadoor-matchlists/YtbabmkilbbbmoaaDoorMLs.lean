/-
  What holds on the way of match's line.
-/
import Derived.Test.YtbabmkilbbbmoaaDoorMgAD
import Derived.Deep.RegionWith
namespace Go.Proofs.YtbabmkilbbbmoaaDoor
open Go.RowKit
set_option linter.unusedVariables false
set_option linter.unusedSimpArgs false

/-- Pairs as cells. -/
def pairL (p : Int × Int × Bool) : List Value := [.int .i64 p.1, .int .i64 p.2.1, .bool p.2.2]
def flatP : List (Int × Int × Bool) → List Value
  | [] => []
  | p :: r => pairL p ++ flatP r
theorem flatP_app (a b : List (Int × Int × Bool)) : flatP (a ++ b) = flatP a ++ flatP b := by
  induction a with
  | nil => rfl
  | cons e r ih => simp only [List.cons_append, flatP, ih, List.append_assoc]
theorem flatP_len (L : List (Int × Int × Bool)) : (flatP L).length = L.length * 3 := by
  induction L with
  | nil => rfl
  | cons e r ih => simp only [flatP, List.length_append, ih, List.length_cons, pairL, List.length_nil]; omega
theorem mfoPair0 : (Tryd.prog.info? 37).map (fun i => (i.zero, i.size, i.bytes)) = some (some (.agg #[.int .i64 0, .int .i64 0, .bool false]), 3, 24) := by kernel_rfl
theorem mfoPair : ∃ i, Tryd.prog.info? 37 = some i ∧ i.zero = some (.agg #[.int .i64 0, .int .i64 0, .bool false]) ∧ i.size = 3 ∧ i.bytes = 24 := by
  have h := mfoPair0
  cases hi : Tryd.prog.info? 37 with
  | none => rw [hi] at h; cases h
  | some i =>
    rw [hi] at h
    simp only [Option.map_some, Option.some.injEq, Prod.mk.injEq] at h
    exact ⟨i, rfl, h.1, h.2.1, h.2.2⟩
def PairsV (w : World) (base : Nat) (u : Value) (L : List (Int × Int × Bool)) : Prop := w.ownsRow base 37 3 u L.length (flatP L)
theorem cell_three_new (w : World) (x y z : Value) (t : TypeId) : ∀ j u, [x, y, z][j]? = some u → (w.alloc (Obj.cells #[x, y, z] t)).cell? ((⟨w.heap.size, 0, none⟩ : Addr).add j) = some u := by
  intro j u h
  have e : (⟨w.heap.size, 0, none⟩ : Addr).add j = ⟨w.heap.size, j, none⟩ := by unfold Addr.add; split <;> simp_all
  rw [e]
  rcases j with _ | _ | _ | j
  · simp at h; subst h; exact World.cell?_alloc_at _ _ _ _ rfl
  · simp at h; subst h; exact World.cell?_alloc_at _ _ _ _ rfl
  · simp at h; subst h; exact World.cell?_alloc_at _ _ _ _ rfl
  · simp at h
theorem owns_away {w : World} {base : Nat} {e : TypeId} {size : Nat} {v : Value} {n : Nat} {xs : List Value} (h : w.ownsRow base e size v n xs) {c o : Nat} {x : Value} (hc : ∀ k, some k = v.ownBlock → k ≠ c) : (w.setCell ⟨c, o, none⟩ x).ownsRow base e size v n xs := by
  obtain ⟨hl, h⟩ := h
  refine ⟨hl, ?_⟩
  rcases h with h | ⟨g, cap, cur, h1, h2, h3, h4, h5, h6, h7⟩
  · exact .inl h
  · refine .inr ⟨g, cap, cur, h1, h2, ?_, h4, h5, h6, h7⟩
    have hg : g ≠ c := hc g (by rw [h1]; rfl)
    rw [Below.heap_setCell w ⟨c, o, none⟩ x g hg]; exact h3
def whP (L : List (Nat × Nat)) : List (Int × Int × Bool) := L.map (fun p => ((p.1 : Int), (p.2 : Int), true))

/-- Where a slice of one-cell elements begins that is cut at its front. -/
def fromQ (q : Option Addr) (s c : Nat) : Option Addr := if c = s then q else q.map (·.add (s * 1))
theorem run_from (q : Option Addr) (n c s : Nat) (h : s ≤ n) (w : World) : (Instr.slice 38 (.slice q n c) (some (.int .i64 (s : Int))) none none).run Tryd.prog w = .ok (.slice (fromQ q s c) (n - s) (c - s)) w := by
  have ht : Tryd.prog.underlying 38 = some (.slice (Tryd.prog.elem 38)) := by kernel_rfl
  have hs : (sizeOf (Tryd.prog.elem 38)).run Tryd.prog w = .ok 1 w := by kernel_rfl
  rw [run_slice_l w 38 q n c ht .i64 (s : Int) (by omega) (by omega), hs]
  simp [Result.andThen, sliced, fromQ]
theorem intsV_from {q : Option Addr} {n c s : Nat} {zs : List Int} {w : World} (h : MtsV q n zs w) (hs : s ≤ n) (hc : n ≤ c) : MtsV (fromQ q s c) (n - s) (zs.drop s) w := by
  obtain ⟨h1, h2⟩ := h
  refine ⟨by rw [List.length_drop, ← h1], fun h0 => ?_⟩
  obtain ⟨g, o, rfl, h3⟩ := h2 (by omega)
  refine ⟨g, o + s, ?_, fun j hj => ?_⟩
  · unfold fromQ
    rw [if_neg (by omega)]
    simp [Addr.add]
  · have := h3 (s + j) (by omega)
    rw [Nat.add_assoc, this]
    simp [List.getD, List.getElem?_drop]
theorem eqZ_from (za zb : List Int) (s : Nat) : eqZ (za.drop s) (zb.drop s) = fun a b => eqZ za zb (s + a) (s + b) := by
  funext a b
  unfold eqZ
  simp [List.getD, List.getElem?_drop]
theorem lnP_front (E : Nat → Nat → Bool) (n m : Nat) : ∀ s, s ≤ n → s ≤ m → (∀ k, k < s → E k k = true) → (List.range s).map (fun k => (k, k)) ++ lnP E n m s s = lnP E n m 0 0
  | 0, _, _, _ => rfl
  | s + 1, h1, h2, h => by
    rw [← lnP_front E n m s (by omega) (by omega) (fun k hk => h k (by omega)), List.range_succ, List.map_append, List.append_assoc, lnP_yes E n m s s (by omega) (by omega) (h s (by omega))]
    rfl
theorem lnP_start (za zb : List Int) (n m s : Nat) (h1 : s ≤ n) (h2 : s ≤ m) (h : ∀ k, k < s → eqZ za zb k k = true) : (List.range s).map (fun k => (k, k)) ++ lnP (eqZ za zb) n m s s = lnP (eqZ za zb) n m 0 0 := lnP_front _ n m s h1 h2 h
theorem goB_from (za zb : List Int) (n m s i j : Nat) (hi : s ≤ i) (hj : s ≤ j) : goB (eqZ (za.drop s) (zb.drop s)) (n - s) (m - s) (i - s) (j - s) = goB (eqZ za zb) n m i j := by
  unfold goB
  rw [eqZ_from, lcB_from, lcB_from]
  show (!eqZ za zb (s + (i - s)) (s + (j - s)) && _) = _
  rw [show s + (i - s) = i by omega, show s + (j - s) = j by omega, show s + (i - s + 1) = i + 1 by omega, show s + (j - s + 1) = j + 1 by omega]
theorem owns_block {w : World} {base : Nat} {e : TypeId} {size : Nat} {v : Value} {n : Nat} {xs : List Value} (h : w.ownsRow base e size v n xs) {k : Nat} (hk : v.ownBlock = some k) : ∃ cur, w.heap[k]? = some (.cells cur e (0, 0)) := by
  rcases h.2 with ⟨rfl, _⟩ | ⟨g, cap, cur, rfl, _, h3, _⟩
  · cases hk
  · simp only [Value.ownBlock, Option.some.injEq] at hk
    subst hk
    exact ⟨cur, h3⟩
structure LnSt (za zb : List Int) (n m s cbk g P : Nat) (w : World) (i j : Nat) (L : List (Nat × Nat)) (u : Value) (wx : World) : Prop where
  row : PairsV wx w.heap.size u (whP L)
  eq : L ++ lnP (eqZ za zb) n m i j = lnP (eqZ za zb) n m 0 0
  k : Blk wx cbk #[.int .i64 ((m - s : Nat) : Int), .slice (some ⟨g, 0, none⟩) ((P + 63) / 64) ((P + 63) / 64)] 151
  pm : (n - s) * (m - s) = P
  bt : BitsAt (eqZ (za.drop s) (zb.drop s)) (n - s) (m - s) P g wx (fun _ _ => true)
  ne : w.heap.size ≤ cbk ∧ w.heap.size ≤ g
  bl : Below w.heap.size w wx
theorem LnSt.len {za zb : List Int} {n m s cbk g P : Nat} {w : World} {i j : Nat} {L : List (Nat × Nat)} {u : Value} {wx : World} (h : LnSt za zb n m s cbk g P w i j L u wx) : L.length ≤ n := by
  have h1 := congrArg List.length h.eq
  have h2 := lnP_small (eqZ za zb) n m 0 0
  rw [List.length_append] at h1
  omega
theorem LnSt.drew {za zb : List Int} {n m s cbk g P : Nat} {w : World} {i j : Nat} {L : List (Nat × Nat)} {u : Value} {wx : World} (h : LnSt za zb n m s cbk g P w i j L u wx) : LnSt za zb n m s cbk g P w i j L u wx.drew := by
  obtain ⟨h1, h2, h3, h4, ⟨X, x1, x2, x3⟩, h6, h7⟩ := h
  exact ⟨h1, h2, h3, h4, ⟨X, x1.drew, x2, x3⟩, h6, h7.drew⟩
theorem LnSt.go {za zb : List Int} {n m s cbk g P : Nat} {w : World} {i j i' j' : Nat} {L : List (Nat × Nat)} {u : Value} {wx : World} (h : LnSt za zb n m s cbk g P w i j L u wx) (he : lnP (eqZ za zb) n m i j = lnP (eqZ za zb) n m i' j') : LnSt za zb n m s cbk g P w i' j' L u wx := by
  obtain ⟨h1, h2, h3, h4, h5, h6, h7⟩ := h
  exact ⟨h1, by rw [← he]; exact h2, h3, h4, h5, h6, h7⟩
theorem LnSt.asks {za zb : List Int} {n m s cbk g P : Nat} {w : World} {i j i' j' k1 k2 : Nat} {L : List (Nat × Nat)} {u : Value} {wx : World} (h : LnSt za zb n m s cbk g P w k1 k2 L u wx) (hi : i - s = i') (hj : j - s = j') (h1 : s ≤ i) (h2 : s ≤ j) (h3 : i < n) (h4 : j < m) :
    i' * (m - s) + j' < P ∧ ∃ x : Nat, x < 18446744073709551616 ∧ wx.cell? ⟨g, (i' * (m - s) + j') / 64, none⟩ = some (.int .u64 (x : Int)) ∧ x.testBit ((i' * (m - s) + j') % 64) = goB (eqZ za zb) n m i j := by
  obtain ⟨_, _, _, hp, ⟨X, x1, x2, x3⟩, _, _⟩ := h
  subst hi hj
  have hlt : (i - s) * (m - s) + (j - s) < P := by
    have : (i - s + 1) * (m - s) ≤ (n - s) * (m - s) := Nat.mul_le_mul_right _ (by omega)
    rw [Nat.add_mul, Nat.one_mul] at this
    omega
  refine ⟨hlt, X (((i - s) * (m - s) + (j - s)) / 64), x2 _, x1.cell (by omega), ?_⟩
  rw [x3 (i - s) (j - s) (by omega) (by omega), goB_from _ _ _ _ _ _ _ h1 h2, Bool.true_and]
/-- A pair more. -/
theorem LnSt.more {za zb : List Int} {n m s cbk g P : Nat} {w : World} {i j i2 j2 : Nat} {L : List (Nat × Nat)} {u u' : Value} {wx w3 : World} {vs : Array Value} {t : TypeId} (h : LnSt za zb n m s cbk g P w i j L u wx) (he : lnP (eqZ za zb) n m i j = (i, j) :: lnP (eqZ za zb) n m i2 j2)
    (hown : w3.ownsRow w.heap.size 37 3 u' ((whP L).length + 1) (flatP (whP L) ++ [.int .i64 (i : Int), .int .i64 (j : Int), .bool true])) (hgr : (wx.alloc (Obj.cells vs t)).grownBy w3 u.ownBlock) : LnSt za zb n m s cbk g P w i2 j2 (L ++ [(i, j)]) u' w3 := by
  obtain ⟨h1, h2, h3, h4, ⟨X, x1, x2, x3⟩, h6, h7⟩ := h
  have hz := h7.size
  have hrow : (wx.alloc (Obj.cells vs t)).ownsRow w.heap.size 37 3 u (whP L).length (flatP (whP L)) := World.ownsRow.alloc h1 _
  have hk3 := h3.alloc (Obj.cells vs t)
  have hx1 := x1.alloc (Obj.cells vs t)
  have hne : ∀ k, some k = u.ownBlock → k ≠ cbk ∧ k ≠ g ∧ w.heap.size ≤ k := by
    intro k hk
    obtain ⟨cur, hc⟩ := owns_block hrow hk.symm
    refine ⟨?_, ?_, (hrow.lt k hk.symm).1⟩
    · rintro rfl
      have := hc.symm.trans hk3
      simp at this
    · rintro rfl
      obtain ⟨cs, q1, _⟩ := hx1
      have := hc.symm.trans q1
      simp at this
  have hm : whP (L ++ [(i, j)]) = whP L ++ [((i : Int), (j : Int), true)] := by unfold whP; rw [List.map_append]; rfl
  refine ⟨?_, ?_, ?_, h4, ⟨X, ?_, x2, x3⟩, h6, ?_⟩
  · unfold PairsV
    rw [hm, flatP_app, List.length_append]
    exact hown
  · rw [← h2, he, List.append_assoc]; rfl
  · exact (hgr.block cbk hk3.lt (fun e => (hne _ e).1 rfl)).trans hk3
  · exact hx1.of_block (hgr.block g hx1.lt (fun e => (hne _ e).2.1 rfl))
  · exact (h7.alloc hz _).grown hgr (by simp; omega) (fun k hk => (hne k hk.symm).2.2)

theorem LnSt.start1 {za zb : List Int} {n m s g P : Nat} {w wr w2 : World} {u : Value} (h1 : s ≤ n) (h2 : s ≤ m) (hall : ∀ k, k < s → eqZ za zb k k = true) (hr : PairsV wr w.heap.size u (whP ((List.range s).map (fun k => (k, k))))) (hbl : Below w.heap.size w wr) (hP : (n - s) * (m - s) = P) (hg : wr.heap.size ≤ g) (hb : BitsAt (eqZ (za.drop s) (zb.drop s)) (n - s) (m - s) P g w2 (fun _ _ => true)) (hb2 : Below wr.heap.size wr w2) :
    LnSt za zb n m s w2.heap.size g P w s s ((List.range s).map (fun k => (k, k))) u (w2.alloc (Obj.cells #[.int .i64 ((m - s : Nat) : Int), .slice (some ⟨g, 0, none⟩) ((P + 63) / 64) ((P + 63) / 64)] 151)) := by
  have z1 := hbl.size
  have z2 := hb2.size
  obtain ⟨X, x1, x2, x3⟩ := hb
  exact ⟨World.ownsRow.alloc (ownsRow_below hr hb2) _, lnP_start za zb n m s h1 h2 hall, Blk.new _ _ _, hP, ⟨X, x1.alloc _, x2, x3⟩, ⟨by omega, by omega⟩, (hbl.trans (hb2.mono z1)).alloc (by omega) _⟩
theorem LnSt.start2 {za zb : List Int} {n m s g P c : Nat} {w wr w2 : World} {u : Value} (h1 : s ≤ n) (h2 : s ≤ m) (hall : ∀ k, k < s → eqZ za zb k k = true) (hr : PairsV wr w.heap.size u (whP ((List.range s).map (fun k => (k, k))))) (hbl : Below w.heap.size w wr) (hP : (n - s) * (m - s) = P) (hg : wr.heap.size ≤ g) (hb : BitsAt (eqZ (za.drop s) (zb.drop s)) (n - s) (m - s) P g w2 (fun _ _ => true)) (hb2 : Below wr.heap.size wr w2) (hk : Blk wr c #[.int .i64 0, .slice none 0 0] 151) (hc : w.heap.size ≤ c) :
    LnSt za zb n m s c g P w s s ((List.range s).map (fun k => (k, k))) u ((w2.setCell ⟨c, 0, none⟩ (.int .i64 ((m - s : Nat) : Int))).setCell ⟨c, 1, none⟩ (.slice (some ⟨g, 0, none⟩) ((P + 63) / 64) ((P + 63) / 64))) := by
  have z1 := hbl.size
  have z2 := hb2.size
  have hcl := hk.lt
  obtain ⟨X, x1, x2, x3⟩ := hb
  have hr2 := ownsRow_below hr hb2
  have hk2 := hk.later hb2
  refine ⟨?_, lnP_start za zb n m s h1 h2 hall, (hk2.set 0 (by simp) _).set 1 (by simp) _, hP, ⟨X, (x1.setOther (by show g ≠ c; omega) _).setOther (by show g ≠ c; omega) _, x2, x3⟩, ⟨hc, by omega⟩, ((hbl.trans (hb2.mono z1)).setCell (p := ⟨c, 0, none⟩) hc _).setCell (p := ⟨c, 1, none⟩) hc _⟩
  have hne : ∀ k, some k = u.ownBlock → k ≠ c := by
    intro k hk'
    obtain ⟨cur, hcu⟩ := owns_block hr2 hk'.symm
    rintro rfl
    have := hcu.symm.trans hk2
    simp at this
  exact owns_away (owns_away hr2 hne) hne
end Go.Proofs.YtbabmkilbbbmoaaDoor
