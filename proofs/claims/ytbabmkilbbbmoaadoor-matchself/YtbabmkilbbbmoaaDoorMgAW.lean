/-
  Several texts in one: what the functions of the program and of the document's answer do.
-/
import Derived.Test.YtbabmkilbbbmoaaDoorMgAV
import Derived.Deep.RegionWith

/-
  What holds on the way of match's line.
-/
namespace Go.Proofs.YtbabmkilbbbmoaaDoor
open Go.RowKit
set_option linter.unusedVariables false
set_option linter.unusedSimpArgs false

/-- Pairs as cells. -/
def pairL (p : Int × Int × Bool) : List Value := [.int .i64 p.1, .int .i64 p.2.1, .bool p.2.2]
def flatP : List (Int × Int × Bool) → List Value
  | [] => []
  | p :: r => pairL p ++ flatP r
theorem flatP_app (a b : List (Int × Int × Bool)) : flatP (a ++ b) = flatP a ++ flatP b := by
  induction a with
  | nil => rfl
  | cons e r ih => simp only [List.cons_append, flatP, ih, List.append_assoc]
theorem flatP_len (L : List (Int × Int × Bool)) : (flatP L).length = L.length * 3 := by
  induction L with
  | nil => rfl
  | cons e r ih => simp only [flatP, List.length_append, ih, List.length_cons, pairL, List.length_nil]; omega
theorem mfoPair0 : (Tryd.prog.info? 37).map (fun i => (i.zero, i.size, i.bytes)) = some (some (.agg #[.int .i64 0, .int .i64 0, .bool false]), 3, 24) := by kernel_rfl
theorem mfoPair : ∃ i, Tryd.prog.info? 37 = some i ∧ i.zero = some (.agg #[.int .i64 0, .int .i64 0, .bool false]) ∧ i.size = 3 ∧ i.bytes = 24 := by
  have h := mfoPair0
  cases hi : Tryd.prog.info? 37 with
  | none => rw [hi] at h; cases h
  | some i =>
    rw [hi] at h
    simp only [Option.map_some, Option.some.injEq, Prod.mk.injEq] at h
    exact ⟨i, rfl, h.1, h.2.1, h.2.2⟩
def PairsV (w : World) (base : Nat) (u : Value) (L : List (Int × Int × Bool)) : Prop := w.ownsRow base 37 3 u L.length (flatP L)
theorem cell_three_new (w : World) (x y z : Value) (t : TypeId) : ∀ j u, [x, y, z][j]? = some u → (w.alloc (Obj.cells #[x, y, z] t)).cell? ((⟨w.heap.size, 0, none⟩ : Addr).add j) = some u := by
  intro j u h
  have e : (⟨w.heap.size, 0, none⟩ : Addr).add j = ⟨w.heap.size, j, none⟩ := by unfold Addr.add; split <;> simp_all
  rw [e]
  rcases j with _ | _ | _ | j
  · simp at h; subst h; exact World.cell?_alloc_at _ _ _ _ rfl
  · simp at h; subst h; exact World.cell?_alloc_at _ _ _ _ rfl
  · simp at h; subst h; exact World.cell?_alloc_at _ _ _ _ rfl
  · simp at h
theorem owns_away {w : World} {base : Nat} {e : TypeId} {size : Nat} {v : Value} {n : Nat} {xs : List Value} (h : w.ownsRow base e size v n xs) {c o : Nat} {x : Value} (hc : ∀ k, some k = v.ownBlock → k ≠ c) : (w.setCell ⟨c, o, none⟩ x).ownsRow base e size v n xs := by
  obtain ⟨hl, h⟩ := h
  refine ⟨hl, ?_⟩
  rcases h with h | ⟨g, cap, cur, h1, h2, h3, h4, h5, h6, h7⟩
  · exact .inl h
  · refine .inr ⟨g, cap, cur, h1, h2, ?_, h4, h5, h6, h7⟩
    have hg : g ≠ c := hc g (by rw [h1]; rfl)
    rw [Below.heap_setCell w ⟨c, o, none⟩ x g hg]; exact h3
def whP (L : List (Nat × Nat)) : List (Int × Int × Bool) := L.map (fun p => ((p.1 : Int), (p.2 : Int), true))

/-- Where a slice of one-cell elements begins that is cut at its front. -/
def fromQ (q : Option Addr) (s c : Nat) : Option Addr := if c = s then q else q.map (·.add (s * 1))
theorem run_from (q : Option Addr) (n c s : Nat) (h : s ≤ n) (w : World) : (Instr.slice 38 (.slice q n c) (some (.int .i64 (s : Int))) none none).run Tryd.prog w = .ok (.slice (fromQ q s c) (n - s) (c - s)) w := by
  have ht : Tryd.prog.underlying 38 = some (.slice (Tryd.prog.elem 38)) := by kernel_rfl
  have hs : (sizeOf (Tryd.prog.elem 38)).run Tryd.prog w = .ok 1 w := by kernel_rfl
  rw [run_slice_l w 38 q n c ht .i64 (s : Int) (by omega) (by omega), hs]
  simp [Result.andThen, sliced, fromQ]
theorem intsV_from {q : Option Addr} {n c s : Nat} {zs : List Int} {w : World} (h : MtsV q n zs w) (hs : s ≤ n) (hc : n ≤ c) : MtsV (fromQ q s c) (n - s) (zs.drop s) w := by
  obtain ⟨h1, h2⟩ := h
  refine ⟨by rw [List.length_drop, ← h1], fun h0 => ?_⟩
  obtain ⟨g, o, rfl, h3⟩ := h2 (by omega)
  refine ⟨g, o + s, ?_, fun j hj => ?_⟩
  · unfold fromQ
    rw [if_neg (by omega)]
    simp [Addr.add]
  · have := h3 (s + j) (by omega)
    rw [Nat.add_assoc, this]
    simp [List.getD, List.getElem?_drop]
theorem eqZ_from (za zb : List Int) (s : Nat) : eqZ (za.drop s) (zb.drop s) = fun a b => eqZ za zb (s + a) (s + b) := by
  funext a b
  unfold eqZ
  simp [List.getD, List.getElem?_drop]
theorem lnP_front (E : Nat → Nat → Bool) (n m : Nat) : ∀ s, s ≤ n → s ≤ m → (∀ k, k < s → E k k = true) → (List.range s).map (fun k => (k, k)) ++ lnP E n m s s = lnP E n m 0 0
  | 0, _, _, _ => rfl
  | s + 1, h1, h2, h => by
    rw [← lnP_front E n m s (by omega) (by omega) (fun k hk => h k (by omega)), List.range_succ, List.map_append, List.append_assoc, lnP_yes E n m s s (by omega) (by omega) (h s (by omega))]
    rfl
theorem lnP_start (za zb : List Int) (n m s : Nat) (h1 : s ≤ n) (h2 : s ≤ m) (h : ∀ k, k < s → eqZ za zb k k = true) : (List.range s).map (fun k => (k, k)) ++ lnP (eqZ za zb) n m s s = lnP (eqZ za zb) n m 0 0 := lnP_front _ n m s h1 h2 h
theorem goB_from (za zb : List Int) (n m s i j : Nat) (hi : s ≤ i) (hj : s ≤ j) : goB (eqZ (za.drop s) (zb.drop s)) (n - s) (m - s) (i - s) (j - s) = goB (eqZ za zb) n m i j := by
  unfold goB
  rw [eqZ_from, lcB_from, lcB_from]
  show (!eqZ za zb (s + (i - s)) (s + (j - s)) && _) = _
  rw [show s + (i - s) = i by omega, show s + (j - s) = j by omega, show s + (i - s + 1) = i + 1 by omega, show s + (j - s + 1) = j + 1 by omega]
theorem owns_block {w : World} {base : Nat} {e : TypeId} {size : Nat} {v : Value} {n : Nat} {xs : List Value} (h : w.ownsRow base e size v n xs) {k : Nat} (hk : v.ownBlock = some k) : ∃ cur, w.heap[k]? = some (.cells cur e (0, 0)) := by
  rcases h.2 with ⟨rfl, _⟩ | ⟨g, cap, cur, rfl, _, h3, _⟩
  · cases hk
  · simp only [Value.ownBlock, Option.some.injEq] at hk
    subst hk
    exact ⟨cur, h3⟩
structure LnSt (za zb : List Int) (n m s cbk g P : Nat) (w : World) (i j : Nat) (L : List (Nat × Nat)) (u : Value) (wx : World) : Prop where
  row : PairsV wx w.heap.size u (whP L)
  eq : L ++ lnP (eqZ za zb) n m i j = lnP (eqZ za zb) n m 0 0
  k : Blk wx cbk #[.int .i64 ((m - s : Nat) : Int), .slice (some ⟨g, 0, none⟩) ((P + 63) / 64) ((P + 63) / 64)] 151
  pm : (n - s) * (m - s) = P
  bt : BitsAt (eqZ (za.drop s) (zb.drop s)) (n - s) (m - s) P g wx (fun _ _ => true)
  ne : w.heap.size ≤ cbk ∧ w.heap.size ≤ g
  bl : Below w.heap.size w wx
theorem LnSt.len {za zb : List Int} {n m s cbk g P : Nat} {w : World} {i j : Nat} {L : List (Nat × Nat)} {u : Value} {wx : World} (h : LnSt za zb n m s cbk g P w i j L u wx) : L.length ≤ n := by
  have h1 := congrArg List.length h.eq
  have h2 := lnP_small (eqZ za zb) n m 0 0
  rw [List.length_append] at h1
  omega
theorem LnSt.drew {za zb : List Int} {n m s cbk g P : Nat} {w : World} {i j : Nat} {L : List (Nat × Nat)} {u : Value} {wx : World} (h : LnSt za zb n m s cbk g P w i j L u wx) : LnSt za zb n m s cbk g P w i j L u wx.drew := by
  obtain ⟨h1, h2, h3, h4, ⟨X, x1, x2, x3⟩, h6, h7⟩ := h
  exact ⟨h1, h2, h3, h4, ⟨X, x1.drew, x2, x3⟩, h6, h7.drew⟩
theorem LnSt.go {za zb : List Int} {n m s cbk g P : Nat} {w : World} {i j i' j' : Nat} {L : List (Nat × Nat)} {u : Value} {wx : World} (h : LnSt za zb n m s cbk g P w i j L u wx) (he : lnP (eqZ za zb) n m i j = lnP (eqZ za zb) n m i' j') : LnSt za zb n m s cbk g P w i' j' L u wx := by
  obtain ⟨h1, h2, h3, h4, h5, h6, h7⟩ := h
  exact ⟨h1, by rw [← he]; exact h2, h3, h4, h5, h6, h7⟩
theorem LnSt.asks {za zb : List Int} {n m s cbk g P : Nat} {w : World} {i j i' j' k1 k2 : Nat} {L : List (Nat × Nat)} {u : Value} {wx : World} (h : LnSt za zb n m s cbk g P w k1 k2 L u wx) (hi : i - s = i') (hj : j - s = j') (h1 : s ≤ i) (h2 : s ≤ j) (h3 : i < n) (h4 : j < m) :
    i' * (m - s) + j' < P ∧ ∃ x : Nat, x < 18446744073709551616 ∧ wx.cell? ⟨g, (i' * (m - s) + j') / 64, none⟩ = some (.int .u64 (x : Int)) ∧ x.testBit ((i' * (m - s) + j') % 64) = goB (eqZ za zb) n m i j := by
  obtain ⟨_, _, _, hp, ⟨X, x1, x2, x3⟩, _, _⟩ := h
  subst hi hj
  have hlt : (i - s) * (m - s) + (j - s) < P := by
    have : (i - s + 1) * (m - s) ≤ (n - s) * (m - s) := Nat.mul_le_mul_right _ (by omega)
    rw [Nat.add_mul, Nat.one_mul] at this
    omega
  refine ⟨hlt, X (((i - s) * (m - s) + (j - s)) / 64), x2 _, x1.cell (by omega), ?_⟩
  rw [x3 (i - s) (j - s) (by omega) (by omega), goB_from _ _ _ _ _ _ _ h1 h2, Bool.true_and]
/-- A pair more. -/
theorem LnSt.more {za zb : List Int} {n m s cbk g P : Nat} {w : World} {i j i2 j2 : Nat} {L : List (Nat × Nat)} {u u' : Value} {wx w3 : World} {vs : Array Value} {t : TypeId} (h : LnSt za zb n m s cbk g P w i j L u wx) (he : lnP (eqZ za zb) n m i j = (i, j) :: lnP (eqZ za zb) n m i2 j2)
    (hown : w3.ownsRow w.heap.size 37 3 u' ((whP L).length + 1) (flatP (whP L) ++ [.int .i64 (i : Int), .int .i64 (j : Int), .bool true])) (hgr : (wx.alloc (Obj.cells vs t)).grownBy w3 u.ownBlock) : LnSt za zb n m s cbk g P w i2 j2 (L ++ [(i, j)]) u' w3 := by
  obtain ⟨h1, h2, h3, h4, ⟨X, x1, x2, x3⟩, h6, h7⟩ := h
  have hz := h7.size
  have hrow : (wx.alloc (Obj.cells vs t)).ownsRow w.heap.size 37 3 u (whP L).length (flatP (whP L)) := World.ownsRow.alloc h1 _
  have hk3 := h3.alloc (Obj.cells vs t)
  have hx1 := x1.alloc (Obj.cells vs t)
  have hne : ∀ k, some k = u.ownBlock → k ≠ cbk ∧ k ≠ g ∧ w.heap.size ≤ k := by
    intro k hk
    obtain ⟨cur, hc⟩ := owns_block hrow hk.symm
    refine ⟨?_, ?_, (hrow.lt k hk.symm).1⟩
    · rintro rfl
      have := hc.symm.trans hk3
      simp at this
    · rintro rfl
      obtain ⟨cs, q1, _⟩ := hx1
      have := hc.symm.trans q1
      simp at this
  have hm : whP (L ++ [(i, j)]) = whP L ++ [((i : Int), (j : Int), true)] := by unfold whP; rw [List.map_append]; rfl
  refine ⟨?_, ?_, ?_, h4, ⟨X, ?_, x2, x3⟩, h6, ?_⟩
  · unfold PairsV
    rw [hm, flatP_app, List.length_append]
    exact hown
  · rw [← h2, he, List.append_assoc]; rfl
  · exact (hgr.block cbk hk3.lt (fun e => (hne _ e).1 rfl)).trans hk3
  · exact hx1.of_block (hgr.block g hx1.lt (fun e => (hne _ e).2.1 rfl))
  · exact (h7.alloc hz _).grown hgr (by simp; omega) (fun k hk => (hne k hk.symm).2.2)

theorem LnSt.start1 {za zb : List Int} {n m s g P : Nat} {w wr w2 : World} {u : Value} (h1 : s ≤ n) (h2 : s ≤ m) (hall : ∀ k, k < s → eqZ za zb k k = true) (hr : PairsV wr w.heap.size u (whP ((List.range s).map (fun k => (k, k))))) (hbl : Below w.heap.size w wr) (hP : (n - s) * (m - s) = P) (hg : wr.heap.size ≤ g) (hb : BitsAt (eqZ (za.drop s) (zb.drop s)) (n - s) (m - s) P g w2 (fun _ _ => true)) (hb2 : Below wr.heap.size wr w2) :
    LnSt za zb n m s w2.heap.size g P w s s ((List.range s).map (fun k => (k, k))) u (w2.alloc (Obj.cells #[.int .i64 ((m - s : Nat) : Int), .slice (some ⟨g, 0, none⟩) ((P + 63) / 64) ((P + 63) / 64)] 151)) := by
  have z1 := hbl.size
  have z2 := hb2.size
  obtain ⟨X, x1, x2, x3⟩ := hb
  exact ⟨World.ownsRow.alloc (ownsRow_below hr hb2) _, lnP_start za zb n m s h1 h2 hall, Blk.new _ _ _, hP, ⟨X, x1.alloc _, x2, x3⟩, ⟨by omega, by omega⟩, (hbl.trans (hb2.mono z1)).alloc (by omega) _⟩
theorem LnSt.start2 {za zb : List Int} {n m s g P c : Nat} {w wr w2 : World} {u : Value} (h1 : s ≤ n) (h2 : s ≤ m) (hall : ∀ k, k < s → eqZ za zb k k = true) (hr : PairsV wr w.heap.size u (whP ((List.range s).map (fun k => (k, k))))) (hbl : Below w.heap.size w wr) (hP : (n - s) * (m - s) = P) (hg : wr.heap.size ≤ g) (hb : BitsAt (eqZ (za.drop s) (zb.drop s)) (n - s) (m - s) P g w2 (fun _ _ => true)) (hb2 : Below wr.heap.size wr w2) (hk : Blk wr c #[.int .i64 0, .slice none 0 0] 151) (hc : w.heap.size ≤ c) :
    LnSt za zb n m s c g P w s s ((List.range s).map (fun k => (k, k))) u ((w2.setCell ⟨c, 0, none⟩ (.int .i64 ((m - s : Nat) : Int))).setCell ⟨c, 1, none⟩ (.slice (some ⟨g, 0, none⟩) ((P + 63) / 64) ((P + 63) / 64))) := by
  have z1 := hbl.size
  have z2 := hb2.size
  have hcl := hk.lt
  obtain ⟨X, x1, x2, x3⟩ := hb
  have hr2 := ownsRow_below hr hb2
  have hk2 := hk.later hb2
  refine ⟨?_, lnP_start za zb n m s h1 h2 hall, (hk2.set 0 (by simp) _).set 1 (by simp) _, hP, ⟨X, (x1.setOther (by show g ≠ c; omega) _).setOther (by show g ≠ c; omega) _, x2, x3⟩, ⟨hc, by omega⟩, ((hbl.trans (hb2.mono z1)).setCell (p := ⟨c, 0, none⟩) hc _).setCell (p := ⟨c, 1, none⟩) hc _⟩
  have hne : ∀ k, some k = u.ownBlock → k ≠ c := by
    intro k hk'
    obtain ⟨cur, hcu⟩ := owns_block hr2 hk'.symm
    rintro rfl
    have := hcu.symm.trans hk2
    simp at this
  exact owns_away (owns_away hr2 hne) hne
end Go.Proofs.YtbabmkilbbbmoaaDoor

/-
  What match's line does.
-/
namespace Go.Proofs.YtbabmkilbbbmoaaDoor
open Go.RowKit
set_option linter.unusedVariables false
set_option linter.unusedSimpArgs false

set_option maxHeartbeats 2000000 in
theorem line_any (qa qb : Option Addr) (n m ca cb : Nat) (za zb : List Int) (w : World) (ha : MtsV qa n za w) (hb : MtsV qb m zb w) (hn : n ≤ 1000) (hm : m ≤ 1000) (hca : n ≤ ca) (hcb : m ≤ cb) :
    Calls Tryd.prog 59 #[.slice qa n ca, .slice qb m cb] w fun e w' => ∃ u, e = .returned u ∧ PairsV w' w.heap.size u (whP (lnP (eqZ za zb) n m 0 0)) ∧ Below w.heap.size w w' := by
  obtain ⟨i0, hi0, hi1, hi2, hi3⟩ := mfoPair
  have HA := hide ha
  have HB := hide hb
  clear ha hb
  go_enter Tryd.func59, Tryd.ntmps59
  go_wp2
  go_loopw [6, 5] (fun z u wr => ∃ s : Nat, s ≤ n ∧ s ≤ m ∧ z = .int .i64 (s : Int) ∧ PairsV wr w.heap.size u (whP ((List.range s).map (fun k => (k, k)))) ∧ (∀ k, k < s → eqZ za zb k k = true) ∧ Below w.heap.size w wr) (fun z _ _ => (n : Nat) - (intOf z).toNat)
  case atStart => exact ⟨0, Nat.zero_le _, Nat.zero_le _, rfl, World.ownsRow_nil _ _ _ _, fun k hk => by omega, Below.refl _ _⟩
  case round =>
    obtain ⟨s, hsn, hsm, rfl, hrow, hall, hbl⟩ := hrel
    have HR := hide hrow
    have HALL := hide hall
    have HBL := hide hbl
    have hz := hbl.size
    clear hrow hall hbl
    obtain ⟨ra, rn, rc, hu⟩ := slice_of (unhide HR)
    subst hu
    by_cases hc : s < n ∧ s < m ∧ eqZ za zb s s = true
    · obtain ⟨h1, h2, h3⟩ := hc
      have h1i : (s : Int) < (n : Int) := by omega
      have h2i : (s : Int) < (m : Int) := by omega
      obtain ⟨ga, oa, hqa, cA⟩ := (unhide HA).at (unhide HBL) s h1
      obtain ⟨gb, ob, hqb, cB⟩ := (unhide HB).at (unhide HBL) s h2
      subst hqa
      subst hqb
      have HALL2 : Hid (∀ k, k < s + 1 → eqZ za zb k k = true) := hide (fun k hk => by
        by_cases e : k = s
        · rw [e]; exact h3
        · exact unhide HALL k (by omega))
      have he : (za.getD s 0 == zb.getD s 0) = true := h3
      have HF : Hid (whP ((List.range (s + 1)).map (fun k => (k, k))) = whP ((List.range s).map (fun k => (k, k))) ++ [((s : Int), (s : Int), true)]) := hide (by
        rw [List.range_succ, List.map_append]; unfold whP; rw [List.map_append]; rfl)
      have HLn : Hid ((whP ((List.range s).map (fun k => (k, k)))).length = s) := hide (by unfold whP; simp)
      generalize whP ((List.range s).map (fun k => (k, k))) = L at *
      generalize za.getD s 0 = xa at *
      generalize zb.getD s 0 = xb at *
      unfold PairsV at HR
      rw [unhide HLn] at HR
      clear h3
      go_wp2
      go_region
      go_wp2_with (at_builtin; refine wpList_append_own_at _ rfl _ _ 26 rfl w.heap.size 37 i0 (.agg #[.int .i64 0, .int .i64 0, .bool false]) 3 24 Tryd.underlying26 hi0 hi1 hi2 hi3 rfl (by decide) (.slice ra rn rc) _ _ rfl ((unhide HR).alloc _) ⟨wr.heap.size, 0, none⟩ 1 1 [.int .i64 (s : Int), .int .i64 (s : Int), .bool true] rfl rfl ?c1 ?c2 ?c3 ?c4 ?c5 ?_)
      case c1 => exact cell_three_new _ _ _ _ _
      case c2 => simp [Value.oneCell']
      case c3 => simp only [maxLen]; omega
      case c4 => omega
      case c5 => simp; omega
      intro u' w3 hown hgr _ hat
      have hrb : ∀ j, some j = (Value.slice ra rn rc).ownBlock → w.heap.size ≤ j := fun j hj => ((unhide HR).lt j hj.symm).1
      go_wp2
      go_roundw
      case rel =>
        refine ⟨s + 1, by omega, by omega, by go_num, ?_, unhide HALL2, ?_⟩
        · unfold PairsV
          rw [unhide HF, List.length_append, flatP_app, unhide HLn]; exact hown
        · exact ((unhide HBL).drew.alloc (by show w.heap.size ≤ wr.heap.size; omega) _).grown hgr (by simp; omega) (fun j hj => hrb j hj.symm)
      case measure => simp [intOf]; omega
    · have hx : s = n ∨ (s < n ∧ s = m) ∨ (s < n ∧ s < m ∧ eqZ za zb s s = false) := by
        by_cases h1 : s < n
        · by_cases h2 : s < m
          · right; right
            refine ⟨h1, h2, ?_⟩
            cases e : eqZ za zb s s with
            | true => exact absurd ⟨h1, h2, e⟩ hc
            | false => rfl
          · right; left; exact ⟨h1, by omega⟩
        · left; omega
      have HX := hide hx
      clear hc
      have CH := hide (fun W hW => choose_any (fromQ qa s ca) (fromQ qb s cb) (n - s) (m - s) (ca - s) (cb - s) (za.drop s) (zb.drop s) W (intsV_from ((unhide HA).below hW) hsn hca) (intsV_from ((unhide HB).below hW) hsm hcb) (by omega) (by omega))
      have hsA := run_from qa n ca s hsn
      have hsB := run_from qb m cb s hsm
      rcases hx with h1 | ⟨h1, h2⟩ | ⟨h1, h2, h3⟩
      case' inl =>
        have h1i : ¬ (s : Int) < (n : Int) := by omega
        have h1n : ¬ s < n := by omega
        have h1d : decide (s < n) = false := decide_eq_false h1n
        clear h1
        go_wp2
        go_region
      case' inr.inl =>
        have h1i : (s : Int) < (n : Int) := by omega
        have h2i : ¬ (s : Int) < (m : Int) := by omega
        have h2n : ¬ s < m := by omega
        have h2d : decide (s < m) = false := decide_eq_false h2n
        clear h2
        go_wp2
        go_region
      case' inr.inr =>
        have h1i : (s : Int) < (n : Int) := by omega
        have h2i : (s : Int) < (m : Int) := by omega
        obtain ⟨ga, oa, hqa, cA⟩ := (unhide HA).at (unhide HBL) s h1
        obtain ⟨gb, ob, hqb, cB⟩ := (unhide HB).at (unhide HBL) s h2
        subst hqa
        subst hqb
        have he : (za.getD s 0 == zb.getD s 0) = false := h3
        generalize za.getD s 0 = xa at *
        generalize zb.getD s 0 = xb at *
        go_wp2
        go_region
      all_goals go_wp2
      all_goals (
        have HBW : Hid (Below w.heap.size w wr.drew.drew) := hide (unhide HBL).drew.drew
        have HBW2 : Hid (Below w.heap.size w (wr.alloc (Obj.cells #[.int .i64 0, .slice none 0 0] 151)).drew.drew) := hide ((unhide HBL).alloc hz _).drew.drew
        have HK2 : Hid (Blk (wr.alloc (Obj.cells #[.int .i64 0, .slice none 0 0] 151)).drew.drew wr.heap.size #[.int .i64 0, .slice none 0 0] 151) := hide (Blk.new wr _ _)
        have HR2 : Hid (PairsV (wr.alloc (Obj.cells #[.int .i64 0, .slice none 0 0] 151)).drew.drew w.heap.size (.slice ra rn rc) (whP ((List.range s).map (fun k => (k, k))))) := hide ((unhide HR).alloc _)
        have HR1 : Hid (PairsV wr.drew.drew w.heap.size (.slice ra rn rc) (whP ((List.range s).map (fun k => (k, k))))) := HR
        have hwlt : wr.heap.size < (wr.alloc (Obj.cells #[.int .i64 0, .slice none 0 0] 151)).drew.drew.heap.size := by show wr.heap.size < (wr.alloc _).heap.size; simp
        go_region_with (go_at_call 83; refine Calls.mono (unhide CH _ (by first | exact unhide HBW | exact unhide HBW2)) ?_; rintro e w2 ⟨g, P, hPm, rfl, hg, hbits, hb2⟩; have HPM := hide hPm; have HBT := hide hbits; have HB2 := hide hb2; have HGE := hide hg; clear hPm hbits hb2 hg; (try have kC : Blk w2 wr.heap.size #[.int .i64 0, .slice none 0 0] 151 := (unhide HK2).later (unhide HB2)); (try have y0 : w2.cell? ⟨wr.heap.size, 0, none⟩ = some (.int .i64 0) := kC.cell 0); (try have y1 : w2.cell? ⟨wr.heap.size, 1, none⟩ = some (.slice none 0 0) := kC.cell 1); (try have z0 := kC.frozen 0); (try have z1 := kC.frozen 1))
        all_goals go_wp2
        all_goals (
          first
            | (have HST := hide (LnSt.start1 hsn hsm (unhide HALL) (unhide HR1) (unhide HBW) (unhide HPM) (unhide HGE) (unhide HBT) (unhide HB2)); generalize hcbk : w2.heap.size = cbk at HST ⊢)
            | (have HST := hide (LnSt.start2 hsn hsm (unhide HALL) (unhide HR2) (unhide HBW2) (unhide HPM) (unhide HGE) (unhide HBT) (unhide HB2) (unhide HK2) hz); generalize hcbk : wr.heap.size = cbk at HST ⊢)
          clear hcbk HR1 HR2 HBW HBW2 HPM HGE HBT HB2 HK2 CH hsA hsB HX HALL HR HBL
          go_loopw [8, 9, 5] (fun iv jv u wx => ∃ i j L, s ≤ i ∧ i ≤ n ∧ s ≤ j ∧ j ≤ m ∧ iv = .int .i64 (i : Int) ∧ jv = .int .i64 (j : Int) ∧ LnSt za zb n m s cbk g P w i j L u wx) (fun iv jv _ _ => (n - (intOf iv).toNat) + (m - (intOf jv).toNat))
          case atStart => exact ⟨s, s, _, Nat.le_refl _, hsn, Nat.le_refl _, hsm, rfl, rfl, unhide HST⟩
          case round =>
            clear HST
            obtain ⟨i, j, L, hsi, hin, hsj, hjm, rfl, rfl, hst⟩ := hrel
            have HST := hide hst
            have hll := hst.len
            have hzx := hst.bl.size
            obtain ⟨xq, xn, xc, hu⟩ := slice_of hst.row
            subst hu
            by_cases hcc : i < n ∧ j < m
            · obtain ⟨h1, h2⟩ := hcc
              first
                | (exfalso; omega)
                | (
                  have h1i : (i : Int) < (n : Int) := by omega
                  have h2i : (j : Int) < (m : Int) := by omega
                  obtain ⟨ga, oa, hqa, cA⟩ := (unhide HA).at hst.bl i h1
                  obtain ⟨gb, ob, hqb, cB⟩ := (unhide HB).at hst.bl j h2
                  first
                    | (subst hqa; subst hqb)
                    | (cases hqa; cases hqb)
                  have hEq : Hid ((za.getD i 0 == zb.getD j 0) = eqZ za zb i j) := hide rfl
                  cases hE : eqZ za zb i j with
                  | true =>
                    have he : (za.getD i 0 == zb.getD j 0) = true := (unhide hEq).trans hE
                    have HM := hide (fun u' w3 vs t hown hgr => LnSt.more (u' := u') (w3 := w3) (vs := vs) (t := t) hst.drew (lnP_yes _ n m i j h1 h2 hE) hown hgr)
                    have HR := hide hst.row
                    unfold PairsV at HR
                    have hwl : (whP L).length ≤ 1000 := by unfold whP; rw [List.length_map]; omega
                    generalize za.getD i 0 = xa at *
                    generalize zb.getD j 0 = xb at *
                    clear hEq hE hst
                    go_wp2
                    go_region
                    go_wp2_with (at_builtin; refine wpList_append_own_at _ rfl _ _ 26 rfl w.heap.size 37 i0 (.agg #[.int .i64 0, .int .i64 0, .bool false]) 3 24 Tryd.underlying26 hi0 hi1 hi2 hi3 rfl (by decide) (.slice xq xn xc) _ _ rfl ((unhide HR).alloc _) ⟨wr.heap.size, 0, none⟩ 1 1 [.int .i64 (i : Int), .int .i64 (j : Int), .bool true] rfl rfl (cell_three_new _ _ _ _ _) (by simp [Value.oneCell']) (by simp only [maxLen]; omega) (by omega) (by simp; omega) ?_)
                    intro u' w3 hown hgr _ hat
                    have HM2 := hide (unhide HM u' w3 _ _ hown hgr)
                    clear hown hgr hat HM
                    go_wp2
                    go_roundw
                    case rel => exact ⟨i + 1, j + 1, _, by omega, by omega, by omega, by omega, by go_num, by go_num, unhide HM2⟩
                    case measure => simp [intOf]; omega
                  | false =>
                    have he : (za.getD i 0 == zb.getD j 0) = false := (unhide hEq).trans hE
                    obtain ⟨i', hi'⟩ : ∃ i', i - s = i' := ⟨_, rfl⟩
                    obtain ⟨j', hj'⟩ : ∃ j', j - s = j' := ⟨_, rfl⟩
                    obtain ⟨hlt, x, hx, cX, hbit⟩ := hst.asks hi' hj' hsi hsj h1 h2
                    have hsub1 : (i : Int) - (s : Int) = (i' : Int) := by omega
                    have hsub2 : (j : Int) - (s : Int) = (j' : Int) := by omega
                    have hPle : P ≤ 1000000 := by rw [← hst.pm]; exact Nat.mul_le_mul (by omega : n - s ≤ 1000) (by omega : m - s ≤ 1000)
                    have C13 := hide (fun W (k2 : Blk W cbk _ _) cc => onInA_any cbk g ((P + 63) / 64) ((P + 63) / 64) (m - s) i' j' (i' * (m - s)) x W k2 (by simp) (by omega) (by omega) cc hx)
                    rw [hbit] at C13
                    unfold ptr at C13
                    have K := hide hst.k
                    have CX := hide cX
                    have HA1 := hide (fun hg => hst.drew.go (lnP_a _ n m i j h1 h2 hE hg))
                    have HB1 := hide (fun hg => hst.drew.go (lnP_b _ n m i j h1 h2 hE hg))
                    have GB : Hid (goB (eqZ za zb) n m i j = decide (lcB (eqZ za zb) n m i (j + 1) ≤ lcB (eqZ za zb) n m (i + 1) j)) := hide (by unfold goB; rw [hE]; rfl)
                    generalize hgg : goB (eqZ za zb) n m i j = gg at *
                    generalize za.getD i 0 = xa at *
                    generalize zb.getD j 0 = xb at *
                    clear hEq hE hst cX hbit hx hi' hj' hlt hPle hgg
                    cases gg with
                    | true =>
                      have HF := hide (unhide HA1 (of_decide_eq_true (unhide GB).symm))
                      clear HA1 HB1 GB
                      go_wp2
                      go_region
                      go_wp2_with fail
                      refine Calls.mono (unhide C13 _ ?e1 ?e2) ?_
                      case e1 => exact unhide K
                      case e2 => exact unhide CX
                      rintro e w3 ⟨rfl, hw3⟩
                      have HW3 := hide hw3
                      subst hw3
                      go_wp2
                      go_roundw
                      case rel => exact ⟨i + 1, j, _, by omega, by omega, by omega, by omega, by go_num, rfl, unhide HF⟩
                      case measure => simp [intOf]; omega
                    | false =>
                      have HF := hide (unhide HB1 (of_decide_eq_false (unhide GB).symm))
                      clear HA1 HB1 GB
                      go_wp2
                      go_region
                      go_wp2_with fail
                      refine Calls.mono (unhide C13 _ ?e3 ?e4) ?_
                      case e3 => exact unhide K
                      case e4 => exact unhide CX
                      rintro e w3 ⟨rfl, hw3⟩
                      subst hw3
                      go_wp2
                      go_roundw
                      case rel => exact ⟨i, j + 1, _, by omega, by omega, by omega, by omega, rfl, by go_num, unhide HF⟩
                      case measure => simp [intOf]; omega)
            · have hL : L = lnP (eqZ za zb) n m 0 0 := by
                have := hst.eq
                rw [lnP_out _ _ _ _ _ hcc, List.append_nil] at this
                exact this
              have HO : Hid (PairsV wr w.heap.size (.slice xq xn xc) (whP (lnP (eqZ za zb) n m 0 0))) := hide (by rw [← hL]; exact hst.row)
              have HBX := hide hst.bl
              clear hL hst
              by_cases h1 : i < n
              · have h1i : (i : Int) < (n : Int) := by omega
                have h2n : ¬ j < m := fun x => hcc ⟨h1, x⟩
                have h2i : ¬ (j : Int) < (m : Int) := by omega
                clear hcc
                go_wp2
                go_ret
                exact ⟨_, rfl, unhide HO, unhide HBX⟩
              · have h1i : ¬ (i : Int) < (n : Int) := by omega
                clear hcc
                go_wp2
                go_ret
                exact ⟨_, rfl, unhide HO, unhide HBX⟩))
end Go.Proofs.YtbabmkilbbbmoaaDoor

/-
  What match.Line does.
-/
namespace Go.Proofs.YtbabmkilbbbmoaaDoor
open Go.RowKit Go.Maps
set_option linter.unusedVariables false
set_option linter.unusedSimpArgs false

/-- Are two texts the same? -/
def eqT (ss tt : List ByteArray) (i j : Nat) : Bool := decide ((tx ss i).data.toList = (tx tt j).data.toList)
theorem getD_nums (D : List (List UInt8)) (l : List (List UInt8)) (i : Nat) (h : i < l.length) : (numsK D l).getD i 0 = numT (addAll D l) (l.getD i []) := by
  unfold numsK
  simp [List.getD, List.getElem?_map, List.getElem?_eq_getElem h]
theorem txs_getD (ss : List ByteArray) (i : Nat) (h : i < ss.length) : (txs ss).getD i [] = (tx ss i).data.toList := by
  unfold txs tx
  simp [List.getD, List.getElem?_map, List.getElem?_eq_getElem h]
theorem nums_eq (ss tt : List ByteArray) (i j : Nat) (hi : i < ss.length) (hj : j < tt.length) : eqZ (numsK [] (txs ss)) (numsK (addAll [] (txs ss)) (txs tt)) i j = eqT ss tt i j := by
  have li : i < (txs ss).length := by unfold txs; rw [List.length_map]; exact hi
  have lj : j < (txs tt).length := by unfold txs; rw [List.length_map]; exact hj
  unfold eqZ eqT
  rw [getD_nums _ _ _ li, getD_nums _ _ _ lj, ← txs_getD _ _ hi, ← txs_getD _ _ hj]
  have m1 : (txs ss).getD i [] ∈ txs ss := by rw [List.getD, List.getElem?_eq_getElem li]; exact List.getElem_mem li
  have m2 : (txs tt).getD j [] ∈ txs tt := by rw [List.getD, List.getElem?_eq_getElem lj]; exact List.getElem_mem lj
  have n1 := addAll_mem (txs ss) [] _ m1
  have n2 := addAll_mem (txs tt) (addAll [] (txs ss)) _ m2
  have p := addAll_pre (txs tt) (addAll [] (txs ss))
  rw [← numT_pre p n1]
  have := numT_inj (p.subset n1) n2
  by_cases e : (txs ss).getD i [] = (txs tt).getD j []
  · rw [decide_eq_true e, e]; simp
  · rw [decide_eq_false e]
    exact beq_eq_false_iff_ne.2 (fun x => e (this.1 x))
theorem ints_owns {w : World} {base : Nat} {q : Option Addr} {n c : Nat} {zs : List Int} (h : w.ownsRow base 3 1 (.slice q n c) zs.length (zs.map intV)) : n = zs.length ∧ n ≤ c ∧ MtsV q n zs w := by
  obtain ⟨_, h⟩ := h
  rcases h with ⟨h1, h0⟩ | ⟨g, cap, cur, h0, h1, h2, h3, h4, h5, h6⟩
  · cases h1
    exact ⟨h0.symm, Nat.le_refl _, h0.symm, fun x => absurd x (Nat.lt_irrefl _)⟩
  · cases h0
    refine ⟨rfl, h3, rfl, fun hp => ⟨g, 0, rfl, fun i hi => ?_⟩⟩
    rw [Joins.cell_of_block h2]
    have e : cur.toList[i]? = some (.int .i64 (zs.getD i 0)) := by
      have : (cur.toList.take (zs.length * 1))[i]? = some (.int .i64 (zs.getD i 0)) := by
        rw [h6, List.getElem?_map, List.getD, List.getElem?_eq_getElem hi]; rfl
      rw [List.getElem?_take, if_pos (by omega)] at this
      exact this
    simpa using e
theorem owns_mono {w : World} {base base' : Nat} {e : TypeId} {size : Nat} {v : Value} {n : Nat} {xs : List Value} (h : w.ownsRow base e size v n xs) (hb : base' ≤ base) : w.ownsRow base' e size v n xs := by
  obtain ⟨hl, h⟩ := h
  refine ⟨hl, ?_⟩
  rcases h with h | ⟨g, cap, cur, h1, h2, h3⟩
  · exact .inl h
  · exact .inr ⟨g, cap, cur, h1, by omega, h3⟩
theorem grown_is_below {w w1 : World} {o : Obj} (h : (w.alloc o).grownBy w1 (some w.heap.size)) : Below w.heap.size w w1 :=
  ⟨h.os, h.tape, h.output, Nat.le_trans (by simp) h.size, fun k hk => (h.block k (by simp; omega) (by simp; omega)).trans (((Below.refl w.heap.size w).alloc (Nat.le_refl _) o).block k hk)⟩
theorem numsK_len (D l : List (List UInt8)) : (numsK D l).length = l.length := by unfold numsK; rw [List.length_map]
theorem txs_len (ss : List ByteArray) : (txs ss).length = ss.length := by unfold txs; rw [List.length_map]

theorem view_slice {w : World} {v : Value} {zs : List ByteArray} (h : View w v zs) : ∃ a cap, v = .slice a zs.length cap := by
  obtain ⟨_, a, cap, h, _⟩ := h
  exact ⟨a, cap, h⟩
def LineSaid (ss tt : List ByteArray) (w : World) (e : Ending) (w' : World) : Prop := ∃ u, e = .returned u ∧ PairsV w' w.heap.size u (whP (lnP (eqT ss tt) ss.length tt.length 0 0)) ∧ Below w.heap.size w w'
set_option maxHeartbeats 1000000 in
theorem mline_any (va vb : Value) (ss tt : List ByteArray) (w : World) (ha : View w va ss) (hb : View w vb tt) (h1 : ∀ k, k < ss.length → (tx ss k).size ≤ 9223372036854775807) (h2 : ∀ k, k < tt.length → (tx tt k).size ≤ 9223372036854775807) (hn : ss.length ≤ 1000) (hm : tt.length ≤ 1000) :
    Calls Tryd.prog 28 #[va, vb] w (LineSaid ss tt w) := by
  have hmm := @run_makeMap Tryd.prog
  have C1 := hide (ofTexts_any w.heap.size [] va ss _ (numM_new w) (view_alloc ha _) h1 (by simp; omega))
  have C2 := hide (fun W hN hB => ofTexts_any w.heap.size (addAll [] (txs ss)) vb tt W hN (view_below hb hB) h2 (by have := addAll_len (txs ss) []; rw [txs_len] at this; simp at this; omega))
  have HE : Hid (lnP (eqZ (numsK [] (txs ss)) (numsK (addAll [] (txs ss)) (txs tt))) ss.length tt.length 0 0 = lnP (eqT ss tt) ss.length tt.length 0 0) := hide (lnP_same _ _ _ _ (fun a b hx hy => nums_eq ss tt a b hx hy) _ 0 0)
  unfold LineSaid
  rw [← unhide HE]
  have L1 : Hid (ss.length = (numsK [] (txs ss)).length) := hide (by rw [numsK_len, txs_len])
  have L2 : Hid (tt.length = (numsK (addAll [] (txs ss)) (txs tt)).length) := hide (by rw [numsK_len, txs_len])
  generalize numsK [] (txs ss) = za at *
  generalize numsK (addAll [] (txs ss)) (txs tt) = zb at *
  generalize addAll (addAll [] (txs ss)) (txs tt) = D2 at *
  generalize addAll [] (txs ss) = D1 at *
  clear HE h1 h2
  rw [unhide L1] at C1
  rw [unhide L2] at C2
  have hal := view_slice ha
  have hbl := view_slice hb
  obtain ⟨a1, c1, rfl⟩ := hal
  obtain ⟨a2, c2, rfl⟩ := hbl
  clear ha hb
  go_enter Tryd.func28, Tryd.ntmps28
  go_wp2_with fail
  refine (unhide C1).mono ?_
  rintro e w1 ⟨u1, rfl, hr1, hn1, hg1⟩
  have b1 := grown_is_below hg1
  have hz1 : w.heap.size < (w.alloc (.map #[] 0)).heap.size := by simp
  clear C1
  obtain ⟨q1, m1, k1, hu1⟩ := slice_of hr1
  subst hu1
  go_wp2_with fail
  refine (unhide C2 w1 hn1 b1).mono ?_
  rintro e w2 ⟨u2, rfl, hr2, hn2, hg2⟩
  have hlt := hn1.lt
  have hr1' := owns_grown hr1 hg2 hz1
  obtain ⟨q2, m2, k2, hu2⟩ := slice_of hr2
  subst hu2
  have b2 : Below w.heap.size w w2 := b1.trans ⟨hg2.os, hg2.tape, hg2.output, hg2.size, fun k hk => hg2.block k (by omega) (by simp; omega)⟩
  obtain ⟨e1, le1, i1⟩ := ints_owns hr1'
  obtain ⟨e2, le2, i2⟩ := ints_owns hr2
  have C3 := hide (line_any q1 q2 m1 m2 k1 k2 za zb w2 i1 i2 (by rw [e1, ← unhide L1]; omega) (by rw [e2, ← unhide L2]; omega) le1 le2)
  have X1 : Hid (m1 = ss.length) := hide (e1.trans (unhide L1).symm)
  have X2 : Hid (m2 = tt.length) := hide (e2.trans (unhide L2).symm)
  have B2 := hide b2
  clear hr1 hr2 hr1' hn1 hn2 hg1 hg2 e1 e2 i1 i2 le1 le2 C2 L1 L2 hz1 hlt b1 b2
  rw [unhide X1, unhide X2] at C3
  rw [unhide X1, unhide X2]
  go_wp2_with fail
  refine (unhide C3).mono ?_
  rintro e w3 ⟨u3, rfl, hp, hb3⟩
  have HP := hide hp
  have HB3 := hide hb3
  have hz := (unhide B2).size
  clear hp hb3
  obtain ⟨q3, m3, k3, hu3⟩ := slice_of (unhide HP)
  subst hu3
  go_wp2
  go_ret
  exact ⟨_, rfl, owns_mono (unhide HP) hz, (unhide B2).trans ((unhide HB3).mono hz)⟩
end Go.Proofs.YtbabmkilbbbmoaaDoor
