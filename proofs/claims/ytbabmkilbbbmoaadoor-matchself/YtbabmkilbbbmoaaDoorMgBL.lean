/-
  Several texts in one: what the functions of the program and of the document's answer do.
-/
import Derived.Test.YtbabmkilbbbmoaaDoorMgBE
import Derived.Test.YtbabmkilbbbmoaaDoorMgBB
import Derived.Test.YtbabmkilbbbmoaaDoorSq
import Derived.Shelf.SlSortCmp.WholeK
import Derived.Shelf.SlSortCmp.NoneTotal
import Derived.Test.YtbabmkilbbbmoaaDoorHeI

/-
  What slices.SortFunc does of a row of pairs under match.Pages' closure.
-/
namespace Go.Proofs.YtbabmkilbbbmoaaDoor
open Go.RowKit
open Go.Sort hiding Below
set_option linter.unusedVariables false
set_option linter.unusedSimpArgs false

theorem flatP_at (L : List (Int × Int × Bool)) (t : Nat) (h : t < L.length * 3) : (flatP L)[t]? = (pairL (L.getD (t / 3) p0))[t % 3]? := by
  have := flatP_split L (t / 3) (by omega) (t % 3) (Nat.mod_lt _ (by decide))
  rw [show t / 3 * 3 + t % 3 = t by omega] at this
  exact this
theorem flatK_at (L : List (Int × Int × Bool)) (t : Nat) (h : t < L.length * 3) : some (flatK pairL 3 L.toArray)[t]! = (flatP L)[t]? := by
  rw [flatP_at L t h, get_flatK pairL 3 L.toArray t (by simpa using h)]
  have hi : t / 3 < L.length := by omega
  have e : L.toArray[t / 3]! = L.getD (t / 3) p0 := by simp [List.getD, hi]
  rw [e]
  have hm : t % 3 < (pairL (L.getD (t / 3) p0)).length := by
    have := Nat.mod_lt t (show 0 < 3 by decide)
    simpa [pairL] using this
  rw [List.getElem?_eq_getElem hm, getElem!_pos (pairL (L.getD (t / 3) p0)) (t % 3) hm]
theorem pairs_holds {w : World} {base g n c : Nat} {L : List (Int × Int × Bool)} (h : PairsV w base (.slice (some ⟨g, 0, none⟩) n c) L) : n = L.length ∧ HoldsK pairL 3 w g 0 L.toArray ∧ g < w.heap.size ∧ base ≤ g := by
  obtain ⟨_, h⟩ := h
  rcases h with ⟨h1, h0⟩ | ⟨g', cap, cur, h0, h1, h2, h3, h4, h5, h6⟩
  · cases h1
  · cases h0
    refine ⟨rfl, fun j hj => ?_, ?_, h1⟩
    · have hj' : j < L.length * 3 := by simpa using hj
      refine ⟨?_, by simp [World.frozen?, h2]⟩
      rw [Nat.zero_add, Joins.cell_of_block h2, id]
      have e := flatK_at L j hj'
      rw [e, ← h6, List.getElem?_take, if_pos hj']
      simp
    · rcases Nat.lt_or_ge g w.heap.size with h' | h'
      · exact h'
      · rw [Array.getElem?_eq_none h'] at h2; cases h2
theorem pairs_put {w : World} {base g n c q : Nat} {L L' : List (Int × Int × Bool)} (os : Array Obj) (h : PairsV w base (.slice (some ⟨g, 0, none⟩) n c) L) (hl : L'.length = L.length) : PairsV (grow (putRowK pairL 3 (Sort.ahead w q) g 0 L'.toArray) os) base (.slice (some ⟨g, 0, none⟩) n c) L' := by
  obtain ⟨_, h⟩ := h
  rcases h with ⟨h1, h0⟩ | ⟨g', cap, cur, h0, h1, h2, h3, h4, h5, h6⟩
  · cases h1
  · cases h0
    have hc3 : L.length * 3 ≤ cur.size := by
      have := congrArg List.length h6
      rw [List.length_take, flatP_len] at this
      simp at this
      omega
    refine ⟨by rw [flatP_len], .inr ⟨g, c, Sort.putCells id 0 (flatK pairL 3 L'.toArray) cur, by rw [hl], h1, ?_, by omega, h4, by simpa [Sort.putCells] using h5, ?_⟩⟩
    · have hgl : g < w.heap.size := by
        rcases Nat.lt_or_ge g w.heap.size with h' | h'
        · exact h'
        · rw [Array.getElem?_eq_none h'] at h2; cases h2
      show (w.heap.modify g (onCells (putCells id 0 (flatK pairL 3 L'.toArray))) ++ os)[g]? = _
      rw [Array.getElem?_append_left (by simpa using hgl), Array.getElem?_modify, if_pos rfl, h2]
      rfl
    · apply List.ext_getElem?
      intro j
      rw [List.getElem?_take]
      by_cases hj : j < L'.length * 3
      · rw [if_pos hj]
        have hjc : j < cur.size := by omega
        rw [Array.getElem?_toList]
        simp only [Sort.putCells, Array.getElem?_mapIdx, Array.getElem?_eq_getElem hjc, Option.map_some]
        rw [if_pos (by simp; omega)]
        exact flatK_at L' j hj
      · rw [if_neg hj, List.getElem?_eq_none (by rw [flatP_len]; omega)]
theorem pairs_kept {w : World} {base g q : Nat} {d : Array (Int × Int × Bool)} (os : Array Obj) (hb : base ≤ g) (hg : g < w.heap.size) : Below base w (grow (putRowK pairL 3 (Sort.ahead w q) g 0 d) os) :=
  ⟨rfl, rfl, rfl, by simp [grow, putRowK, Sort.putRow, Sort.mapBlock, Sort.ahead], fun k hk => by
    have hkw : k < w.heap.size := by omega
    show (w.heap.modify g (onCells (putCells id 0 (flatK pairL 3 d))) ++ os)[k]? = _
    rw [Array.getElem?_append_left (by simpa using hkw), Array.getElem?_modify, if_neg (by omega)]⟩
def cfP (x y : Int × Int × Bool) : Int := Lib.compareInt x.1 y.1
theorem ltP_cf (x y : Int × Int × Bool) : ltOf cfP x y = decide (x.1 < y.1) := by
  unfold ltOf cfP Lib.compareInt
  by_cases h1 : x.1 < y.1
  · simp [h1]
  · by_cases h2 : y.1 < x.1 <;> simp [h1, h2]
theorem swoP : SWO (ltOf cfP) where
  irrefl x := by rw [ltP_cf]; simp
  trans x y z h1 h2 := by rw [ltP_cf] at *; simp at *; omega
  ntrans x y z h1 h2 := by rw [ltP_cf] at *; simp at *; omega
set_option maxHeartbeats 1000000 in
theorem cmpP_any (x y : Int × Int × Bool) (W : World) : Calls Tryd.prog 41 #[.agg #[.int .i64 x.1, .int .i64 x.2.1, .bool x.2.2], .agg #[.int .i64 y.1, .int .i64 y.2.1, .bool y.2.2]] W fun e w' => e = .returned (.int .i64 (Lib.compareInt x.1 y.1)) ∧ ∃ q os', w' = grow (W.drewN q) os' := by
  have hcon := hide (fun W' => Tryd.cmp_Compare_int x.1 y.1 W')
  generalize Lib.compareInt x.1 y.1 = r at *
  go_enter Tryd.func41, Tryd.ntmps41
  go_wp2_with fail
  refine (unhide hcon _).mono ?_
  rintro e w' ⟨rfl, rfl⟩
  go_wp2
  go_ret
  exact ⟨rfl, 0, _, by rw [alloc_eq_grow, alloc_eq_grow, grow_grow]; rfl⟩
theorem perm_list {L : List (Int × Int × Bool)} {d : Array (Int × Int × Bool)} (h : PermIn 0 L.toArray.size L.toArray d) : d.toList.Perm L ∧ d.toList.length = L.length := by
  obtain ⟨h1, _, h3⟩ := h
  have e1 : L.toArray.extract 0 L.toArray.size = L.toArray := by simp
  have e2 : d.extract 0 L.toArray.size = d := by rw [← h1]; simp
  rw [e1, e2] at h3
  exact ⟨h3, by simpa using h1⟩
theorem sorted_list {d : Array (Int × Int × Bool)} {n : Nat} (hn : d.size = n) (h : SortedIn (ltOf cfP) 0 n d) : d.toList.Pairwise (fun x y => x.1 ≤ y.1) := by
  rw [List.pairwise_iff_getElem]
  intro i j hi hj hij
  have := h i j (Nat.zero_le _) hij (by simp at hj; omega)
  rw [ltP_cf] at this
  have e1 : d[i]! = d.toList[i] := by simp at hi; simp [hi]
  have e2 : d[j]! = d.toList[j] := by simp at hj; simp [hj]
  rw [e1, e2] at this
  have := of_decide_eq_false this
  omega
set_option maxHeartbeats 1000000 in
theorem sortPairs_any (q : Option Addr) (n c base : Nat) (L : List (Int × Int × Bool)) (w : World) (h : PairsV w base (.slice q n c) L) (hp : 0 < L.length) (hl : L.length ≤ 1000000) :
    Calls Tryd.prog 40 #[.slice q n c, .func (Fn.func 41) #[] #[]] w fun e w' => e = .returned (.tuple #[]) ∧ ∃ L', L'.Perm L ∧ L'.Pairwise (fun x y => x.1 ≤ y.1) ∧ PairsV w' base (.slice q n c) L' ∧ Below base w w' := by
  obtain ⟨g, rfl⟩ : ∃ g, q = some ⟨g, 0, none⟩ := by
    obtain ⟨_, h⟩ := h
    rcases h with ⟨h1, h0⟩ | ⟨g', cap, cur, h0, _⟩
    · omega
    · cases h0; exact ⟨g', rfl⟩
  obtain ⟨hn, hH, hg, hbg⟩ := pairs_holds h
  subst hn
  have eg : ∀ args w, (callFunc 41 args).run Tryd.prog w = .ok (.enter 41 args) w := enters_of Tryd.func41 (by kernel_rfl) rfl
  have hcon := AnyQ.slices_SortFunc Tryd.sortPair 3 Tryd.isAgg37 Tryd.sizeOf37 pairL (fun _ => rfl) (fun x v hv => by simp [pairL] at hv; rcases hv with rfl | rfl | rfl <;> rfl) cfP swoP 41 #[] g 0 c L.toArray w eg (fun _ _ _ _ x y => cmpP_any x y _) hH hg (by simp; omega)
  have hsz : L.toArray.size = L.length := by simp
  rw [hsz] at hcon
  change Calls Tryd.prog 40 _ _ _ at hcon
  refine hcon.mono ?_
  rintro e w' ⟨rfl, d', m, os, hpm, hso, rfl⟩
  rw [← hsz] at hpm
  obtain ⟨p1, p2⟩ := perm_list hpm
  refine ⟨rfl, d'.toList, p1, sorted_list (by simpa using p2) hso, ?_, ?_⟩
  · have := pairs_put (q := m) os h p2
    unfold sortWorldK
    simpa using this
  · exact pairs_kept os hbg hg
theorem sortNone_any (p : Option Addr) (cap : Nat) (w : World) :
    Calls Tryd.prog 40 #[.slice p 0 cap, .func (Fn.func 41) #[] #[]] w fun e w' => e = .returned (.tuple #[]) ∧ w' = w := by
  have hcon := AnyF.slices_SortFunc_none Tryd.sortPair p cap (.func (Fn.func 41) #[] #[]) w
  change Calls Tryd.prog 40 _ _ _ at hcon
  exact hcon
/-- A row of pairs, sorted, whatever it holds. -/
theorem sortAny_any (q : Option Addr) (n c base : Nat) (L : List (Int × Int × Bool)) (w : World) (h : PairsV w base (.slice q n c) L) (hl : L.length ≤ 1000000) :
    Calls Tryd.prog 40 #[.slice q n c, .func (Fn.func 41) #[] #[]] w fun e w' => e = .returned (.tuple #[]) ∧ ∃ L', L'.Perm L ∧ L'.Pairwise (fun x y => x.1 ≤ y.1) ∧ PairsV w' base (.slice q n c) L' ∧ Below base w w' := by
  by_cases hp : 0 < L.length
  · exact sortPairs_any q n c base L w h hp hl
  · have hn : L = [] := List.eq_nil_of_length_eq_zero (by omega)
    subst hn
    obtain ⟨q', c', hu, _⟩ := PairsV.cells h
    cases hu
    refine (sortNone_any q c w).mono ?_
    rintro e w' ⟨rfl, rfl⟩
    exact ⟨rfl, [], List.Perm.refl _, List.Pairwise.nil, h, Below.refl _ _⟩
end Go.Proofs.YtbabmkilbbbmoaaDoor

/-
  What match's 'appendWhole' does.
-/
namespace Go.Proofs.YtbabmkilbbbmoaaDoor
open Go.RowKit
set_option linter.unusedVariables false
set_option linter.unusedSimpArgs false

theorem whR_snoc : ∀ (k i j : Nat), whR i j (k + 1) = whR i j k ++ [(((i + k : Nat) : Int), ((j + k : Nat) : Int), true)]
  | 0, i, j => rfl
  | k + 1, i, j => by
    rw [whR, whR_snoc k (i + 1) (j + 1), whR, show i + 1 + k = i + (k + 1) by omega, show j + 1 + k = j + (k + 1) by omega]
    rfl
theorem whR_len : ∀ (k i j : Nat), (whR i j k).length = k
  | 0, _, _ => rfl
  | k + 1, i, j => by rw [whR, List.length_cons, whR_len k]
theorem pairs_snocH {w : World} {base : Nat} {u : Value} {L : List (Int × Int × Bool)} {a b : Int} {x : Bool} (h : w.ownsRow base 37 3 u (L.length + 1) (flatP L ++ [.int .i64 a, .int .i64 b, .bool x])) : PairsV w base u (L ++ [(a, b, x)]) := by
  unfold PairsV
  rw [List.length_append, flatP_app]
  simpa [flatP, pairL] using h

set_option maxHeartbeats 2000000 in
theorem appWhole_any (base : Nat) (q : Option Addr) (n c : Nat) (L : List (Int × Int × Bool)) (i j m : Nat) (bw : Bool) (w : World) (h : PairsV w base (.slice q n c) L) (hb : base ≤ w.heap.size) (hL : L.length ≤ 3000) (hm : m ≤ 1000) (hi : i ≤ 10000) (hj : j ≤ 10000) :
    Calls Tryd.prog 39 #[.slice q n c, .agg #[.int .i64 (i : Int), .int .i64 (j : Int), .bool bw], .int .i64 (m : Int)] w fun e w' => ∃ u, e = .returned u ∧ PairsV w' base u (L ++ whR i j m) ∧ Below base w w' ∧ KpB w (.slice q n c) w' ∧ FrB w (.slice q n c) u := by
  obtain ⟨i0, hi0, hi1, hi2, hi3⟩ := mfoPair
  have hown : ∀ k, (Value.slice q n c).ownBlock = some k → base ≤ k ∧ k < w.heap.size := fun k hk => h.lt k hk
  have HOWN := hide hown
  obtain ⟨W1, hW1⟩ : ∃ W1, w.alloc (Obj.cells #[.int .i64 (i : Int), .int .i64 (j : Int), .bool bw] 37) = W1 := ⟨_, rfl⟩
  have hs1 : W1.heap.size = w.heap.size + 1 := by rw [← hW1]; simp
  have KB : Hid (Blk W1 w.heap.size #[.int .i64 (i : Int), .int .i64 (j : Int), .bool bw] 37) := hide (by rw [← hW1]; exact Blk.new w _ _)
  have H1 : Hid (PairsV W1 base (.slice q n c) (L ++ whR i j 0)) := hide (by rw [← hW1, whR, List.append_nil]; exact ownsRow_below h ((Below.refl _ _).alloc (Nat.le_refl _) _))
  have B1 : Hid (Below base w W1) := hide (by rw [← hW1]; exact (Below.refl _ _).alloc hb _)
  have K1 : Hid (∀ b, b < w.heap.size → W1.heap[b]? = w.heap[b]?) := hide (fun b hbl => by rw [← hW1]; exact (((Below.refl w.heap.size w).alloc (Nat.le_refl _) _).block b hbl))
  clear h hown
  go_enter Tryd.func39, Tryd.ntmps39
  go_wp2
  clear hW1
  go_loopw [0, 9, 7] (fun u x y wr => ∃ k : Nat, x = .int .i64 (k : Int) ∧ k ≤ m ∧ PairsV wr base u (L ++ whR i j k) ∧ Below base w wr ∧ KpB W1 (.slice q n c) wr ∧ FrB W1 (.slice q n c) u ∧ W1.heap.size ≤ wr.heap.size) (fun _ x _ _ => m - (intOf x).toNat)
  case atStart => exact ⟨0, rfl, Nat.zero_le _, unhide H1, unhide B1, fun b _ _ => rfl, fun k hk => .inl hk, Nat.le_refl _⟩
  case round =>
    clear H1
    obtain ⟨k, rfl, hk, hrow, hbl, hkp, hfr, hsz⟩ := hrel
    obtain ⟨uq, un, uc, hu⟩ := slice_of hrow
    subst hu
    have hwl := whR_len k i j
    by_cases hp : k < m
    · have hpi : (k : Int) < (m : Int) := by omega
      have hkb : Blk wr w.heap.size #[.int .i64 (i : Int), .int .i64 (j : Int), .bool bw] 37 := (hkp w.heap.size (by omega) (fun e => by have := (unhide HOWN _ e.symm).2; omega)).trans (unhide KB)
      have c0 := hkb.cell 0
      have c1 := hkb.cell 1
      have HR := hide hrow
      have HB := hide hbl
      have HKP := hide hkp
      have HFR := hide hfr
      have hbz : base ≤ wr.heap.size := by omega
      have hll : (L ++ whR i j k).length ≤ 4000 := by rw [List.length_append]; omega
      have HSN := hide (whR_snoc k i j)
      clear hrow hbl hkp hfr hkb hwl
      unfold PairsV at HR
      generalize hLL : L ++ whR i j k = LL at *
      have HLL := hide hLL
      clear hLL
      go_wp2_with (at_builtin; refine wpList_append_fresh _ rfl _ _ 26 rfl base 37 i0 (.agg #[.int .i64 0, .int .i64 0, .bool false]) 3 24 Tryd.underlying26 hi0 hi1 hi2 hi3 rfl (by decide) (.slice uq un uc) _ _ rfl ((unhide HR).alloc _) ⟨wr.heap.size, 0, none⟩ 1 1 [.int .i64 ((i : Int) + (k : Int)), .int .i64 ((j : Int) + (k : Int)), .bool true] rfl rfl (cell_three_new _ _ _ _ _) (by simp [Value.oneCell']) (by simp only [maxLen]; omega) (by omega) (by simp; omega) ?_)
      intro u' w9 hown hgr hfr9
      have HO : Hid (PairsV w9 base u' (L ++ whR i j (k + 1))) := hide (by
        rw [unhide HSN, ← List.append_assoc, unhide HLL]
        exact pairs_snocH (by
          rw [show ((i + k : Nat) : Int) = (i : Int) + (k : Int) by omega, show ((j + k : Nat) : Int) = (j : Int) + (k : Int) by omega]
          exact hown))
      have HB9 : Hid (Below base w w9) := hide (((unhide HB).alloc hbz _).grown hgr (by simp; omega) (fun q hq => ((unhide HR).lt q hq).1))
      have hs9 := hgr.size
      have hsa : (wr.alloc (Obj.cells #[.int .i64 ((i : Int) + (k : Int)), .int .i64 ((j : Int) + (k : Int)), .bool true] 37)).heap.size = wr.heap.size + 1 := by simp
      have HK9 : Hid (KpB W1 (.slice q n c) w9) := hide (fun b hb1 hb2 => by
        have h1 : some b ≠ (Value.slice uq un uc).ownBlock := fun e => by
          rcases unhide HFR b e.symm with h | h
          · exact hb2 h.symm
          · omega
        have h2 := hgr.block b (by simp; omega) h1
        have h3 := ((Below.refl wr.heap.size wr).alloc (Nat.le_refl _) (Obj.cells #[.int .i64 ((i : Int) + (k : Int)), .int .i64 ((j : Int) + (k : Int)), .bool true] 37)).block b (by omega)
        exact h2.trans (h3.trans (unhide HKP b hb1 hb2)))
      have HF9 : Hid (FrB W1 (.slice q n c) u') := hide (fun k9 hk9 => by
        rcases hfr9 k9 hk9 with h | h
        · exact unhide HFR k9 h
        · exact .inr (by omega))
      have hsz9 : W1.heap.size ≤ w9.heap.size := by omega
      clear hown hgr hfr9
      go_wp2
      go_roundw
      case rel => exact ⟨k + 1, by go_num, by omega, unhide HO, unhide HB9, unhide HK9, unhide HF9, hsz9⟩
      case measure => simp [intOf]; omega
    · have hke : k = m := by omega
      subst hke
      have hpi : ¬ ((k : Nat) : Int) < ((k : Nat) : Int) := by omega
      have HR := hide hrow
      have HB := hide hbl
      have HKF : Hid (KpB w (.slice q n c) wr) := hide (fun b hb1 hb2 => (hkp b (by omega) hb2).trans (unhide K1 b hb1))
      have HFF : Hid (FrB w (.slice q n c) (.slice uq un uc)) := hide (fun k9 hk9 => (hfr k9 hk9).imp id (fun h => by omega))
      clear hrow hbl hkp hfr
      go_wp2
      go_ret
      exact ⟨_, rfl, unhide HR, unhide HB, unhide HKF, unhide HFF⟩
end Go.Proofs.YtbabmkilbbbmoaaDoor

/-
  match.Pages: what is left to do, plainly; rows of pairs.
-/
namespace Go.Proofs.YtbabmkilbbbmoaaDoor
open Go.RowKit Go.Maps
set_option linter.unusedVariables false
set_option linter.unusedSimpArgs false

/-- Two lists whose kids are to be matched. -/
structure En where
  x : Int
  y : Int
  F : Forest
  G : Forest
  a : Nat
  b : Nat
  m : Nat
def enP (e : En) : Int × Int × Bool := (e.x, e.y, false)
def stK : List En → List (Int × Int × Bool)
  | [] => []
  | e :: st => stK st ++ [enP e]
def enV (e : En) : List (Int × Int × Bool) := pgF e.m e.F e.G e.a e.b
def todoS : List En → List (Int × Int × Bool)
  | [] => []
  | e :: st => enV e ++ todoS st
def EnOk (f g : Forest) (e : En) : Prop := KidOf f e.x e.F e.a ∧ KidOf g e.y e.G e.b ∧ e.F.count < e.m
theorem stK_len : ∀ st : List En, (stK st).length = st.length
  | [] => rfl
  | e :: st => by rw [stK, List.length_append, stK_len st]; rfl
theorem pgL_whole {K : Forest → Forest → Nat → Nat → List (Int × Int × Bool)} {F G : Forest} {a b A B : Nat} {r : List (Int × Int × Bool)} : pgL K F G a b (((A : Int), (B : Int), true) :: r) = whR (numE F a A) (numE G b B) (1 + (kidF (F.drop A)).count) ++ pgL K F G a b r := by
  rw [pgL, if_pos rfl]; rfl
theorem pgL_alike {K : Forest → Forest → Nat → Nat → List (Int × Int × Bool)} {F G : Forest} {a b A B : Nat} {r : List (Int × Int × Bool)} : pgL K F G a b (((A : Int), (B : Int), false) :: r) = ((((numE F a A : Nat) : Int), ((numE G b B : Nat) : Int), false) :: K (kidF (F.drop A)) (kidF (G.drop B)) (numE F a A + 1) (numE G b B + 1)) ++ pgL K F G a b r := by
  rw [pgL, if_neg (by simp)]; rfl
theorem kidOf_drop {f F : Forest} {a A : Nat} (hl : LyP f F a) (h : A < F.len) : KidOf f ((numE F a A : Nat) : Int) (kidF (F.drop A)) (numE F a A + 1) ∧ numE F a A < f.count ∧ szA f (numE F a A) = 1 + ((kidF (F.drop A)).count : Int) := by
  obtain ⟨h1, h2, h3⟩ := nums_at f F a A hl h
  rw [nums_numE F a A h] at h1 h2 h3
  obtain ⟨k, sp, n, ats, tx, kids, hd⟩ := F.drop_cons A h
  rw [hd] at h3 ⊢
  exact ⟨.inr ⟨_, k, sp, n, ats, tx, _, rfl, h1, h3, rfl⟩, h1, szA_at f _ h3⟩
theorem perm_alike {AL V R T TOT : List (Int × Int × Bool)} {s : Int × Int × Bool} (h : (AL ++ (((s :: V) ++ R) ++ T)).Perm TOT) : ((AL ++ [s]) ++ (R ++ (V ++ T))).Perm TOT := by
  refine List.Perm.trans ?_ h
  rw [List.append_assoc]
  refine List.Perm.append_left AL ?_
  show (s :: (R ++ (V ++ T))).Perm (s :: ((V ++ R) ++ T))
  refine List.Perm.cons s ?_
  rw [← List.append_assoc]
  exact List.Perm.append_right T List.perm_append_comm
/-- The last one of a row of pairs, and the row without it. -/
theorem pairs_last {w : World} {base : Nat} {u : Value} {M : List (Int × Int × Bool)} {x y : Int} {z : Bool} (h : PairsV w base u (M ++ [(x, y, z)])) :
    ∃ g cap, u = .slice (some ⟨g, 0, none⟩) (M.length + 1) cap ∧ base ≤ g ∧ M.length + 1 ≤ cap ∧ w.cell? ⟨g, M.length * 3, none⟩ = some (.int .i64 x) ∧ w.cell? ⟨g, M.length * 3 + 1, none⟩ = some (.int .i64 y) ∧ w.cell? ⟨g, M.length * 3 + 2, none⟩ = some (.bool z) ∧ PairsV w base (.slice (some ⟨g, 0, none⟩) M.length cap) M := by
  have hl : (M ++ [(x, y, z)]).length = M.length + 1 := by simp
  have hc := PairsV.cells h
  obtain ⟨_, h⟩ := h
  rcases h with ⟨h1, h0⟩ | ⟨g, cap, cur, h0, h1, h2, h3, h4, h5, h6⟩
  · rw [hl] at h0; omega
  · rw [hl] at h0 h3 h6
    obtain ⟨q', c', e1, hcs⟩ := hc
    obtain ⟨g', hq', _, hk⟩ := hcs (by rw [hl]; omega)
    rw [hl] at e1
    rw [h0] at e1
    cases e1
    cases hq'
    have hkl := hk M.length (by rw [hl]; omega)
    have e : (M ++ [(x, y, z)]).getD M.length p0 = (x, y, z) := by
      rw [List.getD, List.getElem?_append_right (Nat.le_refl _), Nat.sub_self]; rfl
    rw [e] at hkl
    refine ⟨g, cap, h0, h1, h3, hkl.1, hkl.2.1, hkl.2.2, ?_⟩
    refine ⟨by rw [flatP_len], .inr ⟨g, cap, cur, rfl, h1, h2, by omega, h4, h5, ?_⟩⟩
    have e2 := congrArg (List.take (M.length * 3)) h6
    rw [List.take_take, Nat.min_eq_left (by omega), flatP_app, List.take_left' (flatP_len M)] at e2
    exact e2
/-- What changes but two rows. -/
def Kp2 (W : World) (v1 v2 : Value) (W' : World) : Prop := ∀ b, b < W.heap.size → some b ≠ v1.ownBlock → some b ≠ v2.ownBlock → W'.heap[b]? = W.heap[b]?
end Go.Proofs.YtbabmkilbbbmoaaDoor
