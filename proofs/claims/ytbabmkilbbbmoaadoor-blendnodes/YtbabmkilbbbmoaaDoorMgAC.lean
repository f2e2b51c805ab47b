/-
  Several texts in one: what the functions of the program and of the document's answer do.
-/
import Derived.Test.YtbabmkilbbbmoaaDoorMgAB
import Derived.Test.YtbabmkilbbbmoaaDoorMgAA
import Derived.Maps.OwnSet
import Derived.Maps.OwnOps
import Derived.Maps.Views
import Derived.Maps.AppendAt
import Derived.Laws.ShiftsVar

/-
  match's numbers: a map in memory that numbers texts, and what of and ofTexts do.
-/
namespace Go.Proofs.YtbabmkilbbbmoaaDoor
open Go.RowKit Go.Maps Go.WideMaps
set_option linter.unusedVariables false
set_option linter.unusedSimpArgs false

theorem skey_ok {s : ByteArray} (h : s.size ≤ 9223372036854775807) : keyOf Tryd.prog 9 (.string s) = some (.string s.data.toList) :=
  keyOf_string_mk Tryd.underlying9 h
theorem zeroI (w : World) : (zeroValue 3).run Tryd.prog w = .ok (.int .i64 0) w := by kernel_rfl
theorem lawS : Keyed Tryd.prog 9 := string_keyed Tryd.underlying9

/-- Texts with their numbers. -/
def addT (D : List (List UInt8)) (s : List UInt8) : List (List UInt8) := if s ∈ D then D else D ++ [s]
def addAll (D : List (List UInt8)) : List (List UInt8) → List (List UInt8)
  | [] => D
  | s :: r => addAll (addT D s) r
def numT (D : List (List UInt8)) (s : List UInt8) : Int := (D.idxOf s : Int)
theorem addT_len (D : List (List UInt8)) (s : List UInt8) : (addT D s).length ≤ D.length + 1 := by unfold addT; split <;> simp
theorem addT_mem (D : List (List UInt8)) (s : List UInt8) : s ∈ addT D s := by unfold addT; split <;> simp [*]
theorem addT_pre (D : List (List UInt8)) (s : List UInt8) : D <+: addT D s := by
  unfold addT; split
  · exact List.prefix_refl _
  · exact List.prefix_append _ _
theorem addAll_pre : ∀ (l D : List (List UInt8)), D <+: addAll D l
  | [], D => List.prefix_refl _
  | s :: r, D => (addT_pre D s).trans (addAll_pre r _)
theorem addAll_len : ∀ (l D : List (List UInt8)), (addAll D l).length ≤ D.length + l.length
  | [], D => by simp [addAll]
  | s :: r, D => by
    have := addAll_len r (addT D s)
    have := addT_len D s
    simp only [addAll, List.length_cons]; omega
theorem addAll_app : ∀ (l k D : List (List UInt8)), addAll D (l ++ k) = addAll (addAll D l) k
  | [], k, D => rfl
  | s :: r, k, D => addAll_app r k _
theorem numT_pre {D D' : List (List UInt8)} (h : D <+: D') {s : List UInt8} (hs : s ∈ D) : numT D' s = numT D s := by
  obtain ⟨t, rfl⟩ := h
  unfold numT
  rw [List.idxOf_append, if_pos hs]
theorem addAll_mem : ∀ (l D : List (List UInt8)) (s : List UInt8), s ∈ l → s ∈ addAll D l
  | [], D, s, h => by cases h
  | x :: r, D, s, h => by
    rcases List.mem_cons.1 h with rfl | h
    · exact (addAll_pre r _).subset (addT_mem D s)
    · exact addAll_mem r _ s h
theorem numT_inj {D : List (List UInt8)} {s t : List UInt8} (hs : s ∈ D) (ht : t ∈ D) : numT D s = numT D t ↔ s = t := by
  constructor
  · intro h
    unfold numT at h
    have h' : D.idxOf s = D.idxOf t := by omega
    have e1 := List.getElem_idxOf (List.idxOf_lt_length_of_mem hs)
    have e2 := List.getElem_idxOf (List.idxOf_lt_length_of_mem ht)
    rw [← e1, ← e2]
    congr 1
  · rintro rfl; rfl
theorem numT_new {D : List (List UInt8)} {s : List UInt8} (h : ¬ s ∈ D) : numT (D ++ [s]) s = (D.length : Int) := by
  unfold numT
  rw [List.idxOf_append, if_neg h]
  simp

/-- A map that numbers these texts. -/
def NumM (w : World) (b : Nat) (D : List (List UInt8)) : Prop :=
  ∃ d : DataW Unit, w.ownsMap Tryd.prog 9 (plainElem Tryd.prog 3) b D.length d ∧ Maps.size d = D.length ∧ ∀ s : List UInt8, Maps.has d (.string s) = decide (s ∈ D) ∧ (s ∈ D → d.atKey (.string s) (.lit (.int .i64 0)) = .lit (.int .i64 (numT D s)))
theorem NumM.lt {w : World} {b : Nat} {D : List (List UInt8)} (h : NumM w b D) : b < w.heap.size := by
  obtain ⟨d, h1, _⟩ := h; exact h1.lt
theorem NumM.kept {w w' : World} {b : Nat} {D : List (List UInt8)} {row : Option Nat} (h : NumM w b D) (hg : w.grownBy w' row) (hne : some b ≠ row) : NumM w' b D := by
  obtain ⟨d, h1, h2⟩ := h; exact ⟨d, h1.kept hg hne, h2⟩
theorem NumM.alloc {w : World} {b : Nat} {D : List (List UInt8)} (h : NumM w b D) (o : Obj) : NumM (w.alloc o) b D := by
  obtain ⟨d, h1, h2⟩ := h; exact ⟨d, h1.alloc o, h2⟩
theorem NumM.later {w w' : World} {b : Nat} {D : List (List UInt8)} (h : NumM w b D) (hb : Below w.heap.size w w') : NumM w' b D := by
  have hl := h.lt
  obtain ⟨d, ⟨es, clock, h1, r⟩, h2⟩ := h
  exact ⟨d, ⟨es, clock, (hb.block b hl).trans h1, r⟩, h2⟩
theorem NumM.ne {w : World} {b : Nat} {D : List (List UInt8)} (h : NumM w b D) {bb o : Nat} {v : Value} (hc : w.cell? ⟨bb, o, none⟩ = some v) : bb ≠ b := by
  rintro rfl
  obtain ⟨d, ⟨es, clock, h1, r⟩, h2⟩ := h
  simp [World.cell?, h1] at hc
theorem grown_cell {w w1 : World} {b : Nat} (h1 : w.grownBy w1 (some b)) {bb o : Nat} {v : Value} (hc : w.cell? ⟨bb, o, none⟩ = some v) (hne : bb ≠ b) : w1.cell? ⟨bb, o, none⟩ = some v :=
  (World.cell?_of_block (a := ⟨bb, o, none⟩) (h1.block bb (World.block_lt_of_cell? w ⟨bb, o, none⟩ hc) (by simpa using hne))).trans hc
theorem numM_new (w : World) : NumM (w.alloc (.map #[] 0)) w.heap.size [] :=
  ⟨.map [], World.ownsMap_made _ _ _ _, rfl, fun s => ⟨by simp [Maps.has], fun h => by cases h⟩⟩

/-- What a call may change: the map's block, and what is new. -/
theorem grown_trans {w w1 w2 : World} {b : Nat} (h1 : w.grownBy w1 (some b)) (h2 : w1.grownBy w2 (some b)) : w.grownBy w2 (some b) :=
  ⟨h2.os.trans h1.os, h2.tape.trans h1.tape, h2.output.trans h1.output, Nat.le_trans h1.size h2.size, fun k hk hne => (h2.block k (Nat.lt_of_lt_of_le hk h1.size) hne).trans (h1.block k hk hne)⟩
theorem grown_below {w w1 w2 : World} {b : Nat} (h1 : w.grownBy w1 (some b)) (h2 : Below w.heap.size w1 w2) : w.grownBy w2 (some b) :=
  ⟨h2.os.trans h1.os, h2.tape.trans h1.tape, h2.output.trans h1.output, Nat.le_trans h1.size h2.size, fun k hk hne => (h2.block k hk).trans (h1.block k hk hne)⟩

theorem owns_grown {w w' : World} {base : Nat} {e : TypeId} {size : Nat} {v : Value} {n : Nat} {xs : List Value} (h : w.ownsRow base e size v n xs) {M : Nat} (hg : w.grownBy w' (some M)) (hM : M < base) : w'.ownsRow base e size v n xs := by
  obtain ⟨hl, h⟩ := h
  refine ⟨hl, ?_⟩
  rcases h with h | ⟨g, cap, cur, h1, h2, h3, h4, h5, h6, h7⟩
  · exact .inl h
  · refine .inr ⟨g, cap, cur, h1, h2, ?_, h4, h5, h6, h7⟩
    have hlt : g < w.heap.size := by
      rcases Nat.lt_or_ge g w.heap.size with h | h
      · exact h
      · rw [Array.getElem?_eq_none h] at h3; cases h3
    rw [hg.block g hlt (by intro e; cases e; omega)]; exact h3
set_option maxHeartbeats 1000000 in
set_option maxRecDepth 100000 in
theorem nof_old (b : Nat) (D : List (List UInt8)) (s : ByteArray) (w : World) (h : NumM w b D) (hs : s.size ≤ 9223372036854775807) (hin : s.data.toList ∈ D) :
    Calls Tryd.prog 62 #[.map (some b), .string s] w fun e w' => e = .returned (.int .i64 (numT D s.data.toList)) ∧ w' = w := by
  obtain ⟨d, hown, hsz, hall⟩ := h
  obtain ⟨hhas, hat0⟩ := hall s.data.toList
  have hat1 := hat0 hin
  rw [decide_eq_true hin] at hhas
  have HAT := hide hat1
  have hkey := skey_ok hs
  have HO := hide hown
  clear hat0 hat1 hall hown hin hsz
  go_enter Tryd.func62, Tryd.ntmps62
  go_wp2_with (at_lookup; refine wpList_lookup_own_ok_int _ rfl _ _ 65 rfl 9 3 .i64 lawS Tryd.underlying65 Tryd.underlying3 (zeroI _) b D.length d rfl (unhide HO) _ _ rfl hkey ?_; intro c hat hwc; rw [hhas]; have hc : c = numT D s.data.toList := by (have := (unhide HAT).symm.trans hat; injection this with this; injection this with _ this; exact this.symm))
  go_ret
  exact ⟨rfl, rfl⟩
theorem NumM.put {w1 : World} {b : Nat} {D : List (List UInt8)} {s : List UInt8} {d : DataW Unit} (hnin : ¬ s ∈ D) (hm : Maps.IsMap d) (ht : Maps.Tidy d) (hsz : Maps.size d = D.length) (hall : ∀ s : List UInt8, Maps.has d (.string s) = decide (s ∈ D) ∧ (s ∈ D → d.atKey (.string s) (.lit (.int .i64 0)) = .lit (.int .i64 (numT D s))))
    (h : w1.ownsMap Tryd.prog 9 (plainElem Tryd.prog 3) b (D.length + 1) (d.put (.string s) (.lit (.int .i64 (D.length : Int))))) : NumM w1 b (D ++ [s]) := by
  refine ⟨_, by rw [List.length_append]; exact h, ?_, fun t => ?_⟩
  · rw [Maps.size_put ht, (hall s).1, decide_eq_false hnin, List.length_append, hsz]; rfl
  · by_cases e : t = s
    · subst e
      refine ⟨?_, fun _ => ?_⟩
      · rw [Maps.has_put_same hm (by trivial)]; simp
      · rw [Maps.atKey_put_same hm (by trivial), numT_new hnin]
    · have hne : (Lit.string t) ≠ (Lit.string s) := fun x => e (by injection x)
      refine ⟨?_, fun ht' => ?_⟩
      · rw [Maps.has_put_other hne, (hall t).1]
        by_cases hd : t ∈ D <;> simp [hd, e]
      · have hd : t ∈ D := by
          rcases List.mem_append.1 ht' with h | h
          · exact h
          · simp at h; exact absurd h e
        rw [Maps.atKey_put_other hne, (hall t).2 hd, numT_pre (List.prefix_append _ _) hd]

set_option maxHeartbeats 1000000 in
set_option maxRecDepth 100000 in
theorem nof_new (b : Nat) (D : List (List UInt8)) (s : ByteArray) (w : World) (h : NumM w b D) (hs : s.size ≤ 9223372036854775807) (hl : D.length ≤ 1000000) (hin : ¬ s.data.toList ∈ D) :
    Calls Tryd.prog 62 #[.map (some b), .string s] w fun e w' => e = .returned (.int .i64 (D.length : Int)) ∧ NumM w' b (D ++ [s.data.toList]) ∧ w.grownBy w' (some b) := by
  obtain ⟨d, hown, hsz, hall⟩ := h
  obtain ⟨hhas, _⟩ := hall s.data.toList
  rw [decide_eq_false hin] at hhas
  have HP := hide (fun w1 h1 => NumM.put (w1 := w1) (b := b) hin hown.isMap (hown.tidy lawS) hsz hall h1)
  have hkey := skey_ok hs
  have HO := hide hown
  have hw1 : (Lit.int .i64 (D.length : Int)).wf = true := WalkArith.wf_i64 (by omega)
  clear hall hown hin
  go_enter Tryd.func62, Tryd.ntmps62
  go_wp2_with (first
    | (at_lookup; refine wpList_lookup_own_ok_int _ rfl _ _ 65 rfl 9 3 .i64 lawS Tryd.underlying65 Tryd.underlying3 (zeroI _) b D.length d rfl (unhide HO) _ _ rfl hkey ?_; intro c hat hwc; rw [hhas])
    | (at_len; refine wpList_len_own _ rfl _ 65 rfl 9 3 Tryd.underlying65 _ b D.length d rfl (unhide HO) ?_; rw [hsz])
    | (at_mapUpdate; refine wpList_mapUpdate_own _ rfl _ _ _ 65 rfl 9 3 lawS Tryd.underlying65 (plainElem (H := Unit) Tryd.prog 3) b D.length d rfl (unhide HO) (by unfold maxLen; omega) _ _ _ rfl rfl hkey _ [] (plainElem_int Tryd.underlying3 hw1) ?_; intro w1 hown1 hgrow1)
    | go_in)
  go_ret
  exact ⟨rfl, unhide HP _ hown1, hgrow1⟩
set_option maxRecDepth 100000 in
theorem nof_any (b : Nat) (D : List (List UInt8)) (s : ByteArray) (w : World) (h : NumM w b D) (hs : s.size ≤ 9223372036854775807) (hl : D.length ≤ 1000000) :
    Calls Tryd.prog 62 #[.map (some b), .string s] w fun e w' => e = .returned (.int .i64 (numT (addT D s.data.toList) s.data.toList)) ∧ NumM w' b (addT D s.data.toList) ∧ w.grownBy w' (some b) := by
  by_cases hin : s.data.toList ∈ D
  · refine (nof_old b D s w h hs hin).mono ?_
    rintro e w' ⟨rfl, rfl⟩
    unfold addT
    rw [if_pos hin]
    exact ⟨rfl, h, ⟨rfl, rfl, rfl, Nat.le_refl _, fun _ _ _ => rfl⟩⟩
  · refine (nof_new b D s w h hs hl hin).mono ?_
    rintro e w' ⟨rfl, h2, h3⟩
    unfold addT
    rw [if_neg hin, numT_new hin]
    exact ⟨rfl, h2, h3⟩

/-! ### a list's numbers -/
def intV (z : Int) : Value := .int .i64 z
theorem mfoInt0 : (Tryd.prog.info? 3).map (fun i => (i.zero, i.size, i.bytes)) = some (some (.int .i64 0), 1, 8) := by kernel_rfl
theorem mfoInt : ∃ i, Tryd.prog.info? 3 = some i ∧ i.zero = some (.int .i64 0) ∧ i.size = 1 ∧ i.bytes = 8 := by
  have h := mfoInt0
  cases hi : Tryd.prog.info? 3 with
  | none => rw [hi] at h; cases h
  | some i =>
    rw [hi] at h
    simp only [Option.map_some, Option.some.injEq, Prod.mk.injEq] at h
    exact ⟨i, rfl, h.1, h.2.1, h.2.2⟩
theorem cell_one_new (w : World) (x : Value) (t : TypeId) : ∀ j u, [x][j]? = some u → (w.alloc (Obj.cells #[x] t)).cell? ((⟨w.heap.size, 0, none⟩ : Addr).add j) = some u := by
  intro j u h
  cases j with
  | zero => simp at h; subst h; exact World.cell?_alloc_at _ _ _ _ rfl
  | succ j => simp at h
def tx (ss : List ByteArray) (k : Nat) : ByteArray := ss.getD k ByteArray.empty
def txs (ss : List ByteArray) : List (List UInt8) := ss.map (fun s => s.data.toList)
theorem txs_take (ss : List ByteArray) (k : Nat) (h : k < ss.length) : (txs ss).take (k + 1) = (txs ss).take k ++ [(tx ss k).data.toList] := by
  unfold txs tx
  rw [List.take_add_one, List.getElem?_map, List.getElem?_eq_getElem h, List.getD, List.getElem?_eq_getElem h]
  rfl
/-- The numbers of the first k of some texts. -/
def numsK (D : List (List UInt8)) (l : List (List UInt8)) : List Int := l.map (numT (addAll D l))
theorem numsK_snoc (D l : List (List UInt8)) (s : List UInt8) : numsK D (l ++ [s]) = numsK D l ++ [numT (addAll D (l ++ [s])) s] := by
  unfold numsK
  rw [List.map_append]
  congr 1
  apply List.map_congr_left
  intro x hx
  rw [addAll_app]
  exact numT_pre (addAll_pre _ _) (addAll_mem l D x hx)
set_option maxHeartbeats 1000000 in
theorem ofTexts_any (b : Nat) (D : List (List UInt8)) (v : Value) (ss : List ByteArray) (w : World) (h : NumM w b D) (hv : View w v ss) (hs : ∀ k, k < ss.length → (tx ss k).size ≤ 9223372036854775807) (hl : D.length + ss.length ≤ 100000) :
    Calls Tryd.prog 60 #[.map (some b), v] w fun e w' => ∃ u, e = .returned u ∧ w'.ownsRow w.heap.size 3 1 u ss.length ((numsK D (txs ss)).map intV) ∧ NumM w' b (addAll D (txs ss)) ∧ w.grownBy w' (some b) := by
  obtain ⟨hvl, a, cap, rfl, hc⟩ := hv
  obtain ⟨i0, hi0, hi1, hi2, hi3⟩ := mfoInt
  have HC := hide hc
  have HS := hide hs
  have hb0 := h.lt
  have H := hide h
  have HT : Hid ((txs ss).take ss.length = txs ss) := hide (List.take_of_length_le (by unfold txs; rw [List.length_map]; exact Nat.le_refl _))
  have HTK := hide (txs_take ss)
  have HLK : Hid (∀ k, ((txs ss).take k).length ≤ k) := hide (fun k => by rw [List.length_take]; omega)
  generalize hT : txs ss = T at *
  clear hc hs h hT
  go_enter Tryd.func60, Tryd.ntmps60
  go_wp2
  go_loopw [10, 5] (fun i u wr => ∃ k : Nat, k ≤ ss.length ∧ i = .int .i64 k ∧ wr.ownsRow w.heap.size 3 1 u k ((numsK D (T.take k)).map intV) ∧ NumM wr b (addAll D (T.take k)) ∧ w.grownBy wr (some b)) (fun i _ _ => ss.length - (intOf i).toNat)
  case atStart => exact ⟨0, Nat.zero_le _, rfl, by simpa [numsK] using World.ownsRow_nil w w.heap.size 3 1, by simpa [addAll] using unhide H, ⟨rfl, rfl, rfl, Nat.le_refl _, fun _ _ _ => rfl⟩⟩
  case round =>
    obtain ⟨k, hk, rfl, hrow, hnum, hgr⟩ := hrel
    have HR := hide hrow
    have HN := hide hnum
    have HG := hide hgr
    have hz := hgr.size
    clear hrow hnum hgr
    by_cases hp : k < ss.length
    · have hpi : (k : Int) < (ss.length : Int) := by omega
      obtain ⟨bb, off, rfl, hcell⟩ := unhide HC (by omega)
      have c0 := grown_cell (unhide HG) (hcell k hp) ((unhide H).ne (hcell k hp))
      have hsk := unhide HS k hp
      have htk := unhide HTK k hp
      have hlk := unhide HLK k
      have hlk2 := addAll_len (T.take k) D
      have CN := hide (fun W hW => nof_any b (addAll D (T.take k)) (tx ss k) W hW hsk (by omega))
      have HS1 : Hid (addT (addAll D (T.take k)) (tx ss k).data.toList = addAll D (T.take (k + 1))) := hide (by rw [htk, addAll_app]; rfl)
      have HS2 : Hid (numsK D (T.take (k + 1)) = numsK D (T.take k) ++ [numT (addAll D (T.take (k + 1))) (tx ss k).data.toList]) := hide (by rw [htk]; exact numsK_snoc _ _ _)
      have c1 : wr.cell? ⟨bb, off + k, none⟩ = some (.string (tx ss k)) := c0
      rw [unhide HS1] at CN
      obtain ⟨ra, rn, rc, hu⟩ := slice_of (unhide HR)
      subst hu
      generalize numT (addAll D (T.take (k + 1))) (tx ss k).data.toList = z at *
      generalize tx ss k = t at *
      clear htk c0 hsk hcell HS1 hlk hlk2
      go_wp2_with fail
      refine (unhide CN wr (unhide HN)).mono ?_
      rintro e w2 ⟨rfl, hn2, hg2⟩
      have hb2 := hn2.lt
      have R2 := hide (owns_grown (unhide HR) hg2 hb0)
      have N2 := hide hn2
      have G2 := hide (grown_trans (unhide HG) hg2)
      have hz2 := (unhide G2).size
      clear hn2 hg2 CN HN HR HG
      go_wp2_with (at_builtin; refine wpList_append_own_at _ rfl _ _ 38 rfl w.heap.size 3 i0 (.int .i64 0) 1 8 Tryd.underlying38 hi0 hi1 hi2 hi3 rfl (by decide) (.slice ra rn rc) _ _ rfl ((unhide R2).alloc _) ⟨w2.heap.size, 0, none⟩ 1 1 [.int .i64 z] rfl rfl ?c1 ?c2 ?c3 ?c4 ?c5 ?_)
      case c1 => exact cell_one_new _ _ _
      case c2 => simp [Value.oneCell']
      case c3 => simp only [maxLen]; omega
      case c4 => omega
      case c5 => simp; omega
      intro u' w3 hown hgr _ hat
      have hrb : ∀ j, some j = (Value.slice ra rn rc).ownBlock → w.heap.size ≤ j := fun j hj => ((unhide R2).lt j hj.symm).1
      go_wp2
      go_roundw
      case rel =>
        refine ⟨k + 1, by omega, by go_num, ?_, ?_, ?_⟩
        · rw [unhide HS2, List.map_append]; exact hown
        · exact ((unhide N2).alloc _).kept hgr (fun e => by have := hrb _ e; omega)
        · exact grown_below (unhide G2) (((Below.refl w.heap.size w2).alloc (by omega) _).grown hgr (by simp; omega) (fun j hj => hrb j hj.symm))
      case measure => simp [intOf]; omega
    · have hke : k = ss.length := by omega
      have hpi : ¬ (k : Int) < (ss.length : Int) := by omega
      subst hke
      rw [unhide HT] at HR HN
      go_wp2
      go_ret
      exact ⟨_, rfl, unhide HR, unhide HN, unhide HG⟩
end Go.Proofs.YtbabmkilbbbmoaaDoor

/-
  match's choices: bits in words; what onInA and setOnInA do.
-/
namespace Go.Proofs.YtbabmkilbbbmoaaDoor
open Go.RowKit
set_option linter.unusedVariables false
set_option linter.unusedSimpArgs false

def wordV (x : Nat) : Value := .int .u64 (x : Int)
def ptr (p : Nat) : Value := .pointer (some ⟨p, 0, none⟩)
def bitAt (X : List Nat) (a : Nat) : Bool := (X.getD (a / 64) 0).testBit (a % 64)

theorem bit_get (x k : Nat) (h : x < 18446744073709551616) : (bits .and .u64 ((x : Int) / 2 ^ k) 1 == 1) = x.testBit k := by
  have hd : ((x : Int) / 2 ^ k) = ((x / 2 ^ k : Nat) : Int) := by simp
  have hle : x / 2 ^ k ≤ x := Nat.div_le_self _ _
  have hnn : (0 : Int) ≤ ((x / 2 ^ k : Nat) : Int) := Int.natCast_nonneg _
  generalize hq : x / 2 ^ k = q at *
  rw [hd, and_one_u64 _ hnn (by omega), Nat.testBit_eq_decide_div_mod_eq]
  by_cases h1 : q % 2 = 1
  · rw [hq, decide_eq_true h1]
    have : (q : Int) % 2 = 1 := by omega
    rw [this]; rfl
  · rw [hq, decide_eq_false h1]
    have : (q : Int) % 2 = 0 := by omega
    rw [this]; rfl
theorem or_lt {x k : Nat} (h : x < 18446744073709551616) (hk : k < 64) : x ||| 2 ^ k < 18446744073709551616 := by
  have h2 : 2 ^ k < 2 ^ 64 := Nat.pow_lt_pow_of_lt (by decide) hk
  exact Nat.or_lt_two_pow (n := 64) h h2
theorem u64_pow {k : Nat} (hk : k < 64) : IntKind.u64.wrap (2 ^ k) = 2 ^ k := by
  have h2 : (2 : Int) ^ k < 2 ^ 64 := Int.pow_lt_pow_of_lt (by decide) hk
  rw [IntKind.wrap_u64]
  exact Int.emod_eq_of_lt (Int.le_of_lt (Int.pow_pos (by decide))) h2
theorem bit_set (x k : Nat) (h : x < 18446744073709551616) (hk : k < 64) : bits .or .u64 (x : Int) (2 ^ k) = ((x ||| 2 ^ k : Nat) : Int) := by
  have h2 : 2 ^ k < 2 ^ 64 := Nat.pow_lt_pow_of_lt (by decide) hk
  have e : ((2 : Int) ^ k) = ((2 ^ k : Nat) : Int) := by simp
  rw [e, u64_or_nat x (2 ^ k) h h2]
set_option maxHeartbeats 1000000 in
theorem onInA_any (cb g n cap W i j p x : Nat) (w : World) (hc : Blk w cb #[.int .i64 (W : Int), .slice (some ⟨g, 0, none⟩) n cap] 151)
    (hp : (i : Int) * (W : Int) = (p : Int)) (hb : p + j ≤ 10000000) (hn : (p + j) / 64 < n) (hx : w.cell? ⟨g, (p + j) / 64, none⟩ = some (.int .u64 (x : Int))) (hx2 : x < 18446744073709551616) :
    Calls Tryd.prog 84 #[ptr cb, .int .i64 (i : Int), .int .i64 (j : Int)] w fun e w' => e = .returned (.bool (x.testBit ((p + j) % 64))) ∧ w' = w := by
  have c0 : w.cell? ⟨cb, 0, none⟩ = some (.int .i64 (W : Int)) := hc.cell 0
  have c1 : w.cell? ⟨cb, 1, none⟩ = some (.slice (some ⟨g, 0, none⟩) n cap) := hc.cell 1
  clear hc
  unfold ptr
  go_enter Tryd.func84, Tryd.ntmps84
  go_wp2
  go_ret
  exact ⟨by rw [bit_get _ _ hx2]; rfl, rfl⟩

set_option maxHeartbeats 1000000 in
theorem setOnInA_any (cb g n cap W i j p x : Nat) (w : World) (hc : Blk w cb #[.int .i64 (W : Int), .slice (some ⟨g, 0, none⟩) n cap] 151)
    (hp : (i : Int) * (W : Int) = (p : Int)) (hb : p + j ≤ 10000000) (hn : (p + j) / 64 < n) (hx : w.cell? ⟨g, (p + j) / 64, none⟩ = some (.int .u64 (x : Int))) (hf : w.frozen? ⟨g, (p + j) / 64, none⟩ = false) (hx2 : x < 18446744073709551616) (hne : g ≠ cb) :
    Calls Tryd.prog 109 #[ptr cb, .int .i64 (i : Int), .int .i64 (j : Int)] w fun e w' => e = .returned (.tuple #[]) ∧ w' = (w.setCell ⟨g, (p + j) / 64, none⟩ (wordV (x ||| 2 ^ ((p + j) % 64)))).drew := by
  have c0 : w.cell? ⟨cb, 0, none⟩ = some (.int .i64 (W : Int)) := hc.cell 0
  have c1 : w.cell? ⟨cb, 1, none⟩ = some (.slice (some ⟨g, 0, none⟩) n cap) := hc.cell 1
  clear hc
  unfold ptr
  go_enter Tryd.func109, Tryd.ntmps109
  go_wp2
  go_region
  rw [u64_pow (Nat.mod_lt _ (by decide)), bit_set _ _ hx2 (Nat.mod_lt _ (by decide))]
  refine bodyPost_end (v := .tuple #[]) (results_none Tryd.results109 _ _ _) rfl ?_
  exact ⟨rfl, rfl⟩
end Go.Proofs.YtbabmkilbbbmoaaDoor
