/-
  Several texts in one: what the functions of the program and of the document's answer do.
-/
import Derived.Test.YtbabmkilbbbmoaaDoorMgAW
import Derived.Laws.EntriesVeiled
import Derived.Test.YtbabmkilbbbmoaaDoorMgAA
import Derived.Deep.SlicePairs
import Derived.Deep.Strs
import Derived.Carry
import Derived.OpenShut

/-
  What 'numbers.ofNodes' does: the numbers of what a function tells of nodes.
-/
namespace Go.Proofs.YtbabmkilbbbmoaaDoor
open Go.RowKit Go.Maps
set_option linter.unusedVariables false
set_option linter.unusedSimpArgs false

/-- A node's cells. -/
structure NdC where
  k : Int
  sp : Int
  n : ByteArray
  qa : Option Addr
  la : Nat
  ca : Nat
  tx : ByteArray
  qk : Option Addr
  lk : Nat
  ck : Nat
def NdC.cs (y : NdC) : List Value := [.int .i64 y.k, .int .i64 y.sp, .string y.n, .slice y.qa y.la y.ca, .string y.tx, .slice y.qk y.lk y.ck]
def NdC.val (y : NdC) : Value := .agg #[.int .i64 y.k, .int .i64 y.sp, .string y.n, .slice y.qa y.la y.ca, .string y.tx, .slice y.qk y.lk y.ck]
def NdsV (w : World) (q : Option Addr) (n : Nat) (vv : Nat → NdC) : Prop := 0 < n → ∃ g o, q = some ⟨g, o, none⟩ ∧ ∀ k, k < n → ∀ j, j < 6 → w.cell? ⟨g, o + k * 6 + j, none⟩ = (vv k).cs[j]?
set_option maxHeartbeats 4000000 in
set_option maxRecDepth 100000 in
theorem ofNodes_key (b : Nat) (D : List (List UInt8)) (q : Option Addr) (c : Nat) (ss : List ByteArray) (vv : Nat → NdC) (w : World) (h : NumM w b D) (hv : NdsV w q ss.length vv) (hs : ∀ k, k < ss.length → (tx ss k).size ≤ 9223372036854775807) (hl : D.length + ss.length ≤ 100000)
    (hF : ∀ k, k < ss.length → ∀ W, w.grownBy W (some b) → Calls Tryd.prog 31 #[(vv k).val] W fun e w' => e = .returned (.string (tx ss k)) ∧ Below W.heap.size W w') :
    Calls Tryd.prog 30 #[.map (some b), .slice q ss.length c, .func (Fn.func 31) #[] #[]] w fun e w' => ∃ u, e = .returned u ∧ w'.ownsRow w.heap.size 3 1 u ss.length ((numsK D (txs ss)).map intV) ∧ NumM w' b (addAll D (txs ss)) ∧ w.grownBy w' (some b) := by
  obtain ⟨i0, hi0, hi1, hi2, hi3⟩ := mfoInt
  have HC := hide hv
  have HS := hide hs
  have HFF := hide hF
  have hb0 := h.lt
  have H := hide h
  have HT : Hid ((txs ss).take ss.length = txs ss) := hide (List.take_of_length_le (by unfold txs; rw [List.length_map]; exact Nat.le_refl _))
  have HTK := hide (txs_take ss)
  have HLK : Hid (∀ k, ((txs ss).take k).length ≤ k) := hide (fun k => by rw [List.length_take]; omega)
  generalize hT : txs ss = T at *
  clear hv hs h hT hF
  go_enter Tryd.func30, Tryd.ntmps30
  go_wp2
  go_loopw [12, 7] (fun i u wr => ∃ k : Nat, k ≤ ss.length ∧ i = .int .i64 k ∧ wr.ownsRow w.heap.size 3 1 u k ((numsK D (T.take k)).map intV) ∧ NumM wr b (addAll D (T.take k)) ∧ w.grownBy wr (some b)) (fun i _ _ => ss.length - (intOf i).toNat)
  case atStart => exact ⟨0, Nat.zero_le _, rfl, by simpa [numsK] using World.ownsRow_nil w w.heap.size 3 1, by simpa [addAll] using unhide H, ⟨rfl, rfl, rfl, Nat.le_refl _, fun _ _ _ => rfl⟩⟩
  case round =>
    obtain ⟨k, hk, rfl, hrow, hnum, hgr⟩ := hrel
    have HR := hide hrow
    have HN := hide hnum
    have HG := hide hgr
    have hz := hgr.size
    clear hrow hnum hgr
    by_cases hp : k < ss.length
    · have hpi : (k : Int) < (ss.length : Int) := by omega
      obtain ⟨bb, off, rfl, hcell⟩ := unhide HC (by omega)
      have cc : ∀ j v, j < 6 → (vv k).cs[j]? = some v → wr.cell? ⟨bb, off + k * 6 + j, none⟩ = some v := fun j v hj hv => by
        have h0 := hcell k hp j hj
        rw [hv] at h0
        exact grown_cell (unhide HG) h0 ((unhide H).ne h0)
      have CF := hide (unhide HFF k hp)
      generalize vv k = y at *
      obtain ⟨yk, ysp, yn, yqa, yla, yca, ytx, yqk, ylk, yck⟩ := y
      have e0 : wr.cell? ⟨bb, off + k * 6, none⟩ = some (.int .i64 yk) := cc 0 _ (by decide) rfl
      have e1 : wr.cell? ⟨bb, off + k * 6 + 1, none⟩ = some (.int .i64 ysp) := cc 1 _ (by decide) rfl
      have e2 : wr.cell? ⟨bb, off + k * 6 + 2, none⟩ = some (.string yn) := cc 2 _ (by decide) rfl
      have e3 : wr.cell? ⟨bb, off + k * 6 + 3, none⟩ = some (.slice yqa yla yca) := cc 3 _ (by decide) rfl
      have e4 : wr.cell? ⟨bb, off + k * 6 + 4, none⟩ = some (.string ytx) := cc 4 _ (by decide) rfl
      have e5 : wr.cell? ⟨bb, off + k * 6 + 5, none⟩ = some (.slice yqk ylk yck) := cc 5 _ (by decide) rfl
      unfold NdC.val at CF
      dsimp only at CF
      have hsk := unhide HS k hp
      have htk := unhide HTK k hp
      have hlk := unhide HLK k
      have hlk2 := addAll_len (T.take k) D
      have CN := hide (fun W hW => nof_any b (addAll D (T.take k)) (tx ss k) W hW hsk (by omega))
      have HS1 : Hid (addT (addAll D (T.take k)) (tx ss k).data.toList = addAll D (T.take (k + 1))) := hide (by rw [htk, addAll_app]; rfl)
      have HS2 : Hid (numsK D (T.take (k + 1)) = numsK D (T.take k) ++ [numT (addAll D (T.take (k + 1))) (tx ss k).data.toList]) := hide (by rw [htk]; exact numsK_snoc _ _ _)
      rw [unhide HS1] at CN
      obtain ⟨ra, rn, rc, hu⟩ := slice_of (unhide HR)
      subst hu
      generalize numT (addAll D (T.take (k + 1))) (tx ss k).data.toList = z at *
      generalize tx ss k = t at *
      have HGX := hide (grown_below (unhide HG) ((Below.refl w.heap.size wr).alloc (by omega) (Obj.cells #[.int .i64 yk, .int .i64 ysp, .string yn, .slice yqa yla yca, .string ytx, .slice yqk ylk yck] 44)))
      have HNX := hide ((unhide HN).alloc (Obj.cells #[.int .i64 yk, .int .i64 ysp, .string yn, .slice yqa yla yca, .string ytx, .slice yqk ylk yck] 44))
      have HRX := hide ((unhide HR).alloc (Obj.cells #[.int .i64 yk, .int .i64 ysp, .string yn, .slice yqa yla yca, .string ytx, .slice yqk ylk yck] 44))
      clear htk hsk hcell HS1 hlk hlk2 cc
      go_wp2_with fail
      refine (unhide CF _ (unhide HGX)).mono ?_
      rintro e w1 ⟨rfl, hb1⟩
      have HN1 := hide ((unhide HNX).later hb1)
      have HR1 := hide (ownsRow_below (unhide HRX) hb1)
      have HG1 := hide (grown_below (unhide HGX) (hb1.mono (by have := (unhide HGX).size; omega)))
      clear hb1 CF HNX HRX HGX
      go_wp2_with fail
      refine (unhide CN w1 (unhide HN1)).mono ?_
      rintro e w2 ⟨rfl, hn2, hg2⟩
      have hb2 := hn2.lt
      have R2 := hide (owns_grown (unhide HR1) hg2 hb0)
      have N2 := hide hn2
      have G2 := hide (grown_trans (unhide HG1) hg2)
      have hz2 := (unhide G2).size
      clear hn2 hg2 CN HN HR HG HN1 HR1 HG1
      go_wp2_with (at_builtin; refine wpList_append_own_at _ rfl _ _ 38 rfl w.heap.size 3 i0 (.int .i64 0) 1 8 Tryd.underlying38 hi0 hi1 hi2 hi3 rfl (by decide) (.slice ra rn rc) _ _ rfl ((unhide R2).alloc _) ⟨w2.heap.size, 0, none⟩ 1 1 [.int .i64 z] rfl rfl ?c1 ?c2 ?c3 ?c4 ?c5 ?_)
      case c1 => exact cell_one_new _ _ _
      case c2 => simp [Value.oneCell']
      case c3 => simp only [maxLen]; omega
      case c4 => omega
      case c5 => simp; omega
      intro u' w3 hown hgr _ hat
      have hrb : ∀ j, some j = (Value.slice ra rn rc).ownBlock → w.heap.size ≤ j := fun j hj => ((unhide R2).lt j hj.symm).1
      go_wp2
      go_roundw
      case rel =>
        refine ⟨k + 1, by omega, by go_num, ?_, ?_, ?_⟩
        · rw [unhide HS2, List.map_append]; exact hown
        · exact ((unhide N2).alloc _).kept hgr (fun e => by have := hrb _ e; omega)
        · exact grown_below (unhide G2) (((Below.refl w.heap.size w2).alloc (by omega) _).grown hgr (by simp; omega) (fun j hj => hrb j hj.symm))
      case measure => simp [intOf]; omega
    · have hke : k = ss.length := by omega
      have hpi : ¬ (k : Int) < (ss.length : Int) := by omega
      subst hke
      rw [unhide HT] at HR HN
      go_wp2
      go_ret
      exact ⟨_, rfl, unhide HR, unhide HN, unhide HG⟩
set_option maxHeartbeats 4000000 in
set_option maxRecDepth 100000 in
theorem ofNodes_lab (b : Nat) (D : List (List UInt8)) (q : Option Addr) (c : Nat) (ss : List ByteArray) (vv : Nat → NdC) (w : World) (h : NumM w b D) (hv : NdsV w q ss.length vv) (hs : ∀ k, k < ss.length → (tx ss k).size ≤ 9223372036854775807) (hl : D.length + ss.length ≤ 100000)
    (hF : ∀ k, k < ss.length → ∀ W, w.grownBy W (some b) → Calls Tryd.prog 32 #[(vv k).val] W fun e w' => e = .returned (.string (tx ss k)) ∧ Below W.heap.size W w') :
    Calls Tryd.prog 30 #[.map (some b), .slice q ss.length c, .func (Fn.func 32) #[] #[]] w fun e w' => ∃ u, e = .returned u ∧ w'.ownsRow w.heap.size 3 1 u ss.length ((numsK D (txs ss)).map intV) ∧ NumM w' b (addAll D (txs ss)) ∧ w.grownBy w' (some b) := by
  obtain ⟨i0, hi0, hi1, hi2, hi3⟩ := mfoInt
  have HC := hide hv
  have HS := hide hs
  have HFF := hide hF
  have hb0 := h.lt
  have H := hide h
  have HT : Hid ((txs ss).take ss.length = txs ss) := hide (List.take_of_length_le (by unfold txs; rw [List.length_map]; exact Nat.le_refl _))
  have HTK := hide (txs_take ss)
  have HLK : Hid (∀ k, ((txs ss).take k).length ≤ k) := hide (fun k => by rw [List.length_take]; omega)
  generalize hT : txs ss = T at *
  clear hv hs h hT hF
  go_enter Tryd.func30, Tryd.ntmps30
  go_wp2
  go_loopw [12, 7] (fun i u wr => ∃ k : Nat, k ≤ ss.length ∧ i = .int .i64 k ∧ wr.ownsRow w.heap.size 3 1 u k ((numsK D (T.take k)).map intV) ∧ NumM wr b (addAll D (T.take k)) ∧ w.grownBy wr (some b)) (fun i _ _ => ss.length - (intOf i).toNat)
  case atStart => exact ⟨0, Nat.zero_le _, rfl, by simpa [numsK] using World.ownsRow_nil w w.heap.size 3 1, by simpa [addAll] using unhide H, ⟨rfl, rfl, rfl, Nat.le_refl _, fun _ _ _ => rfl⟩⟩
  case round =>
    obtain ⟨k, hk, rfl, hrow, hnum, hgr⟩ := hrel
    have HR := hide hrow
    have HN := hide hnum
    have HG := hide hgr
    have hz := hgr.size
    clear hrow hnum hgr
    by_cases hp : k < ss.length
    · have hpi : (k : Int) < (ss.length : Int) := by omega
      obtain ⟨bb, off, rfl, hcell⟩ := unhide HC (by omega)
      have cc : ∀ j v, j < 6 → (vv k).cs[j]? = some v → wr.cell? ⟨bb, off + k * 6 + j, none⟩ = some v := fun j v hj hv => by
        have h0 := hcell k hp j hj
        rw [hv] at h0
        exact grown_cell (unhide HG) h0 ((unhide H).ne h0)
      have CF := hide (unhide HFF k hp)
      generalize vv k = y at *
      obtain ⟨yk, ysp, yn, yqa, yla, yca, ytx, yqk, ylk, yck⟩ := y
      have e0 : wr.cell? ⟨bb, off + k * 6, none⟩ = some (.int .i64 yk) := cc 0 _ (by decide) rfl
      have e1 : wr.cell? ⟨bb, off + k * 6 + 1, none⟩ = some (.int .i64 ysp) := cc 1 _ (by decide) rfl
      have e2 : wr.cell? ⟨bb, off + k * 6 + 2, none⟩ = some (.string yn) := cc 2 _ (by decide) rfl
      have e3 : wr.cell? ⟨bb, off + k * 6 + 3, none⟩ = some (.slice yqa yla yca) := cc 3 _ (by decide) rfl
      have e4 : wr.cell? ⟨bb, off + k * 6 + 4, none⟩ = some (.string ytx) := cc 4 _ (by decide) rfl
      have e5 : wr.cell? ⟨bb, off + k * 6 + 5, none⟩ = some (.slice yqk ylk yck) := cc 5 _ (by decide) rfl
      unfold NdC.val at CF
      dsimp only at CF
      have hsk := unhide HS k hp
      have htk := unhide HTK k hp
      have hlk := unhide HLK k
      have hlk2 := addAll_len (T.take k) D
      have CN := hide (fun W hW => nof_any b (addAll D (T.take k)) (tx ss k) W hW hsk (by omega))
      have HS1 : Hid (addT (addAll D (T.take k)) (tx ss k).data.toList = addAll D (T.take (k + 1))) := hide (by rw [htk, addAll_app]; rfl)
      have HS2 : Hid (numsK D (T.take (k + 1)) = numsK D (T.take k) ++ [numT (addAll D (T.take (k + 1))) (tx ss k).data.toList]) := hide (by rw [htk]; exact numsK_snoc _ _ _)
      rw [unhide HS1] at CN
      obtain ⟨ra, rn, rc, hu⟩ := slice_of (unhide HR)
      subst hu
      generalize numT (addAll D (T.take (k + 1))) (tx ss k).data.toList = z at *
      generalize tx ss k = t at *
      have HGX := hide (grown_below (unhide HG) ((Below.refl w.heap.size wr).alloc (by omega) (Obj.cells #[.int .i64 yk, .int .i64 ysp, .string yn, .slice yqa yla yca, .string ytx, .slice yqk ylk yck] 44)))
      have HNX := hide ((unhide HN).alloc (Obj.cells #[.int .i64 yk, .int .i64 ysp, .string yn, .slice yqa yla yca, .string ytx, .slice yqk ylk yck] 44))
      have HRX := hide ((unhide HR).alloc (Obj.cells #[.int .i64 yk, .int .i64 ysp, .string yn, .slice yqa yla yca, .string ytx, .slice yqk ylk yck] 44))
      clear htk hsk hcell HS1 hlk hlk2 cc
      go_wp2_with fail
      refine (unhide CF _ (unhide HGX)).mono ?_
      rintro e w1 ⟨rfl, hb1⟩
      have HN1 := hide ((unhide HNX).later hb1)
      have HR1 := hide (ownsRow_below (unhide HRX) hb1)
      have HG1 := hide (grown_below (unhide HGX) (hb1.mono (by have := (unhide HGX).size; omega)))
      clear hb1 CF HNX HRX HGX
      go_wp2_with fail
      refine (unhide CN w1 (unhide HN1)).mono ?_
      rintro e w2 ⟨rfl, hn2, hg2⟩
      have hb2 := hn2.lt
      have R2 := hide (owns_grown (unhide HR1) hg2 hb0)
      have N2 := hide hn2
      have G2 := hide (grown_trans (unhide HG1) hg2)
      have hz2 := (unhide G2).size
      clear hn2 hg2 CN HN HR HG HN1 HR1 HG1
      go_wp2_with (at_builtin; refine wpList_append_own_at _ rfl _ _ 38 rfl w.heap.size 3 i0 (.int .i64 0) 1 8 Tryd.underlying38 hi0 hi1 hi2 hi3 rfl (by decide) (.slice ra rn rc) _ _ rfl ((unhide R2).alloc _) ⟨w2.heap.size, 0, none⟩ 1 1 [.int .i64 z] rfl rfl ?c1 ?c2 ?c3 ?c4 ?c5 ?_)
      case c1 => exact cell_one_new _ _ _
      case c2 => simp [Value.oneCell']
      case c3 => simp only [maxLen]; omega
      case c4 => omega
      case c5 => simp; omega
      intro u' w3 hown hgr _ hat
      have hrb : ∀ j, some j = (Value.slice ra rn rc).ownBlock → w.heap.size ≤ j := fun j hj => ((unhide R2).lt j hj.symm).1
      go_wp2
      go_roundw
      case rel =>
        refine ⟨k + 1, by omega, by go_num, ?_, ?_, ?_⟩
        · rw [unhide HS2, List.map_append]; exact hown
        · exact ((unhide N2).alloc _).kept hgr (fun e => by have := hrb _ e; omega)
        · exact grown_below (unhide G2) (((Below.refl w.heap.size w2).alloc (by omega) _).grown hgr (by simp; omega) (fun j hj => hrb j hj.symm))
      case measure => simp [intOf]; omega
    · have hke : k = ss.length := by omega
      have hpi : ¬ (k : Int) < (ss.length : Int) := by omega
      subst hke
      rw [unhide HT] at HR HN
      go_wp2
      go_ret
      exact ⟨_, rfl, unhide HR, unhide HN, unhide HG⟩
end Go.Proofs.YtbabmkilbbbmoaaDoor

/-
  An argument of type []api.Node opened: the nodes behind it, with all that is below them.
-/
namespace Go.Proofs.YtbabmkilbbbmoaaDoor
open Go.RowKit Go.Deep Go.WideShapes Go.ChangeShapes
set_option linter.unusedVariables false
set_option linter.unusedSimpArgs false

theorem fattr_cells : Tryd.prog.cellsOf 112 = 2 := by kernel_rfl
theorem fstr_cells : Tryd.prog.cellsOf 9 = 1 := by kernel_rfl
theorem fint_cells : Tryd.prog.cellsOf 3 = 1 := by kernel_rfl
theorem fattrs_cells : Tryd.prog.cellsOf 42 = 1 := by kernel_rfl
theorem fnodes_cells : Tryd.prog.cellsOf 22 = 1 := by kernel_rfl
theorem fnode_cells : Tryd.prog.cellsOf 44 = 6 := by kernel_rfl
theorem fadd_addr (a : Addr) (x y : Nat) : (a.add x).add y = a.add (x + y) := by
  unfold Addr.add
  by_cases h1 : x = 0
  · subst h1; simp
  · by_cases h2 : y = 0
    · subst h2; simp [h1]
    · simp [h1, h2, Nat.add_assoc]
def fstrOf : Value → ByteArray
  | .string s => s
  | _ => ByteArray.empty
def fmkAts (V0 V1 : Nat → Value) (len : Nat) : List (ByteArray × ByteArray) := (List.range len).map fun i => (fstrOf (V0 i), fstrOf (V1 i))
theorem fmkAts_len (V0 V1 : Nat → Value) (len : Nat) : (fmkAts V0 V1 len).length = len := by simp [fmkAts]
theorem fmkAts_an {V0 V1 : Nat → Value} {len k : Nat} (h : k < len) : an (fmkAts V0 V1 len) k = fstrOf (V0 k) := by simp [an, fmkAts, List.getD, h]
theorem fmkAts_av {V0 V1 : Nat → Value} {len k : Nat} (h : k < len) : av (fmkAts V0 V1 len) k = fstrOf (V1 k) := by simp [av, fmkAts, List.getD, h]
theorem open_fattrs {H : Type} {enc : TypeId × Value → H} {W : World} {fuel : Nat} {v : Value} {x : DataW H × List MemPlace}
    (h : DataW.trod enc Tryd.prog W 0 (fun _ => true) true fuel 42 [v] = some x) :
    ∃ (ats : List (ByteArray × ByteArray)) (q : Option Addr) (c : Nat), v = .slice q ats.length c ∧ Sl q ats W := by
  rcases open_slice_pairs Tryd.underlying42 Tryd.underlying112 fattr_cells rfl rfl fstr_cells fstr_cells h with ⟨hc, hx⟩ | ⟨a, len, cap, m, k, V0, V1, D0, D1, P0, P1, hc, _, hl, hm, hmm, hx, hall⟩
  · simp only [List.cons.injEq, and_true] at hc
    exact ⟨[], none, 0, hc, Or.inl rfl⟩
  · simp only [List.cons.injEq, and_true] at hc
    simp only [if_true] at hmm
    subst hmm
    have hs0 : ∀ i, i < m → V0 i = .string (fstrOf (V0 i)) := fun i hi => by
      obtain ⟨s, h1, h2, h3⟩ := DataW.trod_string Tryd.underlying9 (hall i hi).2.2.1
      simp only [List.cons.injEq, and_true] at h1
      rw [h1]; rfl
    have hs1 : ∀ i, i < m → V1 i = .string (fstrOf (V1 i)) := fun i hi => by
      obtain ⟨s, h1, h2, h3⟩ := DataW.trod_string Tryd.underlying9 (hall i hi).2.2.2
      simp only [List.cons.injEq, and_true] at h1
      rw [h1]; rfl
    refine ⟨fmkAts V0 V1 len, some a, m, by rw [fmkAts_len]; exact hc, ?_⟩
    by_cases h0 : len = 0
    · subst h0; exact Or.inl rfl
    · obtain ⟨sb, so, spot⟩ := a
      have hspot : spot = none := by simpa [Addr.add] using World.cell?_spot (hall 0 (by omega)).1
      subst hspot
      refine Or.inr ⟨sb, so, rfl, fun k hk => ?_⟩
      rw [fmkAts_len] at hk
      rw [fmkAts_an hk, fmkAts_av hk]
      have e0 := (hall k (by omega)).1
      have e1 := (hall k (by omega)).2.1
      rw [hs0 k (by omega)] at e0
      rw [hs1 k (by omega)] at e1
      rw [Addr.add_lit] at e0 e1
      exact ⟨e0, by rw [Nat.add_assoc]; exact e1⟩
/-- One node at a place. -/
def NodeAt (g o : Nat) (w : World) : Prop := ∃ k sp n ats tx kids,
  w.cell? ⟨g, o, none⟩ = some (.int .i64 k) ∧ w.cell? ⟨g, o + 1, none⟩ = some (.int .i64 sp) ∧ w.cell? ⟨g, o + 2, none⟩ = some (.string n) ∧
      (∃ qa ca, w.cell? ⟨g, o + 3, none⟩ = some (.slice qa (ats : List (ByteArray × ByteArray)).length ca) ∧ Sl qa ats w) ∧ w.cell? ⟨g, o + 4, none⟩ = some (.string tx) ∧
      ∃ qk ck, w.cell? ⟨g, o + 5, none⟩ = some (.slice qk (kids : Forest).len ck) ∧ kids.len ≤ ck ∧ (kids = .nil ∨ ∃ g' o', qk = some ⟨g', o', none⟩ ∧ Lies kids g' o' w)
theorem forest_of {g : Nat} {w : World} : ∀ (len o : Nat), (∀ i, i < len → NodeAt g (o + i * 6) w) → ∃ f : Forest, f.len = len ∧ Lies f g o w
  | 0, o, h => ⟨.nil, rfl, trivial⟩
  | len + 1, o, h => by
    obtain ⟨k, sp, n, ats, tx, kids, hn⟩ := h 0 (by omega)
    obtain ⟨f, hf, hl⟩ := forest_of len (o + 6) (fun i hi => by have := h (i + 1) (by omega); rw [show o + (i + 1) * 6 = o + 6 + i * 6 by omega] at this; exact this)
    rw [Nat.zero_mul, Nat.add_zero] at hn
    exact ⟨.cons k sp n ats tx kids f, by simp [Forest.len, hf], hn, hl⟩
theorem size_mem {H : Type} {d : DataW H} {l : List (DataW H)} (h : d ∈ l) : SizeOf.sizeOf d < SizeOf.sizeOf l := List.sizeOf_lt_of_mem h
set_option maxRecDepth 100000 in
theorem open_forest {H : Type} {enc : TypeId × Value → H} {W : World} : ∀ (sz : Nat) (fuel : Nat) (v : Value) (d : DataW H) (ps : List MemPlace), SizeOf.sizeOf d ≤ sz →
    DataW.trod enc Tryd.prog W 0 (fun _ => true) true fuel 22 [v] = some (d, ps) → ∃ (f : Forest) (q : Option Addr) (cap : Nat), v = .slice q f.len cap ∧ f.len ≤ cap ∧ Fo q f W
  | 0, fuel, v, d, ps, hs, h => by cases d <;> simp at hs
  | sz + 1, fuel, v, d, ps, hs, h => by
    rcases open_slice Tryd.underlying22 h with ⟨hc, hx⟩ | ⟨a, len, cap, m, k, D, Pl, hc, _, hl, hm, hmm, hx, hall⟩
    · simp only [List.cons.injEq, and_true] at hc
      exact ⟨.nil, none, 0, hc, Nat.le_refl _, Or.inl rfl⟩
    · simp only [List.cons.injEq, and_true] at hc
      simp only [if_true] at hmm
      subst hmm
      have hd : d = .slice ((List.range len).map D) ((List.range (m - len)).map fun j => D (len + j)) := congrArg Prod.fst hx
      have hsz : ∀ i, i < len → SizeOf.sizeOf (D i) < SizeOf.sizeOf d := fun i hi => by
        have h1 : D i ∈ (List.range len).map D := List.mem_map.2 ⟨i, List.mem_range.2 hi, rfl⟩
        have h2 := size_mem h1
        rw [hd]
        simp only [DataW.slice.sizeOf_spec]
        omega
      by_cases h0 : len = 0
      · subst h0
        exact ⟨.nil, some a, m, hc, Nat.zero_le _, Or.inl rfl⟩
      have each : ∀ i, i < len → ∃ cs', (∀ j, j < 6 → W.cell? (a.add (i * 6 + j)) = cs'[j]?) ∧ DataW.trod enc Tryd.prog W 0 (fun _ => true) true k 44 cs' = some (D i, Pl i) := fun i hi => by
        obtain ⟨cs', h1, h2⟩ := hall i (by omega)
        rw [fnode_cells] at h1
        obtain ⟨_, hlen, hcell⟩ := World.cells?_some h1
        exact ⟨cs', fun j hj => by have := hcell j hj; rw [fadd_addr] at this; exact this, h2⟩
      obtain ⟨b, o, spot⟩ := a
      have hspot : spot = none := by
        obtain ⟨cs', h1, h2⟩ := each 0 (by omega)
        obtain ⟨xs, k', _, _, hl', _, _⟩ := DataW.trod_struct Tryd.underlying44 h2
        rw [fnode_cells] at hl'
        have h3 := h1 0 (by omega)
        rw [List.getElem?_eq_getElem (by omega)] at h3
        simpa [Addr.add] using World.cell?_spot h3
      subst hspot
      have hnode : ∀ i, i < len → NodeAt b (o + i * 6) W := fun i hi => by
        obtain ⟨cs', h1, h2⟩ := each i hi
        have hszi := hsz i hi
        generalize D i = di at *
        generalize Pl i = pi at *
        obtain ⟨xs, k', _, hxe, hl', hxl, hf⟩ := DataW.trod_struct Tryd.underlying44 h2
        rw [fnode_cells] at hl'
        match cs', hl', xs, hxl with
        | [c0, c1, c2, c3, c4, c5], _, [y0, y1, y2, y3, y4, y5], _ =>
          have g0 := hf 0 _ rfl
          have g1 := hf 1 _ rfl
          have g2 := hf 2 _ rfl
          have g3 := hf 3 _ rfl
          have g4 := hf 4 _ rfl
          have g5 := hf 5 _ rfl
          simp [fint_cells, fstr_cells, fattrs_cells, fnodes_cells] at g0 g1 g2 g3 g4 g5
          obtain ⟨ki, e0', _⟩ := DataW.trod_int Tryd.underlying3 g0
          obtain ⟨spi, e1', _⟩ := DataW.trod_int Tryd.underlying3 g1
          obtain ⟨ni, e2', _⟩ := DataW.trod_string Tryd.underlying9 g2
          obtain ⟨ats, qa, ca, e3', hsl⟩ := open_fattrs g3
          obtain ⟨ti, e4', _⟩ := DataW.trod_string Tryd.underlying9 g4
          obtain ⟨y5d, y5p⟩ := y5
          have hdi : di = .agg [y0.1, y1.1, y2.1, y3.1, y4.1, y5d] := by have := congrArg Prod.fst hxe; simpa using this
          have hs5 : SizeOf.sizeOf y5d ≤ sz := by
            rw [hdi] at hszi
            simp only [DataW.agg.sizeOf_spec, List.cons.sizeOf_spec] at hszi
            omega
          obtain ⟨kf, qk, ck, e5', hck, hkf⟩ := open_forest sz k' c5 y5d y5p hs5 g5
          simp at e0' e1' e2' e4'
          have z := fun j hj => h1 j hj
          have z0 := z 0 (by omega)
          have z1 := z 1 (by omega)
          have z2 := z 2 (by omega)
          have z3 := z 3 (by omega)
          have z4 := z 4 (by omega)
          have z5 := z 5 (by omega)
          rw [Addr.add_lit] at z0 z1 z2 z3 z4 z5
          simp only [List.getElem?_cons_zero, List.getElem?_cons_succ] at z0 z1 z2 z3 z4 z5
          refine ⟨ki, spi, ni, ats, ti, kf, ?_, ?_, ?_, ⟨qa, ca, ?_, hsl⟩, ?_, qk, ck, ?_, hck, hkf⟩
          · rw [← e0']; exact z0
          · rw [Nat.add_assoc, ← e1']; exact z1
          · rw [Nat.add_assoc, ← e2']; exact z2
          · rw [Nat.add_assoc, ← e3']; exact z3
          · rw [Nat.add_assoc, ← e4']; exact z4
          · rw [Nat.add_assoc, ← e5']; exact z5
      obtain ⟨f, hf, hlf⟩ := forest_of len o hnode
      exact ⟨f, some ⟨b, o, none⟩, m, by rw [hf]; exact hc, by omega, Or.inr ⟨b, o, rfl, hlf⟩⟩
theorem open_nodes {H : Type} {enc : TypeId × Value → H} {W : World} {qa : Option Addr} {len cap : Nat} {d : DataW H} {ps : List MemPlace}
    (h : DataW.Trod enc Tryd.prog W 0 (fun _ => true) true 22 (.slice qa len cap) d ps) : ∃ f : Forest, f.len = len ∧ len ≤ cap ∧ Fo qa f W := by
  obtain ⟨n, t0⟩ := h
  have t1 : DataW.trod enc Tryd.prog W 0 (fun _ => true) true n 22 [.slice qa len cap] = some (d, ps) := by simpa [Value.cells] using t0
  obtain ⟨f, q, c, e, hc, hf⟩ := open_forest _ n _ d ps (Nat.le_refl _) t1
  injection e with e1 e2 e3
  subst e1 e2 e3
  exact ⟨f, rfl, hc, hf⟩
end Go.Proofs.YtbabmkilbbbmoaaDoor

/-
  An argument of type api.Node opened.
-/
namespace Go.Proofs.YtbabmkilbbbmoaaDoor
open Go.RowKit Go.Deep Go.WideShapes Go.ChangeShapes
set_option linter.unusedVariables false
set_option linter.unusedSimpArgs false

/-- A node as it is handed over. -/
structure NdA where
  k : Int
  sp : Int
  n : ByteArray
  ats : List (ByteArray × ByteArray)
  tx : ByteArray
  kids : Forest
  qa : Option Addr
  ca : Nat
  qk : Option Addr
  ck : Nat
def NdA.cells (x : NdA) : Array Value := #[.int .i64 x.k, .int .i64 x.sp, .string x.n, .slice x.qa x.ats.length x.ca, .string x.tx, .slice x.qk x.kids.len x.ck]
def NdA.Ok (x : NdA) (W : World) : Prop := Sl x.qa x.ats W ∧ x.kids.len ≤ x.ck ∧ Fo x.qk x.kids W
set_option maxRecDepth 100000 in
theorem open_node {H : Type} {enc : TypeId × Value → H} {W : World} {base : Nat} {v : Value} {d : DataW H} {ps : List MemPlace} (hv : Value.okWide Tryd.prog W .any base 44 v)
    (h : DataW.Trod enc Tryd.prog W 0 (fun _ => true) true 44 v d ps) : ∃ x : NdA, v = .agg x.cells ∧ x.Ok W := by
  obtain ⟨cs, rfl, _⟩ := okWide_struct Tryd.underlying44 hv
  obtain ⟨n, t0⟩ := h
  have t1 : DataW.trod enc Tryd.prog W 0 (fun _ => true) true n 44 cs.toList = some (d, ps) := by simpa [Value.cells] using t0
  obtain ⟨cs⟩ := cs
  simp only at t1
  obtain ⟨xs, k', _, hxe, hl', hxl, hf⟩ := DataW.trod_struct Tryd.underlying44 t1
  rw [fnode_cells] at hl'
  match cs, hl', xs, hxl with
  | [c0, c1, c2, c3, c4, c5], _, [y0, y1, y2, y3, y4, y5], _ =>
    have g0 := hf 0 _ rfl
    have g1 := hf 1 _ rfl
    have g2 := hf 2 _ rfl
    have g3 := hf 3 _ rfl
    have g4 := hf 4 _ rfl
    have g5 := hf 5 _ rfl
    simp [fint_cells, fstr_cells, fattrs_cells, fnodes_cells] at g0 g1 g2 g3 g4 g5
    obtain ⟨ki, e0', _⟩ := DataW.trod_int Tryd.underlying3 g0
    obtain ⟨spi, e1', _⟩ := DataW.trod_int Tryd.underlying3 g1
    obtain ⟨ni, e2', _⟩ := DataW.trod_string Tryd.underlying9 g2
    obtain ⟨ats, qa, ca, e3', hsl⟩ := open_fattrs g3
    obtain ⟨ti, e4', _⟩ := DataW.trod_string Tryd.underlying9 g4
    obtain ⟨y5d, y5p⟩ := y5
    obtain ⟨kf, qk, ck, e5', hck, hkf⟩ := open_forest _ k' c5 y5d y5p (Nat.le_refl _) g5
    simp at e0' e1' e2' e4'
    refine ⟨⟨ki, spi, ni, ats, ti, kf, qa, ca, qk, ck⟩, ?_, hsl, hck, hkf⟩
    unfold NdA.cells
    rw [e0', e1', e2', e3', e4', e5']
end Go.Proofs.YtbabmkilbbbmoaaDoor
