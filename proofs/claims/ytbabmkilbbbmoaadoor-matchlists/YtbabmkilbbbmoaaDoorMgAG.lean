/-
  Several texts in one: what the functions of the program and of the document's answer do.
-/
import Derived.Test.YtbabmkilbbbmoaaDoorMgAF
import Derived.Laws.EntriesVeiled
import Derived.Test.YtbabmkilbbbmoaaDoorMgAA
import Derived.Maps.OwnSet
import Derived.Maps.Views

/-
  What 'numbers.ofNodes' does: the numbers of what a function tells of nodes.
-/
namespace Go.Proofs.YtbabmkilbbbmoaaDoor
open Go.RowKit Go.Maps
set_option linter.unusedVariables false
set_option linter.unusedSimpArgs false

/-- A node's cells. -/
structure NdC where
  k : Int
  sp : Int
  n : ByteArray
  qa : Option Addr
  la : Nat
  ca : Nat
  tx : ByteArray
  qk : Option Addr
  lk : Nat
  ck : Nat
def NdC.cs (y : NdC) : List Value := [.int .i64 y.k, .int .i64 y.sp, .string y.n, .slice y.qa y.la y.ca, .string y.tx, .slice y.qk y.lk y.ck]
def NdC.val (y : NdC) : Value := .agg #[.int .i64 y.k, .int .i64 y.sp, .string y.n, .slice y.qa y.la y.ca, .string y.tx, .slice y.qk y.lk y.ck]
def NdsV (w : World) (q : Option Addr) (n : Nat) (vv : Nat → NdC) : Prop := 0 < n → ∃ g o, q = some ⟨g, o, none⟩ ∧ ∀ k, k < n → ∀ j, j < 6 → w.cell? ⟨g, o + k * 6 + j, none⟩ = (vv k).cs[j]?
set_option maxHeartbeats 4000000 in
set_option maxRecDepth 100000 in
theorem ofNodes_key (b : Nat) (D : List (List UInt8)) (q : Option Addr) (c : Nat) (ss : List ByteArray) (vv : Nat → NdC) (w : World) (h : NumM w b D) (hv : NdsV w q ss.length vv) (hs : ∀ k, k < ss.length → (tx ss k).size ≤ 9223372036854775807) (hl : D.length + ss.length ≤ 100000)
    (hF : ∀ k, k < ss.length → ∀ W, w.grownBy W (some b) → Calls Tryd.prog 31 #[(vv k).val] W fun e w' => e = .returned (.string (tx ss k)) ∧ Below W.heap.size W w') :
    Calls Tryd.prog 30 #[.map (some b), .slice q ss.length c, .func (Fn.func 31) #[] #[]] w fun e w' => ∃ u, e = .returned u ∧ w'.ownsRow w.heap.size 3 1 u ss.length ((numsK D (txs ss)).map intV) ∧ NumM w' b (addAll D (txs ss)) ∧ w.grownBy w' (some b) := by
  obtain ⟨i0, hi0, hi1, hi2, hi3⟩ := mfoInt
  have HC := hide hv
  have HS := hide hs
  have HFF := hide hF
  have hb0 := h.lt
  have H := hide h
  have HT : Hid ((txs ss).take ss.length = txs ss) := hide (List.take_of_length_le (by unfold txs; rw [List.length_map]; exact Nat.le_refl _))
  have HTK := hide (txs_take ss)
  have HLK : Hid (∀ k, ((txs ss).take k).length ≤ k) := hide (fun k => by rw [List.length_take]; omega)
  generalize hT : txs ss = T at *
  clear hv hs h hT hF
  go_enter Tryd.func30, Tryd.ntmps30
  go_wp2
  go_loopw [12, 7] (fun i u wr => ∃ k : Nat, k ≤ ss.length ∧ i = .int .i64 k ∧ wr.ownsRow w.heap.size 3 1 u k ((numsK D (T.take k)).map intV) ∧ NumM wr b (addAll D (T.take k)) ∧ w.grownBy wr (some b)) (fun i _ _ => ss.length - (intOf i).toNat)
  case atStart => exact ⟨0, Nat.zero_le _, rfl, by simpa [numsK] using World.ownsRow_nil w w.heap.size 3 1, by simpa [addAll] using unhide H, ⟨rfl, rfl, rfl, Nat.le_refl _, fun _ _ _ => rfl⟩⟩
  case round =>
    obtain ⟨k, hk, rfl, hrow, hnum, hgr⟩ := hrel
    have HR := hide hrow
    have HN := hide hnum
    have HG := hide hgr
    have hz := hgr.size
    clear hrow hnum hgr
    by_cases hp : k < ss.length
    · have hpi : (k : Int) < (ss.length : Int) := by omega
      obtain ⟨bb, off, rfl, hcell⟩ := unhide HC (by omega)
      have cc : ∀ j v, j < 6 → (vv k).cs[j]? = some v → wr.cell? ⟨bb, off + k * 6 + j, none⟩ = some v := fun j v hj hv => by
        have h0 := hcell k hp j hj
        rw [hv] at h0
        exact grown_cell (unhide HG) h0 ((unhide H).ne h0)
      have CF := hide (unhide HFF k hp)
      generalize vv k = y at *
      obtain ⟨yk, ysp, yn, yqa, yla, yca, ytx, yqk, ylk, yck⟩ := y
      have e0 : wr.cell? ⟨bb, off + k * 6, none⟩ = some (.int .i64 yk) := cc 0 _ (by decide) rfl
      have e1 : wr.cell? ⟨bb, off + k * 6 + 1, none⟩ = some (.int .i64 ysp) := cc 1 _ (by decide) rfl
      have e2 : wr.cell? ⟨bb, off + k * 6 + 2, none⟩ = some (.string yn) := cc 2 _ (by decide) rfl
      have e3 : wr.cell? ⟨bb, off + k * 6 + 3, none⟩ = some (.slice yqa yla yca) := cc 3 _ (by decide) rfl
      have e4 : wr.cell? ⟨bb, off + k * 6 + 4, none⟩ = some (.string ytx) := cc 4 _ (by decide) rfl
      have e5 : wr.cell? ⟨bb, off + k * 6 + 5, none⟩ = some (.slice yqk ylk yck) := cc 5 _ (by decide) rfl
      unfold NdC.val at CF
      dsimp only at CF
      have hsk := unhide HS k hp
      have htk := unhide HTK k hp
      have hlk := unhide HLK k
      have hlk2 := addAll_len (T.take k) D
      have CN := hide (fun W hW => nof_any b (addAll D (T.take k)) (tx ss k) W hW hsk (by omega))
      have HS1 : Hid (addT (addAll D (T.take k)) (tx ss k).data.toList = addAll D (T.take (k + 1))) := hide (by rw [htk, addAll_app]; rfl)
      have HS2 : Hid (numsK D (T.take (k + 1)) = numsK D (T.take k) ++ [numT (addAll D (T.take (k + 1))) (tx ss k).data.toList]) := hide (by rw [htk]; exact numsK_snoc _ _ _)
      rw [unhide HS1] at CN
      obtain ⟨ra, rn, rc, hu⟩ := slice_of (unhide HR)
      subst hu
      generalize numT (addAll D (T.take (k + 1))) (tx ss k).data.toList = z at *
      generalize tx ss k = t at *
      have HGX := hide (grown_below (unhide HG) ((Below.refl w.heap.size wr).alloc (by omega) (Obj.cells #[.int .i64 yk, .int .i64 ysp, .string yn, .slice yqa yla yca, .string ytx, .slice yqk ylk yck] 44)))
      have HNX := hide ((unhide HN).alloc (Obj.cells #[.int .i64 yk, .int .i64 ysp, .string yn, .slice yqa yla yca, .string ytx, .slice yqk ylk yck] 44))
      have HRX := hide ((unhide HR).alloc (Obj.cells #[.int .i64 yk, .int .i64 ysp, .string yn, .slice yqa yla yca, .string ytx, .slice yqk ylk yck] 44))
      clear htk hsk hcell HS1 hlk hlk2 cc
      go_wp2_with fail
      refine (unhide CF _ (unhide HGX)).mono ?_
      rintro e w1 ⟨rfl, hb1⟩
      have HN1 := hide ((unhide HNX).later hb1)
      have HR1 := hide (ownsRow_below (unhide HRX) hb1)
      have HG1 := hide (grown_below (unhide HGX) (hb1.mono (by have := (unhide HGX).size; omega)))
      clear hb1 CF HNX HRX HGX
      go_wp2_with fail
      refine (unhide CN w1 (unhide HN1)).mono ?_
      rintro e w2 ⟨rfl, hn2, hg2⟩
      have hb2 := hn2.lt
      have R2 := hide (owns_grown (unhide HR1) hg2 hb0)
      have N2 := hide hn2
      have G2 := hide (grown_trans (unhide HG1) hg2)
      have hz2 := (unhide G2).size
      clear hn2 hg2 CN HN HR HG HN1 HR1 HG1
      go_wp2_with (at_builtin; refine wpList_append_own_at _ rfl _ _ 38 rfl w.heap.size 3 i0 (.int .i64 0) 1 8 Tryd.underlying38 hi0 hi1 hi2 hi3 rfl (by decide) (.slice ra rn rc) _ _ rfl ((unhide R2).alloc _) ⟨w2.heap.size, 0, none⟩ 1 1 [.int .i64 z] rfl rfl ?c1 ?c2 ?c3 ?c4 ?c5 ?_)
      case c1 => exact cell_one_new _ _ _
      case c2 => simp [Value.oneCell']
      case c3 => simp only [maxLen]; omega
      case c4 => omega
      case c5 => simp; omega
      intro u' w3 hown hgr _ hat
      have hrb : ∀ j, some j = (Value.slice ra rn rc).ownBlock → w.heap.size ≤ j := fun j hj => ((unhide R2).lt j hj.symm).1
      go_wp2
      go_roundw
      case rel =>
        refine ⟨k + 1, by omega, by go_num, ?_, ?_, ?_⟩
        · rw [unhide HS2, List.map_append]; exact hown
        · exact ((unhide N2).alloc _).kept hgr (fun e => by have := hrb _ e; omega)
        · exact grown_below (unhide G2) (((Below.refl w.heap.size w2).alloc (by omega) _).grown hgr (by simp; omega) (fun j hj => hrb j hj.symm))
      case measure => simp [intOf]; omega
    · have hke : k = ss.length := by omega
      have hpi : ¬ (k : Int) < (ss.length : Int) := by omega
      subst hke
      rw [unhide HT] at HR HN
      go_wp2
      go_ret
      exact ⟨_, rfl, unhide HR, unhide HN, unhide HG⟩
set_option maxHeartbeats 4000000 in
set_option maxRecDepth 100000 in
theorem ofNodes_lab (b : Nat) (D : List (List UInt8)) (q : Option Addr) (c : Nat) (ss : List ByteArray) (vv : Nat → NdC) (w : World) (h : NumM w b D) (hv : NdsV w q ss.length vv) (hs : ∀ k, k < ss.length → (tx ss k).size ≤ 9223372036854775807) (hl : D.length + ss.length ≤ 100000)
    (hF : ∀ k, k < ss.length → ∀ W, w.grownBy W (some b) → Calls Tryd.prog 32 #[(vv k).val] W fun e w' => e = .returned (.string (tx ss k)) ∧ Below W.heap.size W w') :
    Calls Tryd.prog 30 #[.map (some b), .slice q ss.length c, .func (Fn.func 32) #[] #[]] w fun e w' => ∃ u, e = .returned u ∧ w'.ownsRow w.heap.size 3 1 u ss.length ((numsK D (txs ss)).map intV) ∧ NumM w' b (addAll D (txs ss)) ∧ w.grownBy w' (some b) := by
  obtain ⟨i0, hi0, hi1, hi2, hi3⟩ := mfoInt
  have HC := hide hv
  have HS := hide hs
  have HFF := hide hF
  have hb0 := h.lt
  have H := hide h
  have HT : Hid ((txs ss).take ss.length = txs ss) := hide (List.take_of_length_le (by unfold txs; rw [List.length_map]; exact Nat.le_refl _))
  have HTK := hide (txs_take ss)
  have HLK : Hid (∀ k, ((txs ss).take k).length ≤ k) := hide (fun k => by rw [List.length_take]; omega)
  generalize hT : txs ss = T at *
  clear hv hs h hT hF
  go_enter Tryd.func30, Tryd.ntmps30
  go_wp2
  go_loopw [12, 7] (fun i u wr => ∃ k : Nat, k ≤ ss.length ∧ i = .int .i64 k ∧ wr.ownsRow w.heap.size 3 1 u k ((numsK D (T.take k)).map intV) ∧ NumM wr b (addAll D (T.take k)) ∧ w.grownBy wr (some b)) (fun i _ _ => ss.length - (intOf i).toNat)
  case atStart => exact ⟨0, Nat.zero_le _, rfl, by simpa [numsK] using World.ownsRow_nil w w.heap.size 3 1, by simpa [addAll] using unhide H, ⟨rfl, rfl, rfl, Nat.le_refl _, fun _ _ _ => rfl⟩⟩
  case round =>
    obtain ⟨k, hk, rfl, hrow, hnum, hgr⟩ := hrel
    have HR := hide hrow
    have HN := hide hnum
    have HG := hide hgr
    have hz := hgr.size
    clear hrow hnum hgr
    by_cases hp : k < ss.length
    · have hpi : (k : Int) < (ss.length : Int) := by omega
      obtain ⟨bb, off, rfl, hcell⟩ := unhide HC (by omega)
      have cc : ∀ j v, j < 6 → (vv k).cs[j]? = some v → wr.cell? ⟨bb, off + k * 6 + j, none⟩ = some v := fun j v hj hv => by
        have h0 := hcell k hp j hj
        rw [hv] at h0
        exact grown_cell (unhide HG) h0 ((unhide H).ne h0)
      have CF := hide (unhide HFF k hp)
      generalize vv k = y at *
      obtain ⟨yk, ysp, yn, yqa, yla, yca, ytx, yqk, ylk, yck⟩ := y
      have e0 : wr.cell? ⟨bb, off + k * 6, none⟩ = some (.int .i64 yk) := cc 0 _ (by decide) rfl
      have e1 : wr.cell? ⟨bb, off + k * 6 + 1, none⟩ = some (.int .i64 ysp) := cc 1 _ (by decide) rfl
      have e2 : wr.cell? ⟨bb, off + k * 6 + 2, none⟩ = some (.string yn) := cc 2 _ (by decide) rfl
      have e3 : wr.cell? ⟨bb, off + k * 6 + 3, none⟩ = some (.slice yqa yla yca) := cc 3 _ (by decide) rfl
      have e4 : wr.cell? ⟨bb, off + k * 6 + 4, none⟩ = some (.string ytx) := cc 4 _ (by decide) rfl
      have e5 : wr.cell? ⟨bb, off + k * 6 + 5, none⟩ = some (.slice yqk ylk yck) := cc 5 _ (by decide) rfl
      unfold NdC.val at CF
      dsimp only at CF
      have hsk := unhide HS k hp
      have htk := unhide HTK k hp
      have hlk := unhide HLK k
      have hlk2 := addAll_len (T.take k) D
      have CN := hide (fun W hW => nof_any b (addAll D (T.take k)) (tx ss k) W hW hsk (by omega))
      have HS1 : Hid (addT (addAll D (T.take k)) (tx ss k).data.toList = addAll D (T.take (k + 1))) := hide (by rw [htk, addAll_app]; rfl)
      have HS2 : Hid (numsK D (T.take (k + 1)) = numsK D (T.take k) ++ [numT (addAll D (T.take (k + 1))) (tx ss k).data.toList]) := hide (by rw [htk]; exact numsK_snoc _ _ _)
      rw [unhide HS1] at CN
      obtain ⟨ra, rn, rc, hu⟩ := slice_of (unhide HR)
      subst hu
      generalize numT (addAll D (T.take (k + 1))) (tx ss k).data.toList = z at *
      generalize tx ss k = t at *
      have HGX := hide (grown_below (unhide HG) ((Below.refl w.heap.size wr).alloc (by omega) (Obj.cells #[.int .i64 yk, .int .i64 ysp, .string yn, .slice yqa yla yca, .string ytx, .slice yqk ylk yck] 44)))
      have HNX := hide ((unhide HN).alloc (Obj.cells #[.int .i64 yk, .int .i64 ysp, .string yn, .slice yqa yla yca, .string ytx, .slice yqk ylk yck] 44))
      have HRX := hide ((unhide HR).alloc (Obj.cells #[.int .i64 yk, .int .i64 ysp, .string yn, .slice yqa yla yca, .string ytx, .slice yqk ylk yck] 44))
      clear htk hsk hcell HS1 hlk hlk2 cc
      go_wp2_with fail
      refine (unhide CF _ (unhide HGX)).mono ?_
      rintro e w1 ⟨rfl, hb1⟩
      have HN1 := hide ((unhide HNX).later hb1)
      have HR1 := hide (ownsRow_below (unhide HRX) hb1)
      have HG1 := hide (grown_below (unhide HGX) (hb1.mono (by have := (unhide HGX).size; omega)))
      clear hb1 CF HNX HRX HGX
      go_wp2_with fail
      refine (unhide CN w1 (unhide HN1)).mono ?_
      rintro e w2 ⟨rfl, hn2, hg2⟩
      have hb2 := hn2.lt
      have R2 := hide (owns_grown (unhide HR1) hg2 hb0)
      have N2 := hide hn2
      have G2 := hide (grown_trans (unhide HG1) hg2)
      have hz2 := (unhide G2).size
      clear hn2 hg2 CN HN HR HG HN1 HR1 HG1
      go_wp2_with (at_builtin; refine wpList_append_own_at _ rfl _ _ 38 rfl w.heap.size 3 i0 (.int .i64 0) 1 8 Tryd.underlying38 hi0 hi1 hi2 hi3 rfl (by decide) (.slice ra rn rc) _ _ rfl ((unhide R2).alloc _) ⟨w2.heap.size, 0, none⟩ 1 1 [.int .i64 z] rfl rfl ?c1 ?c2 ?c3 ?c4 ?c5 ?_)
      case c1 => exact cell_one_new _ _ _
      case c2 => simp [Value.oneCell']
      case c3 => simp only [maxLen]; omega
      case c4 => omega
      case c5 => simp; omega
      intro u' w3 hown hgr _ hat
      have hrb : ∀ j, some j = (Value.slice ra rn rc).ownBlock → w.heap.size ≤ j := fun j hj => ((unhide R2).lt j hj.symm).1
      go_wp2
      go_roundw
      case rel =>
        refine ⟨k + 1, by omega, by go_num, ?_, ?_, ?_⟩
        · rw [unhide HS2, List.map_append]; exact hown
        · exact ((unhide N2).alloc _).kept hgr (fun e => by have := hrb _ e; omega)
        · exact grown_below (unhide G2) (((Below.refl w.heap.size w2).alloc (by omega) _).grown hgr (by simp; omega) (fun j hj => hrb j hj.symm))
      case measure => simp [intOf]; omega
    · have hke : k = ss.length := by omega
      have hpi : ¬ (k : Int) < (ss.length : Int) := by omega
      subst hke
      rw [unhide HT] at HR HN
      go_wp2
      go_ret
      exact ⟨_, rfl, unhide HR, unhide HN, unhide HG⟩
end Go.Proofs.YtbabmkilbbbmoaaDoor

/-
  Attributes as they lie in memory.
-/
namespace Go.Proofs.YtbabmkilbbbmoaaDoor
open Go.RowKit Go.Maps Go.WideMaps
set_option linter.unusedVariables false

/-- Attributes that lie in memory, one behind the other. -/
def an (ats : List (ByteArray × ByteArray)) (k : Nat) : ByteArray := (ats.getD k (ByteArray.empty, ByteArray.empty)).1
def av (ats : List (ByteArray × ByteArray)) (k : Nat) : ByteArray := (ats.getD k (ByteArray.empty, ByteArray.empty)).2
def Cells2 (g o : Nat) (ats : List (ByteArray × ByteArray)) (w : World) : Prop :=
  ∀ k, k < ats.length → w.cell? ⟨g, o + k * 2, none⟩ = some (.string (an ats k)) ∧ w.cell? ⟨g, o + k * 2 + 1, none⟩ = some (.string (av ats k))
theorem Cells2.below {g o : Nat} {ats : List (ByteArray × ByteArray)} {w w' : World} (h : Cells2 g o ats w) (hb : Below w.heap.size w w') : Cells2 g o ats w' :=
  fun k hk => ⟨cell_later hb (h k hk).1, cell_later hb (h k hk).2⟩
/-- Attributes behind a slice, or none at all. -/
def Sl (q : Option Addr) (ats : List (ByteArray × ByteArray)) (w : World) : Prop := ats = [] ∨ ∃ g o, q = some ⟨g, o, none⟩ ∧ Cells2 g o ats w
theorem Sl.below {q : Option Addr} {ats : List (ByteArray × ByteArray)} {w w' : World} (h : Sl q ats w) (hb : Below w.heap.size w w') : Sl q ats w' :=
  h.imp id fun ⟨g, o, h1, h2⟩ => ⟨g, o, h1, h2.below hb⟩
theorem law9 : Keyed Tryd.prog 9 := string_keyed Tryd.underlying9
theorem isKey (b : ByteArray) : WideAt.IsKeyLit (.string b.data.toList) := by simp [WideAt.IsKeyLit]
end Go.Proofs.YtbabmkilbbbmoaaDoor

/-
  Nodes as plain data (a list of nodes: a forest), and how they lie in memory.
-/
namespace Go.Proofs.YtbabmkilbbbmoaaDoor
open Go.RowKit
set_option linter.unusedVariables false

/-- A list of nodes: the first one's kind, space, name, attributes, text and kids, and the others. -/
inductive Forest where
  | nil : Forest
  | cons (k sp : Int) (n : ByteArray) (ats : List (ByteArray × ByteArray)) (tx : ByteArray) (kids rest : Forest) : Forest
def Forest.len : Forest → Nat
  | .nil => 0
  | .cons _ _ _ _ _ _ r => r.len + 1
def Forest.count : Forest → Nat
  | .nil => 0
  | .cons _ _ _ _ _ kids r => 1 + kids.count + r.count
def Forest.drop : Nat → Forest → Forest
  | 0, f => f
  | _ + 1, .nil => .nil
  | j + 1, .cons _ _ _ _ _ _ r => r.drop j
theorem Forest.drop_zero (f : Forest) : f.drop 0 = f := by cases f <;> rfl
theorem Forest.drop_nil (j : Nat) : Forest.drop j .nil = .nil := by cases j <;> rfl
theorem Forest.drop_len : ∀ (j : Nat) (f : Forest), (f.drop j).len = f.len - j
  | 0, f => by rw [Forest.drop_zero]; rfl
  | j + 1, .nil => by rw [Forest.drop_nil]; simp [Forest.len]
  | j + 1, .cons _ _ _ _ _ _ r => by
    show (r.drop j).len = r.len + 1 - (j + 1)
    rw [Forest.drop_len j r]; omega
theorem Forest.drop_cons : ∀ (j : Nat) (f : Forest), j < f.len → ∃ k sp n ats tx kids, f.drop j = .cons k sp n ats tx kids (f.drop (j + 1))
  | j, .nil, h => by simp [Forest.len] at h
  | 0, .cons k sp n ats tx kids r, h => ⟨k, sp, n, ats, tx, kids, by show Forest.cons k sp n ats tx kids r = _; rw [show Forest.drop (0 + 1) (.cons k sp n ats tx kids r) = r.drop 0 from rfl, Forest.drop_zero]⟩
  | j + 1, .cons k sp n ats tx kids r, h => Forest.drop_cons j r (by simp [Forest.len] at h; omega)
theorem Forest.drop_out (j : Nat) (f : Forest) (h : f.len ≤ j) : f.drop j = .nil := by
  have := Forest.drop_len j f
  cases e : f.drop j with
  | nil => rfl
  | cons _ _ _ _ _ _ r => rw [e] at this; simp [Forest.len] at this; omega
theorem Forest.count_drop : ∀ (j : Nat) (f : Forest), (f.drop j).count ≤ f.count
  | 0, f => by rw [Forest.drop_zero]; exact Nat.le_refl _
  | j + 1, .nil => by rw [Forest.drop_nil]; exact Nat.le_refl _
  | j + 1, .cons _ _ _ _ _ _ r => by
    have := Forest.count_drop j r
    show (r.drop j).count ≤ _
    simp [Forest.count]; omega
theorem Forest.len_count : ∀ (f : Forest), f.len ≤ f.count
  | .nil => Nat.le_refl _
  | .cons _ _ _ _ _ kids r => by have := Forest.len_count r; simp [Forest.len, Forest.count]; omega

/-- Nodes lie in a block from a place on, six cells each, with all that is below them. -/
def Lies : Forest → Nat → Nat → World → Prop
  | .nil, _, _, _ => True
  | .cons k sp n ats tx kids rest, g, o, w =>
    (w.cell? ⟨g, o, none⟩ = some (.int .i64 k) ∧ w.cell? ⟨g, o + 1, none⟩ = some (.int .i64 sp) ∧ w.cell? ⟨g, o + 2, none⟩ = some (.string n) ∧
      (∃ qa ca, w.cell? ⟨g, o + 3, none⟩ = some (.slice qa ats.length ca) ∧ Sl qa ats w) ∧ w.cell? ⟨g, o + 4, none⟩ = some (.string tx) ∧
      ∃ qk ck, w.cell? ⟨g, o + 5, none⟩ = some (.slice qk kids.len ck) ∧ kids.len ≤ ck ∧ (kids = .nil ∨ ∃ g' o', qk = some ⟨g', o', none⟩ ∧ Lies kids g' o' w)) ∧
    Lies rest g (o + 6) w
/-- Nodes behind a slice, or none at all. -/
def Fo (q : Option Addr) (f : Forest) (w : World) : Prop := f = .nil ∨ ∃ g o, q = some ⟨g, o, none⟩ ∧ Lies f g o w
theorem Lies.below {w w' : World} (hb : Below w.heap.size w w') : ∀ (f : Forest) (g o : Nat), Lies f g o w → Lies f g o w'
  | .nil, g, o, h => trivial
  | .cons k sp n ats tx kids rest, g, o, h => by
    obtain ⟨⟨h0, h1, h2, ⟨qa, ca, h3, h3'⟩, h4, ⟨qk, ck, h5, h6, h7⟩⟩, hr⟩ := h
    refine ⟨⟨cell_later hb h0, cell_later hb h1, cell_later hb h2, ⟨qa, ca, cell_later hb h3, h3'.below hb⟩, cell_later hb h4, ⟨qk, ck, cell_later hb h5, h6, ?_⟩⟩, Lies.below hb rest g (o + 6) hr⟩
    rcases h7 with h7 | ⟨g', o', hq, hl⟩
    · exact Or.inl h7
    · exact Or.inr ⟨g', o', hq, Lies.below hb kids g' o' hl⟩
theorem Fo.below {w w' : World} {q : Option Addr} {f : Forest} (h : Fo q f w) (hb : Below w.heap.size w w') : Fo q f w' :=
  h.imp id fun ⟨g, o, h1, h2⟩ => ⟨g, o, h1, h2.below hb⟩
theorem Lies.drop {w : World} {g : Nat} : ∀ (j : Nat) (f : Forest) (o : Nat), Lies f g o w → Lies (f.drop j) g (o + j * 6) w
  | 0, f, o, h => by rw [Forest.drop_zero]; simpa using h
  | j + 1, .nil, o, h => by rw [Forest.drop_nil]; trivial
  | j + 1, .cons _ _ _ _ _ _ r, o, h => by
    have := Lies.drop j r (o + 6) h.2
    show Lies (r.drop j) g _ w
    rw [show o + (j + 1) * 6 = o + 6 + j * 6 by omega]; exact this

/-! ### the reference's Count -/
set_option maxHeartbeats 2000000 in
theorem rcount_none (q : Option Addr) (cap : Nat) (w : World) : Calls Tryd.prog 21 #[.slice q 0 cap] w fun e w' => e = .returned (.int .i64 0) ∧ Below w.heap.size w w' := by
  go_enter Tryd.func21, Tryd.ntmps21
  go_wp2
  refine wp_loop_rounds 1 ?_
  rw [rounds_succ]; go_wp2
  go_ret
  exact ⟨rfl, Below.refl _ _⟩
set_option maxHeartbeats 4000000 in
theorem rcount_some (f : Forest) (g o cap : Nat) (w : World) (hl : Lies f g o w) (hc : f.count ≤ 1000000)
    (ih : ∀ j k sp n ats tx kids, f.drop j = .cons k sp n ats tx kids (f.drop (j + 1)) → ∀ q cap w, Fo q kids w → Calls Tryd.prog 21 #[.slice q kids.len cap] w fun e w' => e = .returned (.int .i64 (kids.count : Nat)) ∧ Below w.heap.size w w') :
    Calls Tryd.prog 21 #[.slice (some ⟨g, o, none⟩) f.len cap] w fun e w' => e = .returned (.int .i64 (f.count : Nat)) ∧ Below w.heap.size w w' := by
  have HL := hide hl
  have IH := hide ih
  have hlc := f.len_count
  clear hl ih
  go_enter Tryd.func21, Tryd.ntmps21
  go_wp2
  go_loopw [3, 8] (fun a b wr => ∃ j c : Nat, j ≤ f.len ∧ b = .int .i64 j ∧ a = .int .i64 c ∧ c + (f.drop j).count = f.count ∧ Below w.heap.size w wr) (fun _ b _ => f.len - (intOf b).toNat)
  case atStart => exact ⟨0, 0, Nat.zero_le _, rfl, rfl, by rw [Forest.drop_zero]; omega, Below.refl _ _⟩
  case round =>
    obtain ⟨j, c, hj, rfl, rfl, hsum, hbw⟩ := hrel
    by_cases hp : j < f.len
    · have hpi : (j : Int) < (f.len : Int) := by omega
      obtain ⟨k, sp, n, ats, tx, kids, hd⟩ := f.drop_cons j hp
      have hlj := (unhide HL).drop j
      have hlw := hlj.below hbw
      rw [hd] at hlw hsum
      obtain ⟨⟨c0, c1, c2, ⟨qa, ca, c3, hsl⟩, c4, ⟨qk, ck, c5, hck, hfo⟩⟩, _⟩ := hlw
      have hsum' : c + (1 + kids.count + (f.drop (j + 1)).count) = f.count := hsum
      have CK := hide (fun w h => unhide IH j k sp n ats tx kids hd qk ck w h)
      have hbA := (Below.refl wr.heap.size wr).alloc (Nat.le_refl _) (Obj.cells #[.int .i64 k, .int .i64 sp, .string n, .slice qa ats.length ca, .string tx, .slice qk kids.len ck] 44)
      have HF := hide ((show Fo qk kids wr from hfo).below hbA)
      have HB := hide (tr2 hbw hbA)
      generalize kids.len = kl at *
      generalize kids.count = kc at *
      have HS := hide hsum'
      have b1 : (c : Int) + 1 ≤ 1000000 := by omega
      have b2 : (c : Int) + 1 + (kc : Int) ≤ 1000000 := by omega
      clear hlj hsl hfo hd hsum hsum' hbA hbw
      go_wp2_with fail
      refine (unhide CK _ (unhide HF)).mono ?_
      rintro e w1 ⟨rfl, hb1⟩
      have HB1 := hide (tr2 (unhide HB) hb1)
      clear hb1 HF
      go_wp2
      go_roundw
      case rel => exact ⟨j + 1, c + 1 + kc, by omega, by go_num, by first | rfl | (congr 1) | skip, by have := unhide HS; omega, unhide HB1⟩
      case measure => simp [intOf]; omega
    · have hpi : ¬ (j : Int) < (f.len : Int) := by omega
      rw [f.drop_out j (by omega)] at hsum
      have HS : Hid (c = f.count) := hide hsum
      clear hp hsum
      go_wp2
      go_ret
      exact ⟨by rw [← unhide HS]; rfl, hbw⟩
theorem rcount_any : ∀ (m : Nat) (f : Forest), f.count ≤ m → m ≤ 1000000 → ∀ (q : Option Addr) (cap : Nat) (w : World), Fo q f w → Calls Tryd.prog 21 #[.slice q f.len cap] w fun e w' => e = .returned (.int .i64 (f.count : Nat)) ∧ Below w.heap.size w w'
  | m, f, hm, hM, q, cap, w, h => by
    rcases h with rfl | ⟨g, o, rfl, hl⟩
    · exact rcount_none q cap w
    · refine rcount_some f g o cap w hl (by omega) (fun j k sp n ats tx kids hd q cap w hf => ?_)
      have h1 : (f.drop j).count ≤ f.count := f.count_drop j
      rw [hd] at h1
      have h2 : 1 + kids.count + (f.drop (j + 1)).count ≤ f.count := h1
      match m, hm with
      | 0, hm => omega
      | m + 1, hm => exact rcount_any m kids (by omega) (by omega) q cap w hf
end Go.Proofs.YtbabmkilbbbmoaaDoor
