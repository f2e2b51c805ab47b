/-
  Several texts in one: what the functions of the program and of the document's answer do.
-/
import Derived.Test.YtbabmkilbbbmoaaDoorZSu
import Derived.Test.YtbabmkilbbbmoaaDoorMgAK
import Derived.Test.YtbabmkilbbbmoaaDoorZPa
import Derived.Deep.DeepCutAuto
import Derived.Deep.RegionHeld
import Derived.Test.YtbabmkilbbbmoaaDoorMgAF
import Derived.Laws.EntriesVeiled
import Derived.Test.YtbabmkilbbbmoaaDoorMgAA
import Derived.Maps.OwnSet
import Derived.Maps.Views

/-
  Three lists of texts as one, told plainly; where parts stand.
-/
namespace Go.Proofs.YtbabmkilbbbmoaaDoor
open Go.RowKit
set_option linter.unusedVariables false
set_option linter.unusedSimpArgs false

def jn1 (o a b : List ByteArray) (p : PT) : List ByteArray :=
  if p.1 = 1 then sub o p.2.1.1 p.2.1.2 else if p.1 = 3 then sub a p.2.2.1.1 p.2.2.1.2 else if p.1 = 4 then sub a p.2.2.1.1 p.2.2.1.2 else if p.1 = 5 then sub a p.2.2.1.1 p.2.2.1.2 ++ sub b p.2.2.2.1 p.2.2.2.2 else sub b p.2.2.2.1 p.2.2.2.2
def jnF (o a b : List ByteArray) : List PT → List ByteArray
  | [] => []
  | p :: r => jn1 o a b p ++ jnF o a b r
def clF : List PT → Nat
  | [] => 0
  | p :: r => (if p.1 = 5 then 1 else 0) + clF r
theorem jnF_app (o a b : List ByteArray) : ∀ (x y : List PT), jnF o a b (x ++ y) = jnF o a b x ++ jnF o a b y
  | [], y => rfl
  | p :: r, y => by rw [List.cons_append, jnF, jnF_app o a b r y, jnF, List.append_assoc]
theorem clF_app : ∀ (x y : List PT), clF (x ++ y) = clF x + clF y
  | [], y => by simp [clF]
  | p :: r, y => by rw [List.cons_append, clF, clF_app r y, clF]; omega
theorem clF_le : ∀ (x : List PT), clF x ≤ x.length
  | [] => Nat.le_refl _
  | p :: r => by have := clF_le r; rw [clF, List.length_cons]; split <;> omega
/-- A part lies within the lists. -/
def InP (n a b : Nat) (p : PT) : Prop := 1 ≤ p.1 ∧ p.1 ≤ 5 ∧ p.2.1.1 ≤ p.2.1.2 ∧ p.2.2.1.1 ≤ p.2.2.1.2 ∧ p.2.2.2.1 ≤ p.2.2.2.2 ∧ p.2.1.2 ≤ n ∧ p.2.2.1.2 ≤ a ∧ p.2.2.2.2 ≤ b
theorem goP_in (n a b : Nat) : ∀ (L : List PT) (i j k : Nat), GoP n a b i j k L → ∀ p ∈ L, InP n a b p
  | [], _, _, _, _, _, hp => by cases hp
  | q :: r, i, j, k, h, p, hp => by
    obtain ⟨a1, a2, a3, a4, a5, a6, a7, a8, a9, b1, b2, b3, b4⟩ := h
    rcases List.mem_cons.1 hp with rfl | hp
    · exact ⟨a1, a2, by omega, by omega, by omega, b1, b2, b3⟩
    · exact goP_in n a b r _ _ _ b4 p hp
theorem jn1_len {n a' b' : Nat} {o a b : List ByteArray} {p : PT} (h : InP n a' b' p) (ho : n ≤ o.length) (ha : a' ≤ a.length) (hb : b' ≤ b.length) : (jn1 o a b p).length ≤ (p.2.1.2 - p.2.1.1) + (p.2.2.1.2 - p.2.2.1.1) + (p.2.2.2.2 - p.2.2.2.1) := by
  obtain ⟨a1, a2, a3, a4, a5, a6, a7, a8⟩ := h
  have e1 := sub_len o p.2.1.1 p.2.1.2 (by omega)
  have e2 := sub_len a p.2.2.1.1 p.2.2.1.2 (by omega)
  have e3 := sub_len b p.2.2.2.1 p.2.2.2.2 (by omega)
  unfold jn1
  split
  · omega
  · split
    · omega
    · split
      · omega
      · split
        · rw [List.length_append]; omega
        · omega
theorem goP_jn (n a' b' : Nat) (o a b : List ByteArray) (ho : n ≤ o.length) (ha : a' ≤ a.length) (hb : b' ≤ b.length) : ∀ (L : List PT) (i j k : Nat), i ≤ n → j ≤ a' → k ≤ b' → GoP n a' b' i j k L → (jnF o a b L).length ≤ (n - i) + (a' - j) + (b' - k)
  | [], _, _, _, _, _, _, _ => Nat.zero_le _
  | q :: r, i, j, k, h1, h2, h3, h => by
    have hin := goP_in n a' b' (q :: r) i j k h q (List.mem_cons_self ..)
    obtain ⟨a1, a2, a3, a4, a5, a6, a7, a8, a9, b1, b2, b3, b4⟩ := h
    have e1 := jn1_len hin ho ha hb
    have e2 := goP_jn n a' b' o a b ho ha hb r _ _ _ b1 b2 b3 b4
    rw [jnF, List.length_append]
    omega
/-- All parts of three lists of texts. -/
def allQ (o a b : List ByteArray) : List PT := ptF (smT o a b) o.length a.length b.length 0 0 0 (trF (lnP (eqT o a) o.length a.length 0 0) (lnP (eqT o b) o.length b.length 0 0))
theorem allQ_up (o a b : List ByteArray) : UpT o.length a.length b.length 0 0 0 (trF (lnP (eqT o a) o.length a.length 0 0) (lnP (eqT o b) o.length b.length 0 0)) := trF_up (rise_p _ _ _ (lnP_rise0 _ _ _ _ _)) (rise_p _ _ _ (lnP_rise0 _ _ _ _ _))
theorem allQ_go (o a b : List ByteArray) : GoP o.length a.length b.length 0 0 0 (allQ o a b) := ptF_go _ _ _ _ _ _ _ _ (Nat.zero_le _) (Nat.zero_le _) (Nat.zero_le _) (allQ_up o a b)
theorem allQ_len (o a b : List ByteArray) : (allQ o a b).length ≤ 2 * o.length + 1 := by
  have h1 := ptF_len (smT o a b) o.length a.length b.length (trF (lnP (eqT o a) o.length a.length 0 0) (lnP (eqT o b) o.length b.length 0 0)) 0 0 0
  have h2 := upT_len _ _ _ _ _ _ _ (allQ_up o a b)
  unfold allQ
  omega
end Go.Proofs.YtbabmkilbbbmoaaDoor

/-
  What the reference's 'Texts' of layer 25 does.
-/
namespace Go.Proofs.YtbabmkilbbbmoaaDoor
open Go.RowKit
set_option linter.unusedVariables false
set_option linter.unusedSimpArgs false

def ptR (p : PT) : List Value := [.int .i64 p.1, .int .i64 p.2.1.1, .int .i64 p.2.2.1.1, .int .i64 p.2.2.2.1, .int .i64 p.2.1.2, .int .i64 p.2.2.1.2, .int .i64 p.2.2.2.2]
theorem ptR_len (p : PT) : (ptR p).length = 7 := rfl
theorem infoRPart0 : (Tryd.prog.info? 103).map (fun i => (i.zero, i.size, i.bytes)) = some (some (.agg #[.int .i64 0, .int .i64 0, .int .i64 0, .int .i64 0, .int .i64 0, .int .i64 0, .int .i64 0]), 7, 56) := by kernel_rfl
theorem infoRPart : ∃ i, Tryd.prog.info? 103 = some i ∧ i.zero = some (.agg #[.int .i64 0, .int .i64 0, .int .i64 0, .int .i64 0, .int .i64 0, .int .i64 0, .int .i64 0]) ∧ i.size = 7 ∧ i.bytes = 56 := by
  have h := infoRPart0
  cases hi : Tryd.prog.info? 103 with
  | none => rw [hi] at h; cases h
  | some i =>
    rw [hi] at h
    simp only [Option.map_some, Option.some.injEq, Prod.mk.injEq] at h
    exact ⟨i, rfl, h.1, h.2.1, h.2.2⟩
def RPartsV (w : World) (base : Nat) (u : Value) (L : List PT) : Prop := w.ownsRow base 103 7 u L.length (flat7 ptR L)
theorem rparts_snoc {w : World} {base : Nat} {u : Value} {L : List PT} {p : PT} (h : w.ownsRow base 103 7 u (L.length + 1) (flat7 ptR L ++ ptR p)) : RPartsV w base u (L ++ [p]) := by
  unfold RPartsV
  rw [List.length_append, flat7_app]
  simpa [flat7] using h
/-- What holds ahead of a round. -/
structure RxS (w W1 : World) (B fb g : Nat) (n a b : Nat) (S : Sms) (T : List (Nat × Nat × Nat)) (full : List PT) (u : Value) (m i j k : Nat) (Lm : List PT) (wr : World) : Prop where
  fr : Blk wr fb #[.int .i64 (i : Int), .int .i64 (j : Int), .int .i64 (k : Int)] 101
  tr : wr.heap[g]? = W1.heap[g]?
  row : RPartsV wr B u Lm
  bl : Below w.heap.size w wr
  sz : B ≤ wr.heap.size
  mid : m ≤ T.length → i ≤ n ∧ j ≤ a ∧ k ≤ b ∧ UpT n a b i j k (T.drop m) ∧ Lm ++ ptF S n a b i j k (T.drop m) = full
  fin : m = T.length + 1 → Lm = full
  len : Lm.length ≤ 10000
def SxR (WB : World) (fb bb : Nat) (i j k t1 t2 t3 : Int) (X : World) : Prop :=
  Below WB.heap.size WB X ∧ X.cell? ⟨fb, 0, none⟩ = some (.int .i64 i) ∧ X.cell? ⟨fb, 1, none⟩ = some (.int .i64 j) ∧ X.cell? ⟨fb, 2, none⟩ = some (.int .i64 k) ∧ X.cell? ⟨bb, 0, none⟩ = some (.int .i64 t1) ∧ X.cell? ⟨bb, 1, none⟩ = some (.int .i64 t2) ∧ X.cell? ⟨bb, 2, none⟩ = some (.int .i64 t3)
theorem SxR.below {WB : World} {fb bb : Nat} {i j k t1 t2 t3 : Int} {X X' : World} (h : SxR WB fb bb i j k t1 t2 t3 X) (hb : Below X.heap.size X X') : SxR WB fb bb i j k t1 t2 t3 X' :=
  ⟨tr2 h.1 hb, cellB hb h.2.1, cellB hb h.2.2.1, cellB hb h.2.2.2.1, cellB hb h.2.2.2.2.1, cellB hb h.2.2.2.2.2.1, cellB hb h.2.2.2.2.2.2⟩
theorem Blk.drewX {w : World} {b : Nat} {vs : Array Value} {t : TypeId} (h : Blk w b vs t) : Blk w.drew b vs t := h
theorem sameT_comm (a b : List ByteArray) : sameT a b = sameT b a := by
  unfold sameT
  by_cases h : a = b
  · subst h; rfl
  · rw [decide_eq_false h, decide_eq_false (fun e => h e.symm)]
theorem cell_of_same {w w' : World} {g o : Nat} {v : Option Value} (h : w'.heap[g]? = w.heap[g]?) (hc : w.cell? ⟨g, o, none⟩ = v) : w'.cell? ⟨g, o, none⟩ = v := by
  unfold World.cell? at hc ⊢
  simp only [h]
  exact hc
theorem SxR.set {WB : World} {fb bb : Nat} {i j k t1 t2 t3 : Int} {X : World} (h : SxR WB fb bb i j k t1 t2 t3 X) {pb : Nat} (hp : pb ≠ fb ∧ pb ≠ bb ∧ WB.heap.size ≤ pb) (n : Nat) (v : Value) : SxR WB fb bb i j k t1 t2 t3 (X.setCell ⟨pb, n, none⟩ v) := by
  have c : ∀ b o v', b ≠ pb → X.cell? ⟨b, o, none⟩ = some v' → (X.setCell ⟨pb, n, none⟩ v).cell? ⟨b, o, none⟩ = some v' := fun b o v' hb hc => by
    have he := Below.heap_setCell X ⟨pb, n, none⟩ v b hb
    exact cell_of_same he hc
  exact ⟨h.1.setCell hp.2.2 _, c _ _ _ hp.1.symm h.2.1, c _ _ _ hp.1.symm h.2.2.1, c _ _ _ hp.1.symm h.2.2.2.1, c _ _ _ hp.2.1.symm h.2.2.2.2.1, c _ _ _ hp.2.1.symm h.2.2.2.2.2.1, c _ _ _ hp.2.1.symm h.2.2.2.2.2.2⟩

end Go.Proofs.YtbabmkilbbbmoaaDoor

/-
  What 'numbers.ofNodes' does: the numbers of what a function tells of nodes.
-/
namespace Go.Proofs.YtbabmkilbbbmoaaDoor
open Go.RowKit Go.Maps
set_option linter.unusedVariables false
set_option linter.unusedSimpArgs false

/-- A node's cells. -/
structure NdC where
  k : Int
  sp : Int
  n : ByteArray
  qa : Option Addr
  la : Nat
  ca : Nat
  tx : ByteArray
  qk : Option Addr
  lk : Nat
  ck : Nat
def NdC.cs (y : NdC) : List Value := [.int .i64 y.k, .int .i64 y.sp, .string y.n, .slice y.qa y.la y.ca, .string y.tx, .slice y.qk y.lk y.ck]
def NdC.val (y : NdC) : Value := .agg #[.int .i64 y.k, .int .i64 y.sp, .string y.n, .slice y.qa y.la y.ca, .string y.tx, .slice y.qk y.lk y.ck]
def NdsV (w : World) (q : Option Addr) (n : Nat) (vv : Nat → NdC) : Prop := 0 < n → ∃ g o, q = some ⟨g, o, none⟩ ∧ ∀ k, k < n → ∀ j, j < 6 → w.cell? ⟨g, o + k * 6 + j, none⟩ = (vv k).cs[j]?
set_option maxHeartbeats 4000000 in
set_option maxRecDepth 100000 in
theorem ofNodes_key (b : Nat) (D : List (List UInt8)) (q : Option Addr) (c : Nat) (ss : List ByteArray) (vv : Nat → NdC) (w : World) (h : NumM w b D) (hv : NdsV w q ss.length vv) (hs : ∀ k, k < ss.length → (tx ss k).size ≤ 9223372036854775807) (hl : D.length + ss.length ≤ 100000)
    (hF : ∀ k, k < ss.length → ∀ W, w.grownBy W (some b) → Calls Tryd.prog 31 #[(vv k).val] W fun e w' => e = .returned (.string (tx ss k)) ∧ Below W.heap.size W w') :
    Calls Tryd.prog 30 #[.map (some b), .slice q ss.length c, .func (Fn.func 31) #[] #[]] w fun e w' => ∃ u, e = .returned u ∧ w'.ownsRow w.heap.size 3 1 u ss.length ((numsK D (txs ss)).map intV) ∧ NumM w' b (addAll D (txs ss)) ∧ w.grownBy w' (some b) := by
  obtain ⟨i0, hi0, hi1, hi2, hi3⟩ := mfoInt
  have HC := hide hv
  have HS := hide hs
  have HFF := hide hF
  have hb0 := h.lt
  have H := hide h
  have HT : Hid ((txs ss).take ss.length = txs ss) := hide (List.take_of_length_le (by unfold txs; rw [List.length_map]; exact Nat.le_refl _))
  have HTK := hide (txs_take ss)
  have HLK : Hid (∀ k, ((txs ss).take k).length ≤ k) := hide (fun k => by rw [List.length_take]; omega)
  generalize hT : txs ss = T at *
  clear hv hs h hT hF
  go_enter Tryd.func30, Tryd.ntmps30
  go_wp2
  go_loopw [12, 7] (fun i u wr => ∃ k : Nat, k ≤ ss.length ∧ i = .int .i64 k ∧ wr.ownsRow w.heap.size 3 1 u k ((numsK D (T.take k)).map intV) ∧ NumM wr b (addAll D (T.take k)) ∧ w.grownBy wr (some b)) (fun i _ _ => ss.length - (intOf i).toNat)
  case atStart => exact ⟨0, Nat.zero_le _, rfl, by simpa [numsK] using World.ownsRow_nil w w.heap.size 3 1, by simpa [addAll] using unhide H, ⟨rfl, rfl, rfl, Nat.le_refl _, fun _ _ _ => rfl⟩⟩
  case round =>
    obtain ⟨k, hk, rfl, hrow, hnum, hgr⟩ := hrel
    have HR := hide hrow
    have HN := hide hnum
    have HG := hide hgr
    have hz := hgr.size
    clear hrow hnum hgr
    by_cases hp : k < ss.length
    · have hpi : (k : Int) < (ss.length : Int) := by omega
      obtain ⟨bb, off, rfl, hcell⟩ := unhide HC (by omega)
      have cc : ∀ j v, j < 6 → (vv k).cs[j]? = some v → wr.cell? ⟨bb, off + k * 6 + j, none⟩ = some v := fun j v hj hv => by
        have h0 := hcell k hp j hj
        rw [hv] at h0
        exact grown_cell (unhide HG) h0 ((unhide H).ne h0)
      have CF := hide (unhide HFF k hp)
      generalize vv k = y at *
      obtain ⟨yk, ysp, yn, yqa, yla, yca, ytx, yqk, ylk, yck⟩ := y
      have e0 : wr.cell? ⟨bb, off + k * 6, none⟩ = some (.int .i64 yk) := cc 0 _ (by decide) rfl
      have e1 : wr.cell? ⟨bb, off + k * 6 + 1, none⟩ = some (.int .i64 ysp) := cc 1 _ (by decide) rfl
      have e2 : wr.cell? ⟨bb, off + k * 6 + 2, none⟩ = some (.string yn) := cc 2 _ (by decide) rfl
      have e3 : wr.cell? ⟨bb, off + k * 6 + 3, none⟩ = some (.slice yqa yla yca) := cc 3 _ (by decide) rfl
      have e4 : wr.cell? ⟨bb, off + k * 6 + 4, none⟩ = some (.string ytx) := cc 4 _ (by decide) rfl
      have e5 : wr.cell? ⟨bb, off + k * 6 + 5, none⟩ = some (.slice yqk ylk yck) := cc 5 _ (by decide) rfl
      unfold NdC.val at CF
      dsimp only at CF
      have hsk := unhide HS k hp
      have htk := unhide HTK k hp
      have hlk := unhide HLK k
      have hlk2 := addAll_len (T.take k) D
      have CN := hide (fun W hW => nof_any b (addAll D (T.take k)) (tx ss k) W hW hsk (by omega))
      have HS1 : Hid (addT (addAll D (T.take k)) (tx ss k).data.toList = addAll D (T.take (k + 1))) := hide (by rw [htk, addAll_app]; rfl)
      have HS2 : Hid (numsK D (T.take (k + 1)) = numsK D (T.take k) ++ [numT (addAll D (T.take (k + 1))) (tx ss k).data.toList]) := hide (by rw [htk]; exact numsK_snoc _ _ _)
      rw [unhide HS1] at CN
      obtain ⟨ra, rn, rc, hu⟩ := slice_of (unhide HR)
      subst hu
      generalize numT (addAll D (T.take (k + 1))) (tx ss k).data.toList = z at *
      generalize tx ss k = t at *
      have HGX := hide (grown_below (unhide HG) ((Below.refl w.heap.size wr).alloc (by omega) (Obj.cells #[.int .i64 yk, .int .i64 ysp, .string yn, .slice yqa yla yca, .string ytx, .slice yqk ylk yck] 44)))
      have HNX := hide ((unhide HN).alloc (Obj.cells #[.int .i64 yk, .int .i64 ysp, .string yn, .slice yqa yla yca, .string ytx, .slice yqk ylk yck] 44))
      have HRX := hide ((unhide HR).alloc (Obj.cells #[.int .i64 yk, .int .i64 ysp, .string yn, .slice yqa yla yca, .string ytx, .slice yqk ylk yck] 44))
      clear htk hsk hcell HS1 hlk hlk2 cc
      go_wp2_with fail
      refine (unhide CF _ (unhide HGX)).mono ?_
      rintro e w1 ⟨rfl, hb1⟩
      have HN1 := hide ((unhide HNX).later hb1)
      have HR1 := hide (ownsRow_below (unhide HRX) hb1)
      have HG1 := hide (grown_below (unhide HGX) (hb1.mono (by have := (unhide HGX).size; omega)))
      clear hb1 CF HNX HRX HGX
      go_wp2_with fail
      refine (unhide CN w1 (unhide HN1)).mono ?_
      rintro e w2 ⟨rfl, hn2, hg2⟩
      have hb2 := hn2.lt
      have R2 := hide (owns_grown (unhide HR1) hg2 hb0)
      have N2 := hide hn2
      have G2 := hide (grown_trans (unhide HG1) hg2)
      have hz2 := (unhide G2).size
      clear hn2 hg2 CN HN HR HG HN1 HR1 HG1
      go_wp2_with (at_builtin; refine wpList_append_own_at _ rfl _ _ 38 rfl w.heap.size 3 i0 (.int .i64 0) 1 8 Tryd.underlying38 hi0 hi1 hi2 hi3 rfl (by decide) (.slice ra rn rc) _ _ rfl ((unhide R2).alloc _) ⟨w2.heap.size, 0, none⟩ 1 1 [.int .i64 z] rfl rfl ?c1 ?c2 ?c3 ?c4 ?c5 ?_)
      case c1 => exact cell_one_new _ _ _
      case c2 => simp [Value.oneCell']
      case c3 => simp only [maxLen]; omega
      case c4 => omega
      case c5 => simp; omega
      intro u' w3 hown hgr _ hat
      have hrb : ∀ j, some j = (Value.slice ra rn rc).ownBlock → w.heap.size ≤ j := fun j hj => ((unhide R2).lt j hj.symm).1
      go_wp2
      go_roundw
      case rel =>
        refine ⟨k + 1, by omega, by go_num, ?_, ?_, ?_⟩
        · rw [unhide HS2, List.map_append]; exact hown
        · exact ((unhide N2).alloc _).kept hgr (fun e => by have := hrb _ e; omega)
        · exact grown_below (unhide G2) (((Below.refl w.heap.size w2).alloc (by omega) _).grown hgr (by simp; omega) (fun j hj => hrb j hj.symm))
      case measure => simp [intOf]; omega
    · have hke : k = ss.length := by omega
      have hpi : ¬ (k : Int) < (ss.length : Int) := by omega
      subst hke
      rw [unhide HT] at HR HN
      go_wp2
      go_ret
      exact ⟨_, rfl, unhide HR, unhide HN, unhide HG⟩
set_option maxHeartbeats 4000000 in
set_option maxRecDepth 100000 in
theorem ofNodes_lab (b : Nat) (D : List (List UInt8)) (q : Option Addr) (c : Nat) (ss : List ByteArray) (vv : Nat → NdC) (w : World) (h : NumM w b D) (hv : NdsV w q ss.length vv) (hs : ∀ k, k < ss.length → (tx ss k).size ≤ 9223372036854775807) (hl : D.length + ss.length ≤ 100000)
    (hF : ∀ k, k < ss.length → ∀ W, w.grownBy W (some b) → Calls Tryd.prog 32 #[(vv k).val] W fun e w' => e = .returned (.string (tx ss k)) ∧ Below W.heap.size W w') :
    Calls Tryd.prog 30 #[.map (some b), .slice q ss.length c, .func (Fn.func 32) #[] #[]] w fun e w' => ∃ u, e = .returned u ∧ w'.ownsRow w.heap.size 3 1 u ss.length ((numsK D (txs ss)).map intV) ∧ NumM w' b (addAll D (txs ss)) ∧ w.grownBy w' (some b) := by
  obtain ⟨i0, hi0, hi1, hi2, hi3⟩ := mfoInt
  have HC := hide hv
  have HS := hide hs
  have HFF := hide hF
  have hb0 := h.lt
  have H := hide h
  have HT : Hid ((txs ss).take ss.length = txs ss) := hide (List.take_of_length_le (by unfold txs; rw [List.length_map]; exact Nat.le_refl _))
  have HTK := hide (txs_take ss)
  have HLK : Hid (∀ k, ((txs ss).take k).length ≤ k) := hide (fun k => by rw [List.length_take]; omega)
  generalize hT : txs ss = T at *
  clear hv hs h hT hF
  go_enter Tryd.func30, Tryd.ntmps30
  go_wp2
  go_loopw [12, 7] (fun i u wr => ∃ k : Nat, k ≤ ss.length ∧ i = .int .i64 k ∧ wr.ownsRow w.heap.size 3 1 u k ((numsK D (T.take k)).map intV) ∧ NumM wr b (addAll D (T.take k)) ∧ w.grownBy wr (some b)) (fun i _ _ => ss.length - (intOf i).toNat)
  case atStart => exact ⟨0, Nat.zero_le _, rfl, by simpa [numsK] using World.ownsRow_nil w w.heap.size 3 1, by simpa [addAll] using unhide H, ⟨rfl, rfl, rfl, Nat.le_refl _, fun _ _ _ => rfl⟩⟩
  case round =>
    obtain ⟨k, hk, rfl, hrow, hnum, hgr⟩ := hrel
    have HR := hide hrow
    have HN := hide hnum
    have HG := hide hgr
    have hz := hgr.size
    clear hrow hnum hgr
    by_cases hp : k < ss.length
    · have hpi : (k : Int) < (ss.length : Int) := by omega
      obtain ⟨bb, off, rfl, hcell⟩ := unhide HC (by omega)
      have cc : ∀ j v, j < 6 → (vv k).cs[j]? = some v → wr.cell? ⟨bb, off + k * 6 + j, none⟩ = some v := fun j v hj hv => by
        have h0 := hcell k hp j hj
        rw [hv] at h0
        exact grown_cell (unhide HG) h0 ((unhide H).ne h0)
      have CF := hide (unhide HFF k hp)
      generalize vv k = y at *
      obtain ⟨yk, ysp, yn, yqa, yla, yca, ytx, yqk, ylk, yck⟩ := y
      have e0 : wr.cell? ⟨bb, off + k * 6, none⟩ = some (.int .i64 yk) := cc 0 _ (by decide) rfl
      have e1 : wr.cell? ⟨bb, off + k * 6 + 1, none⟩ = some (.int .i64 ysp) := cc 1 _ (by decide) rfl
      have e2 : wr.cell? ⟨bb, off + k * 6 + 2, none⟩ = some (.string yn) := cc 2 _ (by decide) rfl
      have e3 : wr.cell? ⟨bb, off + k * 6 + 3, none⟩ = some (.slice yqa yla yca) := cc 3 _ (by decide) rfl
      have e4 : wr.cell? ⟨bb, off + k * 6 + 4, none⟩ = some (.string ytx) := cc 4 _ (by decide) rfl
      have e5 : wr.cell? ⟨bb, off + k * 6 + 5, none⟩ = some (.slice yqk ylk yck) := cc 5 _ (by decide) rfl
      unfold NdC.val at CF
      dsimp only at CF
      have hsk := unhide HS k hp
      have htk := unhide HTK k hp
      have hlk := unhide HLK k
      have hlk2 := addAll_len (T.take k) D
      have CN := hide (fun W hW => nof_any b (addAll D (T.take k)) (tx ss k) W hW hsk (by omega))
      have HS1 : Hid (addT (addAll D (T.take k)) (tx ss k).data.toList = addAll D (T.take (k + 1))) := hide (by rw [htk, addAll_app]; rfl)
      have HS2 : Hid (numsK D (T.take (k + 1)) = numsK D (T.take k) ++ [numT (addAll D (T.take (k + 1))) (tx ss k).data.toList]) := hide (by rw [htk]; exact numsK_snoc _ _ _)
      rw [unhide HS1] at CN
      obtain ⟨ra, rn, rc, hu⟩ := slice_of (unhide HR)
      subst hu
      generalize numT (addAll D (T.take (k + 1))) (tx ss k).data.toList = z at *
      generalize tx ss k = t at *
      have HGX := hide (grown_below (unhide HG) ((Below.refl w.heap.size wr).alloc (by omega) (Obj.cells #[.int .i64 yk, .int .i64 ysp, .string yn, .slice yqa yla yca, .string ytx, .slice yqk ylk yck] 44)))
      have HNX := hide ((unhide HN).alloc (Obj.cells #[.int .i64 yk, .int .i64 ysp, .string yn, .slice yqa yla yca, .string ytx, .slice yqk ylk yck] 44))
      have HRX := hide ((unhide HR).alloc (Obj.cells #[.int .i64 yk, .int .i64 ysp, .string yn, .slice yqa yla yca, .string ytx, .slice yqk ylk yck] 44))
      clear htk hsk hcell HS1 hlk hlk2 cc
      go_wp2_with fail
      refine (unhide CF _ (unhide HGX)).mono ?_
      rintro e w1 ⟨rfl, hb1⟩
      have HN1 := hide ((unhide HNX).later hb1)
      have HR1 := hide (ownsRow_below (unhide HRX) hb1)
      have HG1 := hide (grown_below (unhide HGX) (hb1.mono (by have := (unhide HGX).size; omega)))
      clear hb1 CF HNX HRX HGX
      go_wp2_with fail
      refine (unhide CN w1 (unhide HN1)).mono ?_
      rintro e w2 ⟨rfl, hn2, hg2⟩
      have hb2 := hn2.lt
      have R2 := hide (owns_grown (unhide HR1) hg2 hb0)
      have N2 := hide hn2
      have G2 := hide (grown_trans (unhide HG1) hg2)
      have hz2 := (unhide G2).size
      clear hn2 hg2 CN HN HR HG HN1 HR1 HG1
      go_wp2_with (at_builtin; refine wpList_append_own_at _ rfl _ _ 38 rfl w.heap.size 3 i0 (.int .i64 0) 1 8 Tryd.underlying38 hi0 hi1 hi2 hi3 rfl (by decide) (.slice ra rn rc) _ _ rfl ((unhide R2).alloc _) ⟨w2.heap.size, 0, none⟩ 1 1 [.int .i64 z] rfl rfl ?c1 ?c2 ?c3 ?c4 ?c5 ?_)
      case c1 => exact cell_one_new _ _ _
      case c2 => simp [Value.oneCell']
      case c3 => simp only [maxLen]; omega
      case c4 => omega
      case c5 => simp; omega
      intro u' w3 hown hgr _ hat
      have hrb : ∀ j, some j = (Value.slice ra rn rc).ownBlock → w.heap.size ≤ j := fun j hj => ((unhide R2).lt j hj.symm).1
      go_wp2
      go_roundw
      case rel =>
        refine ⟨k + 1, by omega, by go_num, ?_, ?_, ?_⟩
        · rw [unhide HS2, List.map_append]; exact hown
        · exact ((unhide N2).alloc _).kept hgr (fun e => by have := hrb _ e; omega)
        · exact grown_below (unhide G2) (((Below.refl w.heap.size w2).alloc (by omega) _).grown hgr (by simp; omega) (fun j hj => hrb j hj.symm))
      case measure => simp [intOf]; omega
    · have hke : k = ss.length := by omega
      have hpi : ¬ (k : Int) < (ss.length : Int) := by omega
      subst hke
      rw [unhide HT] at HR HN
      go_wp2
      go_ret
      exact ⟨_, rfl, unhide HR, unhide HN, unhide HG⟩
end Go.Proofs.YtbabmkilbbbmoaaDoor

/-
  Attributes as they lie in memory.
-/
namespace Go.Proofs.YtbabmkilbbbmoaaDoor
open Go.RowKit Go.Maps Go.WideMaps
set_option linter.unusedVariables false

/-- Attributes that lie in memory, one behind the other. -/
def an (ats : List (ByteArray × ByteArray)) (k : Nat) : ByteArray := (ats.getD k (ByteArray.empty, ByteArray.empty)).1
def av (ats : List (ByteArray × ByteArray)) (k : Nat) : ByteArray := (ats.getD k (ByteArray.empty, ByteArray.empty)).2
def Cells2 (g o : Nat) (ats : List (ByteArray × ByteArray)) (w : World) : Prop :=
  ∀ k, k < ats.length → w.cell? ⟨g, o + k * 2, none⟩ = some (.string (an ats k)) ∧ w.cell? ⟨g, o + k * 2 + 1, none⟩ = some (.string (av ats k))
theorem Cells2.below {g o : Nat} {ats : List (ByteArray × ByteArray)} {w w' : World} (h : Cells2 g o ats w) (hb : Below w.heap.size w w') : Cells2 g o ats w' :=
  fun k hk => ⟨cell_later hb (h k hk).1, cell_later hb (h k hk).2⟩
/-- Attributes behind a slice, or none at all. -/
def Sl (q : Option Addr) (ats : List (ByteArray × ByteArray)) (w : World) : Prop := ats = [] ∨ ∃ g o, q = some ⟨g, o, none⟩ ∧ Cells2 g o ats w
theorem Sl.below {q : Option Addr} {ats : List (ByteArray × ByteArray)} {w w' : World} (h : Sl q ats w) (hb : Below w.heap.size w w') : Sl q ats w' :=
  h.imp id fun ⟨g, o, h1, h2⟩ => ⟨g, o, h1, h2.below hb⟩
theorem law9 : Keyed Tryd.prog 9 := string_keyed Tryd.underlying9
theorem isKey (b : ByteArray) : WideAt.IsKeyLit (.string b.data.toList) := by simp [WideAt.IsKeyLit]
end Go.Proofs.YtbabmkilbbbmoaaDoor
