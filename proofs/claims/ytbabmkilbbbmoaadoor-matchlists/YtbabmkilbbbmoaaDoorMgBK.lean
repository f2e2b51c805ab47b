/-
  Several texts in one: what the functions of the program and of the document's answer do.
-/
import Derived.Test.YtbabmkilbbbmoaaDoorMgBJ
import Derived.Test.YtbabmkilbbbmoaaDoorMgAH
import Derived.Test.YtbabmkilbbbmoaaDoorMgBG
import Derived.Test.YtbabmkilbbbmoaaDoorMgBI
import Derived.Lib.ItoaLen
import Derived.Lib.LaidTab
import Derived.WalkSmall
import Derived.Test.YtbabmkilbbbmoaaDoorMgAG
import Derived.Test.YtbabmkilbbbmoaaDoorMPl
import Derived.Test.YtbabmkilbbbmoaaDoorMgAF

/-
  The small case of the laws on keys holds.
-/
namespace Go.Proofs.YtbabmkilbbbmoaaDoor
open Go.RowKit Go.Maps
set_option linter.unusedVariables false
set_option linter.unusedSimpArgs false

theorem wayT3 : wayF T3 0 1 = [0, 0] := by kernel_rfl
theorem atET3 : atE T3 [1] = 0 := by kernel_rfl
theorem atNT3 : atN T3 [1] = nI := by kernel_rfl
end Go.Proofs.YtbabmkilbbbmoaaDoor

/-
  Itoa in every later world; how long a key is; the plain comparison of two nodes.
-/
namespace Go.Proofs.YtbabmkilbbbmoaaDoor
open Go.RowKit Go.Sort
set_option linter.unusedVariables false
set_option linter.unusedSimpArgs false

def TabP (w : World) : Prop := Lib.TabIs Tryd.prog w "internal/strconv.uint64pow10" .u64 Lib.pow10Tab
theorem gPow : Tryd.prog.globalNamed "internal/strconv.uint64pow10" = some 0 := by kernel_rfl
theorem TabP.below {w W : World} (h : TabP w) (hb : Below w.heap.size w W) : TabP W := by
  have h0 : w.var? Tryd.prog "internal/strconv.uint64pow10" = some (Lib.pow10Tab.map fun z => Value.int .u64 z).toArray := h
  have hc := World.var?_cell gPow h0 0
  have hl : 0 < w.heap.size := by
    have hs : (Lib.pow10Tab.map fun z => Value.int .u64 z).toArray[0]? = some (.int .u64 1) := by kernel_rfl
    rw [hs] at hc
    exact World.block_lt_of_cell? w _ hc
  exact var?_below hb gPow hl h0
theorem below_grow (w : World) (os : Array Obj) : Below w.heap.size w (grow w os) :=
  ⟨rfl, rfl, rfl, by simp [grow], fun k hk => by simp [grow, Array.getElem?_append_left hk]⟩
theorem itoa_all {w0 : World} (ht : TabP w0) {n : Int} (h : I64 n) : ItoaAt w0 n := by
  refine ⟨Lib.itoa_length_le n h.1 h.2, fun W hW => ?_⟩
  refine (Tryd.strconv_Itoa n h.1 h.2 W (ht.below hW)).mono ?_
  rintro e w' ⟨rfl, k, os, rfl⟩
  exact ⟨rfl, tr2 (below_draws W k) (below_grow _ os)⟩
theorem i64_nat {n : Nat} (h : n ≤ 1000000000) : I64 (n : Int) := ⟨by omega, by omega⟩
theorem itF_all {w0 : World} (ht : TabP w0) : ∀ f : Forest, RngF f → SmF f → ItF w0 f
  | .nil, _, _ => trivial
  | .cons k sp n ats tx kids rest, hr, hs => by
    obtain ⟨⟨hk, hsp, hrk⟩, hrr⟩ := hr
    obtain ⟨⟨s1, s2, s3, s4⟩, s5, s6⟩ := hs
    have hkl := kids.len_count
    refine ⟨⟨itoa_all ht hk, itoa_all ht hsp, itoa_all ht (i64_nat (by omega)), itoa_all ht (i64_nat (by omega)), itoa_all ht (i64_nat (by have := s3.1; omega)), itoa_all ht (i64_nat (by omega)), fun j hj => ?_⟩, itF_all ht kids hrk s5, itF_all ht rest hrr s6⟩
    have := s3.2 j hj
    exact ⟨itoa_all ht (i64_nat (by omega)), itoa_all ht (i64_nat (by omega))⟩
theorem numB_lenK {n : Int} (h : I64 n) : (numB n).length ≤ 22 := by
  unfold numB itoB
  have := Lib.itoa_length_le n h.1 h.2
  rw [List.length_append]
  simp only [List.length_cons, List.length_nil]
  omega
theorem textB_lenK {s : ByteArray} (h : s.size ≤ 10000) : (textB s).length ≤ 10022 := by
  unfold textB
  have := numB_lenK (i64_nat (n := s.size) (by omega))
  rw [List.length_append, data_len]
  omega
theorem atsB_lenK : ∀ (ats : List (ByteArray × ByteArray)), (∀ x ∈ ats, x.1.size ≤ 10000 ∧ x.2.size ≤ 10000) → (atsB ats).length ≤ 20044 * ats.length
  | [], _ => by simp [atsB]
  | a :: r, h => by
    have h1 := h a (List.mem_cons_self ..)
    have h2 := atsB_lenK r (fun x hx => h x (List.mem_cons_of_mem _ hx))
    have h3 := textB_lenK h1.1
    have h4 := textB_lenK h1.2
    rw [atsB, List.length_append, List.length_append, List.length_cons]
    omega
theorem fits_mem {ats : List (ByteArray × ByteArray)} (h : Fits ats) : ∀ x ∈ ats, x.1.size ≤ 10000 ∧ x.2.size ≤ 10000 := fun x hx => by
  obtain ⟨j, hj, e⟩ := List.getElem_of_mem hx
  have := h.2 j hj
  unfold an av at this
  have e2 : ats.getD j (ByteArray.empty, ByteArray.empty) = x := by rw [List.getD, List.getElem?_eq_getElem hj, e]; rfl
  rw [e2] at this
  exact this
theorem keyF_lenK : ∀ f : Forest, RngF f → SmF f → (keyF f).length ≤ 21000000 * f.count
  | .nil, _, _ => by simp [keyF]
  | .cons k sp n ats tx kids rest, hr, hs => by
    obtain ⟨⟨hk, hsp, hrk⟩, hrr⟩ := hr
    obtain ⟨⟨s1, s2, s3, s4⟩, s5, s6⟩ := hs
    have hkl := kids.len_count
    have a1 := keyF_lenK kids hrk s5
    have a2 := keyF_lenK rest hrr s6
    have b1 := numB_lenK hk
    have b2 := numB_lenK hsp
    have b3 := textB_lenK (s := n) (by omega)
    have b4 := textB_lenK (s := tx) (by omega)
    have b5 := numB_lenK (i64_nat (n := ats.length) (by have := s3.1; omega))
    have b6 := atsB_lenK ats (fits_mem s3)
    have b7 := numB_lenK (i64_nat (n := kids.len) (by omega))
    have b8 := s3.1
    rw [keyF]
    unfold nodeB labelB
    simp only [List.length_append, Forest.count]
    omega
theorem ndv_two (k sp : Int) (n : ByteArray) (ats : List (ByteArray × ByteArray)) (tx : ByteArray) (kids : Forest) (k' sp' : Int) (n' : ByteArray) (ats' : List (ByteArray × ByteArray)) (tx' : ByteArray) (kids' : Forest) (v1 v2 : Value) (w : World) (h1 : NdV k sp n ats tx kids v1 w) (h2 : NdV k' sp' n' ats' tx' kids' v2 w) (hs : SmF kids) (hs' : SmF kids') (hl : ats.length ≤ 1000000000) (hl' : ats'.length ≤ 1000000000) (hc : kids.count ≤ 1000000) (hc' : kids'.count ≤ 1000000) :
    Calls Tryd.prog 20 #[v1, v2] w fun e w' => e = .returned (.bool (alikeN k sp n ats tx k' sp' n' ats' tx' && sameF kids kids')) ∧ Below w.heap.size w w' := by
  obtain ⟨qa, ca, qk, ck, rfl, a1, a2, a3⟩ := h1
  obtain ⟨qa', ca', qk', ck', rfl, b1, b2, b3⟩ := h2
  have hkl := kids'.len_count
  exact pnode_any k sp n ats tx k' sp' n' ats' tx' qa qa' qk qk' ca ca' ck ck' kids.len kids'.len (sameF kids kids') w a1 b1 hl hl' (fun W hW =>
    nodes_any kids.count kids (Nat.le_refl _) hc hs kids' qk qk' ck ck' W (a2.below hW) (b2.below hW) hs' (by omega))
/-- Two nodes' plain comparison is that of their keys. -/
theorem node_key (k sp : Int) (n : ByteArray) (ats : List (ByteArray × ByteArray)) (tx : ByteArray) (kids : Forest) (k' sp' : Int) (n' : ByteArray) (ats' : List (ByteArray × ByteArray)) (tx' : ByteArray) (kids' : Forest) :
    ((bs (keyF (.cons k sp n ats tx kids .nil))).toList == (bs (keyF (.cons k' sp' n' ats' tx' kids' .nil))).toList) = (alikeN k sp n ats tx k' sp' n' ats' tx' && sameF kids kids') := by
  have h := key_one k sp n ats tx kids k' sp' n' ats' tx' kids'
  by_cases e : keyF (.cons k sp n ats tx kids .nil) = keyF (.cons k' sp' n' ats' tx' kids' .nil)
  · rw [e, beq_self_eq_true]
    have hh := h.1 e
    injection hh with e1 e2 e3 e4 e5 e6
    subst e1 e2 e3 e4 e5 e6
    have hsk : sameF kids kids = true := (sameF_eq kids kids).2 rfl
    have hal : alikeN k sp n ats tx k sp n ats tx = true := by
      unfold alikeN
      simp only [decide_true, Bool.true_and]
      exact decide_eq_true rfl
    rw [hal, hsk]; rfl
  · rw [beq_no (fun x => e (bs_inj x))]
    symm
    rw [Bool.and_eq_false_iff]
    by_cases hk : sameF kids kids' = true
    · left
      have e6 := (sameF_eq kids kids').1 hk
      cases hal : alikeN k sp n ats tx k' sp' n' ats' tx' with
      | false => rfl
      | true =>
        exfalso
        apply e
        unfold alikeN sameA at hal
        simp only [Bool.and_eq_true, decide_eq_true_eq] at hal
        apply h.2
        simp_all
    · right
      simpa using hk
end Go.Proofs.YtbabmkilbbbmoaaDoor

/-
  Keys and labels of a list of nodes, in every world that a map of numbers grows in.
-/
namespace Go.Proofs.YtbabmkilbbbmoaaDoor
open Go.RowKit Go.Maps
set_option linter.unusedVariables false
set_option linter.unusedSimpArgs false

def keyT (f : Forest) (k : Nat) : ByteArray := match f.drop k with
  | .cons kk sp n ats tx kids _ => bs (keyF (.cons kk sp n ats tx kids .nil))
  | .nil => ByteArray.empty
def labT (f : Forest) (k : Nat) : ByteArray := match f.drop k with
  | .cons kk sp n _ _ _ _ => bs (labelB kk sp n)
  | .nil => ByteArray.empty
def ksT (f : Forest) : List ByteArray := (List.range f.len).map (keyT f)
def lsT (f : Forest) : List ByteArray := (List.range f.len).map (labT f)
theorem ksT_len (f : Forest) : (ksT f).length = f.len := by unfold ksT; simp
theorem lsT_len (f : Forest) : (lsT f).length = f.len := by unfold lsT; simp
theorem ksT_tx (f : Forest) (k : Nat) (h : k < f.len) : tx (ksT f) k = keyT f k := by unfold tx ksT; simp [List.getD, h]
theorem lsT_tx (f : Forest) (k : Nat) (h : k < f.len) : tx (lsT f) k = labT f k := by unfold tx lsT; simp [List.getD, h]
theorem grown_le {w W : World} {b : Nat} {D : List (List UInt8)} (h : NumM w b D) (hg : w.grownBy W (some b)) : CellLe w W := fun g o v hc => grown_cell hg hc (h.ne hc)
theorem TabP.grown {w W : World} {b : Nat} {D : List (List UInt8)} (ht : TabP w) (h : NumM w b D) (hg : w.grownBy W (some b)) : TabP W := by
  have h0 : w.var? Tryd.prog "internal/strconv.uint64pow10" = some (Lib.pow10Tab.map fun z => Value.int .u64 z).toArray := ht
  have hc := World.var?_cell gPow h0 0
  have hs : (Lib.pow10Tab.map fun z => Value.int .u64 z).toArray[0]? = some (.int .u64 1) := by kernel_rfl
  rw [hs] at hc
  have hl : 0 < w.heap.size := World.block_lt_of_cell? w _ hc
  have hne := h.ne hc
  have he := hg.block _ hl (fun e => hne (by simpa using e))
  have h1 := h0
  unfold World.var? at h1
  rw [gPow, Option.bind_some] at h1
  show W.var? Tryd.prog "internal/strconv.uint64pow10" = some _
  unfold World.var?
  rw [gPow, Option.bind_some, he]
  exact h1
/-- Nodes' cells, and what they are. -/
theorem nds_of {w : World} {q : Option Addr} {f : Forest} (h : Fo q f w) : ∃ vv : Nat → NdC, NdsV w q f.len vv ∧ ∀ k, k < f.len → ∃ kk sp n ats tx kids, f.drop k = .cons kk sp n ats tx kids (f.drop (k + 1)) ∧ NdV kk sp n ats tx kids (vv k).val w ∧ (vv k).k = kk ∧ (vv k).sp = sp ∧ (vv k).n = n := by
  rcases h with rfl | ⟨g, o, rfl, hl⟩
  · exact ⟨fun _ => ⟨0, 0, ByteArray.empty, none, 0, 0, ByteArray.empty, none, 0, 0⟩, fun h => absurd h (Nat.not_lt_zero _), fun k h => absurd h (Nat.not_lt_zero _)⟩
  · have hex : ∀ k, k < f.len → ∃ y : NdC, (∀ j, j < 6 → w.cell? ⟨g, o + k * 6 + j, none⟩ = y.cs[j]?) ∧ ∃ kk sp n ats tx kids, f.drop k = .cons kk sp n ats tx kids (f.drop (k + 1)) ∧ NdV kk sp n ats tx kids y.val w ∧ y.k = kk ∧ y.sp = sp ∧ y.n = n := by
      intro k hk
      obtain ⟨kk, sp, n, ats, tx, kids, hd⟩ := Forest.drop_cons k f hk
      have h2 := Lies.drop k f o hl
      rw [hd] at h2
      obtain ⟨⟨c0, c1, c2, ⟨qa, ca, c3, hs⟩, c4, qk, ck, c5, hck, hkk⟩, _⟩ := h2
      refine ⟨⟨kk, sp, n, qa, ats.length, ca, tx, qk, kids.len, ck⟩, fun j hj => ?_, kk, sp, n, ats, tx, kids, hd, ⟨qa, ca, qk, ck, rfl, hs, hkk, hck⟩, rfl, rfl, rfl⟩
      rcases j with _ | _ | _ | _ | _ | _ | j
      · exact c0
      · exact c1
      · exact c2
      · exact c3
      · exact c4
      · exact c5
      · omega
    refine ⟨fun k => if h : k < f.len then (hex k h).choose else ⟨0, 0, ByteArray.empty, none, 0, 0, ByteArray.empty, none, 0, 0⟩, fun _ => ⟨g, o, rfl, fun k hk j hj => ?_⟩, fun k hk => ?_⟩
    · simp only [dif_pos hk]
      exact (hex k hk).choose_spec.1 j hj
    · simp only [dif_pos hk]
      exact (hex k hk).choose_spec.2
theorem smF_drop : ∀ (k : Nat) (f : Forest), SmF f → SmF (f.drop k)
  | 0, f, h => by rw [Forest.drop_zero]; exact h
  | k + 1, .nil, h => h
  | k + 1, .cons _ _ _ _ _ _ rest, h => smF_drop k rest h.2.2
theorem rngF_drop : ∀ (k : Nat) (f : Forest), RngF f → RngF (f.drop k)
  | 0, f, h => by rw [Forest.drop_zero]; exact h
  | k + 1, .nil, h => h
  | k + 1, .cons _ _ _ _ _ _ rest, h => rngF_drop k rest h.2
theorem key_at {w : World} {b : Nat} {D : List (List UInt8)} (hm : NumM w b D) (ht : TabP w) {q : Option Addr} {f : Forest} {vv : Nat → NdC} (hs : SmF f) (hr : RngF f)
    (hv : ∀ k, k < f.len → ∃ kk sp n ats tx kids, f.drop k = .cons kk sp n ats tx kids (f.drop (k + 1)) ∧ NdV kk sp n ats tx kids (vv k).val w ∧ (vv k).k = kk ∧ (vv k).sp = sp ∧ (vv k).n = n) (hc : ∀ k kk sp n ats tx kids rest, k < f.len → f.drop k = .cons kk sp n ats tx kids rest → kids.count ≤ 4000) :
    ∀ k, k < (ksT f).length → ∀ W, w.grownBy W (some b) → Calls Tryd.prog 31 #[(vv k).val] W fun e w' => e = .returned (.string (tx (ksT f) k)) ∧ Below W.heap.size W w' := by
  intro k hk W hW
  rw [ksT_len] at hk
  rw [ksT_tx f k hk]
  obtain ⟨kk, sp, n, ats, tx, kids, hd, hn, _, _, _⟩ := hv k hk
  have h1 := smF_drop k f hs
  have h2 := rngF_drop k f hr
  have h3 := hc k _ _ _ _ _ _ _ hk hd
  unfold keyT
  rw [hd] at h1 h2 ⊢
  have hsm : SmF (.cons kk sp n ats tx kids .nil) := ⟨h1.1, h1.2.1, trivial⟩
  have hrn : RngF (.cons kk sp n ats tx kids .nil) := ⟨h2.1, trivial⟩
  have hlen := keyF_lenK _ hrn hsm
  refine key_any kk sp n ats tx kids _ W (hn.le (grown_le hm hW)) hsm (itF_all (ht.grown hm hW) _ hrn hsm) (by omega) (Nat.le_trans hlen ?_)
  have : (Forest.cons kk sp n ats tx kids .nil).count ≤ 4001 := by
    show 1 + kids.count + 0 ≤ 4001
    omega
  calc 21000000 * (Forest.cons kk sp n ats tx kids .nil).count ≤ 21000000 * 4001 := Nat.mul_le_mul_left _ this
    _ ≤ 100000000000 := by decide
theorem lab_at {w : World} {b : Nat} {D : List (List UInt8)} (hm : NumM w b D) (ht : TabP w) {f : Forest} {vv : Nat → NdC} (hs : SmF f) (hr : RngF f)
    (hv : ∀ k, k < f.len → ∃ kk sp n ats tx kids, f.drop k = .cons kk sp n ats tx kids (f.drop (k + 1)) ∧ NdV kk sp n ats tx kids (vv k).val w ∧ (vv k).k = kk ∧ (vv k).sp = sp ∧ (vv k).n = n) :
    ∀ k, k < (lsT f).length → ∀ W, w.grownBy W (some b) → Calls Tryd.prog 32 #[(vv k).val] W fun e w' => e = .returned (.string (tx (lsT f) k)) ∧ Below W.heap.size W w' := by
  intro k hk W hW
  rw [lsT_len] at hk
  rw [lsT_tx f k hk]
  obtain ⟨kk, sp, n, ats, tx, kids, hd, hn, e1, e2, e3⟩ := hv k hk
  have h1 := smF_drop k f hs
  have h2 := rngF_drop k f hr
  unfold labT
  rw [hd] at h1 h2 ⊢
  have ht' := ht.grown hm hW
  have hb := h1.1.2.1
  unfold NdC.val
  rw [e1, e2, e3]
  exact klab_any kk sp n _ _ _ W (itoa_all ht' h2.1.1) (itoa_all ht' h2.1.2.1) (itoa_all ht' (i64_nat (by omega))) (by omega)
end Go.Proofs.YtbabmkilbbbmoaaDoor

/-
  The pairs of two lists, plainly: whole ones, and between them those of alike ones.
-/
namespace Go.Proofs.YtbabmkilbbbmoaaDoor
set_option linter.unusedVariables false
set_option linter.unusedSimpArgs false

/-- The first place from j on, f places far at most. -/
def fdF (q : Nat → Bool) : Nat → Nat → Option Nat
  | 0, _ => none
  | f + 1, j => if q j = true then some j else fdF q f (j + 1)
theorem fdF_none (q : Nat → Bool) : ∀ (f j : Nat), (∀ y, j ≤ y → y < j + f → q y = false) → fdF q f j = none
  | 0, _, _ => rfl
  | f + 1, j, h => by
    rw [fdF, if_neg (by rw [h j (Nat.le_refl _) (by omega)]; decide)]
    exact fdF_none q f (j + 1) (fun y h1 h2 => h y (by omega) (by omega))
theorem fdF_some (q : Nat → Bool) : ∀ (f j x : Nat), j ≤ x → x < j + f → (∀ y, j ≤ y → y < x → q y = false) → q x = true → fdF q f j = some x
  | 0, j, x, h1, h2, _, _ => by omega
  | f + 1, j, x, h1, h2, hn, hx => by
    by_cases e : x = j
    · subst e; rw [fdF, if_pos hx]
    · rw [fdF, if_neg (by rw [hn j (Nat.le_refl _) (by omega)]; decide)]
      exact fdF_some q f (j + 1) x (by omega) (by omega) (fun y a b => hn y (by omega) b) hx
theorem fdF_in (q : Nat → Bool) : ∀ (f j x : Nat), fdF q f j = some x → j ≤ x ∧ x < j + f ∧ q x = true
  | 0, _, _, h => by cases h
  | f + 1, j, x, h => by
    rw [fdF] at h
    split at h
    · rename_i e; cases h; exact ⟨Nat.le_refl _, by omega, e⟩
    · have := fdF_in q f (j + 1) x h; exact ⟨by omega, by omega, this.2.2⟩
/-- The pairs of alike ones of a gap: from place i on, f places, and from j up to j1. -/
def alF (A : Nat → Nat → Bool) (j1 : Nat) : Nat → Nat → Nat → List (Nat × Nat)
  | 0, _, _ => []
  | f + 1, i, j => match fdF (A i) (j1 - j) j with
    | some x => (i, x) :: alF A j1 f (i + 1) (x + 1)
    | none => alF A j1 f (i + 1) j
theorem alF_some {A : Nat → Nat → Bool} {j1 f i j x : Nat} (h : fdF (A i) (j1 - j) j = some x) : alF A j1 (f + 1) i j = (i, x) :: alF A j1 f (i + 1) (x + 1) := by rw [alF, h]
theorem alF_none {A : Nat → Nat → Bool} {j1 f i j : Nat} (h : fdF (A i) (j1 - j) j = none) : alF A j1 (f + 1) i j = alF A j1 f (i + 1) j := by rw [alF, h]
theorem alF_len (A : Nat → Nat → Bool) (j1 : Nat) : ∀ (f i j : Nat), (alF A j1 f i j).length ≤ f
  | 0, _, _ => Nat.le_refl _
  | f + 1, i, j => by
    rw [alF]
    cases fdF (A i) (j1 - j) j with
    | some x => have := alF_len A j1 f (i + 1) (x + 1); simp only [List.length_cons]; omega
    | none => have := alF_len A j1 f (i + 1) j; show (alF A j1 f (i + 1) j).length ≤ _; omega
def whB (b : Bool) (L : List (Nat × Nat)) : List (Int × Int × Bool) := L.map (fun p => ((p.1 : Int), (p.2 : Int), b))
/-- What match makes of whole pairs. -/
def mtF (A : Nat → Nat → Bool) (n m : Nat) : Nat → Nat → List (Nat × Nat) → List (Int × Int × Bool)
  | i, j, [] => whB false (alF A m (n - i) i j)
  | i, j, p :: r => whB false (alF A p.2 (p.1 - i) i j) ++ ((p.1 : Int), (p.2 : Int), true) :: mtF A n m (p.1 + 1) (p.2 + 1) r
/-- The like, place by place (the document's answer): P are the whole pairs from here on. -/
def rlF (A : Nat → Nat → Bool) (m : Nat) : Nat → Nat → Nat → List (Nat × Nat) → List (Int × Int × Bool)
  | 0, _, _, _ => []
  | f + 1, i, j, [] => (match fdF (A i) (m - j) j with
    | some x => ((i : Int), (x : Int), false) :: rlF A m f (i + 1) (x + 1) []
    | none => rlF A m f (i + 1) j [])
  | f + 1, i, j, p :: r => if p.1 = i then ((i : Int), (p.2 : Int), true) :: rlF A m f (i + 1) (p.2 + 1) r else (match fdF (A i) (p.2 - j) j with
    | some x => ((i : Int), (x : Int), false) :: rlF A m f (i + 1) (x + 1) (p :: r)
    | none => rlF A m f (i + 1) j (p :: r))
theorem rlF_end (A : Nat → Nat → Bool) (m : Nat) : ∀ (f i j : Nat), rlF A m f i j [] = whB false (alF A m f i j)
  | 0, _, _ => rfl
  | f + 1, i, j => by
    rw [rlF, alF]
    cases fdF (A i) (m - j) j with
    | some x => simp only [whB, List.map_cons]; rw [rlF_end A m f (i + 1) (x + 1)]; rfl
    | none => exact rlF_end A m f (i + 1) j
theorem rlF_gap (A : Nat → Nat → Bool) (m : Nat) (p : Nat × Nat) (r : List (Nat × Nat)) : ∀ (d f i j : Nat), p.1 - i = d → i ≤ p.1 → d < f → rlF A m f i j (p :: r) = whB false (alF A p.2 d i j) ++ ((p.1 : Int), (p.2 : Int), true) :: rlF A m (f - d - 1) (p.1 + 1) (p.2 + 1) r
  | 0, f, i, j, h, hi, hf => by
    obtain ⟨g, rfl⟩ : ∃ g, f = g + 1 := ⟨f - 1, by omega⟩
    have e : p.1 = i := by omega
    rw [rlF, if_pos e, ← e]
    rfl
  | d + 1, f, i, j, h, hi, hf => by
    obtain ⟨g, rfl⟩ : ∃ g, f = g + 1 := ⟨f - 1, by omega⟩
    rw [rlF, if_neg (by omega), alF]
    cases fdF (A i) (p.2 - j) j with
    | some x =>
      simp only [whB, List.map_cons, List.cons_append]
      rw [rlF_gap A m p r d g (i + 1) (x + 1) (by omega) (by omega) (by omega), show g + 1 - (d + 1) - 1 = g - d - 1 by omega]
      rfl
    | none =>
      show rlF A m g (i + 1) j (p :: r) = whB false (alF A p.2 d (i + 1) j) ++ _
      rw [rlF_gap A m p r d g (i + 1) j (by omega) (by omega) (by omega), show g + 1 - (d + 1) - 1 = g - d - 1 by omega]
theorem mt_rl (A : Nat → Nat → Bool) (n m : Nat) : ∀ (P : List (Nat × Nat)) (i j : Nat), i ≤ n → RiseFrom (fun _ _ => true) n m i j P → mtF A n m i j P = rlF A m (n - i) i j P
  | [], i, j, _, _ => (rlF_end A m (n - i) i j).symm
  | p :: r, i, j, hi, h => by
    obtain ⟨h1, h2, h3, h4, _, h6⟩ := h
    rw [mtF, rlF_gap A m p r (p.1 - i) (n - i) i j rfl h1 (by omega), mt_rl A n m r (p.1 + 1) (p.2 + 1) h3 h6, show n - i - (p.1 - i) - 1 = n - (p.1 + 1) by omega]
end Go.Proofs.YtbabmkilbbbmoaaDoor

/-
  The small case of rectolaw20: lines.
-/
namespace Go.Proofs.YtbabmkilbbbmoaaDoor
open Go.RowKit Go.Maps
set_option linter.unusedVariables false
set_option linter.unusedSimpArgs false

def p0 : Int × Int × Bool := (0, 0, false)
theorem flatP_split (L : List (Int × Int × Bool)) (k : Nat) (h : k < L.length) (j : Nat) (hj : j < 3) : (flatP L)[k * 3 + j]? = (pairL (L.getD k p0))[j]? := by
  induction L generalizing k with
  | nil => simp at h
  | cons e r ih =>
    cases k with
    | zero =>
      simp only [flatP, Nat.zero_mul, Nat.zero_add]
      rw [List.getElem?_append_left (by simp [pairL]; omega)]
      rfl
    | succ k =>
      simp only [flatP]
      rw [List.getElem?_append_right (by simp [pairL]; omega)]
      have : (k + 1) * 3 + j - (pairL e).length = k * 3 + j := by simp [pairL]; omega
      rw [this, ih k (by simpa using h)]
      rfl
/-- Pairs in memory, cell by cell. -/
theorem PairsV.cells {w : World} {base : Nat} {u : Value} {L : List (Int × Int × Bool)} (h : PairsV w base u L) : ∃ q c, u = .slice q L.length c ∧ (0 < L.length → ∃ g, q = some ⟨g, 0, none⟩ ∧ g < w.heap.size ∧ ∀ k, k < L.length → w.cell? ⟨g, k * 3, none⟩ = some (.int .i64 (L.getD k p0).1) ∧ w.cell? ⟨g, k * 3 + 1, none⟩ = some (.int .i64 (L.getD k p0).2.1) ∧ w.cell? ⟨g, k * 3 + 2, none⟩ = some (.bool (L.getD k p0).2.2)) := by
  obtain ⟨_, h⟩ := h
  rcases h with ⟨h1, h0⟩ | ⟨g, cap, cur, h0, h1, h2, h3, h4, h5, h6⟩
  · exact ⟨none, 0, by rw [h0]; exact h1, fun x => by omega⟩
  · refine ⟨_, cap, h0, fun hp => ⟨g, rfl, ?_, fun k hk => ?_⟩⟩
    · rcases Nat.lt_or_ge g w.heap.size with h' | h'
      · exact h'
      · rw [Array.getElem?_eq_none h'] at h2; cases h2
    · have hc : ∀ j, j < 3 → w.cell? ⟨g, k * 3 + j, none⟩ = (pairL (L.getD k p0))[j]? := by
        intro j hj
        rw [Joins.cell_of_block h2, ← flatP_split L k hk j hj, ← h6, List.getElem?_take, if_pos (by omega)]
        simp
      exact ⟨hc 0 (by decide), hc 1 (by decide), hc 2 (by decide)⟩
def lit3 (a b c : UInt8) : List ByteArray := [⟨#[a]⟩, ⟨#[b]⟩, ⟨#[c]⟩]
theorem view_lit (W W' : World) (a b c : UInt8) (h : Below (W.alloc (Obj.cells #[.string ⟨#[a]⟩, .string ⟨#[b]⟩, .string ⟨#[c]⟩] 9)).heap.size (W.alloc (Obj.cells #[.string ⟨#[a]⟩, .string ⟨#[b]⟩, .string ⟨#[c]⟩] 9)) W') : View W' (.slice (some ⟨W.heap.size, 0, none⟩) 3 3) (lit3 a b c) := by
  refine view_below ?_ h
  refine ⟨by show 3 ≤ _; decide, _, 3, rfl, fun _ => ⟨W.heap.size, 0, rfl, fun i hi => ?_⟩⟩
  have k := Blk.new W #[.string ⟨#[a]⟩, .string ⟨#[b]⟩, .string ⟨#[c]⟩] 9
  rw [Nat.zero_add, k.cell i]
  have hi' : i < 3 := hi
  rcases i with _ | _ | _ | i
  · rfl
  · rfl
  · rfl
  · omega
theorem lines_plain : whP (lnP (eqT (lit3 97 98 99) (lit3 98 120 99)) 3 3 0 0) = [((1 : Int), (0 : Int), true), ((2 : Int), (2 : Int), true)] := by kernel_rfl

set_option maxHeartbeats 1000000 in
theorem lines_any (w : World) : Calls Tryd.prog 9 #[] w fun e w' => e = .returned (.bool true) ∧ Below w.heap.size w w' := by
  have A1 : Below w.heap.size w (w.alloc (Obj.cells #[.string ⟨#[97]⟩, .string ⟨#[98]⟩, .string ⟨#[99]⟩] 9)) := (Below.refl _ _).alloc (Nat.le_refl _) _
  have A2 := A1.alloc A1.size (Obj.cells #[.string ⟨#[98]⟩, .string ⟨#[120]⟩, .string ⟨#[99]⟩] 9)
  have V1 := view_lit w _ 97 98 99 ((Below.refl _ _).alloc (Nat.le_refl _) (Obj.cells #[.string ⟨#[98]⟩, .string ⟨#[120]⟩, .string ⟨#[99]⟩] 9))
  have V2 := view_lit (w.alloc (Obj.cells #[.string ⟨#[97]⟩, .string ⟨#[98]⟩, .string ⟨#[99]⟩] 9)) _ 98 120 99 (Below.refl _ _)
  have C := hide (mline_any _ _ _ _ _ V1 V2 (fun k hk => by have hk' : k < 3 := hk; rcases k with _ | _ | _ | k <;> first | decide | omega) (fun k hk => by have hk' : k < 3 := hk; rcases k with _ | _ | _ | k <;> first | decide | omega) (by decide) (by decide))
  have HA := hide A2
  clear A1 A2 V1 V2
  go_enter Tryd.func9, Tryd.ntmps9
  go_wp2_with fail
  refine Calls.mono (by simpa using unhide C) ?_
  rintro e w2 ⟨u, rfl, hp, hb2⟩
  have e3 : whP (lnP (eqT (lit3 97 98 99) (lit3 98 120 99)) (lit3 97 98 99).length (lit3 98 120 99).length 0 0) = _ := lines_plain
  rw [e3] at hp
  obtain ⟨q, c, rfl, hc⟩ := hp.cells
  obtain ⟨g, rfl, hg, hcell⟩ := hc (by decide)
  obtain ⟨x0, x1, x2⟩ := hcell 0 (by decide)
  obtain ⟨y0, y1, y2⟩ := hcell 1 (by decide)
  have HB2 := hide hb2
  clear hp hcell hb2 hc e3 C
  simp only [List.getD, List.getElem?_cons_zero, List.getElem?_cons_succ, Option.getD_some, Nat.zero_mul, Nat.one_mul, Nat.zero_add, List.length_cons, List.length_nil] at x0 x1 x2 y0 y1 y2 ⊢
  go_wp2
  go_ret
  exact ⟨rfl, (unhide HA).trans ((unhide HB2).mono (unhide HA).size)⟩
end Go.Proofs.YtbabmkilbbbmoaaDoor
