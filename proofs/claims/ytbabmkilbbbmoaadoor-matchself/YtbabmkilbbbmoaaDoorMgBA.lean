/-
  Several texts in one: what the functions of the program and of the document's answer do.
-/
import Derived.Test.YtbabmkilbbbmoaaDoorMgAY
import Derived.Test.YtbabmkilbbbmoaaDoorSh
import Derived.Lib.RowBridge
import Derived.Test.YtbabmkilbbbmoaaDoorMgAZ
import Derived.Test.YtbabmkilbbbmoaaDoorMgAU
import Derived.Lib.ItoaLen
import Derived.Lib.LaidTab
import Derived.WalkSmall
import Derived.Test.YtbabmkilbbbmoaaDoorMgAX
import Derived.Test.YtbabmkilbbbmoaaDoorMgAD

/-
  What keys.Way does.
-/
namespace Go.Proofs.YtbabmkilbbbmoaaDoor
open Go.RowKit Go.Maps
set_option linter.unusedVariables false
set_option linter.unusedSimpArgs false

theorem below_cellsI {B b : Nat} {a : World} (hb : B ≤ b) : ∀ (vs : List Value) (o : Nat) (w : World), Below B a w → Below B a (w.setCells b o vs)
  | [], o, w, h => h
  | v :: r, o, w, h => below_cellsI hb r (o + 1) _ (h.setCell (p := ⟨b, o, none⟩) hb v)
/-- Numbers turned about in their own row. -/
theorem rev_any (B : Nat) (v : Value) (n : Nat) (zs : List Int) (w : World) (h : w.ownsRow B 3 1 v n (zs.map (Value.int .i64))) (hn : n ≤ 1000000) :
    ∃ q c, v = .slice q n c ∧ n ≤ c ∧ n = zs.length ∧ Calls Tryd.prog 45 #[.slice q n c] w fun e w' => e = .returned (.tuple #[]) ∧ IntsV q n zs.reverse w' ∧ Below B w w' := by
  obtain ⟨hl, h⟩ := h
  have hnz : n = zs.length := by simpa using hl.symm
  rcases h with ⟨rfl, h⟩ | ⟨g, cap, cur, rfl, h1, h2, h3, h4, h5, h6⟩
  · refine ⟨none, 0, by rw [h], by omega, hnz, ?_⟩
    have hz : zs = [] := List.eq_nil_of_length_eq_zero (by omega)
    subst hz
    subst h
    refine (Tryd.slices_Reverse_int_empty none 0 w).mono ?_
    rintro e w' ⟨rfl, rfl⟩
    exact ⟨rfl, IntsV.nil _ _, Below.refl _ _⟩
  · refine ⟨_, cap, rfl, h3, hnz, ?_⟩
    have hc : ∀ j, j < zs.length → w.cell? ⟨g, 0 + j, none⟩ = some (.int .i64 (zs.getD j 0)) := fun j hj => by
      rw [Nat.zero_add, Joins.cell_of_block h2]
      have := congrArg (fun l => l[j]?) h6
      simp only [Nat.mul_one] at this
      rw [List.getElem?_take, if_pos (by omega), List.getElem?_map, List.getElem?_eq_getElem hj] at this
      simpa [List.getD, hj] using this
    have hf : ∀ j, j < n → w.frozen? ⟨g, 0 + j, none⟩ = false := fun j _ => by simp [World.frozen?, h2]
    have hH := Lib.holds_of_ints (n := n) (by omega) hc hf
    have ht : zs.take n = zs := List.take_of_length_le (by omega)
    rw [ht] at hH
    have hcall := Tryd.slices_Reverse_int g 0 cap zs w hH (by omega)
    rw [← hnz] at hcall
    refine hcall.mono ?_
    rintro e w' ⟨rfl, qd, rfl⟩
    have hr : (zs.reverse).length = n := by rw [List.length_reverse]; exact hnz.symm
    rw [Lib.putRow_eq_setCells _ w g 0 _ _ qd hH (by simp)]
    refine ⟨rfl, ⟨hr.symm, fun _ => ⟨g, 0, rfl, fun j hj => ?_⟩⟩, below_cellsI h1 _ _ _ (_root_.Go.below_drewN (Below.refl _ _) _)⟩
    have := Lib.cells_after_ints (W := w) (b := g) (off := 0) (n := n) (q := qd) (zs := zs) (ys := zs.reverse) (by omega) hr hc j (by simp; omega)
    rw [this]
    simp [List.getD, hnz]

set_option maxHeartbeats 4000000 in
set_option maxRecDepth 100000 in
theorem way_any (f : Forest) (q : Option Addr) (cap : Nat) (num : Int) (w : World) (hf : Fo q f w) (hcap : f.len ≤ cap) (hc : f.count ≤ 500000) :
    Calls Tryd.prog 17 #[.slice q f.len cap, .int .i64 num] w fun e w' => ∃ q' n' c', n' ≤ c' ∧ e = .returned (.tuple #[.slice q' n' c', .int .i64 (if num < 0 ∨ (f.count : Int) ≤ num then 6 else 0)]) ∧ IntsV q' n' (wayF f 0 num) w' ∧ Below w.heap.size w w' := by
  obtain ⟨i0, hi0, hi1, hi2, hi3⟩ := infoInt
  have CI := hide (items_any f q cap w hf hcap hc)
  obtain ⟨E, hE⟩ : ∃ E : Int, (if num < 0 ∨ (f.count : Int) ≤ num then 6 else 0 : Int) = E := ⟨_, rfl⟩
  obtain ⟨WF, hWF⟩ : ∃ WF, wayF f 0 num = WF := ⟨_, rfl⟩
  rw [hE, hWF]
  obtain ⟨N, hN⟩ : ∃ N, f.count = N := ⟨_, rfl⟩
  rw [hN] at CI hE hc
  have HE := hide hE
  have HWF := hide hWF
  have HN := hide hN
  clear hf hE hWF hN
  go_enter Tryd.func17, Tryd.ntmps17
  go_wp2_with fail
  refine (unhide CI).mono ?_
  rintro e w1 ⟨qi, ci, rfl, ⟨hin, hic, his⟩, hb1⟩
  have HIS := hide his
  have HB := hide hb1
  clear CI his hb1 hin
  by_cases h1 : num < 0
  · have HD : Hid (E = 6 ∧ WF = []) := hide ⟨by rw [← unhide HE, if_pos (Or.inl h1)], by rw [← unhide HWF]; exact wayF_out f 0 num (Or.inl h1)⟩
    have h1' : (decide (num < 0)) = true := decide_eq_true h1
    go_wp2
    go_ret2
    exact ⟨none, 0, 0, Nat.le_refl _, by rw [(unhide HD).1]; rfl, by rw [(unhide HD).2]; exact IntsV.nil _ _, unhide HB⟩
  by_cases h2 : (N : Int) ≤ num
  · have HD : Hid (E = 6 ∧ WF = []) := hide ⟨by rw [← unhide HE, if_pos (Or.inr h2)], by rw [← unhide HWF]; exact wayF_out f 0 num (Or.inr (by rw [unhide HN]; exact h2))⟩
    have h3 : ¬ num < (N : Int) := by omega
    go_wp2
    go_ret2
    exact ⟨none, 0, 0, Nat.le_refl _, by rw [(unhide HD).1]; rfl, by rw [(unhide HD).2]; exact IntsV.nil _ _, unhide HB⟩
  obtain ⟨nn, rfl⟩ : ∃ nn : Nat, num = (nn : Int) := ⟨num.toNat, by omega⟩
  have HD : Hid (E = 0) := hide (by rw [← unhide HE, if_neg (by omega)])
  have hnN : nn < N := by omega
  have hup := up_top f nn (by rw [unhide HN]; exact hnN)
  rw [unhide HWF] at hup
  have hwl : WF.length ≤ N := by rw [← unhide HWF, ← unhide HN]; exact wayF_len f 0 _
  obtain ⟨g, rfl, hz⟩ : ∃ g, qi = some ⟨g, 0, none⟩ ∧ ItZ (itm f 0 (-1) 0 0) (szA f) g w1 := by
    rcases unhide HIS with h | h
    · have := unhide HN; rw [h] at this; simp [Forest.count] at this; omega
    · exact h
  have HZ := hide hz
  have HUP := hide hup
  have h0' : (0 : Int) ≤ (nn : Int) := by omega
  have h2' : (nn : Int) < (N : Int) := by omega
  have hd1 : decide (N ≤ nn) = false := decide_eq_false (by omega)
  have hd2 : decide ((nn : Int) < 0) = false := decide_eq_false (by omega)
  clear hz hup HIS h1 h2
  go_wp2
  go_loopg [7, 8] WF.length (fun gk u a wr => ∃ (at' : Int) (acc l : List Int), a = .int .i64 at' ∧ l.length = gk ∧ Up (itm f 0 (-1) 0 0) at' l ∧ acc ++ l = WF.reverse ∧ wr.ownsRow w1.heap.size 3 1 u acc.length (acc.map (Value.int .i64)) ∧ Below w1.heap.size w1 wr)
  case atStart => exact ⟨(nn : Int), [], WF.reverse, rfl, by simp, unhide HUP, rfl, World.ownsRow_nil _ _ _ _, Below.refl _ _⟩
  case round =>
    clear HUP
    obtain ⟨at', acc, l, rfl, hgk, hup, hal, hrow, hbw⟩ := hrel
    have hlen : acc.length + l.length = WF.length := by have := congrArg List.length hal; simpa using this
    cases hup with
    | top p hp =>
      rw [List.append_nil] at hal
      obtain ⟨q2, c2, hv, hnc, hnl, hcall⟩ := rev_any w1.heap.size _ acc.length acc wr hrow (by simp at hlen; omega)
      subst hv
      have CR := hide hcall
      have HBW := hide hbw
      have HAL := hide hal
      clear hcall hbw hal hrow hlen hgk
      go_wp2_with fail
      refine (unhide CR).mono ?_
      rintro e w2 ⟨rfl, hi, hb2⟩
      have HI := hide hi
      have HB2 := hide hb2
      clear hi hb2 CR
      go_wp2
      go_ret2
      refine ⟨q2, acc.length, c2, hnc, by rw [unhide HD]; rfl, ?_, tr2 (unhide HB) ((unhide HBW).trans (unhide HB2))⟩
      have e : acc.reverse = WF := by rw [unhide HAL, List.reverse_reverse]
      rw [← e]; exact unhide HI
    | nd i x l' hx hu =>
      have hiN : i < N := by have := (List.getElem?_eq_some_iff.1 hx).1; rw [itm_len, unhide HN] at this; exact this
      obtain ⟨-, b1, b2, -, -⟩ := (unhide HZ).2 i x hx
      have b1' := cell_later hbw b1
      have b2' := cell_later hbw b2
      obtain ⟨ra, rn, rc, hv⟩ := slice_of hrow
      subst hv
      have hiI : (0 : Int) ≤ (i : Int) := by omega
      have hiNi : (i : Int) < (N : Int) := by omega
      have HR := hide hrow
      have HBW := hide hbw
      have hsz := hbw.size
      have HX := hide (And.intro hal hu)
      have HB1 := hide b1
      obtain ⟨x0, x1, x2, x3⟩ := x
      have hal2 : acc.length ≤ 500000 := by omega
      simp at hgk
      clear hrow hbw hal hu hx b1 b2 hlen
      dsimp only at b1' b2' HX HB1
      go_wp2_with (at_builtin; refine wpList_append_own_at _ rfl _ _ 38 rfl w1.heap.size 3 i0 (.int .i64 0) 1 8 Tryd.underlying38 hi0 hi1 hi2 hi3 rfl (by decide) (.slice ra rn rc) _ _ rfl ((unhide HR).alloc _) ⟨wr.heap.size, 0, none⟩ 1 1 [.int .i64 x2] rfl rfl ?c1 ?c2 ?c3 ?c4 ?c5 ?_)
      case c1 => exact fun j u hj => lit1i hj
      case c2 => simp [Value.oneCell']
      case c3 => simp only [maxLen]; omega
      case c4 => omega
      case c5 => simp; omega
      intro u' w3 hown hgr _ _
      have HO := hide hown
      have hza : w1.heap.size ≤ (wr.alloc (Obj.cells #[.int .i64 x2] 3)).heap.size := by simp; omega
      have HG := hide (((unhide HBW).alloc (by omega) (Obj.cells #[.int .i64 x2] 3)).grown hgr hza (fun j hj => ((unhide HR).lt j hj).1))
      have k1 := cell_later (unhide HG) (unhide HB1)
      obtain ⟨yq, yn, yc, hyv⟩ := slice_of hown
      subst hyv
      clear hown hgr
      go_wp2
      go_roundg l'.length
      case measure => omega
      case rel => exact ⟨x1, acc ++ [x2], l', rfl, rfl, (unhide HX).2, by rw [List.append_assoc]; exact (unhide HX).1, by rw [List.length_append, List.map_append]; exact unhide HO, unhide HG⟩
end Go.Proofs.YtbabmkilbbbmoaaDoor

/-
  The small case of the laws on keys: three nodes.
-/
namespace Go.Proofs.YtbabmkilbbbmoaaDoor
open Go.RowKit Go.Maps
set_option linter.unusedVariables false
set_option linter.unusedSimpArgs false

theorem itoa_small (w0 : World) (i : Nat) (hi : i < 100) : ItoaAt w0 (i : Int) := by
  have he : itoB (i : Int) = Lib.decDigits i := Lib.itoa_nonneg i
  have hl : (Lib.decDigits i).length ≤ 2 := by
    unfold Lib.decDigits
    by_cases h : i < 10
    · rw [dif_pos h]; simp
    · rw [dif_neg h]
      unfold Lib.decDigits
      rw [dif_pos (by omega)]; simp
  refine ⟨by rw [he]; omega, fun W _ => ?_⟩
  refine (Tryd.strconv_Itoa_small i hi W).mono ?_
  rintro e w' ⟨rfl, rfl⟩
  exact ⟨by rw [he]; rfl, Below.refl _ _⟩
def nI : Forest := .cons 1 0 ⟨#[105]⟩ [] ⟨#[]⟩ .nil .nil
def nB : Forest := .cons 1 0 ⟨#[98]⟩ [] ⟨#[]⟩ .nil .nil
def T3 : Forest := .cons 1 0 ⟨#[112]⟩ [] ⟨#[]⟩ nB nI
theorem small_nd (k sp : Int) (n : ByteArray) (kids rest : Forest) (hn : n.size ≤ 10) (hk : SmF kids) (hr : SmF rest) (hc : kids.count ≤ 1000) : SmF (.cons k sp n [] ⟨#[]⟩ kids rest) :=
  ⟨⟨Nat.zero_le _, by omega, fits_nil, by omega⟩, hk, hr⟩
theorem smT3 : SmF T3 := small_nd _ _ _ _ _ (by decide) (small_nd _ _ _ _ _ (by decide) trivial trivial (by decide)) (small_nd _ _ _ _ _ (by decide) trivial trivial (by decide)) (by decide)
theorem itI (w0 : World) : ItF w0 nI := ⟨⟨itoa_small w0 1 (by decide), itoa_small w0 0 (by decide), itoa_small w0 1 (by decide), itoa_small w0 0 (by decide), itoa_small w0 0 (by decide), itoa_small w0 0 (by decide), fun j hj => absurd hj (Nat.not_lt_zero j)⟩, trivial, trivial⟩
theorem keyI_len (w0 : World) : (keyF nI).length ≤ 100000000000 := by
  have n0 := numB_len w0 0 (itoa_small w0 0 (by decide))
  have n1 := numB_len w0 1 (itoa_small w0 1 (by decide))
  have t1 := textB_len w0 ⟨#[105]⟩ (itoa_small w0 1 (by decide))
  have t0 := textB_len w0 ⟨#[]⟩ (itoa_small w0 0 (by decide))
  have z1 : (⟨#[105]⟩ : ByteArray).size = 1 := rfl
  have z0 : (⟨#[]⟩ : ByteArray).size = 0 := rfl
  have e1 : (([] : List (ByteArray × ByteArray)).length : Int) = 0 := rfl
  have e2 : ((Forest.nil.len : Nat) : Int) = 0 := rfl
  simp only [nI, keyF, nodeB, labelB, atsB, List.length_append, List.length_nil, e1, e2]
  have e3 : (((0 : Nat)) : Int) = 0 := rfl
  rw [e3]
  omega
end Go.Proofs.YtbabmkilbbbmoaaDoor

/-
  The small case of the laws on keys holds.
-/
namespace Go.Proofs.YtbabmkilbbbmoaaDoor
open Go.RowKit Go.Maps
set_option linter.unusedVariables false
set_option linter.unusedSimpArgs false

theorem wayT3 : wayF T3 0 1 = [0, 0] := by kernel_rfl
theorem atET3 : atE T3 [1] = 0 := by kernel_rfl
theorem atNT3 : atN T3 [1] = nI := by kernel_rfl
end Go.Proofs.YtbabmkilbbbmoaaDoor

/-
  Itoa in every later world; how long a key is; the plain comparison of two nodes.
-/
namespace Go.Proofs.YtbabmkilbbbmoaaDoor
open Go.RowKit Go.Sort
set_option linter.unusedVariables false
set_option linter.unusedSimpArgs false

def TabP (w : World) : Prop := Lib.TabIs Tryd.prog w "internal/strconv.uint64pow10" .u64 Lib.pow10Tab
theorem gPow : Tryd.prog.globalNamed "internal/strconv.uint64pow10" = some 0 := by kernel_rfl
theorem TabP.below {w W : World} (h : TabP w) (hb : Below w.heap.size w W) : TabP W := by
  have h0 : w.var? Tryd.prog "internal/strconv.uint64pow10" = some (Lib.pow10Tab.map fun z => Value.int .u64 z).toArray := h
  have hc := World.var?_cell gPow h0 0
  have hl : 0 < w.heap.size := by
    have hs : (Lib.pow10Tab.map fun z => Value.int .u64 z).toArray[0]? = some (.int .u64 1) := by kernel_rfl
    rw [hs] at hc
    exact World.block_lt_of_cell? w _ hc
  exact var?_below hb gPow hl h0
theorem below_grow (w : World) (os : Array Obj) : Below w.heap.size w (grow w os) :=
  ⟨rfl, rfl, rfl, by simp [grow], fun k hk => by simp [grow, Array.getElem?_append_left hk]⟩
theorem itoa_all {w0 : World} (ht : TabP w0) {n : Int} (h : I64 n) : ItoaAt w0 n := by
  refine ⟨Lib.itoa_length_le n h.1 h.2, fun W hW => ?_⟩
  refine (Tryd.strconv_Itoa n h.1 h.2 W (ht.below hW)).mono ?_
  rintro e w' ⟨rfl, k, os, rfl⟩
  exact ⟨rfl, tr2 (below_draws W k) (below_grow _ os)⟩
theorem i64_nat {n : Nat} (h : n ≤ 1000000000) : I64 (n : Int) := ⟨by omega, by omega⟩
theorem itF_all {w0 : World} (ht : TabP w0) : ∀ f : Forest, RngF f → SmF f → ItF w0 f
  | .nil, _, _ => trivial
  | .cons k sp n ats tx kids rest, hr, hs => by
    obtain ⟨⟨hk, hsp, hrk⟩, hrr⟩ := hr
    obtain ⟨⟨s1, s2, s3, s4⟩, s5, s6⟩ := hs
    have hkl := kids.len_count
    refine ⟨⟨itoa_all ht hk, itoa_all ht hsp, itoa_all ht (i64_nat (by omega)), itoa_all ht (i64_nat (by omega)), itoa_all ht (i64_nat (by have := s3.1; omega)), itoa_all ht (i64_nat (by omega)), fun j hj => ?_⟩, itF_all ht kids hrk s5, itF_all ht rest hrr s6⟩
    have := s3.2 j hj
    exact ⟨itoa_all ht (i64_nat (by omega)), itoa_all ht (i64_nat (by omega))⟩
theorem numB_lenK {n : Int} (h : I64 n) : (numB n).length ≤ 22 := by
  unfold numB itoB
  have := Lib.itoa_length_le n h.1 h.2
  rw [List.length_append]
  simp only [List.length_cons, List.length_nil]
  omega
theorem textB_lenK {s : ByteArray} (h : s.size ≤ 10000) : (textB s).length ≤ 10022 := by
  unfold textB
  have := numB_lenK (i64_nat (n := s.size) (by omega))
  rw [List.length_append, data_len]
  omega
theorem atsB_lenK : ∀ (ats : List (ByteArray × ByteArray)), (∀ x ∈ ats, x.1.size ≤ 10000 ∧ x.2.size ≤ 10000) → (atsB ats).length ≤ 20044 * ats.length
  | [], _ => by simp [atsB]
  | a :: r, h => by
    have h1 := h a (List.mem_cons_self ..)
    have h2 := atsB_lenK r (fun x hx => h x (List.mem_cons_of_mem _ hx))
    have h3 := textB_lenK h1.1
    have h4 := textB_lenK h1.2
    rw [atsB, List.length_append, List.length_append, List.length_cons]
    omega
theorem fits_mem {ats : List (ByteArray × ByteArray)} (h : Fits ats) : ∀ x ∈ ats, x.1.size ≤ 10000 ∧ x.2.size ≤ 10000 := fun x hx => by
  obtain ⟨j, hj, e⟩ := List.getElem_of_mem hx
  have := h.2 j hj
  unfold an av at this
  have e2 : ats.getD j (ByteArray.empty, ByteArray.empty) = x := by rw [List.getD, List.getElem?_eq_getElem hj, e]; rfl
  rw [e2] at this
  exact this
theorem keyF_lenK : ∀ f : Forest, RngF f → SmF f → (keyF f).length ≤ 21000000 * f.count
  | .nil, _, _ => by simp [keyF]
  | .cons k sp n ats tx kids rest, hr, hs => by
    obtain ⟨⟨hk, hsp, hrk⟩, hrr⟩ := hr
    obtain ⟨⟨s1, s2, s3, s4⟩, s5, s6⟩ := hs
    have hkl := kids.len_count
    have a1 := keyF_lenK kids hrk s5
    have a2 := keyF_lenK rest hrr s6
    have b1 := numB_lenK hk
    have b2 := numB_lenK hsp
    have b3 := textB_lenK (s := n) (by omega)
    have b4 := textB_lenK (s := tx) (by omega)
    have b5 := numB_lenK (i64_nat (n := ats.length) (by have := s3.1; omega))
    have b6 := atsB_lenK ats (fits_mem s3)
    have b7 := numB_lenK (i64_nat (n := kids.len) (by omega))
    have b8 := s3.1
    rw [keyF]
    unfold nodeB labelB
    simp only [List.length_append, Forest.count]
    omega
theorem ndv_two (k sp : Int) (n : ByteArray) (ats : List (ByteArray × ByteArray)) (tx : ByteArray) (kids : Forest) (k' sp' : Int) (n' : ByteArray) (ats' : List (ByteArray × ByteArray)) (tx' : ByteArray) (kids' : Forest) (v1 v2 : Value) (w : World) (h1 : NdV k sp n ats tx kids v1 w) (h2 : NdV k' sp' n' ats' tx' kids' v2 w) (hs : SmF kids) (hs' : SmF kids') (hl : ats.length ≤ 1000000000) (hl' : ats'.length ≤ 1000000000) (hc : kids.count ≤ 1000000) (hc' : kids'.count ≤ 1000000) :
    Calls Tryd.prog 20 #[v1, v2] w fun e w' => e = .returned (.bool (alikeN k sp n ats tx k' sp' n' ats' tx' && sameF kids kids')) ∧ Below w.heap.size w w' := by
  obtain ⟨qa, ca, qk, ck, rfl, a1, a2, a3⟩ := h1
  obtain ⟨qa', ca', qk', ck', rfl, b1, b2, b3⟩ := h2
  have hkl := kids'.len_count
  exact pnode_any k sp n ats tx k' sp' n' ats' tx' qa qa' qk qk' ca ca' ck ck' kids.len kids'.len (sameF kids kids') w a1 b1 hl hl' (fun W hW =>
    nodes_any kids.count kids (Nat.le_refl _) hc hs kids' qk qk' ck ck' W (a2.below hW) (b2.below hW) hs' (by omega))
/-- Two nodes' plain comparison is that of their keys. -/
theorem node_key (k sp : Int) (n : ByteArray) (ats : List (ByteArray × ByteArray)) (tx : ByteArray) (kids : Forest) (k' sp' : Int) (n' : ByteArray) (ats' : List (ByteArray × ByteArray)) (tx' : ByteArray) (kids' : Forest) :
    ((bs (keyF (.cons k sp n ats tx kids .nil))).toList == (bs (keyF (.cons k' sp' n' ats' tx' kids' .nil))).toList) = (alikeN k sp n ats tx k' sp' n' ats' tx' && sameF kids kids') := by
  have h := key_one k sp n ats tx kids k' sp' n' ats' tx' kids'
  by_cases e : keyF (.cons k sp n ats tx kids .nil) = keyF (.cons k' sp' n' ats' tx' kids' .nil)
  · rw [e, beq_self_eq_true]
    have hh := h.1 e
    injection hh with e1 e2 e3 e4 e5 e6
    subst e1 e2 e3 e4 e5 e6
    have hsk : sameF kids kids = true := (sameF_eq kids kids).2 rfl
    have hal : alikeN k sp n ats tx k sp n ats tx = true := by
      unfold alikeN
      simp only [decide_true, Bool.true_and]
      exact decide_eq_true rfl
    rw [hal, hsk]; rfl
  · rw [beq_no (fun x => e (bs_inj x))]
    symm
    rw [Bool.and_eq_false_iff]
    by_cases hk : sameF kids kids' = true
    · left
      have e6 := (sameF_eq kids kids').1 hk
      cases hal : alikeN k sp n ats tx k' sp' n' ats' tx' with
      | false => rfl
      | true =>
        exfalso
        apply e
        unfold alikeN sameA at hal
        simp only [Bool.and_eq_true, decide_eq_true_eq] at hal
        apply h.2
        simp_all
    · right
      simpa using hk
end Go.Proofs.YtbabmkilbbbmoaaDoor

/-
  Keys and labels of a list of nodes, in every world that a map of numbers grows in.
-/
namespace Go.Proofs.YtbabmkilbbbmoaaDoor
open Go.RowKit Go.Maps
set_option linter.unusedVariables false
set_option linter.unusedSimpArgs false

def keyT (f : Forest) (k : Nat) : ByteArray := match f.drop k with
  | .cons kk sp n ats tx kids _ => bs (keyF (.cons kk sp n ats tx kids .nil))
  | .nil => ByteArray.empty
def labT (f : Forest) (k : Nat) : ByteArray := match f.drop k with
  | .cons kk sp n _ _ _ _ => bs (labelB kk sp n)
  | .nil => ByteArray.empty
def ksT (f : Forest) : List ByteArray := (List.range f.len).map (keyT f)
def lsT (f : Forest) : List ByteArray := (List.range f.len).map (labT f)
theorem ksT_len (f : Forest) : (ksT f).length = f.len := by unfold ksT; simp
theorem lsT_len (f : Forest) : (lsT f).length = f.len := by unfold lsT; simp
theorem ksT_tx (f : Forest) (k : Nat) (h : k < f.len) : tx (ksT f) k = keyT f k := by unfold tx ksT; simp [List.getD, h]
theorem lsT_tx (f : Forest) (k : Nat) (h : k < f.len) : tx (lsT f) k = labT f k := by unfold tx lsT; simp [List.getD, h]
theorem grown_le {w W : World} {b : Nat} {D : List (List UInt8)} (h : NumM w b D) (hg : w.grownBy W (some b)) : CellLe w W := fun g o v hc => grown_cell hg hc (h.ne hc)
theorem TabP.grown {w W : World} {b : Nat} {D : List (List UInt8)} (ht : TabP w) (h : NumM w b D) (hg : w.grownBy W (some b)) : TabP W := by
  have h0 : w.var? Tryd.prog "internal/strconv.uint64pow10" = some (Lib.pow10Tab.map fun z => Value.int .u64 z).toArray := ht
  have hc := World.var?_cell gPow h0 0
  have hs : (Lib.pow10Tab.map fun z => Value.int .u64 z).toArray[0]? = some (.int .u64 1) := by kernel_rfl
  rw [hs] at hc
  have hl : 0 < w.heap.size := World.block_lt_of_cell? w _ hc
  have hne := h.ne hc
  have he := hg.block _ hl (fun e => hne (by simpa using e))
  have h1 := h0
  unfold World.var? at h1
  rw [gPow, Option.bind_some] at h1
  show W.var? Tryd.prog "internal/strconv.uint64pow10" = some _
  unfold World.var?
  rw [gPow, Option.bind_some, he]
  exact h1
/-- Nodes' cells, and what they are. -/
theorem nds_of {w : World} {q : Option Addr} {f : Forest} (h : Fo q f w) : ∃ vv : Nat → NdC, NdsV w q f.len vv ∧ ∀ k, k < f.len → ∃ kk sp n ats tx kids, f.drop k = .cons kk sp n ats tx kids (f.drop (k + 1)) ∧ NdV kk sp n ats tx kids (vv k).val w ∧ (vv k).k = kk ∧ (vv k).sp = sp ∧ (vv k).n = n := by
  rcases h with rfl | ⟨g, o, rfl, hl⟩
  · exact ⟨fun _ => ⟨0, 0, ByteArray.empty, none, 0, 0, ByteArray.empty, none, 0, 0⟩, fun h => absurd h (Nat.not_lt_zero _), fun k h => absurd h (Nat.not_lt_zero _)⟩
  · have hex : ∀ k, k < f.len → ∃ y : NdC, (∀ j, j < 6 → w.cell? ⟨g, o + k * 6 + j, none⟩ = y.cs[j]?) ∧ ∃ kk sp n ats tx kids, f.drop k = .cons kk sp n ats tx kids (f.drop (k + 1)) ∧ NdV kk sp n ats tx kids y.val w ∧ y.k = kk ∧ y.sp = sp ∧ y.n = n := by
      intro k hk
      obtain ⟨kk, sp, n, ats, tx, kids, hd⟩ := Forest.drop_cons k f hk
      have h2 := Lies.drop k f o hl
      rw [hd] at h2
      obtain ⟨⟨c0, c1, c2, ⟨qa, ca, c3, hs⟩, c4, qk, ck, c5, hck, hkk⟩, _⟩ := h2
      refine ⟨⟨kk, sp, n, qa, ats.length, ca, tx, qk, kids.len, ck⟩, fun j hj => ?_, kk, sp, n, ats, tx, kids, hd, ⟨qa, ca, qk, ck, rfl, hs, hkk, hck⟩, rfl, rfl, rfl⟩
      rcases j with _ | _ | _ | _ | _ | _ | j
      · exact c0
      · exact c1
      · exact c2
      · exact c3
      · exact c4
      · exact c5
      · omega
    refine ⟨fun k => if h : k < f.len then (hex k h).choose else ⟨0, 0, ByteArray.empty, none, 0, 0, ByteArray.empty, none, 0, 0⟩, fun _ => ⟨g, o, rfl, fun k hk j hj => ?_⟩, fun k hk => ?_⟩
    · simp only [dif_pos hk]
      exact (hex k hk).choose_spec.1 j hj
    · simp only [dif_pos hk]
      exact (hex k hk).choose_spec.2
theorem smF_drop : ∀ (k : Nat) (f : Forest), SmF f → SmF (f.drop k)
  | 0, f, h => by rw [Forest.drop_zero]; exact h
  | k + 1, .nil, h => h
  | k + 1, .cons _ _ _ _ _ _ rest, h => smF_drop k rest h.2.2
theorem rngF_drop : ∀ (k : Nat) (f : Forest), RngF f → RngF (f.drop k)
  | 0, f, h => by rw [Forest.drop_zero]; exact h
  | k + 1, .nil, h => h
  | k + 1, .cons _ _ _ _ _ _ rest, h => rngF_drop k rest h.2
theorem key_at {w : World} {b : Nat} {D : List (List UInt8)} (hm : NumM w b D) (ht : TabP w) {q : Option Addr} {f : Forest} {vv : Nat → NdC} (hs : SmF f) (hr : RngF f)
    (hv : ∀ k, k < f.len → ∃ kk sp n ats tx kids, f.drop k = .cons kk sp n ats tx kids (f.drop (k + 1)) ∧ NdV kk sp n ats tx kids (vv k).val w ∧ (vv k).k = kk ∧ (vv k).sp = sp ∧ (vv k).n = n) (hc : ∀ k kk sp n ats tx kids rest, k < f.len → f.drop k = .cons kk sp n ats tx kids rest → kids.count ≤ 4000) :
    ∀ k, k < (ksT f).length → ∀ W, w.grownBy W (some b) → Calls Tryd.prog 31 #[(vv k).val] W fun e w' => e = .returned (.string (tx (ksT f) k)) ∧ Below W.heap.size W w' := by
  intro k hk W hW
  rw [ksT_len] at hk
  rw [ksT_tx f k hk]
  obtain ⟨kk, sp, n, ats, tx, kids, hd, hn, _, _, _⟩ := hv k hk
  have h1 := smF_drop k f hs
  have h2 := rngF_drop k f hr
  have h3 := hc k _ _ _ _ _ _ _ hk hd
  unfold keyT
  rw [hd] at h1 h2 ⊢
  have hsm : SmF (.cons kk sp n ats tx kids .nil) := ⟨h1.1, h1.2.1, trivial⟩
  have hrn : RngF (.cons kk sp n ats tx kids .nil) := ⟨h2.1, trivial⟩
  have hlen := keyF_lenK _ hrn hsm
  refine key_any kk sp n ats tx kids _ W (hn.le (grown_le hm hW)) hsm (itF_all (ht.grown hm hW) _ hrn hsm) (by omega) (Nat.le_trans hlen ?_)
  have : (Forest.cons kk sp n ats tx kids .nil).count ≤ 4001 := by
    show 1 + kids.count + 0 ≤ 4001
    omega
  calc 21000000 * (Forest.cons kk sp n ats tx kids .nil).count ≤ 21000000 * 4001 := Nat.mul_le_mul_left _ this
    _ ≤ 100000000000 := by decide
theorem lab_at {w : World} {b : Nat} {D : List (List UInt8)} (hm : NumM w b D) (ht : TabP w) {f : Forest} {vv : Nat → NdC} (hs : SmF f) (hr : RngF f)
    (hv : ∀ k, k < f.len → ∃ kk sp n ats tx kids, f.drop k = .cons kk sp n ats tx kids (f.drop (k + 1)) ∧ NdV kk sp n ats tx kids (vv k).val w ∧ (vv k).k = kk ∧ (vv k).sp = sp ∧ (vv k).n = n) :
    ∀ k, k < (lsT f).length → ∀ W, w.grownBy W (some b) → Calls Tryd.prog 32 #[(vv k).val] W fun e w' => e = .returned (.string (tx (lsT f) k)) ∧ Below W.heap.size W w' := by
  intro k hk W hW
  rw [lsT_len] at hk
  rw [lsT_tx f k hk]
  obtain ⟨kk, sp, n, ats, tx, kids, hd, hn, e1, e2, e3⟩ := hv k hk
  have h1 := smF_drop k f hs
  have h2 := rngF_drop k f hr
  unfold labT
  rw [hd] at h1 h2 ⊢
  have ht' := ht.grown hm hW
  have hb := h1.1.2.1
  unfold NdC.val
  rw [e1, e2, e3]
  exact klab_any kk sp n _ _ _ W (itoa_all ht' h2.1.1) (itoa_all ht' h2.1.2.1) (itoa_all ht' (i64_nat (by omega))) (by omega)
end Go.Proofs.YtbabmkilbbbmoaaDoor

/-
  The pairs of two lists, plainly: whole ones, and between them those of alike ones.
-/
namespace Go.Proofs.YtbabmkilbbbmoaaDoor
set_option linter.unusedVariables false
set_option linter.unusedSimpArgs false

/-- The first place from j on, f places far at most. -/
def fdF (q : Nat → Bool) : Nat → Nat → Option Nat
  | 0, _ => none
  | f + 1, j => if q j = true then some j else fdF q f (j + 1)
theorem fdF_none (q : Nat → Bool) : ∀ (f j : Nat), (∀ y, j ≤ y → y < j + f → q y = false) → fdF q f j = none
  | 0, _, _ => rfl
  | f + 1, j, h => by
    rw [fdF, if_neg (by rw [h j (Nat.le_refl _) (by omega)]; decide)]
    exact fdF_none q f (j + 1) (fun y h1 h2 => h y (by omega) (by omega))
theorem fdF_some (q : Nat → Bool) : ∀ (f j x : Nat), j ≤ x → x < j + f → (∀ y, j ≤ y → y < x → q y = false) → q x = true → fdF q f j = some x
  | 0, j, x, h1, h2, _, _ => by omega
  | f + 1, j, x, h1, h2, hn, hx => by
    by_cases e : x = j
    · subst e; rw [fdF, if_pos hx]
    · rw [fdF, if_neg (by rw [hn j (Nat.le_refl _) (by omega)]; decide)]
      exact fdF_some q f (j + 1) x (by omega) (by omega) (fun y a b => hn y (by omega) b) hx
theorem fdF_in (q : Nat → Bool) : ∀ (f j x : Nat), fdF q f j = some x → j ≤ x ∧ x < j + f ∧ q x = true
  | 0, _, _, h => by cases h
  | f + 1, j, x, h => by
    rw [fdF] at h
    split at h
    · rename_i e; cases h; exact ⟨Nat.le_refl _, by omega, e⟩
    · have := fdF_in q f (j + 1) x h; exact ⟨by omega, by omega, this.2.2⟩
/-- The pairs of alike ones of a gap: from place i on, f places, and from j up to j1. -/
def alF (A : Nat → Nat → Bool) (j1 : Nat) : Nat → Nat → Nat → List (Nat × Nat)
  | 0, _, _ => []
  | f + 1, i, j => match fdF (A i) (j1 - j) j with
    | some x => (i, x) :: alF A j1 f (i + 1) (x + 1)
    | none => alF A j1 f (i + 1) j
theorem alF_some {A : Nat → Nat → Bool} {j1 f i j x : Nat} (h : fdF (A i) (j1 - j) j = some x) : alF A j1 (f + 1) i j = (i, x) :: alF A j1 f (i + 1) (x + 1) := by rw [alF, h]
theorem alF_none {A : Nat → Nat → Bool} {j1 f i j : Nat} (h : fdF (A i) (j1 - j) j = none) : alF A j1 (f + 1) i j = alF A j1 f (i + 1) j := by rw [alF, h]
theorem alF_len (A : Nat → Nat → Bool) (j1 : Nat) : ∀ (f i j : Nat), (alF A j1 f i j).length ≤ f
  | 0, _, _ => Nat.le_refl _
  | f + 1, i, j => by
    rw [alF]
    cases fdF (A i) (j1 - j) j with
    | some x => have := alF_len A j1 f (i + 1) (x + 1); simp only [List.length_cons]; omega
    | none => have := alF_len A j1 f (i + 1) j; show (alF A j1 f (i + 1) j).length ≤ _; omega
def whB (b : Bool) (L : List (Nat × Nat)) : List (Int × Int × Bool) := L.map (fun p => ((p.1 : Int), (p.2 : Int), b))
/-- What match makes of whole pairs. -/
def mtF (A : Nat → Nat → Bool) (n m : Nat) : Nat → Nat → List (Nat × Nat) → List (Int × Int × Bool)
  | i, j, [] => whB false (alF A m (n - i) i j)
  | i, j, p :: r => whB false (alF A p.2 (p.1 - i) i j) ++ ((p.1 : Int), (p.2 : Int), true) :: mtF A n m (p.1 + 1) (p.2 + 1) r
/-- The like, place by place (the document's answer): P are the whole pairs from here on. -/
def rlF (A : Nat → Nat → Bool) (m : Nat) : Nat → Nat → Nat → List (Nat × Nat) → List (Int × Int × Bool)
  | 0, _, _, _ => []
  | f + 1, i, j, [] => (match fdF (A i) (m - j) j with
    | some x => ((i : Int), (x : Int), false) :: rlF A m f (i + 1) (x + 1) []
    | none => rlF A m f (i + 1) j [])
  | f + 1, i, j, p :: r => if p.1 = i then ((i : Int), (p.2 : Int), true) :: rlF A m f (i + 1) (p.2 + 1) r else (match fdF (A i) (p.2 - j) j with
    | some x => ((i : Int), (x : Int), false) :: rlF A m f (i + 1) (x + 1) (p :: r)
    | none => rlF A m f (i + 1) j (p :: r))
theorem rlF_end (A : Nat → Nat → Bool) (m : Nat) : ∀ (f i j : Nat), rlF A m f i j [] = whB false (alF A m f i j)
  | 0, _, _ => rfl
  | f + 1, i, j => by
    rw [rlF, alF]
    cases fdF (A i) (m - j) j with
    | some x => simp only [whB, List.map_cons]; rw [rlF_end A m f (i + 1) (x + 1)]; rfl
    | none => exact rlF_end A m f (i + 1) j
theorem rlF_gap (A : Nat → Nat → Bool) (m : Nat) (p : Nat × Nat) (r : List (Nat × Nat)) : ∀ (d f i j : Nat), p.1 - i = d → i ≤ p.1 → d < f → rlF A m f i j (p :: r) = whB false (alF A p.2 d i j) ++ ((p.1 : Int), (p.2 : Int), true) :: rlF A m (f - d - 1) (p.1 + 1) (p.2 + 1) r
  | 0, f, i, j, h, hi, hf => by
    obtain ⟨g, rfl⟩ : ∃ g, f = g + 1 := ⟨f - 1, by omega⟩
    have e : p.1 = i := by omega
    rw [rlF, if_pos e, ← e]
    rfl
  | d + 1, f, i, j, h, hi, hf => by
    obtain ⟨g, rfl⟩ : ∃ g, f = g + 1 := ⟨f - 1, by omega⟩
    rw [rlF, if_neg (by omega), alF]
    cases fdF (A i) (p.2 - j) j with
    | some x =>
      simp only [whB, List.map_cons, List.cons_append]
      rw [rlF_gap A m p r d g (i + 1) (x + 1) (by omega) (by omega) (by omega), show g + 1 - (d + 1) - 1 = g - d - 1 by omega]
      rfl
    | none =>
      show rlF A m g (i + 1) j (p :: r) = whB false (alF A p.2 d (i + 1) j) ++ _
      rw [rlF_gap A m p r d g (i + 1) j (by omega) (by omega) (by omega), show g + 1 - (d + 1) - 1 = g - d - 1 by omega]
theorem mt_rl (A : Nat → Nat → Bool) (n m : Nat) : ∀ (P : List (Nat × Nat)) (i j : Nat), i ≤ n → RiseFrom (fun _ _ => true) n m i j P → mtF A n m i j P = rlF A m (n - i) i j P
  | [], i, j, _, _ => (rlF_end A m (n - i) i j).symm
  | p :: r, i, j, hi, h => by
    obtain ⟨h1, h2, h3, h4, _, h6⟩ := h
    rw [mtF, rlF_gap A m p r (p.1 - i) (n - i) i j rfl h1 (by omega), mt_rl A n m r (p.1 + 1) (p.2 + 1) h3 h6, show n - i - (p.1 - i) - 1 = n - (p.1 + 1) by omega]
end Go.Proofs.YtbabmkilbbbmoaaDoor
