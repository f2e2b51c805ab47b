/-
  Several texts in one: what the functions of the program and of the document's answer do.
-/
import Derived.Test.YtemccomnhjhjeaaDoorMgBH
import Derived.Test.YtemccomnhjhjeaaDoorSh
import Derived.Lib.RowBridge
import Derived.Test.YtemccomnhjhjeaaDoorKKy
import Derived.Test.YtemccomnhjhjeaaDoorIAt
import Derived.Test.YtemccomnhjhjeaaDoorMgBI

/-
  What keys.Way does.
-/
namespace Go.Proofs.YtemccomnhjhjeaaDoor
open Go.RowKit Go.Maps
set_option linter.unusedVariables false
set_option linter.unusedSimpArgs false

theorem below_cellsI {B b : Nat} {a : World} (hb : B ≤ b) : ∀ (vs : List Value) (o : Nat) (w : World), Below B a w → Below B a (w.setCells b o vs)
  | [], o, w, h => h
  | v :: r, o, w, h => below_cellsI hb r (o + 1) _ (h.setCell (p := ⟨b, o, none⟩) hb v)
/-- Numbers turned about in their own row. -/
theorem rev_any (B : Nat) (v : Value) (n : Nat) (zs : List Int) (w : World) (h : w.ownsRow B 3 1 v n (zs.map (Value.int .i64))) (hn : n ≤ 1000000) :
    ∃ q c, v = .slice q n c ∧ n ≤ c ∧ n = zs.length ∧ Calls Tryd.prog 29 #[.slice q n c] w fun e w' => e = .returned (.tuple #[]) ∧ IntsV q n zs.reverse w' ∧ Below B w w' := by
  obtain ⟨hl, h⟩ := h
  have hnz : n = zs.length := by simpa using hl.symm
  rcases h with ⟨rfl, h⟩ | ⟨g, cap, cur, rfl, h1, h2, h3, h4, h5, h6⟩
  · refine ⟨none, 0, by rw [h], by omega, hnz, ?_⟩
    have hz : zs = [] := List.eq_nil_of_length_eq_zero (by omega)
    subst hz
    subst h
    refine (Tryd.slices_Reverse_int_empty none 0 w).mono ?_
    rintro e w' ⟨rfl, rfl⟩
    exact ⟨rfl, IntsV.nil _ _, Below.refl _ _⟩
  · refine ⟨_, cap, rfl, h3, hnz, ?_⟩
    have hc : ∀ j, j < zs.length → w.cell? ⟨g, 0 + j, none⟩ = some (.int .i64 (zs.getD j 0)) := fun j hj => by
      rw [Nat.zero_add, Joins.cell_of_block h2]
      have := congrArg (fun l => l[j]?) h6
      simp only [Nat.mul_one] at this
      rw [List.getElem?_take, if_pos (by omega), List.getElem?_map, List.getElem?_eq_getElem hj] at this
      simpa [List.getD, hj] using this
    have hf : ∀ j, j < n → w.frozen? ⟨g, 0 + j, none⟩ = false := fun j _ => by simp [World.frozen?, h2]
    have hH := Lib.holds_of_ints (n := n) (by omega) hc hf
    have ht : zs.take n = zs := List.take_of_length_le (by omega)
    rw [ht] at hH
    have hcall := Tryd.slices_Reverse_int g 0 cap zs w hH (by omega)
    rw [← hnz] at hcall
    refine hcall.mono ?_
    rintro e w' ⟨rfl, qd, rfl⟩
    have hr : (zs.reverse).length = n := by rw [List.length_reverse]; exact hnz.symm
    rw [Lib.putRow_eq_setCells _ w g 0 _ _ qd hH (by simp)]
    refine ⟨rfl, ⟨hr.symm, fun _ => ⟨g, 0, rfl, fun j hj => ?_⟩⟩, below_cellsI h1 _ _ _ (_root_.Go.below_drewN (Below.refl _ _) _)⟩
    have := Lib.cells_after_ints (W := w) (b := g) (off := 0) (n := n) (q := qd) (zs := zs) (ys := zs.reverse) (by omega) hr hc j (by simp; omega)
    rw [this]
    simp [List.getD, hnz]

set_option maxHeartbeats 4000000 in
set_option maxRecDepth 100000 in
theorem way_any (f : Forest) (q : Option Addr) (cap : Nat) (num : Int) (w : World) (hf : Fo q f w) (hcap : f.len ≤ cap) (hc : f.count ≤ 500000) :
    Calls Tryd.prog 15 #[.slice q f.len cap, .int .i64 num] w fun e w' => ∃ q' n' c', n' ≤ c' ∧ e = .returned (.tuple #[.slice q' n' c', .int .i64 (if num < 0 ∨ (f.count : Int) ≤ num then 6 else 0)]) ∧ IntsV q' n' (wayF f 0 num) w' ∧ Below w.heap.size w w' := by
  obtain ⟨i0, hi0, hi1, hi2, hi3⟩ := infoInt
  have CI := hide (items_any f q cap w hf hcap hc)
  obtain ⟨E, hE⟩ : ∃ E : Int, (if num < 0 ∨ (f.count : Int) ≤ num then 6 else 0 : Int) = E := ⟨_, rfl⟩
  obtain ⟨WF, hWF⟩ : ∃ WF, wayF f 0 num = WF := ⟨_, rfl⟩
  rw [hE, hWF]
  obtain ⟨N, hN⟩ : ∃ N, f.count = N := ⟨_, rfl⟩
  rw [hN] at CI hE hc
  have HE := hide hE
  have HWF := hide hWF
  have HN := hide hN
  clear hf hE hWF hN
  go_enter Tryd.func15, Tryd.ntmps15
  go_wp2_with fail
  refine (unhide CI).mono ?_
  rintro e w1 ⟨qi, ci, rfl, ⟨hin, hic, his⟩, hb1⟩
  have HIS := hide his
  have HB := hide hb1
  clear CI his hb1 hin
  by_cases h1 : num < 0
  · have HD : Hid (E = 6 ∧ WF = []) := hide ⟨by rw [← unhide HE, if_pos (Or.inl h1)], by rw [← unhide HWF]; exact wayF_out f 0 num (Or.inl h1)⟩
    have h1' : (decide (num < 0)) = true := decide_eq_true h1
    go_wp2
    go_ret2
    exact ⟨none, 0, 0, Nat.le_refl _, by rw [(unhide HD).1]; rfl, by rw [(unhide HD).2]; exact IntsV.nil _ _, unhide HB⟩
  by_cases h2 : (N : Int) ≤ num
  · have HD : Hid (E = 6 ∧ WF = []) := hide ⟨by rw [← unhide HE, if_pos (Or.inr h2)], by rw [← unhide HWF]; exact wayF_out f 0 num (Or.inr (by rw [unhide HN]; exact h2))⟩
    have h3 : ¬ num < (N : Int) := by omega
    go_wp2
    go_ret2
    exact ⟨none, 0, 0, Nat.le_refl _, by rw [(unhide HD).1]; rfl, by rw [(unhide HD).2]; exact IntsV.nil _ _, unhide HB⟩
  obtain ⟨nn, rfl⟩ : ∃ nn : Nat, num = (nn : Int) := ⟨num.toNat, by omega⟩
  have HD : Hid (E = 0) := hide (by rw [← unhide HE, if_neg (by omega)])
  have hnN : nn < N := by omega
  have hup := up_top f nn (by rw [unhide HN]; exact hnN)
  rw [unhide HWF] at hup
  have hwl : WF.length ≤ N := by rw [← unhide HWF, ← unhide HN]; exact wayF_len f 0 _
  obtain ⟨g, rfl, hz⟩ : ∃ g, qi = some ⟨g, 0, none⟩ ∧ ItZ (itm f 0 (-1) 0 0) (szA f) g w1 := by
    rcases unhide HIS with h | h
    · have := unhide HN; rw [h] at this; simp [Forest.count] at this; omega
    · exact h
  have HZ := hide hz
  have HUP := hide hup
  have h0' : (0 : Int) ≤ (nn : Int) := by omega
  have h2' : (nn : Int) < (N : Int) := by omega
  have hd1 : decide (N ≤ nn) = false := decide_eq_false (by omega)
  have hd2 : decide ((nn : Int) < 0) = false := decide_eq_false (by omega)
  clear hz hup HIS h1 h2
  go_wp2
  go_loopg [7, 8] WF.length (fun gk u a wr => ∃ (at' : Int) (acc l : List Int), a = .int .i64 at' ∧ l.length = gk ∧ Up (itm f 0 (-1) 0 0) at' l ∧ acc ++ l = WF.reverse ∧ wr.ownsRow w1.heap.size 3 1 u acc.length (acc.map (Value.int .i64)) ∧ Below w1.heap.size w1 wr)
  case atStart => exact ⟨(nn : Int), [], WF.reverse, rfl, by simp, unhide HUP, rfl, World.ownsRow_nil _ _ _ _, Below.refl _ _⟩
  case round =>
    clear HUP
    obtain ⟨at', acc, l, rfl, hgk, hup, hal, hrow, hbw⟩ := hrel
    have hlen : acc.length + l.length = WF.length := by have := congrArg List.length hal; simpa using this
    cases hup with
    | top p hp =>
      rw [List.append_nil] at hal
      obtain ⟨q2, c2, hv, hnc, hnl, hcall⟩ := rev_any w1.heap.size _ acc.length acc wr hrow (by simp at hlen; omega)
      subst hv
      have CR := hide hcall
      have HBW := hide hbw
      have HAL := hide hal
      clear hcall hbw hal hrow hlen hgk
      go_wp2_with fail
      refine (unhide CR).mono ?_
      rintro e w2 ⟨rfl, hi, hb2⟩
      have HI := hide hi
      have HB2 := hide hb2
      clear hi hb2 CR
      go_wp2
      go_ret2
      refine ⟨q2, acc.length, c2, hnc, by rw [unhide HD]; rfl, ?_, tr2 (unhide HB) ((unhide HBW).trans (unhide HB2))⟩
      have e : acc.reverse = WF := by rw [unhide HAL, List.reverse_reverse]
      rw [← e]; exact unhide HI
    | nd i x l' hx hu =>
      have hiN : i < N := by have := (List.getElem?_eq_some_iff.1 hx).1; rw [itm_len, unhide HN] at this; exact this
      obtain ⟨-, b1, b2, -, -⟩ := (unhide HZ).2 i x hx
      have b1' := cell_later hbw b1
      have b2' := cell_later hbw b2
      obtain ⟨ra, rn, rc, hv⟩ := slice_of hrow
      subst hv
      have hiI : (0 : Int) ≤ (i : Int) := by omega
      have hiNi : (i : Int) < (N : Int) := by omega
      have HR := hide hrow
      have HBW := hide hbw
      have hsz := hbw.size
      have HX := hide (And.intro hal hu)
      have HB1 := hide b1
      obtain ⟨x0, x1, x2, x3⟩ := x
      have hal2 : acc.length ≤ 500000 := by omega
      simp at hgk
      clear hrow hbw hal hu hx b1 b2 hlen
      dsimp only at b1' b2' HX HB1
      go_wp2_with (at_builtin; refine wpList_append_own_at _ rfl _ _ 30 rfl w1.heap.size 3 i0 (.int .i64 0) 1 8 Tryd.underlying30 hi0 hi1 hi2 hi3 rfl (by decide) (.slice ra rn rc) _ _ rfl ((unhide HR).alloc _) ⟨wr.heap.size, 0, none⟩ 1 1 [.int .i64 x2] rfl rfl ?c1 ?c2 ?c3 ?c4 ?c5 ?_)
      case c1 => exact fun j u hj => lit1i hj
      case c2 => simp [Value.oneCell']
      case c3 => simp only [maxLen]; omega
      case c4 => omega
      case c5 => simp; omega
      intro u' w3 hown hgr _ _
      have HO := hide hown
      have hza : w1.heap.size ≤ (wr.alloc (Obj.cells #[.int .i64 x2] 3)).heap.size := by simp; omega
      have HG := hide (((unhide HBW).alloc (by omega) (Obj.cells #[.int .i64 x2] 3)).grown hgr hza (fun j hj => ((unhide HR).lt j hj).1))
      have k1 := cell_later (unhide HG) (unhide HB1)
      obtain ⟨yq, yn, yc, hyv⟩ := slice_of hown
      subst hyv
      clear hown hgr
      go_wp2
      go_roundg l'.length
      case measure => omega
      case rel => exact ⟨x1, acc ++ [x2], l', rfl, rfl, (unhide HX).2, by rw [List.append_assoc]; exact (unhide HX).1, by rw [List.length_append, List.map_append]; exact unhide HO, unhide HG⟩
end Go.Proofs.YtemccomnhjhjeaaDoor

/-
  The small case of the laws on keys: three nodes.
-/
namespace Go.Proofs.YtemccomnhjhjeaaDoor
open Go.RowKit Go.Maps
set_option linter.unusedVariables false
set_option linter.unusedSimpArgs false

theorem itoa_small (w0 : World) (i : Nat) (hi : i < 100) : ItoaAt w0 (i : Int) := by
  have he : itoB (i : Int) = Lib.decDigits i := Lib.itoa_nonneg i
  have hl : (Lib.decDigits i).length ≤ 2 := by
    unfold Lib.decDigits
    by_cases h : i < 10
    · rw [dif_pos h]; simp
    · rw [dif_neg h]
      unfold Lib.decDigits
      rw [dif_pos (by omega)]; simp
  refine ⟨by rw [he]; omega, fun W _ => ?_⟩
  refine (Tryd.strconv_Itoa_small i hi W).mono ?_
  rintro e w' ⟨rfl, rfl⟩
  exact ⟨by rw [he]; rfl, Below.refl _ _⟩
def nI : Forest := .cons 1 0 ⟨#[105]⟩ [] ⟨#[]⟩ .nil .nil
def nB : Forest := .cons 1 0 ⟨#[98]⟩ [] ⟨#[]⟩ .nil .nil
def T3 : Forest := .cons 1 0 ⟨#[112]⟩ [] ⟨#[]⟩ nB nI
theorem small_nd (k sp : Int) (n : ByteArray) (kids rest : Forest) (hn : n.size ≤ 10) (hk : SmF kids) (hr : SmF rest) (hc : kids.count ≤ 1000) : SmF (.cons k sp n [] ⟨#[]⟩ kids rest) :=
  ⟨⟨Nat.zero_le _, by omega, fits_nil, by omega⟩, hk, hr⟩
theorem smT3 : SmF T3 := small_nd _ _ _ _ _ (by decide) (small_nd _ _ _ _ _ (by decide) trivial trivial (by decide)) (small_nd _ _ _ _ _ (by decide) trivial trivial (by decide)) (by decide)
theorem itI (w0 : World) : ItF w0 nI := ⟨⟨itoa_small w0 1 (by decide), itoa_small w0 0 (by decide), itoa_small w0 1 (by decide), itoa_small w0 0 (by decide), itoa_small w0 0 (by decide), itoa_small w0 0 (by decide), fun j hj => absurd hj (Nat.not_lt_zero j)⟩, trivial, trivial⟩
theorem keyI_len (w0 : World) : (keyF nI).length ≤ 100000000000 := by
  have n0 := numB_len w0 0 (itoa_small w0 0 (by decide))
  have n1 := numB_len w0 1 (itoa_small w0 1 (by decide))
  have t1 := textB_len w0 ⟨#[105]⟩ (itoa_small w0 1 (by decide))
  have t0 := textB_len w0 ⟨#[]⟩ (itoa_small w0 0 (by decide))
  have z1 : (⟨#[105]⟩ : ByteArray).size = 1 := rfl
  have z0 : (⟨#[]⟩ : ByteArray).size = 0 := rfl
  have e1 : (([] : List (ByteArray × ByteArray)).length : Int) = 0 := rfl
  have e2 : ((Forest.nil.len : Nat) : Int) = 0 := rfl
  simp only [nI, keyF, nodeB, labelB, atsB, List.length_append, List.length_nil, e1, e2]
  have e3 : (((0 : Nat)) : Int) = 0 := rfl
  rw [e3]
  omega
end Go.Proofs.YtemccomnhjhjeaaDoor
