/-
  What 'rectoref01.TakeList' does: of every text the list with which it begins, and what is behind, as the plain function says it.
-/
import Derived.Test.YtekkgmgdihlefaaRl
namespace Go.Proofs.Ytekkgmgdihlefaa
open Go.RowKit
set_option linter.unusedVariables false

/-- What the reference's TakeList leaves, by what the plain function says. -/
def RListPost (w : World) (o : Option (List ByteArray × List UInt8)) (e : Ending) (w' : World) : Prop :=
  match o with
  | none => e = .returned (takenV 0 ⟨#[]⟩ ⟨#[]⟩ 4) ∧ Below w.heap.size w w'
  | some (ts, r) => ∃ v, e = .returned (.agg #[.int .i64 0, .string ⟨#[]⟩, v, .string (bs r), .int .i64 0]) ∧ w'.ownsRow w.heap.size 9 1 v ts.length (ts.map Value.string) ∧ Below w.heap.size w w'

theorem rlist_none (s : ByteArray) (w : World)
    (hcall : Hid (∀ w, Calls Try.prog 30 #[.string s, .int .i64 0] w fun e w' => e = .returned (.agg #[.int .i64 0, .int .i64 (-1)]) ∧ Below w.heap.size w w')) :
    Calls Try.prog 22 #[.string s] w fun e w' => e = .returned (takenV 0 ⟨#[]⟩ ⟨#[]⟩ 4) ∧ Below w.heap.size w w' := by
  go_enter Try.func22, Try.ntmps22
  go_wp2_with fail
  refine (unhide hcall _).mono ?_
  rintro e w1 ⟨rfl, hb1⟩
  have hz : w.heap.size < w1.heap.size := by have := hb1.size; simp at this; omega
  obtain ⟨hc, hf⟩ := bcell hb1
  go_wp2
  exact bodyPost_ret (v := .agg #[.int .i64 0, .string ⟨#[]⟩, .slice none 0 0, .string ⟨#[]⟩, .int .i64 4]) (by simp [results, Try.results22, go_sem, hc, hz]) rfl
    ⟨rfl, ((((((bel_of hb1).setCell (by simp) _).setCell (by simp) _).setCell (by simp) _).setCell (by simp) _).setCell (by simp) _).alloc (by simp; omega) _⟩

theorem rlist_long (s : ByteArray) (w : World) (v : Int) (k : Nat) (h1 : 1000 < v)
    (hcall : Hid (∀ w, Calls Try.prog 30 #[.string s, .int .i64 0] w fun e w' => e = .returned (.agg #[.int .i64 v, .int .i64 k]) ∧ Below w.heap.size w w')) :
    Calls Try.prog 22 #[.string s] w fun e w' => e = .returned (takenV 0 ⟨#[]⟩ ⟨#[]⟩ 4) ∧ Below w.heap.size w w' := by
  have hk1 : (0 : Int) ≤ (k : Int) := by omega
  go_enter Try.func22, Try.ntmps22
  go_wp2_with fail
  refine (unhide hcall _).mono ?_
  rintro e w1 ⟨rfl, hb1⟩
  have hz : w.heap.size < w1.heap.size := by have := hb1.size; simp at this; omega
  obtain ⟨hc, hf⟩ := bcell hb1
  go_wp2
  exact bodyPost_ret (v := .agg #[.int .i64 0, .string ⟨#[]⟩, .slice none 0 0, .string ⟨#[]⟩, .int .i64 4]) (by simp [results, Try.results22, go_sem, hc, hz]) rfl
    ⟨rfl, ((((((bel_of hb1).setCell (by simp) _).setCell (by simp) _).setCell (by simp) _).setCell (by simp) _).setCell (by simp) _).alloc (by simp; omega) _⟩

theorem rstart {w w1 : World} {c k0 : Nat} {r : List UInt8} (hb1 : Below (w.alloc (.cells ref0 38)).heap.size (w.alloc (.cells ref0 38)) w1) (hz : w.heap.size < w1.heap.size) :
    RInv w w1.heap.size c k0 [] r (.slice none 0 0) ((w1.alloc (.cells #[.int .i64 c, .int .i64 k0] 54)).alloc (.cells #[.int .i64 0, .string ⟨#[]⟩, .slice none 0 0, .string (bs r), .int .i64 0] 38)) := by
  refine ⟨?_, ?_, ?_, World.ownsRow_nil _ _ _ _, ?_, ?_, hz⟩
  · rw [Below.heap_alloc _ _ _ (by simp; omega), Below.heap_alloc _ _ _ (by omega), hb1.block _ (by simp)]; exact heap_alloc_new _ _
  · rw [Below.heap_alloc _ _ _ (by simp)]; exact heap_alloc_new _ _
  · have := heap_alloc_new (w1.alloc (.cells #[.int .i64 c, .int .i64 k0] 54)) (.cells #[.int .i64 0, .string ⟨#[]⟩, .slice none 0 0, .string (bs r), .int .i64 0] 38)
    rw [World.size_alloc] at this
    exact this
  · exact ((bel_of hb1).alloc (by omega) _).alloc (by simp; omega) _
  · simp

set_option maxHeartbeats 1000000 in
theorem rlist_loop (s : ByteArray) (c k0 : Nat) (o : Option (List ByteArray × List UInt8)) (w : World) (hs : s.size ≤ 9223372036854775807) (hc : c ≤ 1000) (hk0 : k0 ≤ s.size)
    (hcall : Hid (∀ w, Calls Try.prog 30 #[.string s, .int .i64 0] w fun e w' => e = .returned (.agg #[.int .i64 c, .int .i64 k0]) ∧ Below w.heap.size w w'))
    (ho : Hid (o = takeTs c (s.data.toList.drop k0))) :
    Calls Try.prog 22 #[.string s] w fun e w' => RListPost w o e w' := by
  obtain ⟨i0, hi, hz0, hz1, hz2⟩ := info_parts Try.info9
  have hci : (c : Int) ≤ 1000 := by omega
  have hk1 : (0 : Int) ≤ (k0 : Int) := by omega
  have hk2 : (k0 : Int) ≤ (s.size : Int) := by omega
  have hx : s.extract k0 s.size = bs (s.data.toList.drop k0) := Lib.Pa.extract_from s k0
  go_enter Try.func22, Try.ntmps22
  go_wp2_with fail
  refine (unhide hcall _).mono ?_
  rintro e w1 ⟨rfl, hb1⟩
  have hz : w.heap.size < w1.heap.size := by have := hb1.size; simp at this; omega
  go_wp2
  have HX := hide hx
  clear hx
  go_loopw [5, 6] (fun i t wr => ∃ (k : Nat) (ts : List ByteArray) (r : List UInt8) (v : Value), k ≤ c ∧ i = .int .i64 k ∧ ts.length = k ∧ r.length ≤ 9223372036854775807 ∧
      o = ahead ts (takeTs (c - k) r) ∧ RInv w w1.heap.size c k0 ts r v wr) (fun i _ _ => c - (intOf i).toNat)
  case atStart => exact ⟨0, [], s.data.toList.drop k0, .slice none 0 0, Nat.zero_le _, rfl, rfl, by simp; omega, by rw [ahead_nil]; exact unhide ho, rstart hb1 hz⟩
  case round =>
    obtain ⟨k, ts, r, v, hk, rfl, hts, hr, hor, hI⟩ := hrel
    obtain ⟨va, vn, vc, hvs⟩ := slice_of hI.2.2.2.1
    subst hvs
    have HT := hide hts
    have HO := hide hor
    clear hts hor
    have HI := hide hI
    obtain ⟨b1, b2, b3, hown, hbw, hsz, _⟩ := hI
    have HW := hide hbw
    have cG := Joins.cell_of_block b2 0
    have cO0 := Joins.cell_of_block b3 0
    have cO1 := Joins.cell_of_block b3 1
    have cO2 := Joins.cell_of_block b3 2
    have cO3 := Joins.cell_of_block b3 3
    have cO4 := Joins.cell_of_block b3 4
    have fO := Joins.unfrozen_of_block b3
    have cB := Joins.cell_of_block b1
    have fB := Joins.unfrozen_of_block b1
    simp at cG cO0 cO1 cO2 cO3 cO4
    have B1 := hide b1
    have B2 := hide b2
    have B3 := hide b3
    clear b1 b2 b3 hbw
    by_cases hlt : k < c
    · have hlti : (k : Int) < (c : Int) := by omega
      have hcm : c - k = (c - k - 1) + 1 := by omega
      have hta := fun w => rtext_any (bs r) w (by rw [bs_size]; exact hr)
      rw [bs_toList] at hta
      cases ht : takeT r with
      | none =>
        have he : o = none := by rw [unhide HO, hcm]; exact ahead_none ts _ r ht
        have C : Hid (∀ w, Calls Try.prog 20 #[.string (bs r)] w fun e w' => e = .returned (.agg #[.int .i64 0, .string ⟨#[]⟩, .slice none 0 0, .string ⟨#[]⟩, .int .i64 4]) ∧ Below w.heap.size w w') :=
          hide (by simpa only [rtextV, ht, takenV] using hta)
        have HE := hide he
        clear he hta ht hcm
        go_wp2_with fail
        refine (unhide C _).mono ?_
        rintro e w2 ⟨rfl, hb2⟩
        have c0 := fun o => (hb2.cell (p := ⟨w.heap.size, o, none⟩) (by show w.heap.size < wr.heap.size; omega)).trans (cB o)
        have f0 := fun o => (hb2.frozen (p := ⟨w.heap.size, o, none⟩) (by show w.heap.size < wr.heap.size; omega)).trans (fB o)
        have hz2' : w.heap.size < w2.heap.size := by have := hb2.size; omega
        simp only [ref0] at c0
        go_wp2
        rw [unhide HE]
        refine bodyPost_ret (v := .agg #[.int .i64 0, .string ⟨#[]⟩, .slice none 0 0, .string ⟨#[]⟩, .int .i64 4]) (by simp [results, Try.results22, go_sem, c0, hz2']) rfl ⟨rfl, ?_⟩
        have hbw := unhide HW
        exact ((((((hbw.trans (hb2.mono hbw.size)).setCell (by simp) _).setCell (by simp) _).setCell (by simp) _).setCell (by simp) _).setCell (by simp) _).alloc (by simp; omega) _
      | some x =>
        obtain ⟨p, m⟩ := x
        have hb := takeT_some ht
        have he : o = ahead (ts ++ [bs ((r.drop p).take m)]) (takeTs (c - k - 1) ((r.drop p).drop m)) := by rw [unhide HO, hcm]; exact ahead_step ts _ r p m ht
        have C : Hid (∀ w, Calls Try.prog 20 #[.string (bs r)] w fun e w' => e = .returned (.agg #[.int .i64 0, .string (bs ((r.drop p).take m)), .slice none 0 0, .string (bs ((r.drop p).drop m)), .int .i64 0]) ∧ Below w.heap.size w w') :=
          hide (by simpa only [rtextV, ht, takenV] using hta)
        have HE := hide he
        have hr2 : ((r.drop p).drop m).length ≤ 9223372036854775807 := by simp; omega
        have HR2 := hide hr2
        obtain ⟨x1, hx1⟩ : ∃ x1, x1 = bs ((r.drop p).take m) := ⟨_, rfl⟩
        obtain ⟨x2, hx2⟩ : ∃ x2, x2 = (r.drop p).drop m := ⟨_, rfl⟩
        rw [← hx1, ← hx2] at C HE
        rw [← hx2] at HR2
        clear he hta ht hcm hr2 hx1 hx2 hb
        go_wp2_with fail
        refine (unhide C _).mono ?_
        rintro e w2 ⟨rfl, hb2⟩
        have hown1 := ownsRow_below hown hb2
        have hz2' : w.heap.size < w2.heap.size := by have := hb2.size; omega
        have hz3' : w1.heap.size + 1 < w2.heap.size := by have := hb2.size; omega
        have d0 := (hb2.cell (p := ⟨w1.heap.size, 0, none⟩) (by show w1.heap.size < wr.heap.size; omega)).trans cG
        have d2 := (hb2.cell (p := ⟨w1.heap.size + 1, 2, none⟩) (by show w1.heap.size + 1 < wr.heap.size; omega)).trans cO2
        have d3 := (hb2.cell (p := ⟨w1.heap.size + 1, 3, none⟩) (by show w1.heap.size + 1 < wr.heap.size; omega)).trans cO3
        have f2 := fun o => (hb2.frozen (p := ⟨w1.heap.size + 1, o, none⟩) (by show w1.heap.size + 1 < wr.heap.size; omega)).trans (fO o)
        go_wp2_with (at_builtin; refine wpList_append_own _ rfl _ _ 22 rfl (w1.heap.size + 2) 9 i0 (.string ⟨#[]⟩) 1 16 Try.underlying22 hi hz0 hz1 hz2 rfl (by decide) _ _ _ rfl ((hown1.alloc _).alloc _) ⟨w2.heap.size + 1, 0, none⟩ 1 1 [.string x1] rfl rfl ?c1 ?c2 ?c3 ?c4 ?c5 ?_)
        case c1 =>
          intro j u hj
          match j, hj with
          | 0, hj =>
            simp at hj; subst hj
            simp [Addr.add]
        case c2 => intro u hu; simp at hu; subst hu; rfl
        case c3 => have := unhide HT; unfold maxLen; omega
        case c4 => have := unhide HT; omega
        case c5 => simp; omega
        intro v' w3 hown' hgrow _
        obtain ⟨g2, g3, gf, gt⟩ := rfacts (unhide HI) hb2 hgrow
        have g4 := gt 3
        simp at g4
        have R := fun (y : List UInt8) => rstep (x2 := y) (unhide HI) hb2 hown' hgrow
        have HR := hide R
        obtain ⟨va', vn', vc', hvs'⟩ := slice_of hown'
        subst hvs'
        clear gt hgrow hown1 d0 d2 d3 f2 hown' R
        go_wp2
        go_roundw
        case rel => exact ⟨k + 1, ts ++ [x1], x2, _, by omega, by go_num, by simp [unhide HT], unhide HR2, by rw [unhide HE]; congr 2, unhide HR x2⟩
        case measure => simp [intOf]; omega
    · have hkc : k = c := by omega
      have he : o = some (ts, r) := by rw [unhide HO, hkc, Nat.sub_self]; simp [takeTs, ahead]
      have HE := hide he
      clear he hkc
      simp only [ref0] at cB
      have hz4 : w.heap.size < wr.heap.size := by omega
      go_wp2
      rw [unhide HE]
      refine bodyPost_ret (v := .agg #[.int .i64 0, .string ⟨#[]⟩, .slice va vn vc, .string (bs r), .int .i64 0]) (by simp [results, Try.results22, go_sem, cB]) rfl ⟨_, rfl, ?_, ?_⟩
      · refine Joins.ownsRow_le ?_ (show w.heap.size ≤ w1.heap.size + 2 by omega)
        exact ownsRow_setCell_below (ownsRow_setCell_below (ownsRow_setCell_below (ownsRow_setCell_below (ownsRow_setCell_below hown (by show w.heap.size < _; omega) _) (by show w.heap.size < _; omega) _) (by show w.heap.size < _; omega) _) (by show w.heap.size < _; omega) _) (by show w.heap.size < _; omega) _
      · exact ((((((unhide HW).setCell (by simp) _).setCell (by simp) _).setCell (by simp) _).setCell (by simp) _).setCell (by simp) _)

theorem rlist_any (s : ByteArray) (w : World) (hs : s.size ≤ 9223372036854775807) :
    Calls Try.prog 22 #[.string s] w fun e w' => RListPost w (takeL s.data.toList) e w' := by
  have hc := fun w => rnum_any s w hs
  have hl : s.data.toList.length = s.size := by simp
  cases ht : takeN s.data.toList with
  | none =>
    have e1 : takeL s.data.toList = none := by simp only [takeL, ht]
    rw [e1]
    exact rlist_none s w (hide (by simpa only [gotOf, ht, gotV] using hc))
  | some x =>
    obtain ⟨v, k⟩ := x
    have hb := takeN_some ht
    obtain ⟨n, rfl⟩ := Int.eq_ofNat_of_zero_le hb.1
    have hc2 : ∀ w, Calls Try.prog 30 #[.string s, .int .i64 0] w fun e w' => e = .returned (.agg #[.int .i64 n, .int .i64 k]) ∧ Below w.heap.size w w' := by
      simpa only [gotOf, ht, gotV] using hc
    by_cases h1 : (1000 : Int) < (n : Int)
    · have e1 : takeL s.data.toList = none := by simp only [takeL, ht, h1, if_true]
      rw [e1]
      exact rlist_long s w _ k h1 (hide hc2)
    · have e1 : takeL s.data.toList = takeTs n (s.data.toList.drop k) := by simp only [takeL, ht, h1, if_false, Int.toNat_natCast]
      rw [e1]
      exact rlist_loop s n k _ w hs (by omega) (by omega) (hide hc2) (hide rfl)

theorem takeList_any (s : ByteArray) (w : World) (hs : s.size ≤ 9223372036854775807) :
    Calls Try.prog 21 #[.string s] w fun e w' => ListPost w (takeL s.data.toList) e w' := by
  have hc := fun w => takeNum_any s w hs
  have hl : s.data.toList.length = s.size := by simp
  cases ht : takeN s.data.toList with
  | none =>
    have e1 : takeL s.data.toList = none := by simp only [takeL, ht]
    rw [e1]
    exact takeList_none s w (hide (by simpa only [takeNV, ht, numErr] using hc))
  | some x =>
    obtain ⟨v, k⟩ := x
    have hb := takeN_some ht
    obtain ⟨n, rfl⟩ := Int.eq_ofNat_of_zero_le hb.1
    have hc2 : ∀ w, Calls Try.prog 17 #[.string s] w fun e w' => e = .returned (.tuple #[.int .i64 n, .string (bs (s.data.toList.drop k)), .int .i64 0]) ∧ Below w.heap.size w w' := by
      simpa only [takeNV, ht] using hc
    by_cases h1 : (1000 : Int) < (n : Int)
    · have e1 : takeL s.data.toList = none := by simp only [takeL, ht, h1, if_true]
      rw [e1]
      exact takeList_long s _ _ w (hide hc2) h1
    · have e1 : takeL s.data.toList = takeTs n (s.data.toList.drop k) := by simp only [takeL, ht, h1, if_false, Int.toNat_natCast]
      rw [e1]
      exact takeList_loop s _ n _ w (by simp; omega) (by omega) (hide hc2) (hide rfl)
end Go.Proofs.Ytekkgmgdihlefaa
