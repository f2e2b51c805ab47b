/-
  Several texts in one: what the functions of the program and of the document's answer do.
-/
import Derived.Test.YtbabmkilbbbmoaaDoorMgBE
import Derived.Test.YtbabmkilbbbmoaaDoorMgBB
import Derived.Test.YtbabmkilbbbmoaaDoorZTr
import Derived.Deep.RegionWith
import Derived.Deep.RegionLaw
import Derived.Deep.DeepCutAuto
import Derived.Test.YtbabmkilbbbmoaaDoorMgAV

/-
  What 'row' of a page of match does.
-/
namespace Go.Proofs.YtbabmkilbbbmoaaDoor
open Go.RowKit
set_option linter.unusedVariables false
set_option linter.unusedSimpArgs false

def nmI (L : List Nat) : List Int := L.map (fun x : Nat => (x : Int))
theorem nmI_at (L : List Nat) (j : Nat) (h : j < L.length) : (nmI L).getD j 0 = ((L.getD j 0 : Nat) : Int) := by
  unfold nmI
  rw [List.getD, List.getD, List.getElem?_map, List.getElem?_eq_getElem h]
  rfl
def inR (ks : Nat → Int) (L : List Nat) : List Value := (L.map ks).map intV
theorem take_mapI (L : List Nat) (ks : Nat → Int) (j : Nat) (h : j < L.length) : ((L.take (j + 1)).map ks).map intV = ((L.take j).map ks).map intV ++ [intV (ks (L.getD j 0))] := by
  rw [List.take_add_one, List.getElem?_eq_getElem h, List.getD, List.getElem?_eq_getElem h, List.map_append, List.map_append]
  rfl
theorem blk_drewE {w : World} {b : Nat} {vs : Array Value} {t : TypeId} (h : Blk w b vs t) : Blk w.drew b vs t := h
def RowAt (w : World) (R : Nat) (ks ls : Nat → Int) (L : List Nat) (j : Nat) (u1 u2 : Value) (wr : World) : Prop :=
  Blk wr R #[u1, u2] 70 ∧ wr.ownsRow (R + 1) 3 1 u1 j (((L.take j).map ks).map intV) ∧ wr.ownsRow (R + 1) 3 1 u2 j (((L.take j).map ls).map intV) ∧ (∀ k, u1.ownBlock = some k → u2.ownBlock ≠ some k) ∧ Below w.heap.size w wr ∧ Blk wr w.heap.size #[.slice none 0 0, .slice none 0 0] 70

set_option maxHeartbeats 4000000 in
set_option maxRecDepth 100000 in
theorem row_any (pb n : Nat) (qk ql qs : Option Addr) (ck cl cs : Nat) (ks ls : Nat → Int) (L : List Nat) (w : World) (hp1 : w.cell? ⟨pb, 1, none⟩ = some (.slice qk n ck)) (hp2 : w.cell? ⟨pb, 2, none⟩ = some (.slice ql n cl)) (hk : RowC qk n ks w) (hl : RowC ql n ls w) (hv : MtsV qs L.length (nmI L) w) (hb : ∀ j, j < L.length → L.getD j 0 < n) (hlen : L.length ≤ 900) (hn : n ≤ 900) :
    Calls Tryd.prog 38 #[.pointer (some ⟨pb, 0, none⟩), .slice qs L.length cs] w fun e w' => ∃ u1 u2, e = .returned (.agg #[u1, u2]) ∧ w'.ownsRow w.heap.size 3 1 u1 L.length (inR ks L) ∧ w'.ownsRow w.heap.size 3 1 u2 L.length (inR ls L) ∧ Below w.heap.size w w' := by
  obtain ⟨i0, hi0, hi1, hi2, hi3⟩ := mfoInt
  have P1 := hide (fun (W : World) (hW : Below w.heap.size w W) => (below_cells hW) _ _ _ hp1)
  have P2 := hide (fun (W : World) (hW : Below w.heap.size w W) => (below_cells hW) _ _ _ hp2)
  have HK := hide (fun (W : World) (hW : Below w.heap.size w W) => hk.le (below_cells hW))
  have HL := hide (fun (W : World) (hW : Below w.heap.size w W) => hl.le (below_cells hW))
  have HV := hide (fun (W : World) (hW : Below w.heap.size w W) => hv.below hW)
  have HBB := hide hb
  have B1 : Below w.heap.size w (w.alloc (Obj.cells #[.slice none 0 0, .slice none 0 0] 70)) := (Below.refl _ _).alloc (Nat.le_refl _) _
  have B2 := B1.alloc B1.size (Obj.cells #[.slice none 0 0, .slice none 0 0] 70)
  have HAT : Hid (RowAt w (w.heap.size + 1) ks ls L 0 (.slice none 0 0) (.slice none 0 0) ((w.alloc (Obj.cells #[.slice none 0 0, .slice none 0 0] 70)).alloc (Obj.cells #[.slice none 0 0, .slice none 0 0] 70))) := hide ⟨by simpa using Blk.new (w.alloc (Obj.cells #[.slice none 0 0, .slice none 0 0] 70)) #[.slice none 0 0, .slice none 0 0] 70, by simpa using World.ownsRow_nil _ (w.heap.size + 1 + 1) 3 1, by simpa using World.ownsRow_nil _ (w.heap.size + 1 + 1) 3 1, (fun k hk => by cases hk), B2, (Blk.new w _ _).alloc _⟩
  clear hp1 hp2 hk hl hv hb B1 B2
  go_enter Tryd.func38, Tryd.ntmps38
  go_wp2
  go_loopw [10] (fun i wr => ∃ (j : Nat) (u1 u2 : Value), j ≤ L.length ∧ i = .int .i64 j ∧ RowAt w (w.heap.size + 1) ks ls L j u1 u2 wr) (fun i _ => L.length - (intOf i).toNat)
  case atStart => exact ⟨0, _, _, Nat.zero_le _, rfl, unhide HAT⟩
  case round =>
    clear HAT
    obtain ⟨j, u1, u2, hj, rfl, hblk, hr1, hr2, hne, hbl, hkz⟩ := hrel
    by_cases hp : j < L.length
    · have hpi : (j : Int) < (L.length : Int) := by omega
      have hjb := unhide HBB j hp
      obtain ⟨hvl, hvc⟩ := unhide HV wr hbl
      obtain ⟨gs, os, hqs, hsc⟩ := hvc (by omega)
      have s0 := hsc j hp
      rw [nmI_at L j hp] at s0
      obtain ⟨gk, hgk, hkc⟩ := unhide HK wr hbl (by omega)
      obtain ⟨gl, hgl, hlc⟩ := unhide HL wr hbl (by omega)
      have k0 := hkc _ hjb
      have l0 := hlc _ hjb
      subst hqs hgk hgl
      have y1 := unhide P1 wr hbl
      have y2 := unhide P2 wr hbl
      have c0 := hblk.cell 0
      have c1 := hblk.cell 1
      have z0 := hblk.frozen 0
      have z1 := hblk.frozen 1
      have hxi : ((L.getD j 0 : Nat) : Int) < (n : Int) := by omega
      generalize hx : L.getD j 0 = x at *
      obtain ⟨q1, n1, d1, hu1⟩ := slice_of hr1
      obtain ⟨q2, n2, d2, hu2⟩ := slice_of hr2
      subst hu1 hu2
      have HX := hide hx
      have R1 := hide hr1
      have R2 := hide hr2
      have HNE := hide hne
      have HBL := hide hbl
      have KB := hide hblk
      have KZ := hide hkz
      clear hvl hvc hsc hkc hlc hx hr1 hr2 hne hbl hblk hkz
      have hz := (unhide HBL).size
      obtain ⟨v1, W1, hra, ho1, hg1, hf1⟩ := append_fresh (P := Tryd.prog) (wr.alloc (Obj.cells #[.int .i64 (ks x)] 3)).drew (w.heap.size + 1 + 1) 38 38 3 i0 (.int .i64 0) 1 8 Tryd.underlying38 hi0 hi1 hi2 hi3 rfl (by decide) (.slice q1 n1 d1) j _ ((unhide R1).alloc _).drew ⟨wr.heap.size, 0, none⟩ 1 1 [.int .i64 (ks x)] rfl (cell_one_new _ _ _) (by simp [Value.oneCell']) (by simp only [maxLen]; omega) (by omega) (by have := (unhide KB).lt; simp; omega)
      obtain ⟨q3, n3, d3, hv1⟩ := slice_of ho1
      subst hv1
      have hb1 : ∀ q, some q = (Value.slice q1 n1 d1).ownBlock → w.heap.size + 1 + 1 ≤ q ∧ q < wr.heap.size := fun q hq => (unhide R1).lt q hq.symm
      have KB1 := blk_grown (blk_drewE ((unhide KB).alloc (Obj.cells #[.int .i64 (ks x)] 3))) hg1 (fun e => by have := hb1 _ e; omega)
      have x0 := KB1.cell 0
      have x1 := KB1.cell 1
      have e0 := KB1.frozen 0
      have e1 := KB1.frozen 1
      have HB1 : Hid (Below w.heap.size w W1) := hide ((((unhide HBL).alloc hz _).drew).grown hg1 (by simp; omega) (fun q hq => by have := (hb1 q hq.symm).1; omega))
      have HG1 := hide hg1
      have HO1 := hide ho1
      have HF1 := hide hf1
      have HBQ := hide hb1
      have HK1 := hide KB1
      clear ho1 hg1 hf1 hb1 KB1
      have hRlt : w.heap.size + 1 < wr.heap.size := (unhide KB).lt
      have hplt : pb < wr.heap.size := World.block_lt_of_cell? wr _ y1
      have hklt : gk < wr.heap.size := World.block_lt_of_cell? wr _ k0
      go_upto_region 5 with fail
      go_cut [] from 14 to 25 (fun wx => wx = W1.setCell ⟨w.heap.size + 1, 0, none⟩ (.slice q3 n3 d3))
      case first =>
        go_region_law (refine step_append_run2 rfl (.tmp 15) (.tmp 23) 38 38 rfl (.slice q1 n1 d1) (.slice (some ⟨wr.heap.size, 0, none⟩) 1 1) (by simp [Act.eval, Act.put]) (by simp [Act.eval, Act.put]) hra ?_)
        all_goals (go_wp2_with fail; go_meet; rfl)
      case rest =>
        have hb1 := unhide HBQ
        have KZ1 := blk_grown (blk_drewE ((unhide KZ).alloc (Obj.cells #[.int .i64 (ks x)] 3))) (unhide HG1) (fun e => by have := hb1 _ e; omega)
        have hz1 := (unhide HB1).size
        have hs1 := (unhide HG1).size
        have KB2 : Hid (Blk wc (w.heap.size + 1) #[.slice q3 n3 d3, .slice q2 n2 d2] 70) := hide (by rw [hcut]; exact (unhide HK1).set 0 (by simp) (.slice q3 n3 d3))
        have KZ2 : Hid (Blk wc w.heap.size #[.slice none 0 0, .slice none 0 0] 70) := hide (by rw [hcut]; exact KZ1.away (by omega) _)
        have HB2 : Hid (Below w.heap.size w wc) := hide (by rw [hcut]; exact (unhide HB1).setCell (p := ⟨w.heap.size + 1, 0, none⟩) (by show w.heap.size ≤ w.heap.size + 1; omega) _)
        have R1b : Hid (wc.ownsRow (w.heap.size + 1 + 1) 3 1 (.slice q3 n3 d3) (j + 1) (((L.take (j + 1)).map ks).map intV)) := hide (by rw [hcut]; exact owns_away (by rw [take_mapI L ks j hp, unhide HX]; exact unhide HO1) (fun q hq => by have := ((unhide HO1).lt q hq.symm).1; omega))
        have hne2 : (Value.slice q2 n2 d2).ownBlock = none ∨ (Value.slice q2 n2 d2).ownBlock ≠ (Value.slice q1 n1 d1).ownBlock := by
          cases e : (Value.slice q2 n2 d2).ownBlock with
          | none => exact .inl rfl
          | some q => exact .inr (fun h => unhide HNE q h.symm e)
        have R2a := (((unhide R2).alloc (Obj.cells #[.int .i64 (ks x)] 3)).drew).kept (unhide HG1) hne2
        have R2b : Hid (wc.ownsRow (w.heap.size + 1 + 1) 3 1 (.slice q2 n2 d2) j (((L.take j).map ls).map intV)) := hide (by rw [hcut]; exact owns_away R2a (fun q hq => by have := ((unhide R2).lt q hq.symm).1; omega))
        have HNb : Hid (∀ k, (Value.slice q3 n3 d3).ownBlock = some k → (Value.slice q2 n2 d2).ownBlock ≠ some k) := hide (fun k hk e => by
          rcases unhide HF1 k hk with h | h
          · exact unhide HNE k h e
          · have := ((unhide R2).lt k e).2
            simp at h
            omega)
        have hzc : wc.heap.size = W1.heap.size := by rw [hcut]; simp
        have y2b := unhide P2 wc (unhide HB2)
        obtain ⟨gl', hgl', hlc'⟩ := unhide HL wc (unhide HB2) (by omega)
        cases hgl'
        have l0b := hlc' _ hjb
        clear hcut KZ1 R2a hne2 hb1 hlc' y1 y2 c0 c1 z0 z1 k0 l0 x0 x1 e0 e1 R1 R2 HNE HBL KB KZ HB1 HG1 HO1 HF1 HBQ HK1
        obtain ⟨v2, W3, hrb, ho3, hg3, hf3⟩ := append_fresh (P := Tryd.prog) (wc.alloc (Obj.cells #[.int .i64 (ls x)] 3)).drew (w.heap.size + 1 + 1) 38 38 3 i0 (.int .i64 0) 1 8 Tryd.underlying38 hi0 hi1 hi2 hi3 rfl (by decide) (.slice q2 n2 d2) j _ ((unhide R2b).alloc _).drew ⟨wc.heap.size, 0, none⟩ 1 1 [.int .i64 (ls x)] rfl (cell_one_new _ _ _) (by simp [Value.oneCell']) (by simp only [maxLen]; omega) (by omega) (by have := (unhide KB2).lt; simp; omega)
        obtain ⟨q4, n4, d4, hv4⟩ := slice_of ho3
        subst hv4
        have hb2 : ∀ q, some q = (Value.slice q2 n2 d2).ownBlock → w.heap.size + 1 + 1 ≤ q ∧ q < wc.heap.size := fun q hq => (unhide R2b).lt q hq.symm
        have KB3 := blk_grown (blk_drewE ((unhide KB2).alloc (Obj.cells #[.int .i64 (ls x)] 3))) hg3 (fun e => by have := hb2 _ e; omega)
        have KZ3 := hide (blk_grown (blk_drewE ((unhide KZ2).alloc (Obj.cells #[.int .i64 (ls x)] 3))) hg3 (fun e => by have := hb2 _ e; omega))
        have c0 := (unhide KB2).cell 0
        have c1 := (unhide KB2).cell 1
        have x0 := KB3.cell 0
        have x1 := KB3.cell 1
        have e0 := KB3.frozen 0
        have e1 := KB3.frozen 1
        have hzw := (unhide HB2).size
        have HB3 : Hid (Below w.heap.size w W3) := hide ((((unhide HB2).alloc hzw _).drew).grown hg3 (by simp; omega) (fun q hq => by have := (hb2 q hq.symm).1; omega))
        have hne4 : (Value.slice q3 n3 d3).ownBlock = none ∨ (Value.slice q3 n3 d3).ownBlock ≠ (Value.slice q2 n2 d2).ownBlock := by
          cases e : (Value.slice q3 n3 d3).ownBlock with
          | none => exact .inl rfl
          | some q => exact .inr (fun h => unhide HNb q e h.symm)
        have R1c := hide ((((unhide R1b).alloc (Obj.cells #[.int .i64 (ls x)] 3)).drew).kept hg3 hne4)
        have HNc : Hid (∀ k, (Value.slice q3 n3 d3).ownBlock = some k → (Value.slice q4 n4 d4).ownBlock ≠ some k) := hide (fun k hk e => by
          rcases hf3 k e with h | h
          · exact unhide HNb k hk h
          · have := ((unhide R1b).lt k hk).2
            simp at h
            omega)
        have HO3 := hide ho3
        have HK3 := hide KB3
        have hRlt2 : w.heap.size + 1 < wc.heap.size := (unhide KB2).lt
        have hplt2 : pb < wc.heap.size := World.block_lt_of_cell? wc _ y2b
        have hllt2 : gl < wc.heap.size := World.block_lt_of_cell? wc _ l0b
        clear ho3 hg3 hf3 hb2 KB3 hne4 hRlt hplt hklt hzc
        go_upto_region 6 with fail
        have HFIN : Hid (RowAt w (w.heap.size + 1) ks ls L (j + 1) (.slice q3 n3 d3) (.slice q4 n4 d4) (W3.setCell ⟨w.heap.size + 1, 1, none⟩ (.slice q4 n4 d4))) := hide ⟨(unhide HK3).set 1 (by simp) (.slice q4 n4 d4), owns_away (unhide R1c) (fun q hq => by have := ((unhide R1c).lt q hq.symm).1; omega), owns_away (by rw [take_mapI L ls j hp, unhide HX]; exact unhide HO3) (fun q hq => by have := ((unhide HO3).lt q hq.symm).1; omega), unhide HNc, (unhide HB3).setCell (p := ⟨w.heap.size + 1, 1, none⟩) (by show w.heap.size ≤ w.heap.size + 1; omega) _, (unhide KZ3).away (by omega) _⟩
        go_region_law (refine step_append_run2 rfl (.tmp 27) (.tmp 35) 38 38 rfl (.slice q2 n2 d2) (.slice (some ⟨wc.heap.size, 0, none⟩) 1 1) (by simp [Act.eval, Act.put]) (by simp [Act.eval, Act.put]) hrb ?_)
        all_goals (
          go_wp2
          go_roundw
          case rel => exact ⟨j + 1, _, _, by omega, by go_num, unhide HFIN⟩
          case measure => simp [intOf]; omega)
    · have hje : j = L.length := by omega
      subst hje
      rw [List.take_of_length_le (Nat.le_refl _)] at hr1 hr2
      have hpi : ¬ ((L.length : Nat) : Int) < ((L.length : Nat) : Int) := by omega
      obtain ⟨q1, n1, d1, hu1⟩ := slice_of hr1
      obtain ⟨q2, n2, d2, hu2⟩ := slice_of hr2
      subst hu1 hu2
      have c0 := hblk.cell 0
      have c1 := hblk.cell 1
      have z0 := hkz.cell 0
      have z1 := hkz.cell 1
      have f0 := hkz.frozen 0
      have f1 := hkz.frozen 1
      have hq1 : ∀ q, some q = (Value.slice q1 n1 d1).ownBlock → q ≠ w.heap.size := fun q hq => by have := (hr1.lt q hq.symm).1; omega
      have hq2 : ∀ q, some q = (Value.slice q2 n2 d2).ownBlock → q ≠ w.heap.size := fun q hq => by have := (hr2.lt q hq.symm).1; omega
      have HA1 : Hid (((wr.setCell ⟨w.heap.size, 0, none⟩ (.slice q1 n1 d1)).setCell ⟨w.heap.size, 1, none⟩ (.slice q2 n2 d2)).ownsRow w.heap.size 3 1 (.slice q1 n1 d1) L.length (inR ks L)) := hide (owns_mono (owns_away (owns_away hr1 hq1) hq1) (by omega))
      have HA2 : Hid (((wr.setCell ⟨w.heap.size, 0, none⟩ (.slice q1 n1 d1)).setCell ⟨w.heap.size, 1, none⟩ (.slice q2 n2 d2)).ownsRow w.heap.size 3 1 (.slice q2 n2 d2) L.length (inR ls L)) := hide (owns_mono (owns_away (owns_away hr2 hq2) hq2) (by omega))
      have HA3 := hide ((hbl.setCell (p := ⟨w.heap.size, 0, none⟩) (Nat.le_refl _) (.slice q1 n1 d1)).setCell (p := ⟨w.heap.size, 1, none⟩) (Nat.le_refl _) (.slice q2 n2 d2))
      have KF := hide ((hkz.set 0 (by simp) (.slice q1 n1 d1)).set 1 (by simp) (.slice q2 n2 d2))
      clear hr1 hr2 hbl hblk hkz hne hq1 hq2
      go_wp2
      have k0 := (unhide KF).cell 0
      have k1 := (unhide KF).cell 1
      refine bodyPost_ret (v := .agg #[.slice q1 n1 d1, .slice q2 n2 d2]) (by simp [results, Tryd.results38, go_sem, k0, k1]) rfl ?_
      exact ⟨_, _, rfl, unhide HA1, unhide HA2, unhide HA3⟩
end Go.Proofs.YtbabmkilbbbmoaaDoor

/-
  What match's 'inOrder' does.
-/
namespace Go.Proofs.YtbabmkilbbbmoaaDoor
open Go.RowKit
set_option linter.unusedVariables false
set_option linter.unusedSimpArgs false

/-- Pointers to a page's nodes, by their numbers, up to one. -/
def PtS (f : Forest) (w : World) (i : Nat) (ps : Nat → Value) : Prop := ∀ x, x < i → ∃ g o, ps x = .pointer (some ⟨g, o, none⟩) ∧ Lies (atP f x) g o w
/-- Pointers in memory, read. -/
def PtC (f : Forest) (w0 : World) (q : Option Addr) (w : World) : Prop := 0 < f.count → ∃ g ps, q = some ⟨g, 0, none⟩ ∧ PtS f w0 f.count ps ∧ ∀ x, x < f.count → w.cell? ⟨g, x, none⟩ = some (ps x)

set_option maxHeartbeats 4000000 in
set_option maxRecDepth 100000 in
theorem inOrder_any (f : Forest) (ql qi : Option Addr) (cl ci : Nat) (w0 w : World) (hf : Fo ql f w0) (hw0 : Below w0.heap.size w0 w) (hi : ItC f qi w) (hc : f.count ≤ 900) :
    Calls Tryd.prog 69 #[.slice ql f.len cl, .slice qi f.count ci] w fun e w' => ∃ q c, e = .returned (.slice q f.count c) ∧ PtC f w0 q w' ∧ Below w.heap.size w w' := by
  have hk1 := run_make_row' (P := Tryd.prog) 129 84 (.pointer none) 8 Tryd.underlying129 (by kernel_rfl) rfl .i64 .i64 f.count (by omega) (by omega)
  have HF := hide hf
  have HW0 := hide hw0
  have HI := hide hi
  have hcc : (f.count : Int) ≤ 900 := by omega
  have HAT : Hid ((w.alloc (.cells (madeCells #[.pointer none] f.count) 84)).rowIs w.heap.size 84 f.count (fun _ => .pointer none)) := hide (World.rowIs_made _ _ _ _)
  have HB0 : Hid (Below w.heap.size w (w.alloc (.cells (madeCells #[.pointer none] f.count) 84))) := hide ((Below.refl _ _).alloc (Nat.le_refl _) _)
  clear hf hi hw0
  go_enter Tryd.func69, Tryd.ntmps69
  go_wp2
  go_loopw [14] (fun z wr => ∃ (i : Nat) (ps : Nat → Value), i ≤ f.count ∧ z = .int .i64 (i : Int) ∧ wr.rowIs w.heap.size 84 f.count ps ∧ PtS f w0 i ps ∧ Below w.heap.size w wr) (fun z _ => f.count - (intOf z).toNat)
  case atStart => exact ⟨0, _, Nat.zero_le _, rfl, unhide HAT, fun x hx => absurd hx (Nat.not_lt_zero _), unhide HB0⟩
  case round =>
    clear HAT HB0
    obtain ⟨i, ps, hi', rfl, hr, hps, hbl⟩ := hrel
    have HR := hide hr
    have HP := hide hps
    have HBL := hide hbl
    by_cases hp : i < f.count
    · have hpi : (i : Int) < (f.count : Int) := by omega
      obtain ⟨y, hy⟩ := itm_get f i hp
      obtain ⟨gi, hgi, hcells⟩ := (unhide HI).le (below_cells hbl) (by omega)
      subst hgi
      obtain ⟨y0, y1, y2, y3, y4⟩ := hcells i y hy
      have hwh := itm_at f 0 (-1) 0 0 i y hy
      obtain ⟨ya, yb, yc, yd⟩ := y
      dsimp only at y0 y1 y2 y3 y4 hwh
      have hrlt : w.heap.size < wr.heap.size := hr.lt
      have hrf := hr.frozen i
      have hri := hr.cell hp
      have hgil : gi < wr.heap.size := World.block_lt_of_cell? wr _ y0
      rcases hwh with ⟨rfl, j, hj, hjl, hat⟩ | ⟨p, hpi2, hpb, kk, sp, n, ats, tx, kids, r, hat, j, hj, hjl, hat2⟩
      · rw [Nat.zero_add] at hj
        subst hj
        obtain ⟨g0, o0, hq, hly⟩ : ∃ g o, ql = some ⟨g, o, none⟩ ∧ Lies f g o w0 := by
          rcases unhide HF with rfl | h
          · simp [Forest.count] at hp
          · exact h
        subst hq
        have HLY : Hid (Lies (atP f i) g0 (o0 + j * 6) w0) := hide (by rw [← hat]; exact hly.drop j)
        have hji : (j : Int) < (f.len : Int) := by omega
        clear hat hly hr hps hbl hcells hy
        have hstore : Hid (((wr.setCell ⟨w.heap.size, i, none⟩ (.pointer (some ⟨g0, o0 + j * 6, none⟩))).alloc (Obj.cells #[.int .i64 ya, .int .i64 (-1), .int .i64 (j : Int), .int .i64 yd, .int .i64 (szA f i)] 49)).rowIs w.heap.size 84 f.count (fun x => if x = i then .pointer (some ⟨g0, o0 + j * 6, none⟩) else ps x)) := hide (((unhide HR).set i _).alloc _)
        have HB2 := hide (((unhide HBL).setCell (p := ⟨w.heap.size, i, none⟩) (Nat.le_refl _) (.pointer (some ⟨g0, o0 + j * 6, none⟩))).alloc (by simpa using (unhide HBL).size) (Obj.cells #[.int .i64 ya, .int .i64 (-1), .int .i64 (j : Int), .int .i64 yd, .int .i64 (szA f i)] 49))
        have HP2 : Hid (PtS f w0 (i + 1) (fun x => if x = i then .pointer (some ⟨g0, o0 + j * 6, none⟩) else ps x)) := hide (fun x hx => by
          by_cases e : x = i
          · subst e
            exact ⟨g0, o0 + j * 6, if_pos rfl, unhide HLY⟩
          · dsimp only
            rw [if_neg e]
            exact unhide HP x (by omega))
        go_wp2
        go_roundw
        case rel => exact ⟨i + 1, _, by omega, by go_num, unhide hstore, unhide HP2, unhide HB2⟩
        case measure => simp [intOf]; omega
      · rw [Nat.zero_add] at hpb
        subst hpb hj
        obtain ⟨gp, op, hpp, hlp⟩ := hps p hpi2
        have hrp := hr.cell (show p < f.count by omega)
        rw [hpp] at hrp
        rw [hat] at hlp
        obtain ⟨⟨_, _, _, _, _, qk, ck, c5, hck, hkk⟩, _⟩ := hlp
        obtain ⟨g0, o0, hq, hly⟩ : ∃ g o, qk = some ⟨g, o, none⟩ ∧ Lies kids g o w0 := by
          rcases hkk with rfl | h
          · simp [Forest.len] at hjl
          · exact h
        subst hq
        have c5' := below_cells hbl _ _ _ (below_cells (unhide HW0) _ _ _ c5)
        have HLY : Hid (Lies (atP f i) g0 (o0 + j * 6) w0) := hide (by rw [← hat2]; exact hly.drop j)
        have hji : (j : Int) < (kids.len : Int) := by omega
        have hpc : (p : Int) < (f.count : Int) := by omega
        have hneb : ((p : Int) != -1) = true := bne_iff_ne.2 (by omega)
        have hgpl : gp < wr.heap.size := World.block_lt_of_cell? wr _ c5'
        clear hat hat2 hly hr hps hbl hcells hy hpp hkk c5
        have hstore : Hid (((wr.setCell ⟨w.heap.size, i, none⟩ (.pointer (some ⟨g0, o0 + j * 6, none⟩))).alloc (Obj.cells #[.int .i64 ya, .int .i64 (p : Int), .int .i64 (j : Int), .int .i64 yd, .int .i64 (szA f i)] 49)).rowIs w.heap.size 84 f.count (fun x => if x = i then .pointer (some ⟨g0, o0 + j * 6, none⟩) else ps x)) := hide (((unhide HR).set i _).alloc _)
        have HB2 := hide (((unhide HBL).setCell (p := ⟨w.heap.size, i, none⟩) (Nat.le_refl _) (.pointer (some ⟨g0, o0 + j * 6, none⟩))).alloc (by simpa using (unhide HBL).size) (Obj.cells #[.int .i64 ya, .int .i64 (p : Int), .int .i64 (j : Int), .int .i64 yd, .int .i64 (szA f i)] 49))
        have HP2 : Hid (PtS f w0 (i + 1) (fun x => if x = i then .pointer (some ⟨g0, o0 + j * 6, none⟩) else ps x)) := hide (fun x hx => by
          by_cases e : x = i
          · subst e
            exact ⟨g0, o0 + j * 6, if_pos rfl, unhide HLY⟩
          · dsimp only
            rw [if_neg e]
            exact unhide HP x (by omega))
        go_wp2
        go_roundw
        case rel => exact ⟨i + 1, _, by omega, by go_num, unhide hstore, unhide HP2, unhide HB2⟩
        case measure => simp [intOf]; omega
    · have hie : i = f.count := by omega
      subst hie
      have HE : Hid (PtC f w0 (some ⟨w.heap.size, 0, none⟩) wr) := hide (fun _ => ⟨w.heap.size, ps, rfl, hps, fun x hx => hr.cell hx⟩)
      have hpi : ¬ ((f.count : Nat) : Int) < ((f.count : Nat) : Int) := by omega
      clear hr hps hbl
      go_wp2
      go_ret
      exact ⟨_, ⟨_, rfl⟩, unhide HE, unhide HBL⟩
end Go.Proofs.YtbabmkilbbbmoaaDoor
