/-
  For every two lists of nodes the law WordsPages answers true: the lines that tell what was changed from the one page to the other are the document's; the two tables of the package utf start as the program's text lays them (the card ties them); and each argument reads as it did.
-/
import Derived.Test.YtfbgpodcdgmpjaaDoorMgAT
import Derived.Test.YtfbgpodcdgmpjaaDoorRXl
import Derived.Test.YtfbgpodcdgmpjaaDoorJRl
import Derived.Test.YtfbgpodcdgmpjaaDoorMgBN
import Derived.Test.YtfbgpodcdgmpjaaDoorCards
import Derived.Test.YtfbgpodcdgmpjaaDoorTie
import Derived.ProofKit
import Derived.OpenShut
import Derived.ShutString
import Derived.ChangeOld
import Derived.Below
import Derived.Deep.DeepHandedRow
import Derived.Lib.LaidTab

/-
  What 'words.line' and 'words.Pages' do, the reference's Pages, and the law WordsPages.
-/
namespace Go.Proofs.YtfbgpodcdgmpjaaDoor
open Go.RowKit
set_option linter.unusedVariables false
set_option linter.unusedSimpArgs false

theorem RcsV.read {w : World} {base : Nat} {v : Value} {L : List Pc} (h : RcsV w base v L) : ∃ q c, v = .slice q L.length c ∧ L.length ≤ c ∧ PcA w q L := by
  obtain ⟨_, h⟩ := h
  rcases h with ⟨h1, h0⟩ | ⟨g, cap, cur, h0, h1, h2, h3, h4, h5, h6⟩
  · exact ⟨none, 0, by rw [h0]; exact h1, by omega, fun x => by omega⟩
  · refine ⟨_, cap, h0, h3, fun hp => ⟨g, 0, rfl, fun i hi => ?_⟩⟩
    have hc : ∀ j, j < L.length * 2 → w.cell? ⟨g, 0 + j, none⟩ = (flatQ L)[j]? := by
      intro j hj
      rw [Nat.zero_add, Joins.cell_of_block h2, ← h6, List.getElem?_take, if_pos hj]
      simp
    obtain ⟨f1, f2⟩ := flatQ_get L i hi
    exact ⟨(hc _ (by omega)).trans f1, by rw [Nat.add_assoc]; exact (hc _ (by omega)).trans f2⟩
def lnW (x : Pc) : List UInt8 := (if x.1 = 2 then [45, 32] else if x.1 = 3 then [43, 32] else [32, 32]) ++ x.2.data.toList
def lnWs (L : List Pc) : List ByteArray := L.map (fun x => bs (lnW x))
theorem lnWs_len (L : List Pc) : (lnWs L).length = L.length := by unfold lnWs; rw [List.length_map]
theorem lnWs_take (L : List Pc) (j : Nat) (h : j < L.length) : lnWs (L.take (j + 1)) = lnWs (L.take j) ++ [bs (lnW (L.getD j (0, ByteArray.empty)))] := by
  unfold lnWs
  rw [List.take_add_one, List.getElem?_eq_getElem h, List.map_append, List.getD, List.getElem?_eq_getElem h]; rfl
theorem two_cat (a b : UInt8) (t : ByteArray) : (⟨#[a, b]⟩ : ByteArray) ++ t = bs ([a, b] ++ t.data.toList) := by rw [add_bs]
set_option maxHeartbeats 1000000 in
theorem wline_any (k : Int) (t : ByteArray) (w : World) (ht : t.size ≤ 1000000000000000) :
    Calls Tryd.prog 15 #[.agg #[.int .i64 k, .string t]] w fun e w' => e = .returned (.string (bs (lnW (k, t)))) ∧ Below w.heap.size w w' := by
  have hbA : Below w.heap.size w (w.alloc (Obj.cells #[.int .i64 k, .string t] 36)) := (Below.refl _ _).alloc (Nat.le_refl _) _
  have HB := hide hbA
  have g1 : ¬ 9223372036854775807 < 2 + t.size := by omega
  clear hbA
  by_cases k2 : k = 2
  · subst k2
    have e : lnW (2, t) = [45, 32] ++ t.data.toList := rfl
    rw [e, ← two_cat]
    go_enter Tryd.func15, Tryd.ntmps15
    go_wp2
    go_ret
    exact ⟨rfl, unhide HB⟩
  have n2 : (k == 2) = false := beq_eq_false_iff_ne.2 k2
  by_cases k3 : k = 3
  · subst k3
    have e : lnW (3, t) = [43, 32] ++ t.data.toList := rfl
    rw [e, ← two_cat]
    go_enter Tryd.func15, Tryd.ntmps15
    go_wp2
    go_ret
    exact ⟨rfl, unhide HB⟩
  have n3 : (k == 3) = false := beq_eq_false_iff_ne.2 k3
  have e : lnW (k, t) = [32, 32] ++ t.data.toList := by unfold lnW; dsimp only; rw [if_neg k2, if_neg k3]
  rw [e, ← two_cat]
  clear k2 k3 e
  go_enter Tryd.func15, Tryd.ntmps15
  go_wp2
  go_ret
  exact ⟨rfl, unhide HB⟩
theorem flatL_len (l : List UInt8) : (flatL l).length = l.length := by unfold flatL; rw [List.length_map]
theorem lnF_small : ∀ (f : Forest) (d : Nat), SmF f → d + f.count ≤ 100000 → ∀ t ∈ lnF f d, t.size ≤ 1000000000
  | .nil, d, _, _, t, h => by cases h
  | .cons k sp n ats tx kids rest, d, hs, hd, t, h => by
    obtain ⟨⟨s1, s2, s3, _⟩, s4, s5⟩ := hs
    simp only [Forest.count] at hd
    rw [lnF] at h
    rcases List.mem_cons.1 h with rfl | h
    · rw [bs_size, List.length_append, spL_len]
      have h1 : (lnL k n.data.toList ats tx.data.toList).length ≤ 100000000 := by
        unfold lnL
        split
        · unfold openL
          have := att_len s3 ats.length (Nat.le_refl _)
          have h2 := s3.1
          simp only [List.length_append, List.length_cons, List.length_nil, data_len]
          omega
        · split
          · rw [flatL_len, data_len]; omega
          · simp
      omega
    · rcases List.mem_append.1 h with h | h
      · exact lnF_small kids (d + 1) s4 (by omega) t h
      · exact lnF_small rest d s5 (by omega) t h
theorem lsP_kind (a b : List ByteArray) : ∀ (r : List (Nat × Nat)) (i j : Nat), ∀ p ∈ lsP a b i j r, p.1 = 1 ∨ p.1 = 2 ∨ p.1 = 3
  | [], i, j, p, hp => by
    rw [lsP] at hp
    rcases List.mem_append.1 hp with hp | hp
    · obtain ⟨t, ht, rfl⟩ := List.mem_map.1 hp; exact Or.inr (Or.inl rfl)
    · obtain ⟨t, ht, rfl⟩ := List.mem_map.1 hp; exact Or.inr (Or.inr rfl)
  | (x, y) :: r, i, j, p, hp => by
    rw [lsP] at hp
    rcases List.mem_append.1 hp with hp | hp
    · obtain ⟨t, ht, rfl⟩ := List.mem_map.1 hp; exact Or.inr (Or.inl rfl)
    rcases List.mem_append.1 hp with hp | hp
    · obtain ⟨t, ht, rfl⟩ := List.mem_map.1 hp; exact Or.inr (Or.inr rfl)
    rcases List.mem_cons.1 hp with rfl | hp
    · exact Or.inl rfl
    · exact lsP_kind a b r _ _ p hp
def pgT (a b : List ByteArray) : List Pc := lsP a b 0 0 (lnP (eqT a b) a.length b.length 0 0)
theorem pgT_ok (a b : List ByteArray) (B : Nat) (ha : ∀ t ∈ a, t.size ≤ B) (hb : ∀ t ∈ b, t.size ≤ B) : (pgT a b).length ≤ a.length + b.length ∧ ∀ p ∈ pgT a b, p.2.size ≤ B ∧ (p.1 = 1 ∨ p.1 = 2 ∨ p.1 = 3) := by
  refine ⟨?_, fun p hp => ⟨?_, lsP_kind _ _ _ _ _ p hp⟩⟩
  · have := lsP_len a b _ _ _ (lnP_rises (eqT a b) a.length b.length 0 0)
    unfold pgT; omega
  · rcases lsP_mem a b _ _ _ (lnP_rises (eqT a b) a.length b.length 0 0) p hp with h | h
    · exact ha _ h
    · exact hb _ h
def PgSaid (L : List Pc) (w : World) (e : Ending) (w' : World) : Prop := ∃ v, e = .returned v ∧ w'.ownsRow w.heap.size 9 1 v (lnWs L).length ((lnWs L).map Value.string) ∧ Below w.heap.size w w'
theorem row_strs {w : World} {base : Nat} {v : Value} {xs : List ByteArray} {s : ByteArray} (h : w.ownsRow base 9 1 v (xs.length + 1) (xs.map Value.string ++ [.string s])) : w.ownsRow base 9 1 v (xs ++ [s]).length ((xs ++ [s]).map Value.string) := by
  rw [List.length_append, List.map_append]; exact h
set_option maxHeartbeats 4000000 in
theorem wpages_any (fa fb : Forest) (qa qb : Option Addr) (ca cb : Nat) (w : World) (ht : Tabs w) (hm : MxJ w) (ha : Fo qa fa w) (hb : Fo qb fb w) (hsa : SmF fa) (hsb : SmF fb) (hna : fa.count ≤ 400) (hnb : fb.count ≤ 400) :
    Calls Tryd.prog 7 #[.slice qa fa.len ca, .slice qb fb.len cb] w (PgSaid (pgT (lnF fa 0) (lnF fb 0)) w) := by
  obtain ⟨i0, hi0, hz0, hz1, hz2⟩ := info_parts Tryd.infoStr
  have A1 := lnF_small fa 0 hsa (by omega)
  have A2 := lnF_small fb 0 hsb (by omega)
  have L1 := lnF_len fa 0
  have L2 := lnF_len fb 0
  have CA := hide (plines_any fa qa ca w ht hm ha hsa (by omega))
  have CB := hide (fun (W : World) (hW : Below w.heap.size w W) => plines_any fb qb cb W (ht.below hW) (hm.below hW) (hb.below hW) hsb (by omega))
  have hpg := pgT_ok (lnF fa 0) (lnF fb 0) 1000000000 A1 A2
  have CL := hide (fun (q1 q2 : Option Addr) (c1 c2 : Nat) (W : World) h1 h2 h3 h4 => lists_any q1 q2 (lnF fa 0).length (lnF fb 0).length c1 c2 (lnF fa 0) (lnF fb 0) W h1 h2 h3 h4 (fun k hk => by have := A1 _ (tx_mem _ k hk); omega) (fun k hk => by have := A2 _ (tx_mem _ k hk); omega) (by omega) (by omega))
  unfold ListsSaid at CL
  unfold PgSaid
  have HT : Hid (lsP (lnF fa 0) (lnF fb 0) 0 0 (lnP (eqT (lnF fa 0) (lnF fb 0)) (lnF fa 0).length (lnF fb 0).length 0 0) = pgT (lnF fa 0) (lnF fb 0)) := hide rfl
  rw [unhide HT] at CL
  have hLl : (pgT (lnF fa 0) (lnF fb 0)).length ≤ 800 := by omega
  have hLs := hpg.2
  generalize pgT (lnF fa 0) (lnF fb 0) = L at *
  have CW := hide (fun (i : Nat) (hi : i < L.length) (W : World) => wline_any (L.getD i (0, ByteArray.empty)).1 (L.getD i (0, ByteArray.empty)).2 W (by rw [List.getD, List.getElem?_eq_getElem hi]; have := (hLs _ (List.getElem_mem hi)).1; exact Nat.le_trans this (by decide)))
  have HTK := hide (lnWs_take L)
  have HEND : Hid (lnWs (L.take L.length) = lnWs L) := hide (by rw [List.take_length])
  generalize lnF fa 0 = la at *
  generalize lnF fb 0 = lb at *
  generalize fa.len = n1 at *
  generalize fb.len = n2 at *
  clear ht hm ha hb hsa hsb A1 A2 L1 L2 hpg HT hLs
  go_enter Tryd.func7, Tryd.ntmps7
  go_wp2_with fail
  refine Calls.mono (unhide CA) ?_
  rintro e w1 ⟨v1, rfl, hv1, hb1⟩
  have HB1 := hide hb1
  have HV1 := hide (view_of_owns hv1)
  obtain ⟨q1, c1, hq1, hc1⟩ := owns_cap hv1
  subst hq1
  clear hv1 hb1 CA
  go_wp2_with fail
  refine Calls.mono (unhide CB w1 (unhide HB1)) ?_
  rintro e w2 ⟨v2, rfl, hv2, hb2⟩
  have HB2 := hide (tr2 (unhide HB1) hb2)
  have HV2 := hide (view_of_owns hv2)
  have HV12 := hide (view_below (unhide HV1) hb2)
  obtain ⟨q2, c2, hq2, hc2⟩ := owns_cap hv2
  subst hq2
  clear hv2 hb2 CB HV1
  go_wp2_with fail
  refine Calls.mono (unhide CL q1 q2 c1 c2 w2 (unhide HV12) (unhide HV2) hc1 hc2) ?_
  rintro e Wl ⟨v3, rfl, hv3, hb3⟩
  have HBL0 := hide (tr2 (unhide HB2) hb3)
  obtain ⟨q3, c3, hq3, _, hp3⟩ := hv3.read
  subst hq3
  have HPA := hide hp3
  clear hv3 hb3 hp3 CL HV12 HV2
  go_wp2
  go_loopw [14, 5] (fun iv u wr => ∃ j : Nat, j ≤ L.length ∧ iv = .int .i64 (j : Int) ∧ wr.ownsRow Wl.heap.size 9 1 u (lnWs (L.take j)).length ((lnWs (L.take j)).map Value.string) ∧ Below Wl.heap.size Wl wr) (fun iv _ _ => L.length - (intOf iv).toNat)
  case atStart => exact ⟨0, Nat.zero_le _, rfl, World.ownsRow_nil _ _ _ _, Below.refl _ _⟩
  case round =>
    obtain ⟨j, hj, rfl, hrow, hbw⟩ := hrel
    have HBW := hide hbw
    obtain ⟨uq, un, uc, hu⟩ := slice_of hrow
    subst hu
    by_cases hp : j < L.length
    · have hpi : (j : Int) < (L.length : Int) := by omega
      obtain ⟨g, o, rfl, hcell⟩ := (unhide HPA).below hbw (by omega)
      obtain ⟨x0, x1⟩ := hcell j hp
      have HT2 := hide (unhide HTK j hp)
      have CW2 := hide (unhide CW j hp)
      have hlt : (lnWs (L.take j)).length ≤ 800 := by rw [lnWs_len, List.length_take]; omega
      obtain ⟨pc, hpc⟩ : ∃ pc, L.getD j (0, ByteArray.empty) = pc := ⟨_, rfl⟩
      rw [hpc] at x0 x1 HT2 CW2
      obtain ⟨k, t⟩ := pc
      dsimp only at x0 x1 CW2
      have hbA : Below wr.heap.size wr (wr.alloc (Obj.cells #[.int .i64 k, .string t] 36)) := (Below.refl _ _).alloc (Nat.le_refl _) _
      have HBA := hide (tr2 hbw hbA)
      have hrowA := hide (ownsRow_below hrow hbA)
      obtain ⟨M, hM⟩ : ∃ M, lnWs (L.take j) = M := ⟨_, rfl⟩
      rw [hM] at hrowA hlt HT2
      generalize bs (lnW (k, t)) = y at *
      clear hcell hpc hbA hrow hbw hM
      go_wp2_with fail
      refine Calls.mono (unhide CW2 _) ?_
      rintro e w4 ⟨rfl, hb4⟩
      have HB4 := hide (tr2 (unhide HBA) hb4)
      have HR4 := hide (ownsRow_below (unhide hrowA) hb4)
      have hz4 := (unhide HB4).size
      clear hb4 hrowA
      go_wp2_with (at_builtin; refine wpList_append_own_at _ rfl _ _ 26 rfl Wl.heap.size 9 i0 (.string ⟨#[]⟩) 1 16 Tryd.underlying26 hi0 hz0 hz1 hz2 rfl (by decide) (.slice uq un uc) _ _ rfl ((unhide HR4).alloc _) ⟨w4.heap.size, 0, none⟩ 1 1 [.string y] rfl rfl (cell_one_new _ _ _) (by simp [Value.oneCell']) (by simp only [maxLen]; omega) (by omega) (by simp; omega) ?_)
      intro u' w5 hown hgr _ _
      have HO := hide (row_strs hown)
      have HB5 : Hid (Below Wl.heap.size Wl w5) := hide (((unhide HB4).alloc hz4 _).grown hgr (by simp; omega) (fun q hq => ((unhide HR4).lt q hq).1))
      clear hown hgr
      go_wp2
      go_roundw
      case rel => exact ⟨j + 1, by omega, by go_num, by rw [unhide HT2]; exact unhide HO, unhide HB5⟩
      case measure => simp [intOf]; omega
    · have hpi : ¬ (j : Int) < (L.length : Int) := by omega
      have hje : j = L.length := by omega
      have HR : Hid (wr.ownsRow Wl.heap.size 9 1 (.slice uq un uc) (lnWs L).length ((lnWs L).map Value.string)) := hide (by rw [hje, unhide HEND] at hrow; exact hrow)
      clear hje hrow hbw
      go_wp2
      go_ret
      exact ⟨_, rfl, owns_mono (unhide HR) (unhide HBL0).size, tr2 (unhide HBL0) (unhide HBW)⟩
theorem large24_any (f : Forest) (q : Option Addr) (cap : Nat) (w : World) (hf : Fo q f w) :
    Calls Tryd.prog 4 #[.slice q f.len cap] w fun e w' => e = .returned (.bool (lgT 1 f 200).1) ∧ Below w.heap.size w w' := by
  have CL := hide (large_any f.count f (Nat.le_refl _) 1 q cap w.heap.size 200 w (w.alloc (Obj.cells #[.int .i64 200] 32)) (by omega) (Nat.le_refl _) (by omega) hf ((Below.refl _ _).alloc (Nat.le_refl _) _) (Blk.new w _ _))
  rw [show ((1 : Nat) : Int) = 1 from rfl] at CL
  generalize lgT 1 f 200 = r at *
  generalize f.len = fl at *
  clear hf
  go_enter Tryd.func4, Tryd.ntmps4
  go_wp2_with fail
  refine (unhide CL).mono ?_
  rintro e w1 ⟨rfl, _, hb⟩
  go_wp2
  go_ret
  exact ⟨rfl, hb⟩
theorem cell_one_next (w : World) (o : Obj) (x : Value) (t : TypeId) : ∀ j u, [x][j]? = some u → ((w.alloc o).alloc (Obj.cells #[x] t)).cell? ((⟨w.heap.size + 1, 0, none⟩ : Addr).add j) = some u := by
  have h := cell_one_new (w.alloc o) x t
  have e : (w.alloc o).heap.size = w.heap.size + 1 := by simp
  rw [e] at h
  exact h
set_option maxHeartbeats 4000000 in
set_option maxRecDepth 100000 in
theorem rpages_any (fa fb : Forest) (qa qb : Option Addr) (ca cb : Nat) (w : World) (ha : Fo qa fa w) (hb : Fo qb fb w) (hsa : SmF fa) (hsb : SmF fb) (hna : fa.count ≤ 400) (hnb : fb.count ≤ 400) :
    Calls Tryd.prog 8 #[.slice qa fa.len ca, .slice qb fb.len cb] w (PgSaid (pgT (lnF fa 0) (lnF fb 0)) w) := by
  obtain ⟨i0, hi0, hz0, hz1, hz2⟩ := info_parts Tryd.infoStr
  have A1 := lnF_small fa 0 hsa (by omega)
  have A2 := lnF_small fb 0 hsb (by omega)
  have L1 := lnF_len fa 0
  have L2 := lnF_len fb 0
  have CA := hide (rlines_any fa.count fa (Nat.le_refl _) (by omega) hsa 0 qa ca w (by omega) ha)
  have CB := hide (fun (W : World) (hW : Below w.heap.size w W) => rlines_any fb.count fb (Nat.le_refl _) (by omega) hsb 0 qb cb W (by omega) (hb.below hW))
  rw [show bs (spL 0) = ⟨#[]⟩ from rfl] at CA CB
  have hpg := pgT_ok (lnF fa 0) (lnF fb 0) 1000000000 A1 A2
  have CL := hide (fun (q1 q2 : Option Addr) (c1 c2 : Nat) (W : World) h1 h2 => rlists_any q1 q2 (lnF fa 0).length (lnF fb 0).length c1 c2 (lnF fa 0) (lnF fb 0) W h1 h2 (by omega) (by omega))
  unfold RlSaid at CL
  unfold PgSaid
  have HT : Hid (lsP (lnF fa 0) (lnF fb 0) 0 0 (lnP (eqT (lnF fa 0) (lnF fb 0)) (lnF fa 0).length (lnF fb 0).length 0 0) = pgT (lnF fa 0) (lnF fb 0)) := hide rfl
  rw [unhide HT] at CL
  have hLl : (pgT (lnF fa 0) (lnF fb 0)).length ≤ 800 := by omega
  have hLs := hpg.2
  generalize pgT (lnF fa 0) (lnF fb 0) = L at *
  have HLS := hide hLs
  have HTK := hide (lnWs_take L)
  have HEND : Hid (lnWs (L.take L.length) = lnWs L) := hide (by rw [List.take_length])
  generalize lnF fa 0 = la at *
  generalize lnF fb 0 = lb at *
  generalize fa.len = n1 at *
  generalize fb.len = n2 at *
  clear ha hb hsa hsb A1 A2 L1 L2 hpg HT hLs
  go_enter Tryd.func8, Tryd.ntmps8
  go_wp2_with fail
  refine Calls.mono (unhide CA) ?_
  rintro e w1 ⟨v1, rfl, hv1, hb1⟩
  have HB1 := hide hb1
  have HV1 := hide (view_of_owns hv1)
  obtain ⟨q1, c1, hq1, hc1⟩ := owns_cap hv1
  subst hq1
  clear hv1 hb1 CA
  go_wp2_with fail
  refine Calls.mono (unhide CB w1 (unhide HB1)) ?_
  rintro e w2 ⟨v2, rfl, hv2, hb2⟩
  have HB2 := hide (tr2 (unhide HB1) hb2)
  have HV2 := hide (view_of_owns hv2)
  have HV12 := hide (view_below (unhide HV1) hb2)
  obtain ⟨q2, c2, hq2, hc2⟩ := owns_cap hv2
  subst hq2
  clear hv2 hb2 CB HV1
  go_wp2_with fail
  refine Calls.mono (unhide CL q1 q2 c1 c2 w2 (unhide HV12) (unhide HV2)) ?_
  rintro e Wl ⟨v3, rfl, hv3, hb3⟩
  have HBL0 := hide (tr2 (unhide HB2) hb3)
  obtain ⟨q3, c3, hq3, _, hp3⟩ := hv3.read
  subst hq3
  have HPA := hide hp3
  clear hv3 hb3 hp3 CL HV12 HV2
  go_wp2
  go_loopw [14, 5] (fun iv u wr => ∃ j : Nat, j ≤ L.length ∧ iv = .int .i64 (j : Int) ∧ wr.ownsRow Wl.heap.size 9 1 u (lnWs (L.take j)).length ((lnWs (L.take j)).map Value.string) ∧ Below Wl.heap.size Wl wr) (fun iv _ _ => L.length - (intOf iv).toNat)
  case atStart => exact ⟨0, Nat.zero_le _, rfl, World.ownsRow_nil _ _ _ _, Below.refl _ _⟩
  case round =>
    obtain ⟨j, hj, rfl, hrow, hbw⟩ := hrel
    have HBW := hide hbw
    obtain ⟨uq, un, uc, hu⟩ := slice_of hrow
    subst hu
    by_cases hp : j < L.length
    · have hpi : (j : Int) < (L.length : Int) := by omega
      obtain ⟨g, o, rfl, hcell⟩ := (unhide HPA).below hbw (by omega)
      obtain ⟨x0, x1⟩ := hcell j hp
      have HT2 := hide (unhide HTK j hp)
      have hlt : (lnWs (L.take j)).length ≤ 800 := by rw [lnWs_len, List.length_take]; omega
      obtain ⟨hts, hkk⟩ := unhide HLS (L.getD j (0, ByteArray.empty)) (by rw [List.getD, List.getElem?_eq_getElem hp]; exact List.getElem_mem hp)
      obtain ⟨pc, hpc⟩ : ∃ pc, L.getD j (0, ByteArray.empty) = pc := ⟨_, rfl⟩
      rw [hpc] at x0 x1 HT2 hts hkk
      obtain ⟨k, t⟩ := pc
      dsimp only at x0 x1 hts hkk
      have hbA : Below wr.heap.size wr (wr.alloc (Obj.cells #[.int .i64 k, .string t] 44)) := (Below.refl _ _).alloc (Nat.le_refl _) _
      have HBA := hide (tr2 hbw hbA)
      have hzA := (unhide HBA).size
      have hzr := hbw.size
      have hrowA := hide (ownsRow_below hrow hbA)
      obtain ⟨M, hM⟩ : ∃ M, lnWs (L.take j) = M := ⟨_, rfl⟩
      rw [hM] at hrowA hlt HT2
      rcases hkk with hkk | hkk | hkk
      · subst hkk
        have hcat : ¬ 9223372036854775807 < 2 + t.size := by omega
        have HT3 : Hid (lnWs (L.take (j + 1)) = M ++ [(⟨#[32, 32]⟩ : ByteArray) ++ t]) := hide (by rw [unhide HT2, two_cat]; rfl)
        obtain ⟨y, hy⟩ : ∃ y, (⟨#[32, 32]⟩ : ByteArray) ++ t = y := ⟨_, rfl⟩
        rw [hy] at HT3
        clear hcell hpc hbA hrow hbw hM
        go_wp2_with (at_builtin; refine wpList_append_own_at _ rfl _ _ 26 rfl Wl.heap.size 9 i0 (.string ⟨#[]⟩) 1 16 Tryd.underlying26 hi0 hz0 hz1 hz2 rfl (by decide) (.slice uq un uc) _ _ rfl ((unhide hrowA).alloc _) ⟨wr.heap.size + 1, 0, none⟩ 1 1 [.string y] rfl rfl (cell_one_next _ _ _ _) (by simp [Value.oneCell']) (by simp only [maxLen]; omega) (by omega) (by simp; omega) ?_)
        intro u' w5 hown hgr _ _
        have HO := hide (row_strs hown)
        have HB5 : Hid (Below Wl.heap.size Wl w5) := hide (((unhide HBA).alloc hzA _).grown hgr (by simp; omega) (fun q hq => ((unhide hrowA).lt q hq).1))
        clear hown hgr
        go_wp2
        go_roundw
        case rel => exact ⟨j + 1, by omega, by go_num, by rw [unhide HT3]; exact unhide HO, unhide HB5⟩
        case measure => simp [intOf]; omega
      · subst hkk
        have hcat : ¬ 9223372036854775807 < 2 + t.size := by omega
        have HT3 : Hid (lnWs (L.take (j + 1)) = M ++ [(⟨#[45, 32]⟩ : ByteArray) ++ t]) := hide (by rw [unhide HT2, two_cat]; rfl)
        obtain ⟨y, hy⟩ : ∃ y, (⟨#[45, 32]⟩ : ByteArray) ++ t = y := ⟨_, rfl⟩
        rw [hy] at HT3
        clear hcell hpc hbA hrow hbw hM
        go_wp2_with (at_builtin; refine wpList_append_own_at _ rfl _ _ 26 rfl Wl.heap.size 9 i0 (.string ⟨#[]⟩) 1 16 Tryd.underlying26 hi0 hz0 hz1 hz2 rfl (by decide) (.slice uq un uc) _ _ rfl ((unhide hrowA).alloc _) ⟨wr.heap.size + 1, 0, none⟩ 1 1 [.string y] rfl rfl (cell_one_next _ _ _ _) (by simp [Value.oneCell']) (by simp only [maxLen]; omega) (by omega) (by simp; omega) ?_)
        intro u' w5 hown hgr _ _
        have HO := hide (row_strs hown)
        have HB5 : Hid (Below Wl.heap.size Wl w5) := hide (((unhide HBA).alloc hzA _).grown hgr (by simp; omega) (fun q hq => ((unhide hrowA).lt q hq).1))
        clear hown hgr
        go_wp2
        go_roundw
        case rel => exact ⟨j + 1, by omega, by go_num, by rw [unhide HT3]; exact unhide HO, unhide HB5⟩
        case measure => simp [intOf]; omega
      · subst hkk
        have hcat : ¬ 9223372036854775807 < 2 + t.size := by omega
        have HT3 : Hid (lnWs (L.take (j + 1)) = M ++ [(⟨#[43, 32]⟩ : ByteArray) ++ t]) := hide (by rw [unhide HT2, two_cat]; rfl)
        obtain ⟨y, hy⟩ : ∃ y, (⟨#[43, 32]⟩ : ByteArray) ++ t = y := ⟨_, rfl⟩
        rw [hy] at HT3
        clear hcell hpc hbA hrow hbw hM
        go_wp2_with (at_builtin; refine wpList_append_own_at _ rfl _ _ 26 rfl Wl.heap.size 9 i0 (.string ⟨#[]⟩) 1 16 Tryd.underlying26 hi0 hz0 hz1 hz2 rfl (by decide) (.slice uq un uc) _ _ rfl ((unhide hrowA).alloc _) ⟨wr.heap.size + 1, 0, none⟩ 1 1 [.string y] rfl rfl (cell_one_next _ _ _ _) (by simp [Value.oneCell']) (by simp only [maxLen]; omega) (by omega) (by simp; omega) ?_)
        intro u' w5 hown hgr _ _
        have HO := hide (row_strs hown)
        have HB5 : Hid (Below Wl.heap.size Wl w5) := hide (((unhide HBA).alloc hzA _).grown hgr (by simp; omega) (fun q hq => ((unhide hrowA).lt q hq).1))
        clear hown hgr
        go_wp2
        go_roundw
        case rel => exact ⟨j + 1, by omega, by go_num, by rw [unhide HT3]; exact unhide HO, unhide HB5⟩
        case measure => simp [intOf]; omega
    · have hpi : ¬ (j : Int) < (L.length : Int) := by omega
      have hje : j = L.length := by omega
      have HR : Hid (wr.ownsRow Wl.heap.size 9 1 (.slice uq un uc) (lnWs L).length ((lnWs L).map Value.string)) := hide (by rw [hje, unhide HEND] at hrow; exact hrow)
      clear hje hrow hbw
      go_wp2
      go_ret
      exact ⟨_, rfl, owns_mono (unhide HR) (unhide HBL0).size, tr2 (unhide HBL0) (unhide HBW)⟩
set_option maxHeartbeats 2000000 in
theorem wordsPages_walk (fa fb : Forest) (qa qb : Option Addr) (ca cb : Nat) (w : World) (ht : Tabs w) (hm : MxJ w) (ha : Fo qa fa w) (hb : Fo qb fb w) :
    Calls Tryd.prog 3 #[.slice qa fa.len ca, .slice qb fb.len cb] w fun e w' => e = .returned (.bool true) ∧ Below w.heap.size w w' := by
  have C := hide abc_any
  have GA := hide (large24_any fa qa ca w ha)
  have GB := hide (fun (W : World) (hW : Below w.heap.size w W) => large24_any fb qb cb W (hb.below hW))
  obtain ⟨la, lNa, hla⟩ : ∃ lb lN, lgT 1 fa 200 = (lb, lN) := ⟨_, _, rfl⟩
  obtain ⟨lb, lNb, hlb⟩ : ∃ lb lN, lgT 1 fb 200 = (lb, lN) := ⟨_, _, rfl⟩
  rw [hla] at GA
  rw [hlb] at GB
  dsimp only at GA GB
  cases la with
  | true =>
    generalize fa.len = n1 at *
    generalize fb.len = n2 at *
    clear ht hm ha hb hla hlb
    go_enter Tryd.func3, Tryd.ntmps3
    go_wp2_with fail
    refine Calls.mono (unhide GA) ?_
    rintro e w1 ⟨rfl, hb1⟩
    have HB1 := hide hb1
    clear hb1
    go_wp2_with fail
    refine Calls.mono (unhide C _) ?_
    rintro e w2 ⟨rfl, hb2⟩
    go_wp2
    go_ret
    exact ⟨rfl, tr2 (unhide HB1) hb2⟩
  | false =>
    cases lb with
    | true =>
      generalize fa.len = n1 at *
      generalize fb.len = n2 at *
      clear ht hm ha hb hla hlb
      go_enter Tryd.func3, Tryd.ntmps3
      go_wp2_with fail
      refine Calls.mono (unhide GA) ?_
      rintro e w1 ⟨rfl, hb1⟩
      have HB1 := hide hb1
      clear hb1
      go_wp2_with fail
      refine Calls.mono (unhide GB w1 (unhide HB1)) ?_
      rintro e w2 ⟨rfl, hb2⟩
      have HB2 := hide (tr2 (unhide HB1) hb2)
      clear hb2
      go_wp2_with fail
      refine Calls.mono (unhide C _) ?_
      rintro e w3 ⟨rfl, hb3⟩
      go_wp2
      go_ret
      exact ⟨rfl, tr2 (unhide HB2) hb3⟩
    | false =>
      obtain ⟨hsa, hna⟩ := lgT_small (by omega) hla
      obtain ⟨hsb, hnb⟩ := lgT_small (by omega) hlb
      have hra := lgT_room 1 fa 200 lNa hla
      have hrb := lgT_room 1 fb 200 lNb hlb
      have CP := hide (fun (W : World) (hW : Below w.heap.size w W) => wpages_any fa fb qa qb ca cb W (ht.below hW) (hm.below hW) (ha.below hW) (hb.below hW) hsa hsb (by omega) (by omega))
      have CR := hide (fun (W : World) (hW : Below w.heap.size w W) => rpages_any fa fb qa qb ca cb W (ha.below hW) (hb.below hW) hsa hsb (by omega) (by omega))
      unfold PgSaid at CP CR
      generalize pgT (lnF fa 0) (lnF fb 0) = L at *
      generalize fa.len = n1 at *
      generalize fb.len = n2 at *
      clear ht hm ha hb hla hlb hsa hsb hna hnb hra hrb
      go_enter Tryd.func3, Tryd.ntmps3
      go_wp2_with fail
      refine Calls.mono (unhide GA) ?_
      rintro e w1 ⟨rfl, hb1⟩
      have HB1 := hide hb1
      clear hb1
      go_wp2_with fail
      refine Calls.mono (unhide GB w1 (unhide HB1)) ?_
      rintro e w2 ⟨rfl, hb2⟩
      have HB2 := hide (tr2 (unhide HB1) hb2)
      clear hb2
      go_wp2_with fail
      refine Calls.mono (unhide CP w2 (unhide HB2)) ?_
      rintro e w3 ⟨v3, rfl, hv3, hb3⟩
      have HB3 := hide (tr2 (unhide HB2) hb3)
      have HV3 := hide (view_of_owns hv3)
      obtain ⟨q3, c3, hq3, _⟩ := owns_cap hv3
      subst hq3
      clear hv3 hb3
      go_wp2_with fail
      refine Calls.mono (unhide CR w3 (unhide HB3)) ?_
      rintro e w4 ⟨v4, rfl, hv4, hb4⟩
      have HB4 := hide (tr2 (unhide HB3) hb4)
      have HV34 := hide (view_below (unhide HV3) hb4)
      have HV4 := hide (view_of_owns hv4)
      obtain ⟨q4, c4, hq4, _⟩ := owns_cap hv4
      subst hq4
      have CX := hide (texts_any _ _ (lnWs L) (lnWs L) w4 (unhide HV34) (unhide HV4))
      rw [sameT_refl] at CX
      clear hv4 hb4 HV3 HV34 HV4
      go_wp2_with fail
      refine Calls.mono (unhide CX) ?_
      rintro e w5 ⟨rfl, hb5⟩
      have HB5 := hide (tr2 (unhide HB4) hb5)
      clear hb5 CX
      go_wp2_with fail
      refine Calls.mono (unhide C _) ?_
      rintro e w6 ⟨rfl, hb6⟩
      go_wp2
      go_ret
      exact ⟨rfl, tr2 (unhide HB5) hb6⟩
end Go.Proofs.YtfbgpodcdgmpjaaDoor

namespace Go.Proofs.YtfbgpodcdgmpjaaDoor.wordsPagesF
open Go.ChangeShapes Go.WideShapes Go.ChangeAt Go.RowKit
open Go.ChangeMaps (open_string shut_string)
set_option linter.unusedVariables false

theorem own : ownKnob Tryd.prog.godebug = none := by kernel_rfl
theorem gHeads : Tryd.prog.globalNamed "recto/utf.heads" = some 1 := by kernel_rfl
theorem gEnds : Tryd.prog.globalNamed "recto/utf.ends" = some 2 := by kernel_rfl
theorem gHeadsType : (Tryd.prog.globals[1]?).map (·.type) = some 127 := by kernel_rfl
theorem gEndsType : (Tryd.prog.globals[2]?).map (·.type) = some 127 := by kernel_rfl
theorem cellsArr : Tryd.prog.cellsOf 127 = 5 := by kernel_rfl
theorem cellsInt : Tryd.prog.cellsOf 3 = 1 := by kernel_rfl

/-- What the row's list gives: the two tables' cells. -/
theorem laid_tail {x : String × DataW Unit} {rest : List (String × DataW Unit)} {W : World} (h : laidMet Tryd.prog (x :: rest) W) : laidMet Tryd.prog rest W := by
  obtain ⟨ps, ⟨g1, t1, cs1, f1, p1, q1, _, _, _, _, hrest, rfl⟩, hnd, hcell⟩ := h
  exact ⟨q1, hrest, (List.nodup_append.1 hnd).2.1, fun b off hm => hcell b off (List.mem_append_right _ hm)⟩
theorem heads {W : World} (h : laidMetH Tryd.prog Rows.wordsPagesRow.laid W) : Lib.TabIs Tryd.prog W "recto/utf.heads" .i64 [0, 0, 192, 224, 240] := by
  have h0 : laidMet Tryd.prog [("unicode/utf8.acceptRanges", Rows.laid_unicode_utf8_acceptRanges), ("recto/utf.heads", Rows.laid_recto_utf_heads), ("recto/utf.ends", Rows.laid_recto_utf_ends), ("unicode/utf8.first", Rows.laid_unicode_utf8_first)] W := h
  exact Lib.tabIs_of_head gHeads gHeadsType Tryd.underlying127 Tryd.underlying3 cellsInt cellsArr (laid_tail h0)
theorem ends {W : World} (h : laidMetH Tryd.prog Rows.wordsPagesRow.laid W) : Lib.TabIs Tryd.prog W "recto/utf.ends" .i64 [0, 128, 2048, 65536, 1114112] := by
  have h0 : laidMet Tryd.prog [("unicode/utf8.acceptRanges", Rows.laid_unicode_utf8_acceptRanges), ("recto/utf.heads", Rows.laid_recto_utf_heads), ("recto/utf.ends", Rows.laid_recto_utf_ends), ("unicode/utf8.first", Rows.laid_unicode_utf8_first)] W := h
  exact Lib.tabIs_of_head gEnds gEndsType Tryd.underlying127 Tryd.underlying3 cellsInt cellsArr (laid_tail (laid_tail h0))
theorem tabs {W : World} (h : laidMetH Tryd.prog Rows.wordsPagesRow.laid W) : Tabs W :=
  ⟨(heads h).cell gHeads 1 (by decide), (heads h).cell gHeads 2 (by decide), (heads h).cell gHeads 3 (by decide), (heads h).cell gHeads 4 (by decide),
   (ends h).cell gEnds 1 (by decide), (ends h).cell gEnds 2 (by decide), (ends h).cell gEnds 3 (by decide), (ends h).cell gEnds 4 (by decide)⟩

theorem laidOut : laidOutB Tryd.prog = true := by kernel_rfl
theorem mx {W : World} (h : W.ShapedOpen Tryd.prog) : MxJ W :=
  Go.Proofs.cell_of_shapedOpen_int (zero := #[.int .i64 0]) (t := 3) h (of_decide_eq_true (by kernel_rfl)) (by kernel_rfl) rfl (by kernel_rfl) (by kernel_rfl) Tryd.underlying3

set_option maxRecDepth 100000 in
theorem contract (H : Type) (enc : TypeId × Value → H) (W : World) (base : Nat) (args : Array Value) (ds gs : List (DataW H)) (before : List MemPlace)
    (hval : ∀ (j : Nat) t v, Tryd.f3.params[j]? = some t → args[j]? = some v → Value.okWide Tryd.prog W .any base t v)
    (hW : DataW.Whole enc Tryd.prog Tryd.f3.params.toList Rows.wordsPagesSpec.vars false W args.toList ds gs before) (hL : laidMetH Tryd.prog Rows.wordsPagesRow.laid W) (hSO : W.ShapedOpen Tryd.prog) :
    Calls Tryd.prog 3 args W fun e W' => ∃ v, e = .returned v ∧ Rows.wordsPagesSpec.post enc Tryd.prog Tryd.f3 false true false false W args v W' := by
  have hW' := hW
  obtain ⟨p, q, hA0, hV, rfl, hfz, hnd⟩ := hW
  have hA : DataW.TrodAll enc Tryd.prog W 0 (fun _ => true) true Tryd.f3.params.toList args.toList ds p := hA0
  rw [Tryd.params3] at hA hval
  obtain ⟨v0, vs0, d0, ds0, p0, q0, hargs, rfl, rfl, h0, r0⟩ := trodAll_cons hA
  obtain ⟨v1, vs1, d1, ds1, p1, q1, rfl, rfl, rfl, h1, r1⟩ := trodAll_cons r0
  obtain ⟨rfl, rfl, rfl⟩ := trodAll_nil r1
  obtain rfl : args = #[v0, v1] := by cases args; simp_all
  obtain ⟨rfl, rfl⟩ := trodVars_none hV
  have hlt0 : ∀ x ∈ p0, x.block < W.heap.size := fun x hx => hW'.lt x (by simp [hx])
  obtain ⟨q0', len0, cap0, rfl⟩ := okWide_slice Tryd.underlying22 (hval 0 22 v0 rfl rfl)
  obtain ⟨f0, rfl, hcap0, hfo0⟩ := open_nodes h0
  have hlt1 : ∀ x ∈ p1, x.block < W.heap.size := fun x hx => hW'.lt x (by simp [hx])
  obtain ⟨q1', len1, cap1, rfl⟩ := okWide_slice Tryd.underlying22 (hval 1 22 v1 rfl rfl)
  obtain ⟨f1, rfl, hcap1, hfo1⟩ := open_nodes h1
  clear hA0
  refine (wordsPages_walk f0 f1 q0' q1' cap0 cap1 W (tabs hL) (mx hSO) hfo0 hfo1).mono fun e W' ⟨he, bel⟩ => ?_
  subst he
  exact ⟨_, rfl, _, _, _, [], _, [], hW', trodAll_mk1 (shut_bool Tryd.underlying4 _), (trodAll_cons_mk (Below.trod laidOut (by kernel_rfl) (of_decide_eq_true (by kernel_rfl)) h0 bel hlt0) (trodAll_cons_mk (Below.trod laidOut (by kernel_rfl) (of_decide_eq_true (by kernel_rfl)) h1 bel hlt1) trodAll_mk0)), rfl, bel.frame _, fun h => by cases h⟩

/-- What the tables' initialisers lay. -/
def lay0 : Obj → Obj
  | .cells _ t frozen => .cells #[.int .i64 0, .int .i64 0, .int .i64 192, .int .i64 224, .int .i64 240] t frozen
  | o => o
def lay1 : Obj → Obj
  | .cells _ t frozen => .cells #[.int .i64 0, .int .i64 128, .int .i64 2048, .int .i64 65536, .int .i64 1114112] t frozen
  | o => o
def layF : Obj → Obj
  | .cells _ t frozen => .cells (Go.Pinned.utf8FirstZ.map (fun z => Value.int .u8 (z : Nat))).toArray t frozen
  | o => o
def layR : Obj → Obj
  | .cells _ t frozen => .cells #[.int .u8 128, .int .u8 191, .int .u8 160, .int .u8 191, .int .u8 128, .int .u8 159, .int .u8 144, .int .u8 191, .int .u8 128, .int .u8 143, .int .u8 0, .int .u8 0, .int .u8 0, .int .u8 0, .int .u8 0, .int .u8 0, .int .u8 0, .int .u8 0, .int .u8 0, .int .u8 0, .int .u8 0, .int .u8 0, .int .u8 0, .int .u8 0, .int .u8 0, .int .u8 0, .int .u8 0, .int .u8 0, .int .u8 0, .int .u8 0, .int .u8 0, .int .u8 0] t frozen
  | o => o
set_option maxRecDepth 100000 in
theorem laid_met (os : Os) : laidMet Tryd.prog Rows.wordsPagesRow.laid (({ World.holding Tryd.prog os ⟨#[], #[], []⟩ with heap := ((((World.holding Tryd.prog os ⟨#[], #[], []⟩).heap.modify 1 lay0).modify 2 lay1).modify 3 layF).modify 4 layR } : World).forCall (fun _ _ => 0) ⟨#[], #[.slice none 0 0, .slice none 0 0], []⟩).memory :=
  laidMet_of_run' 8 (by kernel_rfl) (by kernel_rfl)
theorem reads (os : Os) {H : Type} (enc : TypeId × Value → H) : ∃ places, DataW.whole enc Tryd.prog (({ World.holding Tryd.prog os ⟨#[], #[], []⟩ with heap := ((((World.holding Tryd.prog os ⟨#[], #[], []⟩).heap.modify 1 lay0).modify 2 lay1).modify 3 layF).modify 4 layR } : World).forCall (fun _ _ => 0) ⟨#[], #[.slice none 0 0, .slice none 0 0], []⟩).memory Tryd.f3.params.toList Rows.wordsPagesSpec.vars false #[Value.slice none 0 0, Value.slice none 0 0].toList 8 = some ([.nil, .nil], [], places) :=
  ⟨[], by kernel_rfl⟩

set_option maxRecDepth 100000 in
theorem lifted (os : Os) (started : os.Started) (H : Type) (enc : TypeId × Value → H) (F : Stop.Interp) :
    ReturnsInHanded {} Tryd.checked os 3 .any ((OpenSpec.ofChange Rows.wordsPagesSpec).preRow enc Tryd.prog Tryd.f3 Rows.wordsPagesRow.domain false Rows.wordsPagesRow.laid) (((OpenSpec.ofChange Rows.wordsPagesSpec).at F).post enc Tryd.prog Tryd.f3 false true false false) := by
  obtain ⟨places, hx⟩ := reads os enc
  refine returnsInHanded_of_row (C := Tryd.checked) (s := OpenSpec.ofChange Rows.wordsPagesSpec) own started (by kernel_rfl) Tryd.func3
    (witness_row_at (enc := enc) (C := Tryd.checked) false ({ World.holding Tryd.prog os ⟨#[], #[], []⟩ with heap := ((((World.holding Tryd.prog os ⟨#[], #[], []⟩).heap.modify 1 lay0).modify 2 lay1).modify 3 layF).modify 4 layR } : World) #[.slice none 0 0, .slice none 0 0] rfl (by kernel_rfl) (by kernel_rfl) (by kernel_rfl)
      (OpenSpec.preRow_of_cond 8 hx (by kernel_rfl) (fun k hk => by cases hk) (by kernel_rfl) (laid_met os))) ?_
  intro W base args ds gs before hval hW _ _ _ hL hSO _
  exact contract H enc W base args ds gs before hval hW hL hSO

theorem said : Rows.WordsPagesSaid :=
  OpenClaim.holds_of_cond 3 Tryd.f3 rfl rfl rfl rfl rfl rfl rfl ⟨rfl, rfl, rfl, rfl, rfl⟩ rfl rfl rfl rfl rfl (by kernel_rfl) Tryd.func3 (by kernel_rfl)
    (of_decide_eq_true (by kernel_rfl)) (by unfold Func.isWrapper; first | (rw [if_pos (by decide +kernel)]; kernel_rfl) | (rw [if_neg (by decide +kernel)]; exact ⟨rfl, rfl⟩))
    (fun os started H enc _ F => by rw [OpenClaim.pre_eq_preRow]; exact lifted os started H enc F)

theorem plain (f : FuncId) (fn : Func) (hf : Tryd.pinned.checked.prog.funcNamed "recto/rectolaw24.WordsPages" = some f) (hfn : Tryd.pinned.checked.prog.funcs[f]? = some fn) :
    false = Tryd.pinned.checked.prog.looks [] ∧ ∀ (j : Nat) t, fn.params[j]? = some t → Tryd.pinned.checked.prog.wantsStandIn t = false := by
  obtain rfl : f = 3 := Option.some.inj ((show Tryd.prog.funcNamed "recto/rectolaw24.WordsPages" = some 3 by kernel_rfl).symm.trans hf) |>.symm
  obtain rfl : fn = Tryd.f3 := (Option.some.inj (Tryd.func3.symm.trans hfn)).symm
  refine ⟨by kernel_rfl, fun j t ht => ?_⟩
  rw [Tryd.params3] at ht
  obtain rfl : t = 22 := by simpa using Array.mem_of_getElem? ht
  exact (show Tryd.prog.wantsStandIn 22 = false by kernel_rfl)

theorem card : Rows.WordsPagesCardSaid :=
  Claim7.holds_tied_plain_at .later [] _ _ _ _ said (fun _ h => by cases h) (by kernel_rfl) (fun _ h => by cases h) wordsPages_row_tie rfl ⟨rfl, rfl⟩ (by kernel_rfl) rfl plain (by kernel_rfl)
end Go.Proofs.YtfbgpodcdgmpjaaDoor.wordsPagesF

namespace Go.Proofs.YtfbgpodcdgmpjaaDoor
theorem wordsPages_card : Rows.WordsPagesCardSaid := wordsPagesF.card
end Go.Proofs.YtfbgpodcdgmpjaaDoor
