/-
  Several texts in one: what the functions of the program and of the document's answer do.
-/
import Derived.Test.YtfdhmhdemfbfeaaGreatDoorMgAN
import Derived.Lib.SliceRun

/-
  'policy.hasRulesOnce': whether no two rules have one name.
-/
namespace Go.Proofs.YtfdhmhdemfbfeaaGreatDoor
open Go.RowKit
set_option linter.unusedVariables false

def nmsK (rs : List PRul) (k : Nat) : List ByteArray := (rs.take k).map PRul.nm
theorem nmsK_next (rs : List PRul) (k : Nat) (h : k < rs.length) : nmsK rs (k + 1) = nmsK rs k ++ [(rs.getD k noR).nm] := by
  rw [nmsK, List.take_add_one, List.getElem?_eq_getElem h, List.getD, List.getElem?_eq_getElem h, List.map_append]; rfl
theorem nmsK_len (rs : List PRul) (k : Nat) (h : k ≤ rs.length) : (nmsK rs k).length = k := by rw [nmsK, List.length_map, List.length_take]; omega
theorem nmsK_all (rs : List PRul) : nmsK rs rs.length = rs.map PRul.nm := by rw [nmsK, List.take_length]

set_option maxHeartbeats 2000000 in
theorem once_any (v : Value) (p : PPol) (w : World) (hv : PolV w v p) (h60 : p.rs.length ≤ 60) :
    Calls Tryz.prog 44 #[v] w fun e w' => e = .returned (.bool (!twB (p.rs.map PRul.nm))) ∧ Below w.heap.size w w' := by
  obtain ⟨vr, vs, rfl, h1, h2⟩ := hv
  obtain ⟨a2, c2, rfl⟩ := h2.slice
  have HRV := hide h1
  obtain ⟨_, a1, c1, rfl, _⟩ := h1
  unfold polC
  clear h2
  obtain ⟨rs, sc, ot, st⟩ := p
  dsimp only at *
  have CT := hide (fun v w h => twice_any v (rs.map PRul.nm) w h)
  generalize twB (rs.map PRul.nm) = D at *
  have HA := hide (nmsK_all rs)
  have HL := hide (nmsK_len rs)
  generalize sc.length = n2 at *
  obtain ⟨i0, hi, hz0, hz1, hz2⟩ := info_parts Tryz.infoStr
  go_enter Tryz.func44, Tryz.ntmps44
  go_wp2
  go_loopw [3, 9] (fun x i wr => ∃ (k : Nat) (vn : Value), k ≤ rs.length ∧ i = .int .i64 k ∧ vn = x ∧ wr.ownsRow w.heap.size 9 1 vn k ((nmsK rs k).map Value.string) ∧ Below w.heap.size w wr) (fun _ i _ => rs.length - (intOf i).toNat)
  case atStart => exact ⟨0, _, Nat.zero_le _, rfl, rfl, World.ownsRow_nil _ _ _ _, (Below.refl _ _).alloc (Nat.le_refl _) _⟩
  case round =>
    obtain ⟨k, vn, hk, rfl, rfl, hown, hbw⟩ := hrel
    have hsz := hbw.size
    by_cases hp : k < rs.length
    · have hpi : (k : Int) < (rs.length : Int) := by omega
      obtain ⟨_, a9, c9, e9, hcs⟩ := (unhide HRV).below hbw
      cases e9
      obtain ⟨b, off, rfl, hcell⟩ := hcs (by omega)
      obtain ⟨va, vl, d0, d1, d2, d3, hva, hvl⟩ := hcell k hp
      obtain ⟨q1, m1, rfl⟩ := hva.1.slice
      obtain ⟨q2, m2, rfl⟩ := hvl.1.slice
      have hnx := hide (nmsK_next rs k hp)
      have hlk := hide (nmsK_len rs k hk)
      clear hcell hva hvl
      generalize rs.getD k noR = r at *
      obtain ⟨nm, ac, ats, lks⟩ := r
      dsimp only at *
      generalize ats.length = l1 at *
      generalize lks.length = l2 at *
      go_wp2_with (at_builtin; refine wpList_append_own _ rfl _ _ 23 rfl w.heap.size 9 i0 (.string ⟨#[]⟩) 1 16 Tryz.underlying23 hi hz0 hz1 hz2 rfl (by decide) _ _ _ rfl ((hown.alloc _).alloc _) ⟨wr.heap.size + 1, 0, none⟩ 1 1 [.string nm] rfl rfl ?c1 ?c2 ?c3 ?c4 ?c5 ?_)
      case c1 =>
        intro j u hj
        match j with
        | 0 =>
          cases hj
          have h9 := (Blk.new (wr.alloc (Obj.cells #[.string nm, .int .i64 ac, .slice q1 l1 m1, .slice q2 l2 m2] 41)) #[.string nm] 9).cell 0
          rw [show (wr.alloc (Obj.cells #[.string nm, .int .i64 ac, .slice q1 l1 m1, .slice q2 l2 m2] 41)).heap.size = wr.heap.size + 1 from by simp] at h9
          exact h9
        | j + 1 => simp at hj
      case c2 => intro u hu; simp at hu; subst hu; rfl
      case c3 => unfold maxLen; omega
      case c4 => omega
      case c5 => simp; omega
      intro v' w2 hown' hgrow _
      have hbig : Below w.heap.size w w2 := ((hbw.alloc (by omega) _).alloc (by simp; omega) _).grown hgrow (by simp; omega) (fun j hj => (hown.lt j hj).1)
      clear hgrow
      go_wp2
      go_roundw
      case rel => exact ⟨k + 1, _, by omega, by go_num, rfl, by rw [unhide hnx, List.map_append]; exact hown', hbig⟩
      case measure => simp [intOf]; omega
    · have hkn : k = rs.length := by omega
      have hv : TxV wr vn (rs.map PRul.nm) := by
        have h3 := hown
        rw [hkn, unhide HA] at h3
        refine tx_of_owns (base := w.heap.size) ?_
        rw [List.length_map]
        exact h3
      obtain ⟨an, cn, hvn⟩ := hv.view.slice
      rw [List.length_map] at hvn
      subst hvn
      have C := hide (unhide CT _ _ hv)
      clear hv hown
      go_wp2_with fail
      refine (unhide C).mono ?_
      rintro e1 w1 ⟨rfl, hw1⟩
      obtain rfl : wr = w1 := hw1.symm
      go_wp2
      go_ret
      exact ⟨rfl, hbw⟩
end Go.Proofs.YtfdhmhdemfbfeaaGreatDoor

/-
  slices.Grow of nothing, slices.Concat of two lists of texts; 'policy.hasNamesOnce'.
-/
namespace Go.Proofs.YtfdhmhdemfbfeaaGreatDoor
open Go.RowKit
set_option linter.unusedVariables false

set_option maxHeartbeats 1000000 in
theorem grow0_any (w : World) :
    Calls Tryz.prog 79 #[.slice none 0 0, .int .i64 0] w fun e w' => e = .returned (.slice none 0 0) ∧ w' = w := by
  go_enter Tryz.func79, Tryz.ntmps79
  go_wp2
  go_ret
  exact ⟨rfl, rfl⟩

set_option maxHeartbeats 1000000 in
theorem grow_any (n : Nat) (w : World) (h0 : 0 < n) (h1 : n ≤ 100) :
    Calls Tryz.prog 79 #[.slice none 0 0, .int .i64 (n : Int)] w fun e w' => ∃ cap, e = .returned (.slice (some ⟨w.heap.size, 0, none⟩) 0 cap) ∧ w'.ownsRow w.heap.size 9 1 (.slice (some ⟨w.heap.size, 0, none⟩) 0 cap) 0 [] ∧ Below w.heap.size w w' := by
  obtain ⟨i0, hi, hz0, hz1, hz2⟩ := info_parts Tryz.infoStr
  have hr := fun ty => Lib.run_append_grow_zeros (P := Tryz.prog) w 23 3 ty 9 i0 (.string ⟨#[]⟩) .i64 .i64 Tryz.underlying23 Tryz.underlying3 hi hz0 none 0 0 [] (run_firstCells_none w.drew i0.size 0 0 0) n h0 (by omega) (by omega) (by omega) (by rw [hz2]; omega) (growslice_fits (by omega) (by rw [hz2]; omega))
  rw [Nat.zero_add] at hr
  have hGn : n ≤ grownCap w n 0 9 := grownCap_ge w _ _ _
  have hGm := grownCap_le_maxLen w n 0 9 (by unfold maxLen; omega)
  generalize grownCap w n 0 9 = G at *
  have hG63 : G ≤ 9223372036854775807 := by unfold maxLen at hGm; omega
  have hni : (0 : Int) < (n : Int) := by omega
  have hni2 : decide ((n : Int) < 0) = false := by simp
  have hcs : ((Value.string ⟨#[]⟩ : Value).cells).size = 1 := rfl
  have hzz : ∀ k, (Builtin.zeroCells (Value.string ⟨#[]⟩ : Value).cells k).size = k := fun k => by simp [Builtin.zeroCells, hcs]
  generalize hC : (([] : List Value).toArray ++ Builtin.zeroCells (Value.string ⟨#[]⟩ : Value).cells n ++ Builtin.zeroCells (Value.string ⟨#[]⟩ : Value).cells (G - n)) = C at hr
  have hCs : C.size = G := by rw [← hC]; simp [hzz]; omega
  have HO : Hid ((w.drew.alloc (.cells C 9)).ownsRow w.heap.size 9 1 (.slice (some ⟨w.heap.size, 0, none⟩) 0 G) 0 []) := hide (by
    refine ⟨rfl, .inr ⟨w.heap.size, G, C, rfl, Nat.le_refl _, ?_, Nat.zero_le _, hGm, by rw [hCs]; omega, by simp⟩⟩
    exact heap_alloc_new _ _)
  clear hC hcs hzz
  go_enter Tryz.func79, Tryz.ntmps79
  go_wp2_with (at_builtin; refine wpList_append_run _ rfl _ _ _ _ rfl _ _ rfl rfl (hr _) ?_)
  go_wp2
  go_ret
  exact ⟨G, rfl, unhide HO, ((Below.refl _ _).drew).alloc (by simp) _⟩

theorem grown_any (n : Nat) (w : World) (h1 : n ≤ 100) :
    Calls Tryz.prog 79 #[.slice none 0 0, .int .i64 (n : Int)] w fun e w' => ∃ q cap, e = .returned (.slice q 0 cap) ∧ w'.ownsRow w.heap.size 9 1 (.slice q 0 cap) 0 [] ∧ Below w.heap.size w w' := by
  by_cases h0 : n = 0
  · subst h0
    refine (grow0_any w).mono ?_
    rintro e w' ⟨rfl, rfl⟩
    exact ⟨none, 0, rfl, World.ownsRow_nil _ _ _ _, Below.refl _ _⟩
  · refine (grow_any n w (by omega) h1).mono ?_
    rintro e w' ⟨cap, rfl, h2, h3⟩
    exact ⟨_, cap, rfl, h2, h3⟩

theorem news_of {w : World} {b off cap : Nat} {zs : List ByteArray} (hc : 0 < zs.length → ∃ b' off', (some ⟨b, off, none⟩ : Option Addr) = some ⟨b', off', none⟩ ∧ ∀ i, i < zs.length → w.cell? ⟨b', off' + i, none⟩ = some (.string (zs.getD i ByteArray.empty))) :
    ∀ j u, (zs.map Value.string)[j]? = some u → w.cell? ((⟨b, off, none⟩ : Addr).add j) = some u := by
  intro j u hj
  have hjl : j < zs.length := by
    rcases Nat.lt_or_ge j zs.length with h | h
    · exact h
    · rw [List.getElem?_eq_none (by simpa using h)] at hj; cases hj
  obtain ⟨b', off', e, h⟩ := hc (by omega)
  cases e
  have h2 := h j hjl
  rw [List.getElem?_map, List.getElem?_eq_getElem hjl] at hj
  rw [List.getD, List.getElem?_eq_getElem hjl] at h2
  have e2 : (⟨b, off, none⟩ : Addr).add j = ⟨b, off + j, none⟩ := by unfold Addr.add; split <;> simp_all
  rw [e2, h2]
  exact hj
theorem one_str (zs : List ByteArray) : ∀ u ∈ zs.map Value.string, u.oneCell' = true := by
  intro u hu
  obtain ⟨s, _, rfl⟩ := List.mem_map.1 hu
  rfl
/-- A source of an append: nothing at all, or cells. -/
def Src (w : World) (v : Value) (zs : List ByteArray) : Prop := (v = .slice none 0 0 ∧ zs = []) ∨ ∃ ad cap, v = .slice (some ad) zs.length cap ∧ ∀ j u, (zs.map Value.string)[j]? = some u → w.cell? (ad.add j) = some u
theorem src_of {w : World} {v : Value} {zs : List ByteArray} (h : ViewN w v zs) : Src w v zs := by
  obtain ⟨⟨h1, a, cap, rfl, hc⟩, hn⟩ := h
  cases a with
  | none =>
    left
    have h0 : zs.length = 0 := by
      rcases Nat.eq_zero_or_pos zs.length with h | h
      · exact h
      · obtain ⟨b, off, e, _⟩ := hc h; cases e
    rw [h0, hn _ _ rfl]
    exact ⟨rfl, List.eq_nil_of_length_eq_zero h0⟩
  | some ad =>
    right
    refine ⟨ad, cap, rfl, ?_⟩
    by_cases h0 : 0 < zs.length
    · obtain ⟨b, off, e, h⟩ := hc h0
      cases e
      exact news_of (cap := cap) hc
    · have hz : zs = [] := List.eq_nil_of_length_eq_zero (by omega)
      subst hz
      intro j u hj
      simp at hj
end Go.Proofs.YtfdhmhdemfbfeaaGreatDoor
