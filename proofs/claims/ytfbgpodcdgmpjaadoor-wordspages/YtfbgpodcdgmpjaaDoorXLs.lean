/-
  What the closure of 'words.Lists' does.
-/
import Derived.Test.YtfbgpodcdgmpjaaDoorMgAO
import Derived.Test.YtfbgpodcdgmpjaaDoorMLs
import Derived.Deep.RegionHeld
namespace Go.Proofs.YtfbgpodcdgmpjaaDoor
open Go.RowKit
set_option linter.unusedVariables false
set_option linter.unusedSimpArgs false

theorem run_partT (q : Option Addr) (n c s x : Nat) (h : s ≤ x) (hx : x ≤ c) (w : World) : (Instr.slice 26 (.slice q n c) (some (.int .i64 (s : Int))) (some (.int .i64 (x : Int))) none).run Tryd.prog w = .ok (.slice (fromQ q s c) (x - s) (c - s)) w := by
  have ht : Tryd.prog.underlying 26 = some (.slice (Tryd.prog.elem 26)) := by kernel_rfl
  have hs : (sizeOf (Tryd.prog.elem 26)).run Tryd.prog w = .ok 1 w := by kernel_rfl
  rw [run_slice_lh w 26 q n c ht .i64 .i64 (s : Int) (x : Int) (by omega) (by omega) (by omega), hs]
  simp [Result.andThen, sliced, fromQ]
theorem view_part {w : World} {q : Option Addr} {n c : Nat} {ss : List ByteArray} (h : View w (.slice q n c) ss) {i x : Nat} (hi : i ≤ x) (hx : x ≤ n) (hc : n ≤ c) : View w (.slice (fromQ q i c) (x - i) (c - i)) ((ss.take x).drop i) := by
  obtain ⟨h1, a, c', e, h2⟩ := h
  cases e
  have hl : ((ss.take x).drop i).length = x - i := by rw [List.length_drop, List.length_take]; omega
  refine ⟨by rw [hl]; omega, _, _, by rw [hl], fun h0 => ?_⟩
  rw [hl] at h0
  obtain ⟨g, o, rfl, h3⟩ := h2 (by omega)
  refine ⟨g, o + i, ?_, fun j hj => ?_⟩
  · unfold fromQ
    rw [if_neg (by omega)]
    simp [Addr.add]
  · rw [hl] at hj
    have := h3 (i + j) (by omega)
    rw [Nat.add_assoc, this]
    congr 2
    simp only [List.getD, List.getElem?_drop]
    rw [List.getElem?_take, if_pos (by omega)]
/-- What 'words.Lists' has in memory: both lists, the pieces, how far it is. -/
structure LsM (w : World) (A : Nat) (va vb : Value) (i j : Nat) (L : List Pc) : Prop where
  ka : Blk w A #[va] 26
  kb : Blk w (A + 1) #[vb] 26
  ki : Blk w (A + 3) #[.int .i64 (i : Int)] 3
  kj : Blk w (A + 4) #[.int .i64 (j : Int)] 3
  kl : ∃ q n c, Blk w (A + 2) #[.slice q n c] 33 ∧ PcsV w (A + 5) (.slice q n c) L
theorem LsM.drew {w : World} {A : Nat} {va vb : Value} {i j : Nat} {L : List Pc} (h : LsM w A va vb i j L) : LsM w.drew A va vb i j L := ⟨h.ka, h.kb, h.ki, h.kj, h.kl⟩
theorem owns_store {w : World} {base : Nat} {e : TypeId} {size : Nat} {v : Value} {n : Nat} {xs : List Value} (h : w.ownsRow base e size v n xs) {b o : Nat} (hb : b < base) (u : Value) : (w.setCell ⟨b, o, none⟩ u).ownsRow base e size v n xs := by
  obtain ⟨hl, h⟩ := h
  refine ⟨hl, ?_⟩
  rcases h with h | ⟨g, cap, cur, h1, h2, h3, h4⟩
  · exact .inl h
  · exact .inr ⟨g, cap, cur, h1, h2, (Below.heap_setCell w ⟨b, o, none⟩ u g (by simp; omega)).trans h3, h4⟩
theorem LsM.store {w w2 : World} {A : Nat} {va vb : Value} {i j : Nat} {L M : List Pc} {q : Option Addr} {n c : Nat} (h : LsM w A va vb i j L) (hb : Below (A + 5) w w2) (hr : PcsV w2 (A + 5) (.slice q n c) M) : LsM (w2.setCell ⟨A + 2, 0, none⟩ (.slice q n c)) A va vb i j M := by
  obtain ⟨k0, k1, k3, k4, q', n', c', k2, _⟩ := h
  refine ⟨(k0.below hb (by omega)).away (by omega) _, (k1.below hb (by omega)).away (by omega) _, (k3.below hb (by omega)).away (by omega) _, (k4.below hb (by omega)).away (by omega) _, q, n, c, ?_, owns_store hr (by omega) _⟩
  exact (k2.below hb (by omega)).set 0 (by simp) _
theorem LsM.stored {w w2 : World} {A : Nat} {va vb : Value} {i j : Nat} {L : List Pc} (h : LsM w A va vb i j L) (hb : Below (A + 5) w.drew w2) (q : Option Addr) (n c : Nat) : Blk (w2.setCell ⟨A + 2, 0, none⟩ (.slice q n c)) (A + 2) #[.slice q n c] 33 := by
  obtain ⟨k0, k1, k3, k4, q', n', c', k2, _⟩ := h
  exact (Blk.below (w := w.drew) (show Blk w.drew (A + 2) _ _ from k2) hb (by omega)).set 0 (by simp) _
theorem ok_weak {e : TypeId} {b : Nat} {w w' : World} (h : Lib.OthersKept e none w w') : Lib.OthersKept e (some b) w w' := fun k o hk _ ho => h k o hk (by simp) ho
theorem l0e {w w2 : World} {B b o : Nat} {v : Value} (h : Below B w.drew w2) (hb : b < B) (hc : w.cell? ⟨b, o, none⟩ = some v) : w2.cell? ⟨b, o, none⟩ = some v := (h.cell (p := ⟨b, o, none⟩) hb).trans hc
theorem fre {w w2 : World} {A : Nat} {L : List Pc} (h : Below (A + 5) w.drew w2) (hb : A + 2 < A + 5) (hk : ∃ q n c, Blk w (A + 2) #[.slice q n c] 33 ∧ PcsV w (A + 5) (.slice q n c) L) : w2.frozen? ⟨A + 2, 0, none⟩ = false := by
  obtain ⟨q, n, c, k, _⟩ := hk
  exact Blk.frozen (Blk.below (w := w.drew) (show Blk w.drew (A + 2) _ _ from k) h hb) 0
set_option maxHeartbeats 1000000 in
set_option maxRecDepth 100000 in
theorem leave_any (qa qb : Option Addr) (n m ca cb x y i j : Nat) (a b : List ByteArray) (L : List Pc) (w w0 : World) (ha : View w0 (.slice qa n ca) a) (hb : View w0 (.slice qb m cb) b) (hca : n ≤ ca) (hcb : m ≤ cb) (hw : Below w0.heap.size w0 w) (hz : w0.heap.size + 5 ≤ w.heap.size)
    (hm : LsM w w0.heap.size (.slice qa n ca) (.slice qb m cb) i j L) (hi : i ≤ x) (hx : x ≤ n) (hj : j ≤ y) (hy : y ≤ m) (hn : n ≤ 1000) (hmm : m ≤ 1000) (hl : L.length ≤ 10000) :
    Calls Tryd.prog 24 #[.int .i64 (x : Int), .int .i64 (y : Int), .pointer (some ⟨w0.heap.size + 2, 0, none⟩), .pointer (some ⟨w0.heap.size, 0, none⟩), .pointer (some ⟨w0.heap.size + 3, 0, none⟩), .pointer (some ⟨w0.heap.size + 1, 0, none⟩), .pointer (some ⟨w0.heap.size + 4, 0, none⟩)] w fun e w' => e = .returned (.tuple #[]) ∧ LsM w' w0.heap.size (.slice qa n ca) (.slice qb m cb) i j (L ++ (tk 2 ((a.take x).drop i) ++ tk 3 ((b.take y).drop j))) ∧ Below w0.heap.size w0 w' ∧ Lib.OthersKept 36 (some (w0.heap.size + 2)) w w' := by
  have hxl : ((a.take x).drop i).length ≤ 1000 := by rw [List.length_drop, List.length_take]; omega
  have hyl : ((b.take y).drop j).length ≤ 1000 := by rw [List.length_drop, List.length_take]; omega
  have CA1 := hide (fun (W : World) (h1 : Below w0.heap.size w0 W) (ql : Option Addr) (nl cl : Nat) (h2 : PcsV W (w0.heap.size + 5) (.slice ql nl cl) L) (h3 : w0.heap.size + 5 ≤ W.heap.size) => appendAll_any (w0.heap.size + 5) (.slice ql nl cl) L 2 (fromQ qa i ca) (x - i) (ca - i) ((a.take x).drop i) W h2 (fun W' hW' _ => view_below (view_part ha hi hx hca) (h1.trans (Below.mono hW' (by omega)))) h3 (by omega))
  have CA2 := hide (fun (W : World) (h1 : Below w0.heap.size w0 W) (ql : Option Addr) (nl cl : Nat) (h2 : PcsV W (w0.heap.size + 5) (.slice ql nl cl) (L ++ tk 2 ((a.take x).drop i))) (h3 : w0.heap.size + 5 ≤ W.heap.size) => appendAll_any (w0.heap.size + 5) (.slice ql nl cl) (L ++ tk 2 ((a.take x).drop i)) 3 (fromQ qb j cb) (y - j) (cb - j) ((b.take y).drop j) W h2 (fun W' hW' _ => view_below (view_part hb hj hy hcb) (h1.trans (Below.mono hW' (by omega)))) h3 (by rw [List.length_append, tk_len]; omega))
  rw [← List.append_assoc]
  generalize tk 2 ((a.take x).drop i) = T2 at *
  generalize tk 3 ((b.take y).drop j) = T3 at *
  have HM := hide hm
  obtain ⟨ka, kb, ki, kj, ql, nl, cl, kl, hrow⟩ := hm
  have a0 : w.cell? ⟨w0.heap.size, 0, none⟩ = some (.slice qa n ca) := ka.cell 0
  have b0 : w.cell? ⟨w0.heap.size + 1, 0, none⟩ = some (.slice qb m cb) := kb.cell 0
  have i0 : w.cell? ⟨w0.heap.size + 3, 0, none⟩ = some (.int .i64 (i : Int)) := ki.cell 0
  have j0 : w.cell? ⟨w0.heap.size + 4, 0, none⟩ = some (.int .i64 (j : Int)) := kj.cell 0
  have l0 : w.cell? ⟨w0.heap.size + 2, 0, none⟩ = some (.slice ql nl cl) := kl.cell 0
  have sA := run_partT qa n ca i x hi (by omega)
  have sB := run_partT qb m cb j y hj (by omega)
  generalize hA : w0.heap.size = A at *
  have HR : Hid (PcsV w.drew (A + 5) (.slice ql nl cl) L) := hide hrow
  have HW : Hid (Below A w0 w.drew) := hide hw.drew
  have HZ : Hid (A + 5 ≤ w.drew.heap.size) := hide hz
  have HX := hide (And.intro hA hw)
  clear ha hb ka kb ki kj kl hrow hw hA hxl hyl
  go_enter Tryd.func24, Tryd.ntmps24
  go_wp2
  have hSa : w.drew.cell? ⟨A, 0, none⟩ = some (.slice qa n ca) ∧ w.drew.cell? ⟨A + 3, 0, none⟩ = some (.int .i64 (i : Int)) := ⟨a0, i0⟩
  have l0d : w.drew.cell? ⟨A + 2, 0, none⟩ = some (.slice ql nl cl) := l0
  refine wp_region_held (S := fun W => W.cell? ⟨A, 0, none⟩ = some (.slice qa n ca) ∧ W.cell? ⟨A + 3, 0, none⟩ = some (.int .i64 (i : Int))) (by kernel_rfl) ?_
  change wpAnyH _ _ _ _ _ _ _ _ (World.drew _)
  refine wpAnyH_take (i := 1) (oi := { dst := some 10, op := _, type := _, pos := _, after := _, guard := _ }) (v := ?va1_1) rfl (by kernel_rfl) (by kernel_rfl) (by kernel_rfl) (fun _ _ _ h => h) (Or.inl ⟨by kernel_rfl, ?ha1_1⟩) hSa ?ra1_1
  case ha1_1 => first | (intro w hSw; obtain ⟨s0, s1⟩ := hSw; go_simp; done) | (intro w hSw; obtain ⟨s0, s1⟩ := hSw; go_simp; with_reducible rfl)
  try simp only [Act.put, List.setIfInBounds_toArray, List.set_cons_zero, List.set_cons_succ]
  refine wpAnyH_take (i := 2) (oi := { dst := some 11, op := _, type := _, pos := _, after := _, guard := _ }) (v := ?va2_2) rfl (by kernel_rfl) (by kernel_rfl) (by kernel_rfl) (fun _ _ _ h => h) (Or.inl ⟨by kernel_rfl, ?ha2_2⟩) hSa ?ra2_2
  case ha2_2 => first | (intro w hSw; obtain ⟨s0, s1⟩ := hSw; go_simp; done) | (intro w hSw; obtain ⟨s0, s1⟩ := hSw; go_simp; with_reducible rfl)
  try simp only [Act.put, List.setIfInBounds_toArray, List.set_cons_zero, List.set_cons_succ]
  refine wpAnyH_take (i := 3) (oi := { dst := some 12, op := _, type := _, pos := _, after := _, guard := _ }) (v := ?va3_3) rfl (by kernel_rfl) (by kernel_rfl) (by kernel_rfl) (fun _ _ _ h => h) (Or.inl ⟨by kernel_rfl, ?ha3_3⟩) hSa ?ra3_3
  case ha3_3 => first | (intro w hSw; obtain ⟨s0, s1⟩ := hSw; go_simp; done) | (intro w hSw; obtain ⟨s0, s1⟩ := hSw; go_simp; with_reducible rfl)
  try simp only [Act.put, List.setIfInBounds_toArray, List.set_cons_zero, List.set_cons_succ]
  refine wpAnyH_take (i := 4) (oi := { dst := some 13, op := _, type := _, pos := _, after := _, guard := _ }) (v := ?va4_4) rfl (by kernel_rfl) (by kernel_rfl) (by kernel_rfl) (fun _ _ _ h => h) (Or.inl ⟨by kernel_rfl, ?ha4_4⟩) hSa ?ra4_4
  case ha4_4 => first | (intro w hSw; obtain ⟨s0, s1⟩ := hSw; go_simp; done) | (intro w hSw; obtain ⟨s0, s1⟩ := hSw; go_simp; with_reducible rfl)
  try simp only [Act.put, List.setIfInBounds_toArray, List.set_cons_zero, List.set_cons_succ]
  refine wpAnyH_ready (rs := [0]) (by kernel_rfl) (by simp) ?_
  refine AllReadyH.cons rfl (fun K hK => ?_) AllReadyH.nil
  go_simp
  have hSa' := hSa
  refine hK _ _ hSa' (fun _ => ?_)
  clear hK K hSa
  have hSa := hSa'
  clear hSa'
  refine wpAnyH_ready (rs := [5]) (by kernel_rfl) (by simp) ?_
  refine AllReadyH.cons rfl (fun K hK => ?_) AllReadyH.nil
  go_simp
  refine Calls.mono (unhide CA1 _ (unhide HW) _ _ _ (unhide HR) (unhide HZ)) ?_
  rintro e w2 ⟨v2, rfl, hr2, hb2, hk2⟩
  obtain ⟨q2, n2, c2, hv2⟩ := slice_of hr2
  subst hv2
  have hm2 := (unhide HM).drew.store hb2 hr2
  have HR2 := hide (owns_store (b := A + 2) (o := 0) hr2 (by omega) (.slice q2 n2 c2))
  have HK22 := hide ((unhide HM).stored hb2 q2 n2 c2)
  have d0 : w2.cell? ⟨A + 2, 0, none⟩ = some (.slice ql nl cl) := l0e hb2 (by omega) l0
  have d1 : w2.frozen? ⟨A + 2, 0, none⟩ = false := fre hb2 (by omega) (unhide HM).kl
  have HM2 := hide hm2
  have HB2 := hide hb2
  have HK2 := hide hk2
  have hSa' : w2.cell? ⟨A, 0, none⟩ = some (.slice qa n ca) ∧ w2.cell? ⟨A + 3, 0, none⟩ = some (.int .i64 (i : Int)) := ⟨l0e hb2 (by omega) a0, l0e hb2 (by omega) i0⟩
  clear hr2 hb2 hk2 hm2
  refine hK _ _ hSa' (fun _ => ?_)
  clear hK K hSa
  have hSa := hSa'
  clear hSa'
  refine wpAnyH_ready (rs := [6]) (by kernel_rfl) (by simp) ?_
  refine AllReadyH.cons rfl (fun K hK => ?_) AllReadyH.nil
  skip
  go_simp
  have hSa' : (w2.setCell ⟨A + 2, 0, none⟩ (.slice q2 n2 c2)).cell? ⟨A, 0, none⟩ = some (.slice qa n ca) ∧ (w2.setCell ⟨A + 2, 0, none⟩ (.slice q2 n2 c2)).cell? ⟨A + 3, 0, none⟩ = some (.int .i64 (i : Int)) := ⟨(unhide HM2).ka.cell 0, (unhide HM2).ki.cell 0⟩
  clear d0 d1
  refine hK _ _ hSa' (fun _ => ?_)
  clear hK K hSa
  have hSa := hSa'
  clear hSa'
  refine wpAnyH_done (by kernel_rfl) ?_ _
  clear hSa a0 b0 i0 j0 l0 l0d sA
  obtain ⟨V, hV⟩ : ∃ V, w2.setCell ⟨A + 2, 0, none⟩ (.slice q2 n2 c2) = V := ⟨_, rfl⟩
  have HM3 : Hid (LsM V A (.slice qa n ca) (.slice qb m cb) i j (L ++ T2)) := hide (by rw [← hV]; exact unhide HM2)
  have HV := hide hV
  have HR3 : Hid (PcsV V.drew (A + 5) (.slice q2 n2 c2) (L ++ T2)) := hide (by
    show PcsV V _ _ _
    rw [← hV]; exact unhide HR2)
  have l3 : V.cell? ⟨A + 2, 0, none⟩ = some (.slice q2 n2 c2) := by rw [← hV]; exact (unhide HK22).cell 0
  go_wp2
  have hz2 := (unhide HB2).size
  have HZ3 : Hid (A + 5 ≤ V.drew.heap.size) := hide (by show _ ≤ V.heap.size; rw [← unhide HV]; simp; exact Nat.le_trans hz hz2)
  have HW3 : Hid (Below A w0 V.drew) := hide (by
    refine Below.drew ?_
    rw [← unhide HV]
    exact ((unhide HX).2.drew.trans (Below.mono (unhide HB2) (show A ≤ A + 5 by omega))).setCell (by show A ≤ A + 2; omega) _)
  have b3 : V.cell? ⟨A + 1, 0, none⟩ = some (.slice qb m cb) := (unhide HM3).kb.cell 0
  have j3 : V.cell? ⟨A + 4, 0, none⟩ = some (.int .i64 (j : Int)) := (unhide HM3).kj.cell 0
  rw [hV]
  go_wp2
  have hSb : V.drew.cell? ⟨A + 1, 0, none⟩ = some (.slice qb m cb) ∧ V.drew.cell? ⟨A + 4, 0, none⟩ = some (.int .i64 (j : Int)) := ⟨b3, j3⟩
  refine wp_region_held (S := fun W => W.cell? ⟨A + 1, 0, none⟩ = some (.slice qb m cb) ∧ W.cell? ⟨A + 4, 0, none⟩ = some (.int .i64 (j : Int))) (by kernel_rfl) ?_
  change wpAnyH _ _ _ _ _ _ _ _ (World.drew _)
  refine wpAnyH_take (i := 1) (oi := { dst := some 16, op := _, type := _, pos := _, after := _, guard := _ }) (v := ?vb1_5) rfl (by kernel_rfl) (by kernel_rfl) (by kernel_rfl) (fun _ _ _ h => h) (Or.inl ⟨by kernel_rfl, ?hb1_5⟩) hSb ?rb1_5
  case hb1_5 => first | (intro w hSw; obtain ⟨s0, s1⟩ := hSw; go_simp; done) | (intro w hSw; obtain ⟨s0, s1⟩ := hSw; go_simp; with_reducible rfl)
  try simp only [Act.put, List.setIfInBounds_toArray, List.set_cons_zero, List.set_cons_succ]
  refine wpAnyH_take (i := 2) (oi := { dst := some 17, op := _, type := _, pos := _, after := _, guard := _ }) (v := ?vb2_6) rfl (by kernel_rfl) (by kernel_rfl) (by kernel_rfl) (fun _ _ _ h => h) (Or.inl ⟨by kernel_rfl, ?hb2_6⟩) hSb ?rb2_6
  case hb2_6 => first | (intro w hSw; obtain ⟨s0, s1⟩ := hSw; go_simp; done) | (intro w hSw; obtain ⟨s0, s1⟩ := hSw; go_simp; with_reducible rfl)
  try simp only [Act.put, List.setIfInBounds_toArray, List.set_cons_zero, List.set_cons_succ]
  refine wpAnyH_take (i := 3) (oi := { dst := some 18, op := _, type := _, pos := _, after := _, guard := _ }) (v := ?vb3_7) rfl (by kernel_rfl) (by kernel_rfl) (by kernel_rfl) (fun _ _ _ h => h) (Or.inl ⟨by kernel_rfl, ?hb3_7⟩) hSb ?rb3_7
  case hb3_7 => first | (intro w hSw; obtain ⟨s0, s1⟩ := hSw; go_simp; done) | (intro w hSw; obtain ⟨s0, s1⟩ := hSw; go_simp; with_reducible rfl)
  try simp only [Act.put, List.setIfInBounds_toArray, List.set_cons_zero, List.set_cons_succ]
  refine wpAnyH_take (i := 4) (oi := { dst := some 19, op := _, type := _, pos := _, after := _, guard := _ }) (v := ?vb4_8) rfl (by kernel_rfl) (by kernel_rfl) (by kernel_rfl) (fun _ _ _ h => h) (Or.inl ⟨by kernel_rfl, ?hb4_8⟩) hSb ?rb4_8
  case hb4_8 => first | (intro w hSw; obtain ⟨s0, s1⟩ := hSw; go_simp; done) | (intro w hSw; obtain ⟨s0, s1⟩ := hSw; go_simp; with_reducible rfl)
  try simp only [Act.put, List.setIfInBounds_toArray, List.set_cons_zero, List.set_cons_succ]
  refine wpAnyH_ready (rs := [0]) (by kernel_rfl) (by simp) ?_
  refine AllReadyH.cons rfl (fun K hK => ?_) AllReadyH.nil
  go_simp
  have hSb' := hSb
  refine hK _ _ hSb' (fun _ => ?_)
  clear hK K hSb
  have hSb := hSb'
  clear hSb'
  refine wpAnyH_ready (rs := [5]) (by kernel_rfl) (by simp) ?_
  refine AllReadyH.cons rfl (fun K hK => ?_) AllReadyH.nil
  go_simp
  refine Calls.mono (unhide CA2 _ (unhide HW3) _ _ _ (unhide HR3) (unhide HZ3)) ?_
  rintro e w4 ⟨v4, rfl, hr4, hb4, hk4⟩
  obtain ⟨q4, n4, c4, hv4⟩ := slice_of hr4
  subst hv4
  have hm4 := (unhide HM3).drew.store hb4 hr4
  have d0 : w4.cell? ⟨A + 2, 0, none⟩ = some (.slice q2 n2 c2) := l0e hb4 (by omega) l3
  have d1 : w4.frozen? ⟨A + 2, 0, none⟩ = false := fre hb4 (by omega) (unhide HM3).kl
  have HM4 := hide hm4
  have HB4 := hide hb4
  have HK4 := hide hk4
  have hSb' : w4.cell? ⟨A + 1, 0, none⟩ = some (.slice qb m cb) ∧ w4.cell? ⟨A + 4, 0, none⟩ = some (.int .i64 (j : Int)) := ⟨l0e hb4 (by omega) b3, l0e hb4 (by omega) j3⟩
  clear hr4 hb4 hk4 hm4
  refine hK _ _ hSb' (fun _ => ?_)
  clear hK K hSb
  have hSb := hSb'
  clear hSb'
  refine wpAnyH_ready (rs := [6]) (by kernel_rfl) (by simp) ?_
  refine AllReadyH.cons rfl (fun K hK => ?_) AllReadyH.nil
  skip
  go_simp
  have hSb' : (w4.setCell ⟨A + 2, 0, none⟩ (.slice q4 n4 c4)).cell? ⟨A + 1, 0, none⟩ = some (.slice qb m cb) ∧ (w4.setCell ⟨A + 2, 0, none⟩ (.slice q4 n4 c4)).cell? ⟨A + 4, 0, none⟩ = some (.int .i64 (j : Int)) := ⟨(unhide HM4).kb.cell 0, (unhide HM4).kj.cell 0⟩
  clear d0 d1
  refine hK _ _ hSb' (fun _ => ?_)
  clear hK K hSb
  have hSb := hSb'
  clear hSb'
  refine wpAnyH_done (by kernel_rfl) ?_ _
  clear hSb
  go_wp2
  refine bodyPost_end (v := .tuple #[]) (results_none Tryd.results24 _ _ _) rfl ?_
  obtain ⟨hA, hw⟩ := unhide HX
  have f1 : Lib.OthersKept 36 (some (A + 2)) w w2 := ok_weak (unhide HK2)
  have f2 : Lib.OthersKept 36 (some (A + 2)) w V := by rw [← unhide HV]; exact f1.setCell _ rfl _
  have f3 : Lib.OthersKept 36 (some (A + 2)) V w4 := ok_weak (unhide HK4)
  refine ⟨rfl, unhide HM4, ?_, (f2.trans f3).setCell _ rfl _⟩
  have g1 : Below A w0 w2 := hw.drew.trans (Below.mono (unhide HB2) (show A ≤ A + 5 by omega))
  have g2 : Below A w0 V := by rw [← unhide HV]; exact g1.setCell (by show A ≤ A + 2; omega) _
  exact (g2.drew.trans (Below.mono (unhide HB4) (show A ≤ A + 5 by omega))).setCell (by show A ≤ A + 2; omega) _
end Go.Proofs.YtfbgpodcdgmpjaaDoor
