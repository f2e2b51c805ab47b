/-
  What 'words.textIf', 'words.kindEnd' and 'words.joined' do (made by mk_xjo.py).
-/
import Derived.Test.YtfbgpodcdgmpjaaDoorXTo
import Derived.Test.YtfbgpodcdgmpjaaDoorMLs
import Derived.Deep.RegionHeld
namespace Go.Proofs.YtfbgpodcdgmpjaaDoor
open Go.RowKit
set_option linter.unusedVariables false
set_option linter.unusedSimpArgs false

theorem textIf_any (kb : Nat) (zs : List Int) (w : World) (h : ∀ j, j < zs.length → w.cell? ⟨kb, 0 + j, none⟩ = some (.int .i64 (zs.getD j 0))) :
    Calls Tryd.prog 23 #[.slice (some ⟨kb, 0, none⟩) zs.length zs.length] w fun e w' => e = .returned (.func (.func 37) #[] #[.pointer (some ⟨w.heap.size, 0, none⟩)]) ∧ KindsAt w' w.heap.size zs ∧ Below w.heap.size w w' := by
  have hb : Below w.heap.size w (w.alloc (Obj.cells #[.slice (some ⟨kb, 0, none⟩) zs.length zs.length] 81)) := (Below.refl _ _).alloc (Nat.le_refl _) _
  have HK : Hid (KindsAt (w.alloc (Obj.cells #[.slice (some ⟨kb, 0, none⟩) zs.length zs.length] 81)) w.heap.size zs) := hide ⟨kb, (Blk.new w _ _).cell 0, fun j hj => cell_later hb (h j hj)⟩
  have HB := hide hb
  clear h hb
  generalize zs.length = nz at *
  go_enter Tryd.func23, Tryd.ntmps23
  go_wp2
  go_ret
  exact ⟨rfl, unhide HK, unhide HB⟩
theorem keL_run (L : List Pc) (h : 0 < L.length) : keL L = keK (kd0 L) (L.drop 0) := by
  cases L with
  | nil => simp at h
  | cons x r => rw [List.drop_zero, keL_keK]; rfl
theorem keK_in (k : Int) (L : List Pc) (j : Nat) (h : j < L.length) (hs : (L.getD j (0, ByteArray.empty)).1 = k) : keK k (L.drop j) = 1 + keK k (L.drop (j + 1)) := by
  rw [List.drop_eq_getElem_cons h, keK, if_pos (by rw [← hs, List.getD, List.getElem?_eq_getElem h]; rfl)]
theorem keK_out (k : Int) (L : List Pc) (j : Nat) (h : j < L.length) (hs : ¬ (L.getD j (0, ByteArray.empty)).1 = k) : keK k (L.drop j) = 0 := by
  rw [List.drop_eq_getElem_cons h, keK, if_neg (fun e => hs (by rw [← e, List.getD, List.getElem?_eq_getElem h]; rfl))]
theorem kd0_at (L : List Pc) : (L.getD 0 (0, ByteArray.empty)).1 = kd0 L := by cases L <;> rfl
set_option maxHeartbeats 1000000 in
theorem kindEnd_any (q : Option Addr) (c : Nat) (L : List Pc) (w : World) (hL : PcA w q L) (hl : L.length ≤ 1000000) :
    Calls Tryd.prog 34 #[.slice q L.length c] w fun e w' => e = .returned (.int .i64 (keL L : Int)) ∧ Below w.heap.size w w' := by
  by_cases h0 : L.length = 0
  · have he : (keL L : Int) = 0 := by
      have : L = [] := List.eq_nil_of_length_eq_zero h0
      rw [this]; rfl
    rw [he]
    have hg : decide ((0 : Int) < (L.length : Int)) = false := decide_eq_false (by omega)
    clear he hL
    rw [h0] at *
    clear hg
    have hg : decide ((0 : Int) < ((0 : Nat) : Int)) = false := rfl
    go_enter Tryd.func34, Tryd.ntmps34
    go_wp2
    refine wp_loop_rounds 1 ?_
    rw [rounds_succ]; go_wp2
    go_quiet (fail)
    go_wp2
    go_ret
    exact ⟨rfl, below_draws _ _⟩
  · have hp : 0 < L.length := by omega
    have hw := hide (keL_run L hp)
    have hpi : (0 : Int) < (L.length : Int) := by omega
    obtain ⟨g, o, rfl, hc⟩ := hL hp
    have z0 := (hc 0 hp).1
    rw [kd0_at] at z0
    obtain ⟨p, hpp⟩ : ∃ p, kd0 L = p := ⟨_, rfl⟩
    rw [hpp] at hw z0
    have HC := hide hc
    have z00 : w.cell? ⟨g, o, none⟩ = some (.int .i64 p) := by simpa using z0
    clear hpp h0 hc z0 hL
    go_enter Tryd.func34, Tryd.ntmps34
    go_wp2
    go_loopw [3] (fun i wr => ∃ k : Nat, k ≤ L.length ∧ i = .int .i64 (k : Int) ∧ keL L = k + keK p (L.drop k) ∧ Below w.heap.size w wr) (fun i _ => L.length - (intOf i).toNat)
    case atStart => exact ⟨0, Nat.zero_le _, rfl, by rw [unhide hw, Nat.zero_add], Below.refl _ _⟩
    case round =>
      obtain ⟨k, hk, rfl, hr, hbw⟩ := hrel
      have HR := hide hr
      have y0 : wr.cell? ⟨g, o, none⟩ = some (.int .i64 p) := cell_later hbw z00
      clear hr
      by_cases hlt : k < L.length
      · have hki : (k : Int) < (L.length : Int) := by omega
        have hgi : decide ((k : Int) < (L.length : Int)) = true := decide_eq_true hki
        have y1 := cell_later hbw (unhide HC k hlt).1
        have R1 := keK_in p L k hlt
        have R2 := keK_out p L k hlt
        generalize (L.getD k (0, ByteArray.empty)).1 = b at *
        by_cases hb : b = p
        · have HS := hide (R1 hb)
          have hbb : (b == p) = true := by rw [hb]; exact beq_self_eq_true p
          clear R1 R2 hb
          go_wp2
          go_quiet (fail)
          go_wp2
          go_roundw
          case rel => exact ⟨k + 1, by omega, by go_num, by rw [unhide HR, unhide HS]; omega, below_drewN hbw _⟩
          case measure => simp [intOf]; omega
        · have HS := hide (R2 hb)
          have hbb : (b == p) = false := beq_eq_false_iff_ne.2 hb
          have hz : keL L = k := by rw [unhide HR, unhide HS]; rfl
          have HZ := hide hz
          clear R1 R2 hb hz
          go_wp2
          go_quiet (fail)
          go_wp2
          go_ret
          exact ⟨by rw [unhide HZ]; rfl, below_drewN hbw _⟩
      · have hz : keL L = k := by
          rw [unhide HR, List.drop_eq_nil_of_le (by omega)]; rfl
        have HZ := hide hz
        have hg : decide ((k : Int) < (L.length : Int)) = false := decide_eq_false (by omega)
        clear hz
        go_wp2
        go_quiet (fail)
        go_wp2
        go_ret
        exact ⟨by rw [unhide HZ]; rfl, below_drewN hbw _⟩
def szP (L : List Pc) : Nat := (L.map (fun p => p.2.size)).sum
theorem szP_cons (p : Pc) (r : List Pc) : szP (p :: r) = p.2.size + szP r := by simp [szP]
theorem told_szP (p : Int → Bool) : ∀ L : List Pc, (toldF (ifK p) L).length ≤ szP L
  | [] => Nat.le_refl _
  | x :: r => by
    rw [toldF_cons, List.length_append, szP_cons]
    have h1 := told_szP p r
    have h2 : (ifK p x).length ≤ x.2.size := by
      unfold ifK
      split
      · rw [data_len]; exact Nat.le_refl _
      · simp
    omega
theorem szP_drop (L : List Pc) (n : Nat) : szP (L.drop n) ≤ szP L ∧ szP (L.take n) ≤ szP L := by
  have : szP L = szP (L.take n) + szP (L.drop n) := by
    unfold szP
    rw [← List.sum_append, ← List.map_append, List.take_append_drop]
  omega
def fromQ2 (q : Option Addr) (s c : Nat) : Option Addr := if c = s then q else q.map (·.add (s * 2))
theorem run_fromP (q : Option Addr) (n c s : Nat) (h : s ≤ n) (w : World) : (Instr.slice 33 (.slice q n c) (some (.int .i64 (s : Int))) none none).run Tryd.prog w = .ok (.slice (fromQ2 q s c) (n - s) (c - s)) w := by
  have ht : Tryd.prog.underlying 33 = some (.slice (Tryd.prog.elem 33)) := by kernel_rfl
  have hs : (sizeOf (Tryd.prog.elem 33)).run Tryd.prog w = .ok 2 w := by kernel_rfl
  rw [run_slice_l w 33 q n c ht .i64 (s : Int) (by omega) (by omega), hs]
  simp [Result.andThen, sliced, fromQ2]
theorem run_toP (q : Option Addr) (n c s : Nat) (h : s ≤ c) (w : World) : (Instr.slice 33 (.slice q n c) none (some (.int .i64 (s : Int))) none).run Tryd.prog w = .ok (.slice q s c) w := by
  have ht : Tryd.prog.underlying 33 = some (.slice (Tryd.prog.elem 33)) := by kernel_rfl
  have hs : (sizeOf (Tryd.prog.elem 33)).run Tryd.prog w = .ok 2 w := by kernel_rfl
  rw [run_slice_h w 33 q n c ht .i64 (s : Int) (by omega) (by omega), hs]
  have e : Option.map (fun x => x.add 0) q = q := by cases q <;> simp [Addr.add]
  simp [Result.andThen, sliced, e]
theorem pcA_from {q : Option Addr} {c s : Nat} {L : List Pc} {w : World} (h : PcA w q L) (hs : s ≤ L.length) (hc : L.length ≤ c) : PcA w (fromQ2 q s c) (L.drop s) := fun h0 => by
  rw [List.length_drop] at h0
  obtain ⟨g, o, rfl, h3⟩ := h (by omega)
  refine ⟨g, o + s * 2, ?_, fun j hj => ?_⟩
  · unfold fromQ2
    rw [if_neg (by omega)]
    by_cases e : s = 0
    · subst e; simp [Addr.add]
    · have e2 : ¬ s * 2 = 0 := by omega
      simp [Addr.add, e2]
  · rw [List.length_drop] at hj
    have := h3 (s + j) (by omega)
    have e1 : o + s * 2 + j * 2 = o + (s + j) * 2 := by omega
    have e2 : (L.drop s).getD j (0, ByteArray.empty) = L.getD (s + j) (0, ByteArray.empty) := by simp [List.getD, List.getElem?_drop]
    rw [e1, e2]
    exact this
theorem pcA_to {q : Option Addr} {s : Nat} {L : List Pc} {w : World} (h : PcA w q L) : PcA w q (L.take s) := fun h0 => by
  rw [List.length_take] at h0
  obtain ⟨g, o, rfl, h3⟩ := h (by omega)
  refine ⟨g, o, rfl, fun j hj => ?_⟩
  rw [List.length_take] at hj
  have e2 : (L.take s).getD j (0, ByteArray.empty) = L.getD j (0, ByteArray.empty) := by simp only [List.getD]; rw [List.getElem?_take, if_pos (by omega)]
  rw [e2]
  exact h3 j (by omega)
theorem inK_one (k : Int) (L : List Pc) : toldF (ifK (inK [k])) L = toldF (ifK (fun x => x == k)) L := by
  have : inK [k] = fun x => x == k := by funext x; simp only [inK, List.contains_cons, List.contains_nil, Bool.or_false]
  rw [this]
def JoinSaid (L : List Pc) (w : World) (e : Ending) (w' : World) : Prop := ∃ v, e = .returned v ∧ PcsV w' w.heap.size v (jnP L) ∧ Below w.heap.size w w'
theorem jnP_len : ∀ (n : Nat) (L : List Pc), L.length ≤ n → (jnP L).length ≤ L.length
  | n, [], _ => Nat.le_refl _
  | 0, x :: r, h => by simp at h
  | n + 1, x :: r, h => by
    have h1 := keL_pos (L := x :: r) (by simp)
    have h2 := keL_le (x :: r)
    have ih := jnP_len n ((x :: r).drop (keL (x :: r))) (by rw [List.length_drop]; omega)
    rw [jnP_step _ (by simp), List.length_append]
    rw [List.length_drop] at ih
    have : ∀ k t, (jn1 k t).length ≤ 1 := fun k t => by unfold jn1; split <;> simp
    have := this (kd0 (x :: r)) (toldF (ifK fun k => k == kd0 (x :: r)) (List.take (keL (x :: r)) (x :: r)))
    omega
set_option maxHeartbeats 2000000 in
set_option maxRecDepth 100000 in
theorem joined_any (q : Option Addr) (c : Nat) (L : List Pc) (w : World) (hL : PcA w q L) (hc : L.length ≤ c) (hl : L.length ≤ 1000000) (hs : szP L ≤ 140737488355328) :
    Calls Tryd.prog 19 #[.slice q L.length c] w (JoinSaid L w) := by
  obtain ⟨i0, hi0, hi1, hi2, hi3⟩ := info_parts infoPiece0
  have HL := hide hL
  have HS := hide hs
  obtain ⟨N, hN⟩ : ∃ N, L.length = N := ⟨_, rfl⟩
  unfold JoinSaid
  have HAT : Hid (∃ (M out : List Pc) (q' : Option Addr) (c' : Nat), Value.slice q L.length c = .slice q' M.length c' ∧ PcA w q' M ∧ M.length ≤ c' ∧ out.length + M.length ≤ N ∧ szP M ≤ szP L ∧ jnP L = out ++ jnP M ∧ PcsV w w.heap.size (.slice none 0 0) out ∧ Below w.heap.size w w) := hide ⟨L, [], q, c, rfl, hL, hc, by simp [hN], Nat.le_refl _, rfl, pcs_nil _ _, Below.refl _ _⟩
  rw [hN] at hl
  clear hL hs hc hN
  generalize hK : L.length = N0 at *
  have HN0 := hide hK
  clear hK
  go_enter Tryd.func19, Tryd.ntmps19
  go_wp2
  go_loopw [0, 3] (fun l v wr => ∃ (M out : List Pc) (q' : Option Addr) (c' : Nat), l = .slice q' M.length c' ∧ PcA w q' M ∧ M.length ≤ c' ∧ out.length + M.length ≤ N ∧ szP M ≤ szP L ∧ jnP L = out ++ jnP M ∧ PcsV wr w.heap.size v out ∧ Below w.heap.size w wr) (fun l _ _ => match l with | .slice _ n _ => n | _ => 0)
  case atStart => exact unhide HAT
  case round =>
    clear HAT
    obtain ⟨M, out, q', c', rfl, hM, hc', hlen, hsz, heq, hrow, hbw⟩ := hrel
    have HEQ := hide heq
    have HBW := hide hbw
    have HRW := hide hrow
    have hz := hbw.size
    obtain ⟨vq, vn, vc, hv⟩ := slice_of hrow
    subst hv
    by_cases h0 : M.length = 0
    · have hM0 : M = [] := List.eq_nil_of_length_eq_zero h0
      have HF : Hid (jnP L = out) := hide (by rw [heq, hM0]; show out ++ [] = out; rw [List.append_nil])
      rw [h0]
      clear heq hrow hbw hM hM0 h0
      go_wp2
      go_ret
      exact ⟨_, rfl, by rw [unhide HF]; exact unhide HRW, unhide HBW⟩
    · have hne : M ≠ [] := fun e => h0 (by rw [e]; rfl)
      have hp : 0 < M.length := by omega
      have hpi : (0 : Int) < (M.length : Int) := by omega
      have CK := hide (kindEnd_any q' c' M wr (hM.below hbw) (by omega))
      have hk1 := keL_pos hne
      have hk2 := keL_le M
      have HST := hide (jnP_step M hne)
      have HSZ := hide (told_szP (fun k => k == kd0 M) (M.take (keL M)))
      have hd := szP_drop M (keL M)
      obtain ⟨g, o, rfl, hcell⟩ := hM hp
      have z0 := (hcell 0 hp).1
      rw [kd0_at] at z0
      have HMA := hide (show PcA w (some ⟨g, o, none⟩) M from hM)
      obtain ⟨ke, hke⟩ : ∃ ke, keL M = ke := ⟨_, rfl⟩
      rw [hke] at CK hk1 hk2 HST HSZ hd
      obtain ⟨k0, hk0⟩ : ∃ k0, kd0 M = k0 := ⟨_, rfl⟩
      rw [hk0] at HST HSZ z0
      have hkei : (ke : Int) ≤ (c' : Int) := by omega
      have hkei2 : (ke : Int) ≤ (M.length : Int) := by omega
      have r1 := run_toP (some ⟨g, o, none⟩) M.length c' ke (by omega)
      have r2 := run_fromP (some ⟨g, o, none⟩) M.length c' ke hk2
      obtain ⟨tt, htt⟩ : ∃ tt, toldF (ifK (fun k => k == k0)) (M.take ke) = tt := ⟨_, rfl⟩
      have htl : tt.length ≤ 140737488355328 := by
        have h1 := unhide HSZ
        have h2 := unhide HS
        rw [htt] at h1
        omega
      have CT := hide (fun (bx : Nat) (W : World) (hW : Below w.heap.size w W) (hk : KindsAt W bx [k0]) => told_if bx [k0] (some ⟨g, o, none⟩) c' (M.take ke) W ((pcA_to hM).below hW) hk (by simp) (by rw [List.length_take]; omega) (by rw [inK_one, htt]; exact htl))
      rw [List.length_take, Nat.min_eq_left hk2, inK_one, htt] at CT
      rw [htt] at HST
      have HFM := hide (pcA_from (c := c') (s := ke) hM hk2 hc')
      have HDL : Hid ((M.drop ke).length = M.length - ke) := hide (List.length_drop ..)
      have HDS : Hid (szP (M.drop ke) ≤ szP L) := hide (by omega)
      have z00 : w.cell? ⟨g, o, none⟩ = some (.int .i64 k0) := by simpa using z0
      clear heq hrow hbw hM hcell z0 hke hk0 hd htt HSZ h0 hne hsz HMA
      go_wp2_with fail
      refine Calls.mono (unhide CK) ?_
      rintro e w1 ⟨rfl, hb1⟩
      have hb01 := tr2 (unhide HBW) hb1
      have HB1 := hide hb01
      have y0 : w1.drew.cell? ⟨g, o, none⟩ = some (.int .i64 k0) := cell_later hb01.drew z00
      have hbA : Below w1.drew.heap.size w1.drew (w1.drew.alloc (Obj.cells #[.int .i64 k0] 3)) := (Below.refl _ _).alloc (Nat.le_refl _) _
      have HBA := hide hbA
      have CI := hide (textIf_any w1.drew.heap.size [k0] (w1.drew.alloc (Obj.cells #[.int .i64 k0] 3)) (fun j hj => by
        have hj0 : j = 0 := by simp at hj; omega
        subst hj0
        exact (Blk.new w1.drew #[.int .i64 k0] 3).cell 0))
      have HRW1 := hide (ownsRow_below (unhide HRW) hb1)
      clear hb1 hb01 CK hbA
      go_wp2
      have hSa : w1.drew.cell? ⟨g, o, none⟩ = some (.int .i64 k0) := y0
      refine wp_region_held (S := fun W => W.cell? ⟨g, o, none⟩ = some (.int .i64 k0)) (by kernel_rfl) ?_
      change wpAnyH _ _ _ _ _ _ _ _ (World.drew _)
      refine wpAnyH_take (i := 0) (oi := { dst := some 11, op := _, type := _, pos := _, after := _, guard := _ }) (v := ?va0_1) rfl (by kernel_rfl) (by kernel_rfl) (by kernel_rfl) (fun _ _ _ h => h) (Or.inl ⟨by kernel_rfl, ?ha0_1⟩) hSa ?ra0_1
      case ha0_1 => first | (intro w hSw; obtain s0 := hSw; go_simp; done) | (intro w hSw; obtain s0 := hSw; go_simp; with_reducible rfl)
      try simp only [Act.put, List.setIfInBounds_toArray, List.set_cons_zero, List.set_cons_succ]
      refine wpAnyH_take (i := 1) (oi := { dst := some 12, op := _, type := _, pos := _, after := _, guard := _ }) (v := ?va1_2) rfl (by kernel_rfl) (by kernel_rfl) (by kernel_rfl) (fun _ _ _ h => h) (Or.inl ⟨by kernel_rfl, ?ha1_2⟩) hSa ?ra1_2
      case ha1_2 => first | (intro w hSw; obtain s0 := hSw; go_simp; done) | (intro w hSw; obtain s0 := hSw; go_simp; with_reducible rfl)
      try simp only [Act.put, List.setIfInBounds_toArray, List.set_cons_zero, List.set_cons_succ]
      refine wpAnyH_take (i := 2) (oi := { dst := some 13, op := _, type := _, pos := _, after := _, guard := _ }) (v := ?va2_3) rfl (by kernel_rfl) (by kernel_rfl) (by kernel_rfl) (fun _ _ _ h => h) (Or.inl ⟨by kernel_rfl, ?ha2_3⟩) hSa ?ra2_3
      case ha2_3 => first | (intro w hSw; obtain s0 := hSw; go_simp; done) | (intro w hSw; obtain s0 := hSw; go_simp; with_reducible rfl)
      try simp only [Act.put, List.setIfInBounds_toArray, List.set_cons_zero, List.set_cons_succ]
      refine wpAnyH_take (i := 3) (oi := { dst := some 14, op := _, type := _, pos := _, after := _, guard := _ }) (v := ?va3_4) rfl (by kernel_rfl) (by kernel_rfl) (by kernel_rfl) (fun _ _ _ h => h) (Or.inl ⟨by kernel_rfl, ?ha3_4⟩) hSa ?ra3_4
      case ha3_4 => first | (intro w hSw; obtain s0 := hSw; go_simp; done) | (intro w hSw; obtain s0 := hSw; go_simp; with_reducible rfl)
      try simp only [Act.put, List.setIfInBounds_toArray, List.set_cons_zero, List.set_cons_succ]
      refine wpAnyH_take (i := 4) (oi := { dst := some 15, op := _, type := _, pos := _, after := _, guard := _ }) (v := ?va4_5) rfl (by kernel_rfl) (by kernel_rfl) (by kernel_rfl) (fun _ _ _ h => h) (Or.inl ⟨by kernel_rfl, ?ha4_5⟩) hSa ?ra4_5
      case ha4_5 => first | (intro w hSw; obtain s0 := hSw; go_simp; done) | (intro w hSw; obtain s0 := hSw; go_simp; with_reducible rfl)
      try simp only [Act.put, List.setIfInBounds_toArray, List.set_cons_zero, List.set_cons_succ]
      refine wpAnyH_take (i := 5) (oi := { dst := some 16, op := _, type := _, pos := _, after := _, guard := _ }) (v := ?va5_6) rfl (by kernel_rfl) (by kernel_rfl) (by kernel_rfl) (fun _ _ _ h => h) (Or.inl ⟨by kernel_rfl, ?ha5_6⟩) hSa ?ra5_6
      case ha5_6 => first | (intro w hSw; obtain s0 := hSw; go_simp; done) | (intro w hSw; obtain s0 := hSw; go_simp; with_reducible rfl)
      try simp only [Act.put, List.setIfInBounds_toArray, List.set_cons_zero, List.set_cons_succ]
      refine wpAnyH_take (i := 6) (oi := { dst := some 17, op := _, type := _, pos := _, after := _, guard := _ }) (v := ?va6_7) rfl (by kernel_rfl) (by kernel_rfl) (by kernel_rfl) (fun _ _ _ h => h) (Or.inl ⟨by kernel_rfl, ?ha6_7⟩) hSa ?ra6_7
      case ha6_7 => first | (intro w hSw; obtain s0 := hSw; go_simp; done) | (intro w hSw; obtain s0 := hSw; go_simp; with_reducible rfl)
      try simp only [Act.put, List.setIfInBounds_toArray, List.set_cons_zero, List.set_cons_succ]
      refine wpAnyH_ready (rs := [7]) (by kernel_rfl) (by simp) ?_
      refine AllReadyH.cons rfl (fun K hK => ?_) AllReadyH.nil
      go_simp
      have hSa' : (w1.drew.alloc (Obj.cells #[.int .i64 k0] 3)).cell? ⟨g, o, none⟩ = some (.int .i64 k0) := cell_later (unhide HBA) hSa
      refine hK _ _ hSa' (fun _ => ?_)
      clear hK K hSa
      have hSa := hSa'
      clear hSa'
      refine wpAnyH_ready (rs := [8]) (by kernel_rfl) (by simp) ?_
      refine AllReadyH.cons rfl (fun K hK => ?_) AllReadyH.nil
      go_simp
      refine Calls.mono (unhide CI) ?_
      rintro e w2 ⟨rfl, hk, hb2⟩
      have e9 : (w1.drew.alloc (Obj.cells #[.int .i64 k0] 3)).heap.size = w1.heap.size + 1 := by show (w1.alloc _).heap.size = _; simp
      rw [e9] at hk
      have HKI := hide hk
      clear e9
      have hb02 : Below w1.drew.heap.size w1.drew w2 := tr2 (unhide HBA) hb2
      have HB2 := hide hb02
      have hSa' : w2.cell? ⟨g, o, none⟩ = some (.int .i64 k0) := cell_later hb2 hSa
      clear hk hb2 hb02
      refine hK _ _ hSa' (fun _ => ?_)
      clear hK K hSa
      have hSa := hSa'
      clear hSa'
      refine wpAnyH_ready (rs := [9]) (by kernel_rfl) (by simp) ?_
      refine AllReadyH.cons rfl (fun K hK => ?_) AllReadyH.nil
      go_simp
      refine Calls.mono (unhide CT _ _ (tr2 (unhide HB1).drew (unhide HB2)) (unhide HKI)) ?_
      rintro e w3 ⟨rfl, hb3⟩
      have HB3 := hide hb3
      have hSa' : w3.cell? ⟨g, o, none⟩ = some (.int .i64 k0) := cell_later hb3 hSa
      clear hb3
      refine hK _ _ hSa' (fun _ => ?_)
      clear hK K hSa
      have hSa := hSa'
      clear hSa'
      refine wpAnyH_take (i := 10) (oi := { dst := some 5, op := _, type := _, pos := _, after := _, guard := _ }) (v := ?va10_8) rfl (by kernel_rfl) (by kernel_rfl) (by kernel_rfl) (fun _ _ _ h => h) (Or.inl ⟨by kernel_rfl, ?ha10_8⟩) hSa ?ra10_8
      case ha10_8 => first | (intro w hSw; obtain s0 := hSw; go_simp; done) | (intro w hSw; obtain s0 := hSw; go_simp; with_reducible rfl)
      try simp only [Act.put, List.setIfInBounds_toArray, List.set_cons_zero, List.set_cons_succ]
      refine wpAnyH_done (by kernel_rfl) ?_ _
      have y3 := hSa
      have hbb : Below w1.heap.size w1 w3 := tr2 (tr2 (below_draws w1 1) (unhide HB2)) (unhide HB3)
      have HB13 := hide (tr2 (unhide HB1) hbb)
      have HRW3 := hide (ownsRow_below (unhide HRW1) hbb)
      clear hSa hbb HB2 HB3 HKI HBA
      by_cases ht : tt = []
      · have he : (bs tt).toList.isEmpty = true := is_empty (bs tt) (by rw [bs_size, ht]; rfl)
        have HJ : Hid (jnP L = out ++ jnP (M.drop ke)) := hide (by rw [unhide HEQ, unhide HST]; unfold jn1; rw [if_pos ht]; rfl)
        clear ht
        go_wp2
        rw [← unhide HDL]
        go_roundw
        case rel => exact ⟨M.drop ke, out, _, _, rfl, unhide HFM, by rw [unhide HDL]; omega, by rw [unhide HDL]; omega, unhide HDS, unhide HJ, unhide HRW3, unhide HB13⟩
        case measure => simp only [unhide HDL]; omega
      · have he : (bs tt).toList.isEmpty = false := not_empty (bs tt) (by rw [bs_size]; cases tt with | nil => exact absurd rfl ht | cons b r => simp)
        have HJ : Hid (jnP L = (out ++ [(k0, bs tt)]) ++ jnP (M.drop ke)) := hide (by rw [unhide HEQ, unhide HST]; unfold jn1; rw [if_neg ht, List.append_assoc])
        have hz3 := (unhide HB13).size
        unfold PcsV at HRW3
        clear ht
        go_wp2_with (at_builtin; refine wpList_append_own_at _ rfl _ _ 33 rfl w.heap.size 36 i0 (.agg #[.int .i64 0, .string ⟨#[]⟩]) 2 24 Tryd.underlying33 hi0 hi1 hi2 hi3 rfl (by decide) (.slice vq vn vc) _ _ rfl ((unhide HRW3).alloc _) ⟨w3.heap.size, 0, none⟩ 1 1 [.int .i64 k0, .string (bs tt)] rfl rfl (cell_two_new _ _ _ _) (by simp [Value.oneCell']) (by simp only [maxLen]; omega) (by omega) (by simp; omega) ?_)
        intro u' w4 hown hgr _ _
        have HO := hide (pcs_snoc hown)
        have HB4 : Hid (Below w.heap.size w w4) := hide (((unhide HB13).alloc hz3 _).grown hgr (by simp; omega) (fun q hq => ((unhide HRW3).lt q hq).1))
        clear hown hgr
        go_wp2
        rw [← unhide HDL]
        go_roundw
        case rel => exact ⟨M.drop ke, out ++ [(k0, bs tt)], _, _, rfl, unhide HFM, by rw [unhide HDL]; omega, by rw [unhide HDL, List.length_append]; simp only [List.length_cons, List.length_nil]; omega, unhide HDS, unhide HJ, unhide HO, unhide HB4⟩
        case measure => simp only [unhide HDL]; omega
end Go.Proofs.YtfbgpodcdgmpjaaDoor
