/-
  The reference's Implied.
-/
import Derived.Test.YtdkjdomacilagaaRNs
import Derived.Deep.RegionHeld
namespace Go.Proofs.Ytdkjdomacilagaa
open Go.RowKit
set_option linter.unusedVariables false
set_option linter.unusedSimpArgs false

def RTwAt (base p : Nat) (v : Value) (L : List Ent) (f : Ent → Bool) (w : World) (n : Value) (wr : World) : Prop :=
  ∃ k : Nat, n = .int .i64 k ∧ k ≤ L.length ∧ offN f L = k + offN f (L.take (L.length - k)) ∧ RUpd base p v (L.take (L.length - k)) w wr
/-- The top's cells, and what is kept. -/
def KeepI (w0 : World) (p : Nat) (v : Value) (g o : Nat) (id sp : Int) (nm : ByteArray) (w : World) : Prop :=
  w.cell? ⟨p, 0, none⟩ = some v ∧ w.cell? ⟨g, o, none⟩ = some (.int .i64 id) ∧ w.cell? ⟨g, o + 1, none⟩ = some (.int .i64 sp) ∧ w.cell? ⟨g, o + 2, none⟩ = some (.string nm) ∧ Below w0.heap.size w0 w
theorem KeepI.below {w0 w w' : World} {p g o : Nat} {v : Value} {id sp : Int} {nm : ByteArray} (h : KeepI w0 p v g o id sp nm w) (hb : Below w.heap.size w w') : KeepI w0 p v g o id sp nm w' :=
  ⟨cell_later hb h.1, cell_later hb h.2.1, cell_later hb h.2.2.1, cell_later hb h.2.2.2.1, tr2 h.2.2.2.2 hb⟩
def KeepE (w0 : World) (p : Nat) (v : Value) (w : World) : Prop := w.cell? ⟨p, 0, none⟩ = some v ∧ Below w0.heap.size w0 w

set_option maxHeartbeats 16000000 in
set_option maxRecDepth 100000 in
theorem rimplied_any (base p : Nat) (v : Value) (but : ByteArray) (L : List Ent) (w : World) (h : RStk base p v L w) (hbase : base ≤ w.heap.size) (hN : L.length ≤ 1000000) :
    Calls Try.prog 47 #[ptr p, .string but] w fun e w' => e = .returned (.int .i64 (offN (impB but) L : Nat)) ∧ RUpd base p v (L.take (L.length - offN (impB but) L)) w w' := by
  have HAT : Hid (RTwAt base p v L (impB but) w (.int .i64 0) w) := hide ⟨0, rfl, Nat.zero_le _, by simp, by simpa using RUpd.same h (Below.refl _ _)⟩
  have CI0 := hide (fun (e : Ent) v ns w hv => ris_any e v ns w hv)
  have CP0 := hide (fun v M W hW hB hM => rpop_any base p v M W hW hB hM)
  have hsz0 := h.lt
  clear h
  have ep : ptr p = .pointer (some ⟨p, 0, none⟩) := rfl
  rw [ep]
  rw [ep] at CP0
  go_enter Try.func47, Try.ntmps47
  go_wp2
  go_loopw [5] (fun n wr => RTwAt base p v L (impB but) w n wr) (fun n _ => L.length - (intOf n).toNat)
  case atStart => exact unhide HAT
  case round =>
    clear HAT
    obtain ⟨k, rfl, hk, hoff, hupd⟩ := hrel
    have HO := hide hoff
    have HU := hide hupd
    obtain ⟨v', hs, ht, ho⟩ := hupd
    have hsz := ht.size
    clear hoff
    by_cases hlt : k < L.length
    · obtain ⟨a, x, hM, ha⟩ := take_snoc L k hlt
      rw [hM] at hs
      have HS := hide hs
      have HT := hide (And.intro ht ho)
      have CI := hide (fun v W hv => unhide CI0 x v lpNs W hv)
      have hal : a.length ≤ 1000000 := by rw [ha, List.length_take]; omega
      have CP := hide (fun W hW hB => unhide CP0 v' (a ++ [x]) W hW hB (by rw [List.length_append, List.length_singleton, ha, List.length_take]; omega))
      have hoN : Hid (offN (impB but) (L.take (L.length - k)) = if impB but x then offN (impB but) a + 1 else 0) := hide (by rw [hM]; exact offN_snoc _ a x)
      have HA := hide ha
      have HM := hide hM
      have hk1 : (k : Int) + 1 ≤ 1000000 := by omega
      have hl : (a ++ [x]).length = a.length + 1 := by simp
      obtain ⟨q, cap, rfl, hc, hm, hg⟩ := hs.slice
      rw [hl] at hc hg hs HS CP
      obtain ⟨g, rfl, hgl⟩ := hg (by omega)
      obtain ⟨c1, c2, c3⟩ := hs.cells a.length (by rw [hl]; omega)
      rw [getD_snoc, Nat.zero_add] at c1 c2 c3
      rw [show a.length + 1 - 1 = a.length by omega, List.take_append_of_le_length (Nat.le_refl _), List.take_length] at CP
      have c0 : wr.cell? ⟨p, 0, none⟩ = some (.slice (some ⟨g, 0, none⟩) (a.length + 1) cap) := hs.1.cell 0
      have hnm : Hid (impB but x = (nmdB x lpNs && !(x.nm.toList == but.toList))) := hide rfl
      obtain ⟨id, sp, nm⟩ := x
      unfold entV at CI
      dsimp only at *
      generalize hfx : impB but ⟨id, sp, nm⟩ = fx at *
      generalize hqx : nmdB ⟨id, sp, nm⟩ lpNs = qx at *
      have HSI : Hid (KeepI wr p (.slice (some ⟨g, 0, none⟩) (a.length + 1) cap) g (a.length * 3) id sp nm wr.drew) := hide ⟨c0, c1, c2, c3, below_draws wr 1⟩
      rw [show (a.length + 1 == 0) = false from rfl] at CP
      generalize a.length = m at *
      have hi : (0 : Int) ≤ (m : Int) := by omega
      have hwm : IntKind.i64.wrap (m : Int) = m := by rw [IntKind.wrap_i64]; omega
      have hi3 : (m : Int) < (m : Int) + 1 := by omega
      have hi1 : (0 : Int) < ((m + 1 : Nat) : Int) := by omega
      have hi2 : (0 : Int) < (m : Int) + 1 := by omega
      clear hs ht ho hM ha hfx hg hgl c0 c1 c2 c3 hl ep hqx
      cases hQ : qx with
      | false =>
        subst hQ
        have hf0 : fx = false := by simpa using unhide hnm
        subst hf0
        go_wp2_with fail
        have hSa := unhide HSI
        refine wp_region_held (S := KeepI wr p (.slice (some ⟨g, 0, none⟩) (m + 1) cap) g (m * 3) id sp nm) (by kernel_rfl) ?_
        change wpAnyH _ _ _ _ _ _ _ _ (World.drew _)
        refine wpAnyH_take (i := 0) (oi := { dst := some 6, op := _, type := _, pos := _, after := _, guard := _ }) (v := ?va0) rfl (by kernel_rfl) (by kernel_rfl) (by kernel_rfl) (fun _ _ _ h => h) (Or.inl ⟨by kernel_rfl, ?ha0⟩) hSa ?ra0
        case ha0 => first | (intro w hSw; obtain ⟨s0, s1, s2, s3, _⟩ := hSw; go_simp; done) | (intro w hSw; obtain ⟨s0, s1, s2, s3, _⟩ := hSw; go_simp; with_reducible rfl)
        try simp only [Act.put, List.setIfInBounds_toArray, List.set_cons_zero, List.set_cons_succ]
        refine wpAnyH_take (i := 1) (oi := { dst := some 7, op := _, type := _, pos := _, after := _, guard := _ }) (v := ?va1) rfl (by kernel_rfl) (by kernel_rfl) (by kernel_rfl) (fun _ _ _ h => h) (Or.inl ⟨by kernel_rfl, ?ha1⟩) hSa ?ra1
        case ha1 => first | (intro w hSw; obtain ⟨s0, s1, s2, s3, _⟩ := hSw; go_simp; done) | (intro w hSw; obtain ⟨s0, s1, s2, s3, _⟩ := hSw; go_simp; with_reducible rfl)
        try simp only [Act.put, List.setIfInBounds_toArray, List.set_cons_zero, List.set_cons_succ]
        refine wpAnyH_take (i := 2) (oi := { dst := some 8, op := _, type := _, pos := _, after := _, guard := _ }) (v := ?va2) rfl (by kernel_rfl) (by kernel_rfl) (by kernel_rfl) (fun _ _ _ h => h) (Or.inl ⟨by kernel_rfl, ?ha2⟩) hSa ?ra2
        case ha2 => first | (intro w hSw; obtain ⟨s0, s1, s2, s3, _⟩ := hSw; go_simp; done) | (intro w hSw; obtain ⟨s0, s1, s2, s3, _⟩ := hSw; go_simp; with_reducible rfl)
        try simp only [Act.put, List.setIfInBounds_toArray, List.set_cons_zero, List.set_cons_succ]
        refine wpAnyH_take (i := 3) (oi := { dst := some 9, op := _, type := _, pos := _, after := _, guard := _ }) (v := ?va3) rfl (by kernel_rfl) (by kernel_rfl) (by kernel_rfl) (fun _ _ _ h => h) (Or.inl ⟨by kernel_rfl, ?ha3⟩) hSa ?ra3
        case ha3 => first | (intro w hSw; obtain ⟨s0, s1, s2, s3, _⟩ := hSw; go_simp; done) | (intro w hSw; obtain ⟨s0, s1, s2, s3, _⟩ := hSw; go_simp; with_reducible rfl)
        try simp only [Act.put, List.setIfInBounds_toArray, List.set_cons_zero, List.set_cons_succ]
        refine wpAnyH_take (i := 4) (oi := { dst := some 10, op := _, type := _, pos := _, after := _, guard := _ }) (v := ?va4) rfl (by kernel_rfl) (by kernel_rfl) (by kernel_rfl) (fun _ _ _ h => h) (Or.inl ⟨by kernel_rfl, ?ha4⟩) hSa ?ra4
        case ha4 => first | (intro w hSw; obtain ⟨s0, s1, s2, s3, _⟩ := hSw; go_simp; done) | (intro w hSw; obtain ⟨s0, s1, s2, s3, _⟩ := hSw; go_simp; with_reducible rfl)
        try simp only [Act.put, List.setIfInBounds_toArray, List.set_cons_zero, List.set_cons_succ]
        refine wpAnyH_take (i := 5) (oi := { dst := some 11, op := _, type := _, pos := _, after := _, guard := _ }) (v := ?va5) rfl (by kernel_rfl) (by kernel_rfl) (by kernel_rfl) (fun _ _ _ h => h) (Or.inl ⟨by kernel_rfl, ?ha5⟩) hSa ?ra5
        case ha5 => first | (intro w hSw; obtain ⟨s0, s1, s2, s3, _⟩ := hSw; go_simp; done) | (intro w hSw; obtain ⟨s0, s1, s2, s3, _⟩ := hSw; go_simp; with_reducible rfl)
        try simp only [Act.put, List.setIfInBounds_toArray, List.set_cons_zero, List.set_cons_succ]
        refine wpAnyH_take (i := 6) (oi := { dst := some 12, op := _, type := _, pos := _, after := _, guard := _ }) (v := ?va6) rfl (by kernel_rfl) (by kernel_rfl) (by kernel_rfl) (fun _ _ _ h => h) (Or.inl ⟨by kernel_rfl, ?ha6⟩) hSa ?ra6
        case ha6 => first | (intro w hSw; obtain ⟨s0, s1, s2, s3, _⟩ := hSw; go_simp; done) | (intro w hSw; obtain ⟨s0, s1, s2, s3, _⟩ := hSw; go_simp; with_reducible rfl)
        try simp only [Act.put, List.setIfInBounds_toArray, List.set_cons_zero, List.set_cons_succ]
        refine wpAnyH_take (i := 7) (oi := { dst := some 13, op := _, type := _, pos := _, after := _, guard := _ }) (v := ?va7) rfl (by kernel_rfl) (by kernel_rfl) (by kernel_rfl) (fun _ _ _ h => h) (Or.inl ⟨by kernel_rfl, ?ha7⟩) hSa ?ra7
        case ha7 => first | (intro w hSw; obtain ⟨s0, s1, s2, s3, _⟩ := hSw; go_simp; done) | (intro w hSw; obtain ⟨s0, s1, s2, s3, _⟩ := hSw; go_simp; with_reducible rfl)
        try simp only [Act.put, List.setIfInBounds_toArray, List.set_cons_zero, List.set_cons_succ]
        refine wpAnyH_take (i := 8) (oi := { dst := some 14, op := _, type := _, pos := _, after := _, guard := _ }) (v := ?va8) rfl (by kernel_rfl) (by kernel_rfl) (by kernel_rfl) (fun _ _ _ h => h) (Or.inl ⟨by kernel_rfl, ?ha8⟩) hSa ?ra8
        case ha8 => first | (intro w hSw; obtain ⟨s0, s1, s2, s3, _⟩ := hSw; go_simp; done) | (intro w hSw; obtain ⟨s0, s1, s2, s3, _⟩ := hSw; go_simp; with_reducible rfl)
        try simp only [Act.put, List.setIfInBounds_toArray, List.set_cons_zero, List.set_cons_succ]
        refine wpAnyH_take (i := 9) (oi := { dst := some 15, op := _, type := _, pos := _, after := _, guard := _ }) (v := ?va9) rfl (by kernel_rfl) (by kernel_rfl) (by kernel_rfl) (fun _ _ _ h => h) (Or.inl ⟨by kernel_rfl, ?ha9⟩) hSa ?ra9
        case ha9 => first | (intro w hSw; obtain ⟨s0, s1, s2, s3, _⟩ := hSw; go_simp; done) | (intro w hSw; obtain ⟨s0, s1, s2, s3, _⟩ := hSw; go_simp; with_reducible rfl)
        try simp only [Act.put, List.setIfInBounds_toArray, List.set_cons_zero, List.set_cons_succ]
        refine wpAnyH_take (i := 10) (oi := { dst := some 16, op := _, type := _, pos := _, after := _, guard := _ }) (v := ?va10) rfl (by kernel_rfl) (by kernel_rfl) (by kernel_rfl) (fun _ _ _ h => h) (Or.inl ⟨by kernel_rfl, ?ha10⟩) hSa ?ra10
        case ha10 => first | (intro w hSw; obtain ⟨s0, s1, s2, s3, _⟩ := hSw; go_simp; done) | (intro w hSw; obtain ⟨s0, s1, s2, s3, _⟩ := hSw; go_simp; with_reducible rfl)
        try simp only [Act.put, List.setIfInBounds_toArray, List.set_cons_zero, List.set_cons_succ]
        refine wpAnyH_take (i := 11) (oi := { dst := some 17, op := _, type := _, pos := _, after := _, guard := _ }) (v := ?va11) rfl (by kernel_rfl) (by kernel_rfl) (by kernel_rfl) (fun _ _ _ h => h) (Or.inl ⟨by kernel_rfl, ?ha11⟩) hSa ?ra11
        case ha11 => first | (intro w hSw; obtain ⟨s0, s1, s2, s3, _⟩ := hSw; go_simp; done) | (intro w hSw; obtain ⟨s0, s1, s2, s3, _⟩ := hSw; go_simp; with_reducible rfl)
        try simp only [Act.put, List.setIfInBounds_toArray, List.set_cons_zero, List.set_cons_succ]
        refine wpAnyH_take (i := 12) (oi := { dst := some 18, op := _, type := _, pos := _, after := _, guard := _ }) (v := ?va12) rfl (by kernel_rfl) (by kernel_rfl) (by kernel_rfl) (fun _ _ _ h => h) (Or.inl ⟨by kernel_rfl, ?ha12⟩) hSa ?ra12
        case ha12 => first | (intro w hSw; obtain ⟨s0, s1, s2, s3, _⟩ := hSw; go_simp; done) | (intro w hSw; obtain ⟨s0, s1, s2, s3, _⟩ := hSw; go_simp; with_reducible rfl)
        try simp only [Act.put, List.setIfInBounds_toArray, List.set_cons_zero, List.set_cons_succ]
        refine wpAnyH_take (i := 13) (oi := { dst := some 19, op := _, type := _, pos := _, after := _, guard := _ }) (v := ?va13) rfl (by kernel_rfl) (by kernel_rfl) (by kernel_rfl) (fun _ _ _ h => h) (Or.inl ⟨by kernel_rfl, ?ha13⟩) hSa ?ra13
        case ha13 => first | (intro w hSw; obtain ⟨s0, s1, s2, s3, _⟩ := hSw; go_simp; done) | (intro w hSw; obtain ⟨s0, s1, s2, s3, _⟩ := hSw; go_simp; with_reducible rfl)
        try simp only [Act.put, List.setIfInBounds_toArray, List.set_cons_zero, List.set_cons_succ]
        refine wpAnyH_take (i := 14) (oi := { dst := some 20, op := _, type := _, pos := _, after := _, guard := _ }) (v := ?va14) rfl (by kernel_rfl) (by kernel_rfl) (by kernel_rfl) (fun _ _ _ h => h) (Or.inl ⟨by kernel_rfl, ?ha14⟩) hSa ?ra14
        case ha14 => first | (intro w hSw; obtain ⟨s0, s1, s2, s3, _⟩ := hSw; go_simp; done) | (intro w hSw; obtain ⟨s0, s1, s2, s3, _⟩ := hSw; go_simp; with_reducible rfl)
        try simp only [Act.put, List.setIfInBounds_toArray, List.set_cons_zero, List.set_cons_succ]
        refine wpAnyH_take (i := 15) (oi := { dst := some 21, op := _, type := _, pos := _, after := _, guard := _ }) (v := ?va15) rfl (by kernel_rfl) (by kernel_rfl) (by kernel_rfl) (fun _ _ _ h => h) (Or.inl ⟨by kernel_rfl, ?ha15⟩) hSa ?ra15
        case ha15 => first | (intro w hSw; obtain ⟨s0, s1, s2, s3, _⟩ := hSw; go_simp; done) | (intro w hSw; obtain ⟨s0, s1, s2, s3, _⟩ := hSw; go_simp; with_reducible rfl)
        try simp only [Act.put, List.setIfInBounds_toArray, List.set_cons_zero, List.set_cons_succ]
        refine wpAnyH_take (i := 16) (oi := { dst := some 22, op := _, type := _, pos := _, after := _, guard := _ }) (v := ?va16) rfl (by kernel_rfl) (by kernel_rfl) (by kernel_rfl) (fun _ _ _ h => h) (Or.inl ⟨by kernel_rfl, ?ha16⟩) hSa ?ra16
        case ha16 => first | (intro w hSw; obtain ⟨s0, s1, s2, s3, _⟩ := hSw; go_simp; done) | (intro w hSw; obtain ⟨s0, s1, s2, s3, _⟩ := hSw; go_simp; with_reducible rfl)
        try simp only [Act.put, List.setIfInBounds_toArray, List.set_cons_zero, List.set_cons_succ]
        refine wpAnyH_take (i := 17) (oi := { dst := some 23, op := _, type := _, pos := _, after := _, guard := _ }) (v := ?va17) rfl (by kernel_rfl) (by kernel_rfl) (by kernel_rfl) (fun _ _ _ h => h) (Or.inl ⟨by kernel_rfl, ?ha17⟩) hSa ?ra17
        case ha17 => first | (intro w hSw; obtain ⟨s0, s1, s2, s3, _⟩ := hSw; go_simp; done) | (intro w hSw; obtain ⟨s0, s1, s2, s3, _⟩ := hSw; go_simp; with_reducible rfl)
        try simp only [Act.put, List.setIfInBounds_toArray, List.set_cons_zero, List.set_cons_succ]
        refine wpAnyH_take (i := 18) (oi := { dst := some 24, op := _, type := _, pos := _, after := _, guard := _ }) (v := ?va18) rfl (by kernel_rfl) (by kernel_rfl) (by kernel_rfl) (fun _ _ _ h => h) (Or.inl ⟨by kernel_rfl, ?ha18⟩) hSa ?ra18
        case ha18 => first | (intro w hSw; obtain ⟨s0, s1, s2, s3, _⟩ := hSw; go_simp; done) | (intro w hSw; obtain ⟨s0, s1, s2, s3, _⟩ := hSw; go_simp; with_reducible rfl)
        try simp only [Act.put, List.setIfInBounds_toArray, List.set_cons_zero, List.set_cons_succ]
        refine wpAnyH_ready (rs := [19]) (by kernel_rfl) (by simp) ?_
        refine AllReadyH.cons rfl (fun K hK => ?_) AllReadyH.nil
        go_simp
        have hSa' := KeepI.below hSa ((Below.refl _ _).alloc (Nat.le_refl _) (Obj.cells #[.string ⟨#[108, 105]⟩, .string ⟨#[112]⟩] 9))
        refine hK _ _ hSa' (fun _ => ?_)
        clear hK K hSa
        have hSa := hSa'
        clear hSa'
        refine wpAnyH_ready (rs := [20]) (by kernel_rfl) (by simp) ?_
        refine AllReadyH.cons rfl (fun K hK => ?_) AllReadyH.nil
        go_simp
        refine (unhide CI _ _ (view_below (view_litk wr lpNs 9 (by decide) 2 rfl _ rfl _ rfl) (Below.drew (Below.refl _ _)))).mono ?_
        rintro r W5 ⟨rfl, hb5⟩
        have hSa' := KeepI.below hSa hb5
        clear hb5
        refine hK _ _ hSa' (fun _ => ?_)
        clear hK K hSa
        have hSa := hSa'
        clear hSa'
        refine wpAnyH_take (i := 21) (oi := { dst := some 27, op := _, type := _, pos := _, after := _, guard := _ }) (v := ?va21) rfl (by kernel_rfl) (by kernel_rfl) (by kernel_rfl) (fun _ _ _ h => h) (Or.inl ⟨by kernel_rfl, ?ha21⟩) hSa ?ra21
        case ha21 => first | (intro w hSw; obtain ⟨s0, s1, s2, s3, _⟩ := hSw; go_simp; done) | (intro w hSw; obtain ⟨s0, s1, s2, s3, _⟩ := hSw; go_simp; with_reducible rfl)
        try simp only [Act.put, List.setIfInBounds_toArray, List.set_cons_zero, List.set_cons_succ]
        refine wpAnyH_take (i := 22) (oi := { dst := some 28, op := _, type := _, pos := _, after := _, guard := _ }) (v := ?va22) rfl (by kernel_rfl) (by kernel_rfl) (by kernel_rfl) (fun _ _ _ h => h) (Or.inl ⟨by kernel_rfl, ?ha22⟩) hSa ?ra22
        case ha22 => first | (intro w hSw; obtain ⟨s0, s1, s2, s3, _⟩ := hSw; go_simp; done) | (intro w hSw; obtain ⟨s0, s1, s2, s3, _⟩ := hSw; go_simp; with_reducible rfl)
        try simp only [Act.put, List.setIfInBounds_toArray, List.set_cons_zero, List.set_cons_succ]
        refine wpAnyH_take (i := 23) (oi := { dst := some 29, op := _, type := _, pos := _, after := _, guard := _ }) (v := undef) rfl (by kernel_rfl) (by kernel_rfl) (by kernel_rfl) (fun _ _ _ h => h) (Or.inr ⟨by kernel_rfl, rfl⟩) hSa ?_
        try simp only [Act.put, List.setIfInBounds_toArray, List.set_cons_zero, List.set_cons_succ]
        refine wpAnyH_take (i := 24) (oi := { dst := some 30, op := _, type := _, pos := _, after := _, guard := _ }) (v := undef) rfl (by kernel_rfl) (by kernel_rfl) (by kernel_rfl) (fun _ _ _ h => h) (Or.inr ⟨by kernel_rfl, rfl⟩) hSa ?_
        try simp only [Act.put, List.setIfInBounds_toArray, List.set_cons_zero, List.set_cons_succ]
        refine wpAnyH_take (i := 25) (oi := { dst := some 31, op := _, type := _, pos := _, after := _, guard := _ }) (v := undef) rfl (by kernel_rfl) (by kernel_rfl) (by kernel_rfl) (fun _ _ _ h => h) (Or.inr ⟨by kernel_rfl, rfl⟩) hSa ?_
        try simp only [Act.put, List.setIfInBounds_toArray, List.set_cons_zero, List.set_cons_succ]
        refine wpAnyH_take (i := 26) (oi := { dst := some 32, op := _, type := _, pos := _, after := _, guard := _ }) (v := undef) rfl (by kernel_rfl) (by kernel_rfl) (by kernel_rfl) (fun _ _ _ h => h) (Or.inr ⟨by kernel_rfl, rfl⟩) hSa ?_
        try simp only [Act.put, List.setIfInBounds_toArray, List.set_cons_zero, List.set_cons_succ]
        refine wpAnyH_take (i := 27) (oi := { dst := some 33, op := _, type := _, pos := _, after := _, guard := _ }) (v := undef) rfl (by kernel_rfl) (by kernel_rfl) (by kernel_rfl) (fun _ _ _ h => h) (Or.inr ⟨by kernel_rfl, rfl⟩) hSa ?_
        try simp only [Act.put, List.setIfInBounds_toArray, List.set_cons_zero, List.set_cons_succ]
        refine wpAnyH_take (i := 28) (oi := { dst := some 34, op := _, type := _, pos := _, after := _, guard := _ }) (v := undef) rfl (by kernel_rfl) (by kernel_rfl) (by kernel_rfl) (fun _ _ _ h => h) (Or.inr ⟨by kernel_rfl, rfl⟩) hSa ?_
        try simp only [Act.put, List.setIfInBounds_toArray, List.set_cons_zero, List.set_cons_succ]
        refine wpAnyH_take (i := 29) (oi := { dst := some 35, op := _, type := _, pos := _, after := _, guard := _ }) (v := undef) rfl (by kernel_rfl) (by kernel_rfl) (by kernel_rfl) (fun _ _ _ h => h) (Or.inr ⟨by kernel_rfl, rfl⟩) hSa ?_
        try simp only [Act.put, List.setIfInBounds_toArray, List.set_cons_zero, List.set_cons_succ]
        refine wpAnyH_take (i := 30) (oi := { dst := some 36, op := _, type := _, pos := _, after := _, guard := _ }) (v := undef) rfl (by kernel_rfl) (by kernel_rfl) (by kernel_rfl) (fun _ _ _ h => h) (Or.inr ⟨by kernel_rfl, rfl⟩) hSa ?_
        try simp only [Act.put, List.setIfInBounds_toArray, List.set_cons_zero, List.set_cons_succ]
        refine wpAnyH_take (i := 31) (oi := { dst := some 37, op := _, type := _, pos := _, after := _, guard := _ }) (v := undef) rfl (by kernel_rfl) (by kernel_rfl) (by kernel_rfl) (fun _ _ _ h => h) (Or.inr ⟨by kernel_rfl, rfl⟩) hSa ?_
        try simp only [Act.put, List.setIfInBounds_toArray, List.set_cons_zero, List.set_cons_succ]
        refine wpAnyH_take (i := 32) (oi := { dst := some 38, op := _, type := _, pos := _, after := _, guard := _ }) (v := undef) rfl (by kernel_rfl) (by kernel_rfl) (by kernel_rfl) (fun _ _ _ h => h) (Or.inr ⟨by kernel_rfl, rfl⟩) hSa ?_
        try simp only [Act.put, List.setIfInBounds_toArray, List.set_cons_zero, List.set_cons_succ]
        refine wpAnyH_take (i := 33) (oi := { dst := some 39, op := _, type := _, pos := _, after := _, guard := _ }) (v := undef) rfl (by kernel_rfl) (by kernel_rfl) (by kernel_rfl) (fun _ _ _ h => h) (Or.inr ⟨by kernel_rfl, rfl⟩) hSa ?_
        try simp only [Act.put, List.setIfInBounds_toArray, List.set_cons_zero, List.set_cons_succ]
        refine wpAnyH_take (i := 34) (oi := { dst := some 40, op := _, type := _, pos := _, after := _, guard := _ }) (v := undef) rfl (by kernel_rfl) (by kernel_rfl) (by kernel_rfl) (fun _ _ _ h => h) (Or.inr ⟨by kernel_rfl, rfl⟩) hSa ?_
        try simp only [Act.put, List.setIfInBounds_toArray, List.set_cons_zero, List.set_cons_succ]
        refine wpAnyH_take (i := 35) (oi := { dst := some 41, op := _, type := _, pos := _, after := _, guard := _ }) (v := undef) rfl (by kernel_rfl) (by kernel_rfl) (by kernel_rfl) (fun _ _ _ h => h) (Or.inr ⟨by kernel_rfl, rfl⟩) hSa ?_
        try simp only [Act.put, List.setIfInBounds_toArray, List.set_cons_zero, List.set_cons_succ]
        refine wpAnyH_take (i := 36) (oi := { dst := some 42, op := _, type := _, pos := _, after := _, guard := _ }) (v := undef) rfl (by kernel_rfl) (by kernel_rfl) (by kernel_rfl) (fun _ _ _ h => h) (Or.inr ⟨by kernel_rfl, rfl⟩) hSa ?_
        try simp only [Act.put, List.setIfInBounds_toArray, List.set_cons_zero, List.set_cons_succ]
        refine wpAnyH_take (i := 37) (oi := { dst := some 43, op := _, type := _, pos := _, after := _, guard := _ }) (v := undef) rfl (by kernel_rfl) (by kernel_rfl) (by kernel_rfl) (fun _ _ _ h => h) (Or.inr ⟨by kernel_rfl, rfl⟩) hSa ?_
        try simp only [Act.put, List.setIfInBounds_toArray, List.set_cons_zero, List.set_cons_succ]
        refine wpAnyH_take (i := 38) (oi := { dst := some 44, op := _, type := _, pos := _, after := _, guard := _ }) (v := ?va38) rfl (by kernel_rfl) (by kernel_rfl) (by kernel_rfl) (fun _ _ _ h => h) (Or.inl ⟨by kernel_rfl, ?ha38⟩) hSa ?ra38
        case ha38 => first | (intro w hSw; obtain ⟨s0, s1, s2, s3, _⟩ := hSw; go_simp; done) | (intro w hSw; obtain ⟨s0, s1, s2, s3, _⟩ := hSw; go_simp; with_reducible rfl)
        try simp only [Act.put, List.setIfInBounds_toArray, List.set_cons_zero, List.set_cons_succ]
        refine wpAnyH_done (by kernel_rfl) ?_ _
        obtain ⟨_, _, _, _, hbE⟩ := hSa
        have HE := hide hbE
        have hend : offN (impB but) L = k := by rw [unhide HO, unhide hoN]; simp
        have HEND := hide hend
        have HU2 := hide (RUpd.after (unhide HU) hbE)
        clear hbE hend hi hi1 hi2 hi3 hwm
        go_wp2
        go_ret
        exact ⟨by rw [unhide HEND]; rfl, by rw [unhide HEND]; exact unhide HU2⟩
      | true =>
        subst hQ
        cases hE : (nm.toList == but.toList) with
        | true =>
          have hf0 : fx = false := by have := unhide hnm; rw [hE] at this; simpa using this
          subst hf0
          go_wp2_with fail
          have hSb := unhide HSI
          refine wp_region_held (S := KeepI wr p (.slice (some ⟨g, 0, none⟩) (m + 1) cap) g (m * 3) id sp nm) (by kernel_rfl) ?_
          change wpAnyH _ _ _ _ _ _ _ _ (World.drew _)
          refine wpAnyH_take (i := 0) (oi := { dst := some 6, op := _, type := _, pos := _, after := _, guard := _ }) (v := ?vb0) rfl (by kernel_rfl) (by kernel_rfl) (by kernel_rfl) (fun _ _ _ h => h) (Or.inl ⟨by kernel_rfl, ?hb0⟩) hSb ?rb0
          case hb0 => first | (intro w hSw; obtain ⟨s0, s1, s2, s3, _⟩ := hSw; go_simp; done) | (intro w hSw; obtain ⟨s0, s1, s2, s3, _⟩ := hSw; go_simp; with_reducible rfl)
          try simp only [Act.put, List.setIfInBounds_toArray, List.set_cons_zero, List.set_cons_succ]
          refine wpAnyH_take (i := 1) (oi := { dst := some 7, op := _, type := _, pos := _, after := _, guard := _ }) (v := ?vb1) rfl (by kernel_rfl) (by kernel_rfl) (by kernel_rfl) (fun _ _ _ h => h) (Or.inl ⟨by kernel_rfl, ?hb1⟩) hSb ?rb1
          case hb1 => first | (intro w hSw; obtain ⟨s0, s1, s2, s3, _⟩ := hSw; go_simp; done) | (intro w hSw; obtain ⟨s0, s1, s2, s3, _⟩ := hSw; go_simp; with_reducible rfl)
          try simp only [Act.put, List.setIfInBounds_toArray, List.set_cons_zero, List.set_cons_succ]
          refine wpAnyH_take (i := 2) (oi := { dst := some 8, op := _, type := _, pos := _, after := _, guard := _ }) (v := ?vb2) rfl (by kernel_rfl) (by kernel_rfl) (by kernel_rfl) (fun _ _ _ h => h) (Or.inl ⟨by kernel_rfl, ?hb2⟩) hSb ?rb2
          case hb2 => first | (intro w hSw; obtain ⟨s0, s1, s2, s3, _⟩ := hSw; go_simp; done) | (intro w hSw; obtain ⟨s0, s1, s2, s3, _⟩ := hSw; go_simp; with_reducible rfl)
          try simp only [Act.put, List.setIfInBounds_toArray, List.set_cons_zero, List.set_cons_succ]
          refine wpAnyH_take (i := 3) (oi := { dst := some 9, op := _, type := _, pos := _, after := _, guard := _ }) (v := ?vb3) rfl (by kernel_rfl) (by kernel_rfl) (by kernel_rfl) (fun _ _ _ h => h) (Or.inl ⟨by kernel_rfl, ?hb3⟩) hSb ?rb3
          case hb3 => first | (intro w hSw; obtain ⟨s0, s1, s2, s3, _⟩ := hSw; go_simp; done) | (intro w hSw; obtain ⟨s0, s1, s2, s3, _⟩ := hSw; go_simp; with_reducible rfl)
          try simp only [Act.put, List.setIfInBounds_toArray, List.set_cons_zero, List.set_cons_succ]
          refine wpAnyH_take (i := 4) (oi := { dst := some 10, op := _, type := _, pos := _, after := _, guard := _ }) (v := ?vb4) rfl (by kernel_rfl) (by kernel_rfl) (by kernel_rfl) (fun _ _ _ h => h) (Or.inl ⟨by kernel_rfl, ?hb4⟩) hSb ?rb4
          case hb4 => first | (intro w hSw; obtain ⟨s0, s1, s2, s3, _⟩ := hSw; go_simp; done) | (intro w hSw; obtain ⟨s0, s1, s2, s3, _⟩ := hSw; go_simp; with_reducible rfl)
          try simp only [Act.put, List.setIfInBounds_toArray, List.set_cons_zero, List.set_cons_succ]
          refine wpAnyH_take (i := 5) (oi := { dst := some 11, op := _, type := _, pos := _, after := _, guard := _ }) (v := ?vb5) rfl (by kernel_rfl) (by kernel_rfl) (by kernel_rfl) (fun _ _ _ h => h) (Or.inl ⟨by kernel_rfl, ?hb5⟩) hSb ?rb5
          case hb5 => first | (intro w hSw; obtain ⟨s0, s1, s2, s3, _⟩ := hSw; go_simp; done) | (intro w hSw; obtain ⟨s0, s1, s2, s3, _⟩ := hSw; go_simp; with_reducible rfl)
          try simp only [Act.put, List.setIfInBounds_toArray, List.set_cons_zero, List.set_cons_succ]
          refine wpAnyH_take (i := 6) (oi := { dst := some 12, op := _, type := _, pos := _, after := _, guard := _ }) (v := ?vb6) rfl (by kernel_rfl) (by kernel_rfl) (by kernel_rfl) (fun _ _ _ h => h) (Or.inl ⟨by kernel_rfl, ?hb6⟩) hSb ?rb6
          case hb6 => first | (intro w hSw; obtain ⟨s0, s1, s2, s3, _⟩ := hSw; go_simp; done) | (intro w hSw; obtain ⟨s0, s1, s2, s3, _⟩ := hSw; go_simp; with_reducible rfl)
          try simp only [Act.put, List.setIfInBounds_toArray, List.set_cons_zero, List.set_cons_succ]
          refine wpAnyH_take (i := 7) (oi := { dst := some 13, op := _, type := _, pos := _, after := _, guard := _ }) (v := ?vb7) rfl (by kernel_rfl) (by kernel_rfl) (by kernel_rfl) (fun _ _ _ h => h) (Or.inl ⟨by kernel_rfl, ?hb7⟩) hSb ?rb7
          case hb7 => first | (intro w hSw; obtain ⟨s0, s1, s2, s3, _⟩ := hSw; go_simp; done) | (intro w hSw; obtain ⟨s0, s1, s2, s3, _⟩ := hSw; go_simp; with_reducible rfl)
          try simp only [Act.put, List.setIfInBounds_toArray, List.set_cons_zero, List.set_cons_succ]
          refine wpAnyH_take (i := 8) (oi := { dst := some 14, op := _, type := _, pos := _, after := _, guard := _ }) (v := ?vb8) rfl (by kernel_rfl) (by kernel_rfl) (by kernel_rfl) (fun _ _ _ h => h) (Or.inl ⟨by kernel_rfl, ?hb8⟩) hSb ?rb8
          case hb8 => first | (intro w hSw; obtain ⟨s0, s1, s2, s3, _⟩ := hSw; go_simp; done) | (intro w hSw; obtain ⟨s0, s1, s2, s3, _⟩ := hSw; go_simp; with_reducible rfl)
          try simp only [Act.put, List.setIfInBounds_toArray, List.set_cons_zero, List.set_cons_succ]
          refine wpAnyH_take (i := 9) (oi := { dst := some 15, op := _, type := _, pos := _, after := _, guard := _ }) (v := ?vb9) rfl (by kernel_rfl) (by kernel_rfl) (by kernel_rfl) (fun _ _ _ h => h) (Or.inl ⟨by kernel_rfl, ?hb9⟩) hSb ?rb9
          case hb9 => first | (intro w hSw; obtain ⟨s0, s1, s2, s3, _⟩ := hSw; go_simp; done) | (intro w hSw; obtain ⟨s0, s1, s2, s3, _⟩ := hSw; go_simp; with_reducible rfl)
          try simp only [Act.put, List.setIfInBounds_toArray, List.set_cons_zero, List.set_cons_succ]
          refine wpAnyH_take (i := 10) (oi := { dst := some 16, op := _, type := _, pos := _, after := _, guard := _ }) (v := ?vb10) rfl (by kernel_rfl) (by kernel_rfl) (by kernel_rfl) (fun _ _ _ h => h) (Or.inl ⟨by kernel_rfl, ?hb10⟩) hSb ?rb10
          case hb10 => first | (intro w hSw; obtain ⟨s0, s1, s2, s3, _⟩ := hSw; go_simp; done) | (intro w hSw; obtain ⟨s0, s1, s2, s3, _⟩ := hSw; go_simp; with_reducible rfl)
          try simp only [Act.put, List.setIfInBounds_toArray, List.set_cons_zero, List.set_cons_succ]
          refine wpAnyH_take (i := 11) (oi := { dst := some 17, op := _, type := _, pos := _, after := _, guard := _ }) (v := ?vb11) rfl (by kernel_rfl) (by kernel_rfl) (by kernel_rfl) (fun _ _ _ h => h) (Or.inl ⟨by kernel_rfl, ?hb11⟩) hSb ?rb11
          case hb11 => first | (intro w hSw; obtain ⟨s0, s1, s2, s3, _⟩ := hSw; go_simp; done) | (intro w hSw; obtain ⟨s0, s1, s2, s3, _⟩ := hSw; go_simp; with_reducible rfl)
          try simp only [Act.put, List.setIfInBounds_toArray, List.set_cons_zero, List.set_cons_succ]
          refine wpAnyH_take (i := 12) (oi := { dst := some 18, op := _, type := _, pos := _, after := _, guard := _ }) (v := ?vb12) rfl (by kernel_rfl) (by kernel_rfl) (by kernel_rfl) (fun _ _ _ h => h) (Or.inl ⟨by kernel_rfl, ?hb12⟩) hSb ?rb12
          case hb12 => first | (intro w hSw; obtain ⟨s0, s1, s2, s3, _⟩ := hSw; go_simp; done) | (intro w hSw; obtain ⟨s0, s1, s2, s3, _⟩ := hSw; go_simp; with_reducible rfl)
          try simp only [Act.put, List.setIfInBounds_toArray, List.set_cons_zero, List.set_cons_succ]
          refine wpAnyH_take (i := 13) (oi := { dst := some 19, op := _, type := _, pos := _, after := _, guard := _ }) (v := ?vb13) rfl (by kernel_rfl) (by kernel_rfl) (by kernel_rfl) (fun _ _ _ h => h) (Or.inl ⟨by kernel_rfl, ?hb13⟩) hSb ?rb13
          case hb13 => first | (intro w hSw; obtain ⟨s0, s1, s2, s3, _⟩ := hSw; go_simp; done) | (intro w hSw; obtain ⟨s0, s1, s2, s3, _⟩ := hSw; go_simp; with_reducible rfl)
          try simp only [Act.put, List.setIfInBounds_toArray, List.set_cons_zero, List.set_cons_succ]
          refine wpAnyH_take (i := 14) (oi := { dst := some 20, op := _, type := _, pos := _, after := _, guard := _ }) (v := ?vb14) rfl (by kernel_rfl) (by kernel_rfl) (by kernel_rfl) (fun _ _ _ h => h) (Or.inl ⟨by kernel_rfl, ?hb14⟩) hSb ?rb14
          case hb14 => first | (intro w hSw; obtain ⟨s0, s1, s2, s3, _⟩ := hSw; go_simp; done) | (intro w hSw; obtain ⟨s0, s1, s2, s3, _⟩ := hSw; go_simp; with_reducible rfl)
          try simp only [Act.put, List.setIfInBounds_toArray, List.set_cons_zero, List.set_cons_succ]
          refine wpAnyH_take (i := 15) (oi := { dst := some 21, op := _, type := _, pos := _, after := _, guard := _ }) (v := ?vb15) rfl (by kernel_rfl) (by kernel_rfl) (by kernel_rfl) (fun _ _ _ h => h) (Or.inl ⟨by kernel_rfl, ?hb15⟩) hSb ?rb15
          case hb15 => first | (intro w hSw; obtain ⟨s0, s1, s2, s3, _⟩ := hSw; go_simp; done) | (intro w hSw; obtain ⟨s0, s1, s2, s3, _⟩ := hSw; go_simp; with_reducible rfl)
          try simp only [Act.put, List.setIfInBounds_toArray, List.set_cons_zero, List.set_cons_succ]
          refine wpAnyH_take (i := 16) (oi := { dst := some 22, op := _, type := _, pos := _, after := _, guard := _ }) (v := ?vb16) rfl (by kernel_rfl) (by kernel_rfl) (by kernel_rfl) (fun _ _ _ h => h) (Or.inl ⟨by kernel_rfl, ?hb16⟩) hSb ?rb16
          case hb16 => first | (intro w hSw; obtain ⟨s0, s1, s2, s3, _⟩ := hSw; go_simp; done) | (intro w hSw; obtain ⟨s0, s1, s2, s3, _⟩ := hSw; go_simp; with_reducible rfl)
          try simp only [Act.put, List.setIfInBounds_toArray, List.set_cons_zero, List.set_cons_succ]
          refine wpAnyH_take (i := 17) (oi := { dst := some 23, op := _, type := _, pos := _, after := _, guard := _ }) (v := ?vb17) rfl (by kernel_rfl) (by kernel_rfl) (by kernel_rfl) (fun _ _ _ h => h) (Or.inl ⟨by kernel_rfl, ?hb17⟩) hSb ?rb17
          case hb17 => first | (intro w hSw; obtain ⟨s0, s1, s2, s3, _⟩ := hSw; go_simp; done) | (intro w hSw; obtain ⟨s0, s1, s2, s3, _⟩ := hSw; go_simp; with_reducible rfl)
          try simp only [Act.put, List.setIfInBounds_toArray, List.set_cons_zero, List.set_cons_succ]
          refine wpAnyH_take (i := 18) (oi := { dst := some 24, op := _, type := _, pos := _, after := _, guard := _ }) (v := ?vb18) rfl (by kernel_rfl) (by kernel_rfl) (by kernel_rfl) (fun _ _ _ h => h) (Or.inl ⟨by kernel_rfl, ?hb18⟩) hSb ?rb18
          case hb18 => first | (intro w hSw; obtain ⟨s0, s1, s2, s3, _⟩ := hSw; go_simp; done) | (intro w hSw; obtain ⟨s0, s1, s2, s3, _⟩ := hSw; go_simp; with_reducible rfl)
          try simp only [Act.put, List.setIfInBounds_toArray, List.set_cons_zero, List.set_cons_succ]
          refine wpAnyH_ready (rs := [19]) (by kernel_rfl) (by simp) ?_
          refine AllReadyH.cons rfl (fun K hK => ?_) AllReadyH.nil
          go_simp
          have hSb' := KeepI.below hSb ((Below.refl _ _).alloc (Nat.le_refl _) (Obj.cells #[.string ⟨#[108, 105]⟩, .string ⟨#[112]⟩] 9))
          refine hK _ _ hSb' (fun _ => ?_)
          clear hK K hSb
          have hSb := hSb'
          clear hSb'
          refine wpAnyH_ready (rs := [20]) (by kernel_rfl) (by simp) ?_
          refine AllReadyH.cons rfl (fun K hK => ?_) AllReadyH.nil
          go_simp
          refine (unhide CI _ _ (view_below (view_litk wr lpNs 9 (by decide) 2 rfl _ rfl _ rfl) (Below.drew (Below.refl _ _)))).mono ?_
          rintro r W5 ⟨rfl, hb5⟩
          have hSb' := KeepI.below hSb hb5
          clear hb5
          refine hK _ _ hSb' (fun _ => ?_)
          clear hK K hSb
          have hSb := hSb'
          clear hSb'
          refine wpAnyH_take (i := 21) (oi := { dst := some 27, op := _, type := _, pos := _, after := _, guard := _ }) (v := ?vb21) rfl (by kernel_rfl) (by kernel_rfl) (by kernel_rfl) (fun _ _ _ h => h) (Or.inl ⟨by kernel_rfl, ?hb21⟩) hSb ?rb21
          case hb21 => first | (intro w hSw; obtain ⟨s0, s1, s2, s3, _⟩ := hSw; go_simp; done) | (intro w hSw; obtain ⟨s0, s1, s2, s3, _⟩ := hSw; go_simp; with_reducible rfl)
          try simp only [Act.put, List.setIfInBounds_toArray, List.set_cons_zero, List.set_cons_succ]
          refine wpAnyH_take (i := 22) (oi := { dst := some 28, op := _, type := _, pos := _, after := _, guard := _ }) (v := ?vb22) rfl (by kernel_rfl) (by kernel_rfl) (by kernel_rfl) (fun _ _ _ h => h) (Or.inl ⟨by kernel_rfl, ?hb22⟩) hSb ?rb22
          case hb22 => first | (intro w hSw; obtain ⟨s0, s1, s2, s3, _⟩ := hSw; go_simp; done) | (intro w hSw; obtain ⟨s0, s1, s2, s3, _⟩ := hSw; go_simp; with_reducible rfl)
          try simp only [Act.put, List.setIfInBounds_toArray, List.set_cons_zero, List.set_cons_succ]
          refine wpAnyH_take (i := 23) (oi := { dst := some 29, op := _, type := _, pos := _, after := _, guard := _ }) (v := ?vb23) rfl (by kernel_rfl) (by kernel_rfl) (by kernel_rfl) (fun _ _ _ h => h) (Or.inl ⟨by kernel_rfl, ?hb23⟩) hSb ?rb23
          case hb23 => first | (intro w hSw; obtain ⟨s0, s1, s2, s3, _⟩ := hSw; go_simp; done) | (intro w hSw; obtain ⟨s0, s1, s2, s3, _⟩ := hSw; go_simp; with_reducible rfl)
          try simp only [Act.put, List.setIfInBounds_toArray, List.set_cons_zero, List.set_cons_succ]
          refine wpAnyH_take (i := 24) (oi := { dst := some 30, op := _, type := _, pos := _, after := _, guard := _ }) (v := ?vb24) rfl (by kernel_rfl) (by kernel_rfl) (by kernel_rfl) (fun _ _ _ h => h) (Or.inl ⟨by kernel_rfl, ?hb24⟩) hSb ?rb24
          case hb24 => first | (intro w hSw; obtain ⟨s0, s1, s2, s3, _⟩ := hSw; go_simp; done) | (intro w hSw; obtain ⟨s0, s1, s2, s3, _⟩ := hSw; go_simp; with_reducible rfl)
          try simp only [Act.put, List.setIfInBounds_toArray, List.set_cons_zero, List.set_cons_succ]
          refine wpAnyH_take (i := 25) (oi := { dst := some 31, op := _, type := _, pos := _, after := _, guard := _ }) (v := ?vb25) rfl (by kernel_rfl) (by kernel_rfl) (by kernel_rfl) (fun _ _ _ h => h) (Or.inl ⟨by kernel_rfl, ?hb25⟩) hSb ?rb25
          case hb25 => first | (intro w hSw; obtain ⟨s0, s1, s2, s3, _⟩ := hSw; go_simp; done) | (intro w hSw; obtain ⟨s0, s1, s2, s3, _⟩ := hSw; go_simp; with_reducible rfl)
          try simp only [Act.put, List.setIfInBounds_toArray, List.set_cons_zero, List.set_cons_succ]
          refine wpAnyH_take (i := 26) (oi := { dst := some 32, op := _, type := _, pos := _, after := _, guard := _ }) (v := ?vb26) rfl (by kernel_rfl) (by kernel_rfl) (by kernel_rfl) (fun _ _ _ h => h) (Or.inl ⟨by kernel_rfl, ?hb26⟩) hSb ?rb26
          case hb26 => first | (intro w hSw; obtain ⟨s0, s1, s2, s3, _⟩ := hSw; go_simp; done) | (intro w hSw; obtain ⟨s0, s1, s2, s3, _⟩ := hSw; go_simp; with_reducible rfl)
          try simp only [Act.put, List.setIfInBounds_toArray, List.set_cons_zero, List.set_cons_succ]
          refine wpAnyH_take (i := 27) (oi := { dst := some 33, op := _, type := _, pos := _, after := _, guard := _ }) (v := ?vb27) rfl (by kernel_rfl) (by kernel_rfl) (by kernel_rfl) (fun _ _ _ h => h) (Or.inl ⟨by kernel_rfl, ?hb27⟩) hSb ?rb27
          case hb27 => first | (intro w hSw; obtain ⟨s0, s1, s2, s3, _⟩ := hSw; go_simp; done) | (intro w hSw; obtain ⟨s0, s1, s2, s3, _⟩ := hSw; go_simp; with_reducible rfl)
          try simp only [Act.put, List.setIfInBounds_toArray, List.set_cons_zero, List.set_cons_succ]
          refine wpAnyH_take (i := 28) (oi := { dst := some 34, op := _, type := _, pos := _, after := _, guard := _ }) (v := ?vb28) rfl (by kernel_rfl) (by kernel_rfl) (by kernel_rfl) (fun _ _ _ h => h) (Or.inl ⟨by kernel_rfl, ?hb28⟩) hSb ?rb28
          case hb28 => first | (intro w hSw; obtain ⟨s0, s1, s2, s3, _⟩ := hSw; go_simp; done) | (intro w hSw; obtain ⟨s0, s1, s2, s3, _⟩ := hSw; go_simp; with_reducible rfl)
          try simp only [Act.put, List.setIfInBounds_toArray, List.set_cons_zero, List.set_cons_succ]
          refine wpAnyH_take (i := 29) (oi := { dst := some 35, op := _, type := _, pos := _, after := _, guard := _ }) (v := ?vb29) rfl (by kernel_rfl) (by kernel_rfl) (by kernel_rfl) (fun _ _ _ h => h) (Or.inl ⟨by kernel_rfl, ?hb29⟩) hSb ?rb29
          case hb29 => first | (intro w hSw; obtain ⟨s0, s1, s2, s3, _⟩ := hSw; go_simp; done) | (intro w hSw; obtain ⟨s0, s1, s2, s3, _⟩ := hSw; go_simp; with_reducible rfl)
          try simp only [Act.put, List.setIfInBounds_toArray, List.set_cons_zero, List.set_cons_succ]
          refine wpAnyH_take (i := 30) (oi := { dst := some 36, op := _, type := _, pos := _, after := _, guard := _ }) (v := ?vb30) rfl (by kernel_rfl) (by kernel_rfl) (by kernel_rfl) (fun _ _ _ h => h) (Or.inl ⟨by kernel_rfl, ?hb30⟩) hSb ?rb30
          case hb30 => first | (intro w hSw; obtain ⟨s0, s1, s2, s3, _⟩ := hSw; go_simp; done) | (intro w hSw; obtain ⟨s0, s1, s2, s3, _⟩ := hSw; go_simp; with_reducible rfl)
          try simp only [Act.put, List.setIfInBounds_toArray, List.set_cons_zero, List.set_cons_succ]
          refine wpAnyH_take (i := 31) (oi := { dst := some 37, op := _, type := _, pos := _, after := _, guard := _ }) (v := ?vb31) rfl (by kernel_rfl) (by kernel_rfl) (by kernel_rfl) (fun _ _ _ h => h) (Or.inl ⟨by kernel_rfl, ?hb31⟩) hSb ?rb31
          case hb31 => first | (intro w hSw; obtain ⟨s0, s1, s2, s3, _⟩ := hSw; go_simp; done) | (intro w hSw; obtain ⟨s0, s1, s2, s3, _⟩ := hSw; go_simp; with_reducible rfl)
          try simp only [Act.put, List.setIfInBounds_toArray, List.set_cons_zero, List.set_cons_succ]
          refine wpAnyH_take (i := 32) (oi := { dst := some 38, op := _, type := _, pos := _, after := _, guard := _ }) (v := ?vb32) rfl (by kernel_rfl) (by kernel_rfl) (by kernel_rfl) (fun _ _ _ h => h) (Or.inl ⟨by kernel_rfl, ?hb32⟩) hSb ?rb32
          case hb32 => first | (intro w hSw; obtain ⟨s0, s1, s2, s3, _⟩ := hSw; go_simp; done) | (intro w hSw; obtain ⟨s0, s1, s2, s3, _⟩ := hSw; go_simp; with_reducible rfl)
          try simp only [Act.put, List.setIfInBounds_toArray, List.set_cons_zero, List.set_cons_succ]
          refine wpAnyH_take (i := 33) (oi := { dst := some 39, op := _, type := _, pos := _, after := _, guard := _ }) (v := ?vb33) rfl (by kernel_rfl) (by kernel_rfl) (by kernel_rfl) (fun _ _ _ h => h) (Or.inl ⟨by kernel_rfl, ?hb33⟩) hSb ?rb33
          case hb33 => first | (intro w hSw; obtain ⟨s0, s1, s2, s3, _⟩ := hSw; go_simp; done) | (intro w hSw; obtain ⟨s0, s1, s2, s3, _⟩ := hSw; go_simp; with_reducible rfl)
          try simp only [Act.put, List.setIfInBounds_toArray, List.set_cons_zero, List.set_cons_succ]
          refine wpAnyH_take (i := 34) (oi := { dst := some 40, op := _, type := _, pos := _, after := _, guard := _ }) (v := ?vb34) rfl (by kernel_rfl) (by kernel_rfl) (by kernel_rfl) (fun _ _ _ h => h) (Or.inl ⟨by kernel_rfl, ?hb34⟩) hSb ?rb34
          case hb34 => first | (intro w hSw; obtain ⟨s0, s1, s2, s3, _⟩ := hSw; go_simp; done) | (intro w hSw; obtain ⟨s0, s1, s2, s3, _⟩ := hSw; go_simp; with_reducible rfl)
          try simp only [Act.put, List.setIfInBounds_toArray, List.set_cons_zero, List.set_cons_succ]
          refine wpAnyH_take (i := 35) (oi := { dst := some 41, op := _, type := _, pos := _, after := _, guard := _ }) (v := ?vb35) rfl (by kernel_rfl) (by kernel_rfl) (by kernel_rfl) (fun _ _ _ h => h) (Or.inl ⟨by kernel_rfl, ?hb35⟩) hSb ?rb35
          case hb35 => first | (intro w hSw; obtain ⟨s0, s1, s2, s3, _⟩ := hSw; go_simp; done) | (intro w hSw; obtain ⟨s0, s1, s2, s3, _⟩ := hSw; go_simp; with_reducible rfl)
          try simp only [Act.put, List.setIfInBounds_toArray, List.set_cons_zero, List.set_cons_succ]
          refine wpAnyH_take (i := 36) (oi := { dst := some 42, op := _, type := _, pos := _, after := _, guard := _ }) (v := ?vb36) rfl (by kernel_rfl) (by kernel_rfl) (by kernel_rfl) (fun _ _ _ h => h) (Or.inl ⟨by kernel_rfl, ?hb36⟩) hSb ?rb36
          case hb36 => first | (intro w hSw; obtain ⟨s0, s1, s2, s3, _⟩ := hSw; go_simp; done) | (intro w hSw; obtain ⟨s0, s1, s2, s3, _⟩ := hSw; go_simp; with_reducible rfl)
          try simp only [Act.put, List.setIfInBounds_toArray, List.set_cons_zero, List.set_cons_succ]
          refine wpAnyH_take (i := 37) (oi := { dst := some 43, op := _, type := _, pos := _, after := _, guard := _ }) (v := ?vb37) rfl (by kernel_rfl) (by kernel_rfl) (by kernel_rfl) (fun _ _ _ h => h) (Or.inl ⟨by kernel_rfl, ?hb37⟩) hSb ?rb37
          case hb37 => first | (intro w hSw; obtain ⟨s0, s1, s2, s3, _⟩ := hSw; go_simp; done) | (intro w hSw; obtain ⟨s0, s1, s2, s3, _⟩ := hSw; go_simp; with_reducible rfl)
          try simp only [Act.put, List.setIfInBounds_toArray, List.set_cons_zero, List.set_cons_succ]
          refine wpAnyH_take (i := 38) (oi := { dst := some 44, op := _, type := _, pos := _, after := _, guard := _ }) (v := ?vb38) rfl (by kernel_rfl) (by kernel_rfl) (by kernel_rfl) (fun _ _ _ h => h) (Or.inl ⟨by kernel_rfl, ?hb38⟩) hSb ?rb38
          case hb38 => first | (intro w hSw; obtain ⟨s0, s1, s2, s3, _⟩ := hSw; go_simp; done) | (intro w hSw; obtain ⟨s0, s1, s2, s3, _⟩ := hSw; go_simp; with_reducible rfl)
          try simp only [Act.put, List.setIfInBounds_toArray, List.set_cons_zero, List.set_cons_succ]
          refine wpAnyH_done (by kernel_rfl) ?_ _
          obtain ⟨_, _, _, _, hbE⟩ := hSb
          have HE := hide hbE
          have hend : offN (impB but) L = k := by rw [unhide HO, unhide hoN]; simp
          have HEND := hide hend
          have HU2 := hide (RUpd.after (unhide HU) hbE)
          clear hbE hend hi hi1 hi2 hi3 hwm
          go_wp2
          go_ret
          exact ⟨by rw [unhide HEND]; rfl, by rw [unhide HEND]; exact unhide HU2⟩
        | false =>
          have hf0 : fx = true := by have := unhide hnm; rw [hE] at this; simpa using this
          subst hf0
          go_wp2_with fail
          have hSc := unhide HSI
          refine wp_region_held (S := KeepI wr p (.slice (some ⟨g, 0, none⟩) (m + 1) cap) g (m * 3) id sp nm) (by kernel_rfl) ?_
          change wpAnyH _ _ _ _ _ _ _ _ (World.drew _)
          refine wpAnyH_take (i := 0) (oi := { dst := some 6, op := _, type := _, pos := _, after := _, guard := _ }) (v := ?vc0) rfl (by kernel_rfl) (by kernel_rfl) (by kernel_rfl) (fun _ _ _ h => h) (Or.inl ⟨by kernel_rfl, ?hc0⟩) hSc ?rc0
          case hc0 => first | (intro w hSw; obtain ⟨s0, s1, s2, s3, _⟩ := hSw; go_simp; done) | (intro w hSw; obtain ⟨s0, s1, s2, s3, _⟩ := hSw; go_simp; with_reducible rfl)
          try simp only [Act.put, List.setIfInBounds_toArray, List.set_cons_zero, List.set_cons_succ]
          refine wpAnyH_take (i := 1) (oi := { dst := some 7, op := _, type := _, pos := _, after := _, guard := _ }) (v := ?vc1) rfl (by kernel_rfl) (by kernel_rfl) (by kernel_rfl) (fun _ _ _ h => h) (Or.inl ⟨by kernel_rfl, ?hc1⟩) hSc ?rc1
          case hc1 => first | (intro w hSw; obtain ⟨s0, s1, s2, s3, _⟩ := hSw; go_simp; done) | (intro w hSw; obtain ⟨s0, s1, s2, s3, _⟩ := hSw; go_simp; with_reducible rfl)
          try simp only [Act.put, List.setIfInBounds_toArray, List.set_cons_zero, List.set_cons_succ]
          refine wpAnyH_take (i := 2) (oi := { dst := some 8, op := _, type := _, pos := _, after := _, guard := _ }) (v := ?vc2) rfl (by kernel_rfl) (by kernel_rfl) (by kernel_rfl) (fun _ _ _ h => h) (Or.inl ⟨by kernel_rfl, ?hc2⟩) hSc ?rc2
          case hc2 => first | (intro w hSw; obtain ⟨s0, s1, s2, s3, _⟩ := hSw; go_simp; done) | (intro w hSw; obtain ⟨s0, s1, s2, s3, _⟩ := hSw; go_simp; with_reducible rfl)
          try simp only [Act.put, List.setIfInBounds_toArray, List.set_cons_zero, List.set_cons_succ]
          refine wpAnyH_take (i := 3) (oi := { dst := some 9, op := _, type := _, pos := _, after := _, guard := _ }) (v := ?vc3) rfl (by kernel_rfl) (by kernel_rfl) (by kernel_rfl) (fun _ _ _ h => h) (Or.inl ⟨by kernel_rfl, ?hc3⟩) hSc ?rc3
          case hc3 => first | (intro w hSw; obtain ⟨s0, s1, s2, s3, _⟩ := hSw; go_simp; done) | (intro w hSw; obtain ⟨s0, s1, s2, s3, _⟩ := hSw; go_simp; with_reducible rfl)
          try simp only [Act.put, List.setIfInBounds_toArray, List.set_cons_zero, List.set_cons_succ]
          refine wpAnyH_take (i := 4) (oi := { dst := some 10, op := _, type := _, pos := _, after := _, guard := _ }) (v := ?vc4) rfl (by kernel_rfl) (by kernel_rfl) (by kernel_rfl) (fun _ _ _ h => h) (Or.inl ⟨by kernel_rfl, ?hc4⟩) hSc ?rc4
          case hc4 => first | (intro w hSw; obtain ⟨s0, s1, s2, s3, _⟩ := hSw; go_simp; done) | (intro w hSw; obtain ⟨s0, s1, s2, s3, _⟩ := hSw; go_simp; with_reducible rfl)
          try simp only [Act.put, List.setIfInBounds_toArray, List.set_cons_zero, List.set_cons_succ]
          refine wpAnyH_take (i := 5) (oi := { dst := some 11, op := _, type := _, pos := _, after := _, guard := _ }) (v := ?vc5) rfl (by kernel_rfl) (by kernel_rfl) (by kernel_rfl) (fun _ _ _ h => h) (Or.inl ⟨by kernel_rfl, ?hc5⟩) hSc ?rc5
          case hc5 => first | (intro w hSw; obtain ⟨s0, s1, s2, s3, _⟩ := hSw; go_simp; done) | (intro w hSw; obtain ⟨s0, s1, s2, s3, _⟩ := hSw; go_simp; with_reducible rfl)
          try simp only [Act.put, List.setIfInBounds_toArray, List.set_cons_zero, List.set_cons_succ]
          refine wpAnyH_take (i := 6) (oi := { dst := some 12, op := _, type := _, pos := _, after := _, guard := _ }) (v := ?vc6) rfl (by kernel_rfl) (by kernel_rfl) (by kernel_rfl) (fun _ _ _ h => h) (Or.inl ⟨by kernel_rfl, ?hc6⟩) hSc ?rc6
          case hc6 => first | (intro w hSw; obtain ⟨s0, s1, s2, s3, _⟩ := hSw; go_simp; done) | (intro w hSw; obtain ⟨s0, s1, s2, s3, _⟩ := hSw; go_simp; with_reducible rfl)
          try simp only [Act.put, List.setIfInBounds_toArray, List.set_cons_zero, List.set_cons_succ]
          refine wpAnyH_take (i := 7) (oi := { dst := some 13, op := _, type := _, pos := _, after := _, guard := _ }) (v := ?vc7) rfl (by kernel_rfl) (by kernel_rfl) (by kernel_rfl) (fun _ _ _ h => h) (Or.inl ⟨by kernel_rfl, ?hc7⟩) hSc ?rc7
          case hc7 => first | (intro w hSw; obtain ⟨s0, s1, s2, s3, _⟩ := hSw; go_simp; done) | (intro w hSw; obtain ⟨s0, s1, s2, s3, _⟩ := hSw; go_simp; with_reducible rfl)
          try simp only [Act.put, List.setIfInBounds_toArray, List.set_cons_zero, List.set_cons_succ]
          refine wpAnyH_take (i := 8) (oi := { dst := some 14, op := _, type := _, pos := _, after := _, guard := _ }) (v := ?vc8) rfl (by kernel_rfl) (by kernel_rfl) (by kernel_rfl) (fun _ _ _ h => h) (Or.inl ⟨by kernel_rfl, ?hc8⟩) hSc ?rc8
          case hc8 => first | (intro w hSw; obtain ⟨s0, s1, s2, s3, _⟩ := hSw; go_simp; done) | (intro w hSw; obtain ⟨s0, s1, s2, s3, _⟩ := hSw; go_simp; with_reducible rfl)
          try simp only [Act.put, List.setIfInBounds_toArray, List.set_cons_zero, List.set_cons_succ]
          refine wpAnyH_take (i := 9) (oi := { dst := some 15, op := _, type := _, pos := _, after := _, guard := _ }) (v := ?vc9) rfl (by kernel_rfl) (by kernel_rfl) (by kernel_rfl) (fun _ _ _ h => h) (Or.inl ⟨by kernel_rfl, ?hc9⟩) hSc ?rc9
          case hc9 => first | (intro w hSw; obtain ⟨s0, s1, s2, s3, _⟩ := hSw; go_simp; done) | (intro w hSw; obtain ⟨s0, s1, s2, s3, _⟩ := hSw; go_simp; with_reducible rfl)
          try simp only [Act.put, List.setIfInBounds_toArray, List.set_cons_zero, List.set_cons_succ]
          refine wpAnyH_take (i := 10) (oi := { dst := some 16, op := _, type := _, pos := _, after := _, guard := _ }) (v := ?vc10) rfl (by kernel_rfl) (by kernel_rfl) (by kernel_rfl) (fun _ _ _ h => h) (Or.inl ⟨by kernel_rfl, ?hc10⟩) hSc ?rc10
          case hc10 => first | (intro w hSw; obtain ⟨s0, s1, s2, s3, _⟩ := hSw; go_simp; done) | (intro w hSw; obtain ⟨s0, s1, s2, s3, _⟩ := hSw; go_simp; with_reducible rfl)
          try simp only [Act.put, List.setIfInBounds_toArray, List.set_cons_zero, List.set_cons_succ]
          refine wpAnyH_take (i := 11) (oi := { dst := some 17, op := _, type := _, pos := _, after := _, guard := _ }) (v := ?vc11) rfl (by kernel_rfl) (by kernel_rfl) (by kernel_rfl) (fun _ _ _ h => h) (Or.inl ⟨by kernel_rfl, ?hc11⟩) hSc ?rc11
          case hc11 => first | (intro w hSw; obtain ⟨s0, s1, s2, s3, _⟩ := hSw; go_simp; done) | (intro w hSw; obtain ⟨s0, s1, s2, s3, _⟩ := hSw; go_simp; with_reducible rfl)
          try simp only [Act.put, List.setIfInBounds_toArray, List.set_cons_zero, List.set_cons_succ]
          refine wpAnyH_take (i := 12) (oi := { dst := some 18, op := _, type := _, pos := _, after := _, guard := _ }) (v := ?vc12) rfl (by kernel_rfl) (by kernel_rfl) (by kernel_rfl) (fun _ _ _ h => h) (Or.inl ⟨by kernel_rfl, ?hc12⟩) hSc ?rc12
          case hc12 => first | (intro w hSw; obtain ⟨s0, s1, s2, s3, _⟩ := hSw; go_simp; done) | (intro w hSw; obtain ⟨s0, s1, s2, s3, _⟩ := hSw; go_simp; with_reducible rfl)
          try simp only [Act.put, List.setIfInBounds_toArray, List.set_cons_zero, List.set_cons_succ]
          refine wpAnyH_take (i := 13) (oi := { dst := some 19, op := _, type := _, pos := _, after := _, guard := _ }) (v := ?vc13) rfl (by kernel_rfl) (by kernel_rfl) (by kernel_rfl) (fun _ _ _ h => h) (Or.inl ⟨by kernel_rfl, ?hc13⟩) hSc ?rc13
          case hc13 => first | (intro w hSw; obtain ⟨s0, s1, s2, s3, _⟩ := hSw; go_simp; done) | (intro w hSw; obtain ⟨s0, s1, s2, s3, _⟩ := hSw; go_simp; with_reducible rfl)
          try simp only [Act.put, List.setIfInBounds_toArray, List.set_cons_zero, List.set_cons_succ]
          refine wpAnyH_take (i := 14) (oi := { dst := some 20, op := _, type := _, pos := _, after := _, guard := _ }) (v := ?vc14) rfl (by kernel_rfl) (by kernel_rfl) (by kernel_rfl) (fun _ _ _ h => h) (Or.inl ⟨by kernel_rfl, ?hc14⟩) hSc ?rc14
          case hc14 => first | (intro w hSw; obtain ⟨s0, s1, s2, s3, _⟩ := hSw; go_simp; done) | (intro w hSw; obtain ⟨s0, s1, s2, s3, _⟩ := hSw; go_simp; with_reducible rfl)
          try simp only [Act.put, List.setIfInBounds_toArray, List.set_cons_zero, List.set_cons_succ]
          refine wpAnyH_take (i := 15) (oi := { dst := some 21, op := _, type := _, pos := _, after := _, guard := _ }) (v := ?vc15) rfl (by kernel_rfl) (by kernel_rfl) (by kernel_rfl) (fun _ _ _ h => h) (Or.inl ⟨by kernel_rfl, ?hc15⟩) hSc ?rc15
          case hc15 => first | (intro w hSw; obtain ⟨s0, s1, s2, s3, _⟩ := hSw; go_simp; done) | (intro w hSw; obtain ⟨s0, s1, s2, s3, _⟩ := hSw; go_simp; with_reducible rfl)
          try simp only [Act.put, List.setIfInBounds_toArray, List.set_cons_zero, List.set_cons_succ]
          refine wpAnyH_take (i := 16) (oi := { dst := some 22, op := _, type := _, pos := _, after := _, guard := _ }) (v := ?vc16) rfl (by kernel_rfl) (by kernel_rfl) (by kernel_rfl) (fun _ _ _ h => h) (Or.inl ⟨by kernel_rfl, ?hc16⟩) hSc ?rc16
          case hc16 => first | (intro w hSw; obtain ⟨s0, s1, s2, s3, _⟩ := hSw; go_simp; done) | (intro w hSw; obtain ⟨s0, s1, s2, s3, _⟩ := hSw; go_simp; with_reducible rfl)
          try simp only [Act.put, List.setIfInBounds_toArray, List.set_cons_zero, List.set_cons_succ]
          refine wpAnyH_take (i := 17) (oi := { dst := some 23, op := _, type := _, pos := _, after := _, guard := _ }) (v := ?vc17) rfl (by kernel_rfl) (by kernel_rfl) (by kernel_rfl) (fun _ _ _ h => h) (Or.inl ⟨by kernel_rfl, ?hc17⟩) hSc ?rc17
          case hc17 => first | (intro w hSw; obtain ⟨s0, s1, s2, s3, _⟩ := hSw; go_simp; done) | (intro w hSw; obtain ⟨s0, s1, s2, s3, _⟩ := hSw; go_simp; with_reducible rfl)
          try simp only [Act.put, List.setIfInBounds_toArray, List.set_cons_zero, List.set_cons_succ]
          refine wpAnyH_take (i := 18) (oi := { dst := some 24, op := _, type := _, pos := _, after := _, guard := _ }) (v := ?vc18) rfl (by kernel_rfl) (by kernel_rfl) (by kernel_rfl) (fun _ _ _ h => h) (Or.inl ⟨by kernel_rfl, ?hc18⟩) hSc ?rc18
          case hc18 => first | (intro w hSw; obtain ⟨s0, s1, s2, s3, _⟩ := hSw; go_simp; done) | (intro w hSw; obtain ⟨s0, s1, s2, s3, _⟩ := hSw; go_simp; with_reducible rfl)
          try simp only [Act.put, List.setIfInBounds_toArray, List.set_cons_zero, List.set_cons_succ]
          refine wpAnyH_ready (rs := [19]) (by kernel_rfl) (by simp) ?_
          refine AllReadyH.cons rfl (fun K hK => ?_) AllReadyH.nil
          go_simp
          have hSc' := KeepI.below hSc ((Below.refl _ _).alloc (Nat.le_refl _) (Obj.cells #[.string ⟨#[108, 105]⟩, .string ⟨#[112]⟩] 9))
          refine hK _ _ hSc' (fun _ => ?_)
          clear hK K hSc
          have hSc := hSc'
          clear hSc'
          refine wpAnyH_ready (rs := [20]) (by kernel_rfl) (by simp) ?_
          refine AllReadyH.cons rfl (fun K hK => ?_) AllReadyH.nil
          go_simp
          refine (unhide CI _ _ (view_below (view_litk wr lpNs 9 (by decide) 2 rfl _ rfl _ rfl) (Below.drew (Below.refl _ _)))).mono ?_
          rintro r W5 ⟨rfl, hb5⟩
          have hSc' := KeepI.below hSc hb5
          clear hb5
          refine hK _ _ hSc' (fun _ => ?_)
          clear hK K hSc
          have hSc := hSc'
          clear hSc'
          refine wpAnyH_take (i := 21) (oi := { dst := some 27, op := _, type := _, pos := _, after := _, guard := _ }) (v := ?vc21) rfl (by kernel_rfl) (by kernel_rfl) (by kernel_rfl) (fun _ _ _ h => h) (Or.inl ⟨by kernel_rfl, ?hc21⟩) hSc ?rc21
          case hc21 => first | (intro w hSw; obtain ⟨s0, s1, s2, s3, _⟩ := hSw; go_simp; done) | (intro w hSw; obtain ⟨s0, s1, s2, s3, _⟩ := hSw; go_simp; with_reducible rfl)
          try simp only [Act.put, List.setIfInBounds_toArray, List.set_cons_zero, List.set_cons_succ]
          refine wpAnyH_take (i := 22) (oi := { dst := some 28, op := _, type := _, pos := _, after := _, guard := _ }) (v := ?vc22) rfl (by kernel_rfl) (by kernel_rfl) (by kernel_rfl) (fun _ _ _ h => h) (Or.inl ⟨by kernel_rfl, ?hc22⟩) hSc ?rc22
          case hc22 => first | (intro w hSw; obtain ⟨s0, s1, s2, s3, _⟩ := hSw; go_simp; done) | (intro w hSw; obtain ⟨s0, s1, s2, s3, _⟩ := hSw; go_simp; with_reducible rfl)
          try simp only [Act.put, List.setIfInBounds_toArray, List.set_cons_zero, List.set_cons_succ]
          refine wpAnyH_take (i := 23) (oi := { dst := some 29, op := _, type := _, pos := _, after := _, guard := _ }) (v := ?vc23) rfl (by kernel_rfl) (by kernel_rfl) (by kernel_rfl) (fun _ _ _ h => h) (Or.inl ⟨by kernel_rfl, ?hc23⟩) hSc ?rc23
          case hc23 => first | (intro w hSw; obtain ⟨s0, s1, s2, s3, _⟩ := hSw; go_simp; done) | (intro w hSw; obtain ⟨s0, s1, s2, s3, _⟩ := hSw; go_simp; with_reducible rfl)
          try simp only [Act.put, List.setIfInBounds_toArray, List.set_cons_zero, List.set_cons_succ]
          refine wpAnyH_take (i := 24) (oi := { dst := some 30, op := _, type := _, pos := _, after := _, guard := _ }) (v := ?vc24) rfl (by kernel_rfl) (by kernel_rfl) (by kernel_rfl) (fun _ _ _ h => h) (Or.inl ⟨by kernel_rfl, ?hc24⟩) hSc ?rc24
          case hc24 => first | (intro w hSw; obtain ⟨s0, s1, s2, s3, _⟩ := hSw; go_simp; done) | (intro w hSw; obtain ⟨s0, s1, s2, s3, _⟩ := hSw; go_simp; with_reducible rfl)
          try simp only [Act.put, List.setIfInBounds_toArray, List.set_cons_zero, List.set_cons_succ]
          refine wpAnyH_take (i := 25) (oi := { dst := some 31, op := _, type := _, pos := _, after := _, guard := _ }) (v := ?vc25) rfl (by kernel_rfl) (by kernel_rfl) (by kernel_rfl) (fun _ _ _ h => h) (Or.inl ⟨by kernel_rfl, ?hc25⟩) hSc ?rc25
          case hc25 => first | (intro w hSw; obtain ⟨s0, s1, s2, s3, _⟩ := hSw; go_simp; done) | (intro w hSw; obtain ⟨s0, s1, s2, s3, _⟩ := hSw; go_simp; with_reducible rfl)
          try simp only [Act.put, List.setIfInBounds_toArray, List.set_cons_zero, List.set_cons_succ]
          refine wpAnyH_take (i := 26) (oi := { dst := some 32, op := _, type := _, pos := _, after := _, guard := _ }) (v := ?vc26) rfl (by kernel_rfl) (by kernel_rfl) (by kernel_rfl) (fun _ _ _ h => h) (Or.inl ⟨by kernel_rfl, ?hc26⟩) hSc ?rc26
          case hc26 => first | (intro w hSw; obtain ⟨s0, s1, s2, s3, _⟩ := hSw; go_simp; done) | (intro w hSw; obtain ⟨s0, s1, s2, s3, _⟩ := hSw; go_simp; with_reducible rfl)
          try simp only [Act.put, List.setIfInBounds_toArray, List.set_cons_zero, List.set_cons_succ]
          refine wpAnyH_take (i := 27) (oi := { dst := some 33, op := _, type := _, pos := _, after := _, guard := _ }) (v := ?vc27) rfl (by kernel_rfl) (by kernel_rfl) (by kernel_rfl) (fun _ _ _ h => h) (Or.inl ⟨by kernel_rfl, ?hc27⟩) hSc ?rc27
          case hc27 => first | (intro w hSw; obtain ⟨s0, s1, s2, s3, _⟩ := hSw; go_simp; done) | (intro w hSw; obtain ⟨s0, s1, s2, s3, _⟩ := hSw; go_simp; with_reducible rfl)
          try simp only [Act.put, List.setIfInBounds_toArray, List.set_cons_zero, List.set_cons_succ]
          refine wpAnyH_take (i := 28) (oi := { dst := some 34, op := _, type := _, pos := _, after := _, guard := _ }) (v := ?vc28) rfl (by kernel_rfl) (by kernel_rfl) (by kernel_rfl) (fun _ _ _ h => h) (Or.inl ⟨by kernel_rfl, ?hc28⟩) hSc ?rc28
          case hc28 => first | (intro w hSw; obtain ⟨s0, s1, s2, s3, _⟩ := hSw; go_simp; done) | (intro w hSw; obtain ⟨s0, s1, s2, s3, _⟩ := hSw; go_simp; with_reducible rfl)
          try simp only [Act.put, List.setIfInBounds_toArray, List.set_cons_zero, List.set_cons_succ]
          refine wpAnyH_take (i := 29) (oi := { dst := some 35, op := _, type := _, pos := _, after := _, guard := _ }) (v := ?vc29) rfl (by kernel_rfl) (by kernel_rfl) (by kernel_rfl) (fun _ _ _ h => h) (Or.inl ⟨by kernel_rfl, ?hc29⟩) hSc ?rc29
          case hc29 => first | (intro w hSw; obtain ⟨s0, s1, s2, s3, _⟩ := hSw; go_simp; done) | (intro w hSw; obtain ⟨s0, s1, s2, s3, _⟩ := hSw; go_simp; with_reducible rfl)
          try simp only [Act.put, List.setIfInBounds_toArray, List.set_cons_zero, List.set_cons_succ]
          refine wpAnyH_take (i := 30) (oi := { dst := some 36, op := _, type := _, pos := _, after := _, guard := _ }) (v := ?vc30) rfl (by kernel_rfl) (by kernel_rfl) (by kernel_rfl) (fun _ _ _ h => h) (Or.inl ⟨by kernel_rfl, ?hc30⟩) hSc ?rc30
          case hc30 => first | (intro w hSw; obtain ⟨s0, s1, s2, s3, _⟩ := hSw; go_simp; done) | (intro w hSw; obtain ⟨s0, s1, s2, s3, _⟩ := hSw; go_simp; with_reducible rfl)
          try simp only [Act.put, List.setIfInBounds_toArray, List.set_cons_zero, List.set_cons_succ]
          refine wpAnyH_take (i := 31) (oi := { dst := some 37, op := _, type := _, pos := _, after := _, guard := _ }) (v := ?vc31) rfl (by kernel_rfl) (by kernel_rfl) (by kernel_rfl) (fun _ _ _ h => h) (Or.inl ⟨by kernel_rfl, ?hc31⟩) hSc ?rc31
          case hc31 => first | (intro w hSw; obtain ⟨s0, s1, s2, s3, _⟩ := hSw; go_simp; done) | (intro w hSw; obtain ⟨s0, s1, s2, s3, _⟩ := hSw; go_simp; with_reducible rfl)
          try simp only [Act.put, List.setIfInBounds_toArray, List.set_cons_zero, List.set_cons_succ]
          refine wpAnyH_take (i := 32) (oi := { dst := some 38, op := _, type := _, pos := _, after := _, guard := _ }) (v := ?vc32) rfl (by kernel_rfl) (by kernel_rfl) (by kernel_rfl) (fun _ _ _ h => h) (Or.inl ⟨by kernel_rfl, ?hc32⟩) hSc ?rc32
          case hc32 => first | (intro w hSw; obtain ⟨s0, s1, s2, s3, _⟩ := hSw; go_simp; done) | (intro w hSw; obtain ⟨s0, s1, s2, s3, _⟩ := hSw; go_simp; with_reducible rfl)
          try simp only [Act.put, List.setIfInBounds_toArray, List.set_cons_zero, List.set_cons_succ]
          refine wpAnyH_take (i := 33) (oi := { dst := some 39, op := _, type := _, pos := _, after := _, guard := _ }) (v := ?vc33) rfl (by kernel_rfl) (by kernel_rfl) (by kernel_rfl) (fun _ _ _ h => h) (Or.inl ⟨by kernel_rfl, ?hc33⟩) hSc ?rc33
          case hc33 => first | (intro w hSw; obtain ⟨s0, s1, s2, s3, _⟩ := hSw; go_simp; done) | (intro w hSw; obtain ⟨s0, s1, s2, s3, _⟩ := hSw; go_simp; with_reducible rfl)
          try simp only [Act.put, List.setIfInBounds_toArray, List.set_cons_zero, List.set_cons_succ]
          refine wpAnyH_take (i := 34) (oi := { dst := some 40, op := _, type := _, pos := _, after := _, guard := _ }) (v := ?vc34) rfl (by kernel_rfl) (by kernel_rfl) (by kernel_rfl) (fun _ _ _ h => h) (Or.inl ⟨by kernel_rfl, ?hc34⟩) hSc ?rc34
          case hc34 => first | (intro w hSw; obtain ⟨s0, s1, s2, s3, _⟩ := hSw; go_simp; done) | (intro w hSw; obtain ⟨s0, s1, s2, s3, _⟩ := hSw; go_simp; with_reducible rfl)
          try simp only [Act.put, List.setIfInBounds_toArray, List.set_cons_zero, List.set_cons_succ]
          refine wpAnyH_take (i := 35) (oi := { dst := some 41, op := _, type := _, pos := _, after := _, guard := _ }) (v := ?vc35) rfl (by kernel_rfl) (by kernel_rfl) (by kernel_rfl) (fun _ _ _ h => h) (Or.inl ⟨by kernel_rfl, ?hc35⟩) hSc ?rc35
          case hc35 => first | (intro w hSw; obtain ⟨s0, s1, s2, s3, _⟩ := hSw; go_simp; done) | (intro w hSw; obtain ⟨s0, s1, s2, s3, _⟩ := hSw; go_simp; with_reducible rfl)
          try simp only [Act.put, List.setIfInBounds_toArray, List.set_cons_zero, List.set_cons_succ]
          refine wpAnyH_take (i := 36) (oi := { dst := some 42, op := _, type := _, pos := _, after := _, guard := _ }) (v := ?vc36) rfl (by kernel_rfl) (by kernel_rfl) (by kernel_rfl) (fun _ _ _ h => h) (Or.inl ⟨by kernel_rfl, ?hc36⟩) hSc ?rc36
          case hc36 => first | (intro w hSw; obtain ⟨s0, s1, s2, s3, _⟩ := hSw; go_simp; done) | (intro w hSw; obtain ⟨s0, s1, s2, s3, _⟩ := hSw; go_simp; with_reducible rfl)
          try simp only [Act.put, List.setIfInBounds_toArray, List.set_cons_zero, List.set_cons_succ]
          refine wpAnyH_take (i := 37) (oi := { dst := some 43, op := _, type := _, pos := _, after := _, guard := _ }) (v := ?vc37) rfl (by kernel_rfl) (by kernel_rfl) (by kernel_rfl) (fun _ _ _ h => h) (Or.inl ⟨by kernel_rfl, ?hc37⟩) hSc ?rc37
          case hc37 => first | (intro w hSw; obtain ⟨s0, s1, s2, s3, _⟩ := hSw; go_simp; done) | (intro w hSw; obtain ⟨s0, s1, s2, s3, _⟩ := hSw; go_simp; with_reducible rfl)
          try simp only [Act.put, List.setIfInBounds_toArray, List.set_cons_zero, List.set_cons_succ]
          refine wpAnyH_take (i := 38) (oi := { dst := some 44, op := _, type := _, pos := _, after := _, guard := _ }) (v := ?vc38) rfl (by kernel_rfl) (by kernel_rfl) (by kernel_rfl) (fun _ _ _ h => h) (Or.inl ⟨by kernel_rfl, ?hc38⟩) hSc ?rc38
          case hc38 => first | (intro w hSw; obtain ⟨s0, s1, s2, s3, _⟩ := hSw; go_simp; done) | (intro w hSw; obtain ⟨s0, s1, s2, s3, _⟩ := hSw; go_simp; with_reducible rfl)
          try simp only [Act.put, List.setIfInBounds_toArray, List.set_cons_zero, List.set_cons_succ]
          refine wpAnyH_done (by kernel_rfl) ?_ _
          obtain ⟨_, _, _, _, hbE⟩ := hSc
          have hbz := hbE.size
          have CP2 := hide (unhide CP _ ((unhide HS).later hbE) (by omega))
          have HTE := hide (And.intro ((unhide HT).1.then_below hbE) (unhide HT).2)
          clear hbE hi hi1 hi2 hi3 hwm
          go_wp2_with fail
          refine (unhide CP2).mono ?_
          rintro e w6 ⟨rfl, hu⟩
          have HU6 := hide (RUpd.trans (L := L) (unhide HTE).1 (unhide HTE).2 hu)
          clear hu
          go_wp2
          go_roundw
          case rel =>
            refine ⟨k + 1, by go_num, by omega, ?_, ?_⟩
            · rw [unhide HO, unhide hoN, ← unhide HA]; simp; omega
            · rw [← unhide HA]; exact unhide HU6
          case measure => simp [intOf]; omega
    · have hke : k = L.length := by omega
      rw [hke, Nat.sub_self, List.take_zero] at hs
      have HS := hide hs
      obtain ⟨q, cap, rfl, hc, hm, hg⟩ := hs.slice
      have c0 : wr.cell? ⟨p, 0, none⟩ = some (.slice q 0 cap) := hs.1.cell 0
      have HSE : Hid (KeepE wr p (.slice q 0 cap) wr.drew) := hide ⟨c0, below_draws wr 1⟩
      clear hs ht ho hg c0
      go_wp2_with fail
      have hSd := unhide HSE
      refine wp_region_held (S := KeepE wr p (.slice q 0 cap)) (by kernel_rfl) ?_
      change wpAnyH _ _ _ _ _ _ _ _ (World.drew _)
      refine wpAnyH_take (i := 0) (oi := { dst := some 6, op := _, type := _, pos := _, after := _, guard := _ }) (v := ?vd0) rfl (by kernel_rfl) (by kernel_rfl) (by kernel_rfl) (fun _ _ _ h => h) (Or.inl ⟨by kernel_rfl, ?hd0⟩) hSd ?rd0
      case hd0 => first | (intro w hSw; obtain ⟨s0, _⟩ := hSw; go_simp; done) | (intro w hSw; obtain ⟨s0, _⟩ := hSw; go_simp; with_reducible rfl)
      try simp only [Act.put, List.setIfInBounds_toArray, List.set_cons_zero, List.set_cons_succ]
      refine wpAnyH_take (i := 1) (oi := { dst := some 7, op := _, type := _, pos := _, after := _, guard := _ }) (v := ?vd1) rfl (by kernel_rfl) (by kernel_rfl) (by kernel_rfl) (fun _ _ _ h => h) (Or.inl ⟨by kernel_rfl, ?hd1⟩) hSd ?rd1
      case hd1 => first | (intro w hSw; obtain ⟨s0, _⟩ := hSw; go_simp; done) | (intro w hSw; obtain ⟨s0, _⟩ := hSw; go_simp; with_reducible rfl)
      try simp only [Act.put, List.setIfInBounds_toArray, List.set_cons_zero, List.set_cons_succ]
      refine wpAnyH_take (i := 2) (oi := { dst := some 8, op := _, type := _, pos := _, after := _, guard := _ }) (v := ?vd2) rfl (by kernel_rfl) (by kernel_rfl) (by kernel_rfl) (fun _ _ _ h => h) (Or.inl ⟨by kernel_rfl, ?hd2⟩) hSd ?rd2
      case hd2 => first | (intro w hSw; obtain ⟨s0, _⟩ := hSw; go_simp; done) | (intro w hSw; obtain ⟨s0, _⟩ := hSw; go_simp; with_reducible rfl)
      try simp only [Act.put, List.setIfInBounds_toArray, List.set_cons_zero, List.set_cons_succ]
      refine wpAnyH_take (i := 3) (oi := { dst := some 9, op := _, type := _, pos := _, after := _, guard := _ }) (v := ?vd3) rfl (by kernel_rfl) (by kernel_rfl) (by kernel_rfl) (fun _ _ _ h => h) (Or.inl ⟨by kernel_rfl, ?hd3⟩) hSd ?rd3
      case hd3 => first | (intro w hSw; obtain ⟨s0, _⟩ := hSw; go_simp; done) | (intro w hSw; obtain ⟨s0, _⟩ := hSw; go_simp; with_reducible rfl)
      try simp only [Act.put, List.setIfInBounds_toArray, List.set_cons_zero, List.set_cons_succ]
      refine wpAnyH_take (i := 4) (oi := { dst := some 10, op := _, type := _, pos := _, after := _, guard := _ }) (v := ?vd4) rfl (by kernel_rfl) (by kernel_rfl) (by kernel_rfl) (fun _ _ _ h => h) (Or.inl ⟨by kernel_rfl, ?hd4⟩) hSd ?rd4
      case hd4 => first | (intro w hSw; obtain ⟨s0, _⟩ := hSw; go_simp; done) | (intro w hSw; obtain ⟨s0, _⟩ := hSw; go_simp; with_reducible rfl)
      try simp only [Act.put, List.setIfInBounds_toArray, List.set_cons_zero, List.set_cons_succ]
      refine wpAnyH_take (i := 5) (oi := { dst := some 11, op := _, type := _, pos := _, after := _, guard := _ }) (v := ?vd5) rfl (by kernel_rfl) (by kernel_rfl) (by kernel_rfl) (fun _ _ _ h => h) (Or.inl ⟨by kernel_rfl, ?hd5⟩) hSd ?rd5
      case hd5 => first | (intro w hSw; obtain ⟨s0, _⟩ := hSw; go_simp; done) | (intro w hSw; obtain ⟨s0, _⟩ := hSw; go_simp; with_reducible rfl)
      try simp only [Act.put, List.setIfInBounds_toArray, List.set_cons_zero, List.set_cons_succ]
      refine wpAnyH_take (i := 6) (oi := { dst := some 12, op := _, type := _, pos := _, after := _, guard := _ }) (v := ?vd6) rfl (by kernel_rfl) (by kernel_rfl) (by kernel_rfl) (fun _ _ _ h => h) (Or.inl ⟨by kernel_rfl, ?hd6⟩) hSd ?rd6
      case hd6 => first | (intro w hSw; obtain ⟨s0, _⟩ := hSw; go_simp; done) | (intro w hSw; obtain ⟨s0, _⟩ := hSw; go_simp; with_reducible rfl)
      try simp only [Act.put, List.setIfInBounds_toArray, List.set_cons_zero, List.set_cons_succ]
      refine wpAnyH_take (i := 7) (oi := { dst := some 13, op := _, type := _, pos := _, after := _, guard := _ }) (v := undef) rfl (by kernel_rfl) (by kernel_rfl) (by kernel_rfl) (fun _ _ _ h => h) (Or.inr ⟨by kernel_rfl, rfl⟩) hSd ?_
      try simp only [Act.put, List.setIfInBounds_toArray, List.set_cons_zero, List.set_cons_succ]
      refine wpAnyH_take (i := 8) (oi := { dst := some 14, op := _, type := _, pos := _, after := _, guard := _ }) (v := undef) rfl (by kernel_rfl) (by kernel_rfl) (by kernel_rfl) (fun _ _ _ h => h) (Or.inr ⟨by kernel_rfl, rfl⟩) hSd ?_
      try simp only [Act.put, List.setIfInBounds_toArray, List.set_cons_zero, List.set_cons_succ]
      refine wpAnyH_take (i := 9) (oi := { dst := some 15, op := _, type := _, pos := _, after := _, guard := _ }) (v := undef) rfl (by kernel_rfl) (by kernel_rfl) (by kernel_rfl) (fun _ _ _ h => h) (Or.inr ⟨by kernel_rfl, rfl⟩) hSd ?_
      try simp only [Act.put, List.setIfInBounds_toArray, List.set_cons_zero, List.set_cons_succ]
      refine wpAnyH_take (i := 10) (oi := { dst := some 16, op := _, type := _, pos := _, after := _, guard := _ }) (v := undef) rfl (by kernel_rfl) (by kernel_rfl) (by kernel_rfl) (fun _ _ _ h => h) (Or.inr ⟨by kernel_rfl, rfl⟩) hSd ?_
      try simp only [Act.put, List.setIfInBounds_toArray, List.set_cons_zero, List.set_cons_succ]
      refine wpAnyH_take (i := 11) (oi := { dst := some 17, op := _, type := _, pos := _, after := _, guard := _ }) (v := undef) rfl (by kernel_rfl) (by kernel_rfl) (by kernel_rfl) (fun _ _ _ h => h) (Or.inr ⟨by kernel_rfl, rfl⟩) hSd ?_
      try simp only [Act.put, List.setIfInBounds_toArray, List.set_cons_zero, List.set_cons_succ]
      refine wpAnyH_take (i := 12) (oi := { dst := some 18, op := _, type := _, pos := _, after := _, guard := _ }) (v := undef) rfl (by kernel_rfl) (by kernel_rfl) (by kernel_rfl) (fun _ _ _ h => h) (Or.inr ⟨by kernel_rfl, rfl⟩) hSd ?_
      try simp only [Act.put, List.setIfInBounds_toArray, List.set_cons_zero, List.set_cons_succ]
      refine wpAnyH_take (i := 13) (oi := { dst := some 19, op := _, type := _, pos := _, after := _, guard := _ }) (v := undef) rfl (by kernel_rfl) (by kernel_rfl) (by kernel_rfl) (fun _ _ _ h => h) (Or.inr ⟨by kernel_rfl, rfl⟩) hSd ?_
      try simp only [Act.put, List.setIfInBounds_toArray, List.set_cons_zero, List.set_cons_succ]
      refine wpAnyH_take (i := 14) (oi := { dst := some 20, op := _, type := _, pos := _, after := _, guard := _ }) (v := undef) rfl (by kernel_rfl) (by kernel_rfl) (by kernel_rfl) (fun _ _ _ h => h) (Or.inr ⟨by kernel_rfl, rfl⟩) hSd ?_
      try simp only [Act.put, List.setIfInBounds_toArray, List.set_cons_zero, List.set_cons_succ]
      refine wpAnyH_take (i := 15) (oi := { dst := some 21, op := _, type := _, pos := _, after := _, guard := _ }) (v := undef) rfl (by kernel_rfl) (by kernel_rfl) (by kernel_rfl) (fun _ _ _ h => h) (Or.inr ⟨by kernel_rfl, rfl⟩) hSd ?_
      try simp only [Act.put, List.setIfInBounds_toArray, List.set_cons_zero, List.set_cons_succ]
      refine wpAnyH_take (i := 16) (oi := { dst := some 22, op := _, type := _, pos := _, after := _, guard := _ }) (v := undef) rfl (by kernel_rfl) (by kernel_rfl) (by kernel_rfl) (fun _ _ _ h => h) (Or.inr ⟨by kernel_rfl, rfl⟩) hSd ?_
      try simp only [Act.put, List.setIfInBounds_toArray, List.set_cons_zero, List.set_cons_succ]
      refine wpAnyH_take (i := 17) (oi := { dst := some 23, op := _, type := _, pos := _, after := _, guard := _ }) (v := undef) rfl (by kernel_rfl) (by kernel_rfl) (by kernel_rfl) (fun _ _ _ h => h) (Or.inr ⟨by kernel_rfl, rfl⟩) hSd ?_
      try simp only [Act.put, List.setIfInBounds_toArray, List.set_cons_zero, List.set_cons_succ]
      refine wpAnyH_take (i := 18) (oi := { dst := some 24, op := _, type := _, pos := _, after := _, guard := _ }) (v := undef) rfl (by kernel_rfl) (by kernel_rfl) (by kernel_rfl) (fun _ _ _ h => h) (Or.inr ⟨by kernel_rfl, rfl⟩) hSd ?_
      try simp only [Act.put, List.setIfInBounds_toArray, List.set_cons_zero, List.set_cons_succ]
      refine wpAnyH_take (i := 19) (oi := { dst := some 25, op := _, type := _, pos := _, after := _, guard := _ }) (v := undef) rfl (by kernel_rfl) (by kernel_rfl) (by kernel_rfl) (fun _ _ _ h => h) (Or.inr ⟨by kernel_rfl, rfl⟩) hSd ?_
      try simp only [Act.put, List.setIfInBounds_toArray, List.set_cons_zero, List.set_cons_succ]
      refine wpAnyH_take (i := 20) (oi := { dst := some 26, op := _, type := _, pos := _, after := _, guard := _ }) (v := undef) rfl (by kernel_rfl) (by kernel_rfl) (by kernel_rfl) (fun _ _ _ h => h) (Or.inr ⟨by kernel_rfl, rfl⟩) hSd ?_
      try simp only [Act.put, List.setIfInBounds_toArray, List.set_cons_zero, List.set_cons_succ]
      refine wpAnyH_take (i := 21) (oi := { dst := some 27, op := _, type := _, pos := _, after := _, guard := _ }) (v := ?vd21) rfl (by kernel_rfl) (by kernel_rfl) (by kernel_rfl) (fun _ _ _ h => h) (Or.inl ⟨by kernel_rfl, ?hd21⟩) hSd ?rd21
      case hd21 => first | (intro w hSw; obtain ⟨s0, _⟩ := hSw; go_simp; done) | (intro w hSw; obtain ⟨s0, _⟩ := hSw; go_simp; with_reducible rfl)
      try simp only [Act.put, List.setIfInBounds_toArray, List.set_cons_zero, List.set_cons_succ]
      refine wpAnyH_take (i := 22) (oi := { dst := some 28, op := _, type := _, pos := _, after := _, guard := _ }) (v := ?vd22) rfl (by kernel_rfl) (by kernel_rfl) (by kernel_rfl) (fun _ _ _ h => h) (Or.inl ⟨by kernel_rfl, ?hd22⟩) hSd ?rd22
      case hd22 => first | (intro w hSw; obtain ⟨s0, _⟩ := hSw; go_simp; done) | (intro w hSw; obtain ⟨s0, _⟩ := hSw; go_simp; with_reducible rfl)
      try simp only [Act.put, List.setIfInBounds_toArray, List.set_cons_zero, List.set_cons_succ]
      refine wpAnyH_take (i := 23) (oi := { dst := some 29, op := _, type := _, pos := _, after := _, guard := _ }) (v := undef) rfl (by kernel_rfl) (by kernel_rfl) (by kernel_rfl) (fun _ _ _ h => h) (Or.inr ⟨by kernel_rfl, rfl⟩) hSd ?_
      try simp only [Act.put, List.setIfInBounds_toArray, List.set_cons_zero, List.set_cons_succ]
      refine wpAnyH_take (i := 24) (oi := { dst := some 30, op := _, type := _, pos := _, after := _, guard := _ }) (v := undef) rfl (by kernel_rfl) (by kernel_rfl) (by kernel_rfl) (fun _ _ _ h => h) (Or.inr ⟨by kernel_rfl, rfl⟩) hSd ?_
      try simp only [Act.put, List.setIfInBounds_toArray, List.set_cons_zero, List.set_cons_succ]
      refine wpAnyH_take (i := 25) (oi := { dst := some 31, op := _, type := _, pos := _, after := _, guard := _ }) (v := undef) rfl (by kernel_rfl) (by kernel_rfl) (by kernel_rfl) (fun _ _ _ h => h) (Or.inr ⟨by kernel_rfl, rfl⟩) hSd ?_
      try simp only [Act.put, List.setIfInBounds_toArray, List.set_cons_zero, List.set_cons_succ]
      refine wpAnyH_take (i := 26) (oi := { dst := some 32, op := _, type := _, pos := _, after := _, guard := _ }) (v := undef) rfl (by kernel_rfl) (by kernel_rfl) (by kernel_rfl) (fun _ _ _ h => h) (Or.inr ⟨by kernel_rfl, rfl⟩) hSd ?_
      try simp only [Act.put, List.setIfInBounds_toArray, List.set_cons_zero, List.set_cons_succ]
      refine wpAnyH_take (i := 27) (oi := { dst := some 33, op := _, type := _, pos := _, after := _, guard := _ }) (v := undef) rfl (by kernel_rfl) (by kernel_rfl) (by kernel_rfl) (fun _ _ _ h => h) (Or.inr ⟨by kernel_rfl, rfl⟩) hSd ?_
      try simp only [Act.put, List.setIfInBounds_toArray, List.set_cons_zero, List.set_cons_succ]
      refine wpAnyH_take (i := 28) (oi := { dst := some 34, op := _, type := _, pos := _, after := _, guard := _ }) (v := undef) rfl (by kernel_rfl) (by kernel_rfl) (by kernel_rfl) (fun _ _ _ h => h) (Or.inr ⟨by kernel_rfl, rfl⟩) hSd ?_
      try simp only [Act.put, List.setIfInBounds_toArray, List.set_cons_zero, List.set_cons_succ]
      refine wpAnyH_take (i := 29) (oi := { dst := some 35, op := _, type := _, pos := _, after := _, guard := _ }) (v := undef) rfl (by kernel_rfl) (by kernel_rfl) (by kernel_rfl) (fun _ _ _ h => h) (Or.inr ⟨by kernel_rfl, rfl⟩) hSd ?_
      try simp only [Act.put, List.setIfInBounds_toArray, List.set_cons_zero, List.set_cons_succ]
      refine wpAnyH_take (i := 30) (oi := { dst := some 36, op := _, type := _, pos := _, after := _, guard := _ }) (v := undef) rfl (by kernel_rfl) (by kernel_rfl) (by kernel_rfl) (fun _ _ _ h => h) (Or.inr ⟨by kernel_rfl, rfl⟩) hSd ?_
      try simp only [Act.put, List.setIfInBounds_toArray, List.set_cons_zero, List.set_cons_succ]
      refine wpAnyH_take (i := 31) (oi := { dst := some 37, op := _, type := _, pos := _, after := _, guard := _ }) (v := undef) rfl (by kernel_rfl) (by kernel_rfl) (by kernel_rfl) (fun _ _ _ h => h) (Or.inr ⟨by kernel_rfl, rfl⟩) hSd ?_
      try simp only [Act.put, List.setIfInBounds_toArray, List.set_cons_zero, List.set_cons_succ]
      refine wpAnyH_take (i := 32) (oi := { dst := some 38, op := _, type := _, pos := _, after := _, guard := _ }) (v := undef) rfl (by kernel_rfl) (by kernel_rfl) (by kernel_rfl) (fun _ _ _ h => h) (Or.inr ⟨by kernel_rfl, rfl⟩) hSd ?_
      try simp only [Act.put, List.setIfInBounds_toArray, List.set_cons_zero, List.set_cons_succ]
      refine wpAnyH_take (i := 33) (oi := { dst := some 39, op := _, type := _, pos := _, after := _, guard := _ }) (v := undef) rfl (by kernel_rfl) (by kernel_rfl) (by kernel_rfl) (fun _ _ _ h => h) (Or.inr ⟨by kernel_rfl, rfl⟩) hSd ?_
      try simp only [Act.put, List.setIfInBounds_toArray, List.set_cons_zero, List.set_cons_succ]
      refine wpAnyH_take (i := 34) (oi := { dst := some 40, op := _, type := _, pos := _, after := _, guard := _ }) (v := undef) rfl (by kernel_rfl) (by kernel_rfl) (by kernel_rfl) (fun _ _ _ h => h) (Or.inr ⟨by kernel_rfl, rfl⟩) hSd ?_
      try simp only [Act.put, List.setIfInBounds_toArray, List.set_cons_zero, List.set_cons_succ]
      refine wpAnyH_take (i := 35) (oi := { dst := some 41, op := _, type := _, pos := _, after := _, guard := _ }) (v := undef) rfl (by kernel_rfl) (by kernel_rfl) (by kernel_rfl) (fun _ _ _ h => h) (Or.inr ⟨by kernel_rfl, rfl⟩) hSd ?_
      try simp only [Act.put, List.setIfInBounds_toArray, List.set_cons_zero, List.set_cons_succ]
      refine wpAnyH_take (i := 36) (oi := { dst := some 42, op := _, type := _, pos := _, after := _, guard := _ }) (v := undef) rfl (by kernel_rfl) (by kernel_rfl) (by kernel_rfl) (fun _ _ _ h => h) (Or.inr ⟨by kernel_rfl, rfl⟩) hSd ?_
      try simp only [Act.put, List.setIfInBounds_toArray, List.set_cons_zero, List.set_cons_succ]
      refine wpAnyH_take (i := 37) (oi := { dst := some 43, op := _, type := _, pos := _, after := _, guard := _ }) (v := undef) rfl (by kernel_rfl) (by kernel_rfl) (by kernel_rfl) (fun _ _ _ h => h) (Or.inr ⟨by kernel_rfl, rfl⟩) hSd ?_
      try simp only [Act.put, List.setIfInBounds_toArray, List.set_cons_zero, List.set_cons_succ]
      refine wpAnyH_take (i := 38) (oi := { dst := some 44, op := _, type := _, pos := _, after := _, guard := _ }) (v := ?vd38) rfl (by kernel_rfl) (by kernel_rfl) (by kernel_rfl) (fun _ _ _ h => h) (Or.inl ⟨by kernel_rfl, ?hd38⟩) hSd ?rd38
      case hd38 => first | (intro w hSw; obtain ⟨s0, _⟩ := hSw; go_simp; done) | (intro w hSw; obtain ⟨s0, _⟩ := hSw; go_simp; with_reducible rfl)
      try simp only [Act.put, List.setIfInBounds_toArray, List.set_cons_zero, List.set_cons_succ]
      refine wpAnyH_done (by kernel_rfl) ?_ _
      obtain ⟨_, hbE⟩ := hSd
      have hend : offN (impB but) L = k := by rw [unhide HO, hke, Nat.sub_self, List.take_zero]; simp [offN]
      have HEND := hide hend
      have HU2 := hide (RUpd.after (unhide HU) hbE)
      clear hbE hend
      go_wp2
      go_ret
      exact ⟨by rw [unhide HEND]; rfl, by rw [unhide HEND]; exact unhide HU2⟩
end Go.Proofs.Ytdkjdomacilagaa
