/-
  What 'words.Lists' does (made by mk_xli.py).
-/
import Derived.Test.YtfbgpodcdgmpjaaDoorXLs
import Derived.Test.YtfbgpodcdgmpjaaDoorMgAM
import Derived.Laws.EntriesVeiled
namespace Go.Proofs.YtfbgpodcdgmpjaaDoor
open Go.RowKit
set_option linter.unusedVariables false
set_option linter.unusedSimpArgs false

theorem owns_kept {w w' : World} {base : Nat} {e e' : TypeId} {size : Nat} {v : Value} {n : Nat} {xs : List Value} {b : Nat} (h : w.ownsRow base e size v n xs) (hk : Lib.OthersKept e' (some b) w w') (hb : b < base) (he : e ≠ e') : w'.ownsRow base e size v n xs := by
  obtain ⟨hl, h⟩ := h
  refine ⟨hl, ?_⟩
  rcases h with h | ⟨g, cap, cur, h1, h2, h3, h4⟩
  · exact .inl h
  · refine .inr ⟨g, cap, cur, h1, h2, hk g _ h3 (fun x => by simp at x; omega) (fun c fz x => ?_), h4⟩
    injection x with _ x _
    exact he x
theorem blk_kept {w w' : World} {g : Nat} {vs : Array Value} {e e' : TypeId} {b : Nat} (h : Blk w g vs e) (hk : Lib.OthersKept e' (some b) w w') (hb : g ≠ b) (he : e ≠ e') : Blk w' g vs e :=
  hk g _ h (fun x => hb (by simpa using x)) (fun c fz x => by injection x with _ x _; exact he x)
theorem blk_kept0 {w w' : World} {g : Nat} {vs : Array Value} {e e' : TypeId} (h : Blk w g vs e) (hk : Lib.OthersKept e' none w w') (he : e ≠ e') : Blk w' g vs e :=
  hk g _ h (by simp) (fun c fz x => by injection x with _ x _; exact he x)
theorem LsM.below {w w2 : World} {A : Nat} {va vb : Value} {i j : Nat} {L : List Pc} (h : LsM w A va vb i j L) (hb : Below w.heap.size w w2) : LsM w2 A va vb i j L := by
  obtain ⟨k0, k1, k3, k4, q', n', c', k2, r⟩ := h
  exact ⟨k0.later hb, k1.later hb, k3.later hb, k4.later hb, q', n', c', k2.later hb, ownsRow_below r hb⟩
theorem LsM.go {w : World} {A : Nat} {va vb : Value} {i j i' j' : Nat} {L : List Pc} (h : LsM w A va vb i j L) : LsM ((w.setCell ⟨A + 3, 0, none⟩ (.int .i64 (i' : Int))).setCell ⟨A + 4, 0, none⟩ (.int .i64 (j' : Int))) A va vb i' j' L := by
  obtain ⟨k0, k1, k3, k4, q', n', c', k2, r⟩ := h
  exact ⟨(k0.away (by omega) _).away (by omega) _, (k1.away (by omega) _).away (by omega) _, (k3.set 0 (by simp) _).away (by omega) _, (k4.away (by omega) _).set 0 (by simp) _, q', n', c', (k2.away (by omega) _).away (by omega) _, owns_store (owns_store r (by omega) _) (by omega) _⟩
theorem whP_at (P : List (Nat × Nat)) (k : Nat) (h : k < P.length) : (whP P).getD k p0 = (((P.getD k (0, 0)).1 : Int), ((P.getD k (0, 0)).2 : Int), true) := by
  unfold whP
  simp [List.getD, h]
theorem view_one (w : World) (s : ByteArray) (t : TypeId) {b : Nat} (h : Blk w b #[.string s] t) : View w (.slice (some ⟨b, 0, none⟩) 1 1) [s] := by
  refine ⟨by show 1 ≤ _; decide, some ⟨b, 0, none⟩, 1, rfl, fun _ => ⟨b, 0, rfl, fun i hi => ?_⟩⟩
  have hi' : i = 0 := by simp at hi; omega
  subst hi'
  exact h.cell 0
/-- Behind the third step of a round. -/
structure LsT (va vb u : Value) (P : List (Nat × Nat)) (w0 : World) (i j x y pb : Nat) (L : List Pc) (V : World) : Prop where
  bl : Below w0.heap.size w0 V
  pr : PairsV V (w0.heap.size + 5) u (whP P)
  sz : w0.heap.size + 5 ≤ V.heap.size
  m : LsM V w0.heap.size va vb i j L
  p : Blk V pb #[.int .i64 (x : Int), .int .i64 (y : Int), .bool true] 60
def ListsSaid (a b : List ByteArray) (w : World) (e : Ending) (w' : World) : Prop := ∃ v, e = .returned v ∧ PcsV w' w.heap.size v (lsP a b 0 0 (lnP (eqT a b) a.length b.length 0 0)) ∧ Below w.heap.size w w'
theorem rise_drop {E : Nat → Nat → Bool} {n m : Nat} {i j k : Nat} {P : List (Nat × Nat)} (h : RiseFrom E n m i j (P.drop k)) (hk : k < P.length) : i ≤ (P.getD k (0, 0)).1 ∧ j ≤ (P.getD k (0, 0)).2 ∧ (P.getD k (0, 0)).1 < n ∧ (P.getD k (0, 0)).2 < m ∧ RiseFrom E n m ((P.getD k (0, 0)).1 + 1) ((P.getD k (0, 0)).2 + 1) (P.drop (k + 1)) ∧ P.drop k = (P.getD k (0, 0)) :: P.drop (k + 1) := by
  have e : P.drop k = (P.getD k (0, 0)) :: P.drop (k + 1) := by
    rw [List.drop_eq_getElem_cons hk]
    congr 1
    simp [List.getD, hk]
  rw [e] at h
  exact ⟨h.1, h.2.1, h.2.2.1, h.2.2.2.1, h.2.2.2.2.2, e⟩
theorem lsm_new (w : World) (va vb : Value) : LsM (((((w.alloc (Obj.cells #[va] 26)).alloc (Obj.cells #[vb] 26)).alloc (Obj.cells #[.slice none 0 0] 33)).alloc (Obj.cells #[.int .i64 0] 3)).alloc (Obj.cells #[.int .i64 0] 3)) w.heap.size va vb 0 0 [] := by
  have e : ∀ (W : World) o, (W.alloc o).heap.size = W.heap.size + 1 := fun W o => by simp
  refine ⟨((((Blk.new w _ _).alloc _).alloc _).alloc _).alloc _, ?_, ?_, ?_, none, 0, 0, ?_, pcs_nil _ _⟩
  · have := (((Blk.new (w.alloc (Obj.cells #[va] 26)) #[vb] 26).alloc (Obj.cells #[.slice none 0 0] 33)).alloc (Obj.cells #[.int .i64 0] 3)).alloc (Obj.cells #[.int .i64 0] 3)
    rw [e] at this; exact this
  · have := (Blk.new (((w.alloc (Obj.cells #[va] 26)).alloc (Obj.cells #[vb] 26)).alloc (Obj.cells #[.slice none 0 0] 33)) #[.int .i64 0] 3).alloc (Obj.cells #[.int .i64 0] 3)
    rw [e, e, e] at this; exact this
  · have := Blk.new ((((w.alloc (Obj.cells #[va] 26)).alloc (Obj.cells #[vb] 26)).alloc (Obj.cells #[.slice none 0 0] 33)).alloc (Obj.cells #[.int .i64 0] 3)) #[.int .i64 0] 3
    rw [e, e, e, e] at this; exact this
  · have := ((Blk.new ((w.alloc (Obj.cells #[va] 26)).alloc (Obj.cells #[vb] 26)) #[.slice none 0 0] 33).alloc (Obj.cells #[.int .i64 0] 3)).alloc (Obj.cells #[.int .i64 0] 3)
    rw [e, e] at this; exact this
def KeX (A : Nat) (va : Value) (pb x g o : Nat) (s : ByteArray) (W : World) : Prop := W.cell? ⟨A, 0, none⟩ = some va ∧ W.cell? ⟨pb, 0, none⟩ = some (.int .i64 (x : Int)) ∧ W.cell? ⟨g, o + x, none⟩ = some (.string s)
theorem KeX.later {A : Nat} {va : Value} {pb x g o : Nat} {s : ByteArray} {W W' : World} (h : KeX A va pb x g o s W) (hb : Below W.heap.size W W') : KeX A va pb x g o s W' := ⟨cell_later hb h.1, cell_later hb h.2.1, cell_later hb h.2.2⟩
/-- What holds at a round of the loop. -/
structure LsAt (a b : List ByteArray) (va vb u : Value) (P : List (Nat × Nat)) (w0 : World) (k : Nat) (wr : World) : Prop where
  bl : Below w0.heap.size w0 wr
  pr : PairsV wr (w0.heap.size + 5) u (whP P)
  sz : w0.heap.size + 5 ≤ wr.heap.size
  ex : ∃ i j L, LsM wr w0.heap.size va vb i j L ∧ RiseFrom (eqT a b) a.length b.length i j (P.drop k) ∧ i ≤ a.length ∧ j ≤ b.length ∧ L.length ≤ i + j ∧ lsP a b 0 0 P = L ++ lsP a b i j (P.drop k)
set_option maxHeartbeats 4000000 in
set_option maxRecDepth 100000 in
theorem lists_any (qa qb : Option Addr) (n m ca cb : Nat) (a b : List ByteArray) (w : World) (ha : View w (.slice qa n ca) a) (hb : View w (.slice qb m cb) b) (hca : n ≤ ca) (hcb : m ≤ cb) (h1 : ∀ k, k < a.length → (tx a k).size ≤ 9223372036854775807) (h2 : ∀ k, k < b.length → (tx b k).size ≤ 9223372036854775807) (hn : n ≤ 1000) (hmm : m ≤ 1000) :
    Calls Tryd.prog 13 #[.slice qa n ca, .slice qb m cb] w (ListsSaid a b w) := by
  have hna : n = a.length := by obtain ⟨_, _, _, e, _⟩ := ha; cases e; rfl
  have hmb : m = b.length := by obtain ⟨_, _, _, e, _⟩ := hb; cases e; rfl
  have CM := hide (fun (W : World) (hW : Below w.heap.size w W) => mline_any (.slice qa n ca) (.slice qb m cb) a b W (view_below ha hW) (view_below hb hW) h1 h2 (by omega) (by omega))
  have CL := hide (fun (x y i j : Nat) (L : List Pc) (W : World) (hW : Below w.heap.size w W) (hz : w.heap.size + 5 ≤ W.heap.size) (hL : LsM W w.heap.size (.slice qa n ca) (.slice qb m cb) i j L) (hi : i ≤ x) (hx : x ≤ n) (hj : j ≤ y) (hy : y ≤ m) (hl : L.length ≤ 10000) => leave_any qa qb n m ca cb x y i j a b L W w ha hb hca hcb hW hz hL hi hx hj hy hn hmm hl)
  obtain ⟨P, hP⟩ : ∃ P, lnP (eqT a b) a.length b.length 0 0 = P := ⟨_, rfl⟩
  have HRI : Hid (RiseFrom (eqT a b) a.length b.length 0 0 P) := hide (by rw [← hP]; exact lnP_rises _ _ _ 0 0)
  have hPl : P.length ≤ 1000 := by rw [← hP]; have := lnP_small (eqT a b) a.length b.length 0 0; omega
  unfold LineSaid at CM
  unfold ListsSaid
  rw [hP] at CM ⊢
  have HVA := hide ha
  have HVB := hide hb
  have HNA := hide hna
  have HMB := hide hmb
  clear ha hb h1 h2 hP hna hmb
  have hB5 : Below w.heap.size w (((((w.alloc (Obj.cells #[.slice qa n ca] 26)).alloc (Obj.cells #[.slice qb m cb] 26)).alloc (Obj.cells #[.slice none 0 0] 33)).alloc (Obj.cells #[.int .i64 0] 3)).alloc (Obj.cells #[.int .i64 0] 3)) :=
    ((((((Below.refl w.heap.size w).alloc (Nat.le_refl _) _).alloc (by simp) _).alloc (by simp; omega) _).alloc (by simp; omega) _).alloc (by simp; omega) _)
  have CM5 := hide (unhide CM _ hB5)
  have HM5 := hide (lsm_new w (.slice qa n ca) (.slice qb m cb))
  have HB5 := hide hB5
  clear CM hB5
  go_enter Tryd.func13, Tryd.ntmps13
  go_wp2_with fail
  refine Calls.mono (unhide CM5) ?_
  rintro e w1 ⟨u1, rfl, hp1, hb1⟩
  have HM1 := hide ((unhide HM5).below hb1)
  have HB1 := hide (tr2 (unhide HB5) hb1)
  have hz1 := hb1.size
  have hz5 : w.heap.size + 5 ≤ w1.heap.size := by simpa [Nat.add_assoc] using hz1
  obtain ⟨pq, pc, hu1, _⟩ := hp1.cells
  subst hu1
  have HP1 : Hid (PairsV w1 (w.heap.size + 5) (.slice pq (whP P).length pc) (whP P)) := hide (by simpa [Nat.add_assoc] using hp1)
  have hwl : (whP P).length = P.length := by unfold whP; rw [List.length_map]
  rw [hwl] at HP1 ⊢
  have HAT : Hid (LsAt a b (.slice qa n ca) (.slice qb m cb) (.slice pq P.length pc) P w 0 w1) := hide ⟨unhide HB1, unhide HP1, hz5, 0, 0, [], unhide HM1, unhide HRI, Nat.zero_le _, Nat.zero_le _, Nat.le_refl _, by rw [List.drop_zero, List.nil_append]⟩
  clear CM5 HM5 HB5 hp1 hb1 HRI HM1 HB1 hwl hz1
  simp only [Nat.add_assoc, Nat.reduceAdd]
  go_wp2
  go_loopw [16] (fun i wr => ∃ k : Nat, k ≤ P.length ∧ i = .int .i64 (k : Int) ∧ LsAt a b (.slice qa n ca) (.slice qb m cb) (.slice pq P.length pc) P w k wr) (fun i _ => P.length - (intOf i).toNat)
  case atStart => exact ⟨0, Nat.zero_le _, rfl, unhide HAT⟩
  case round =>
    clear HAT
    obtain ⟨k, hk, rfl, hat⟩ := hrel
    obtain ⟨hbl, hkp, hsz, i, j, L, hm, hri, hia, hjb, hLl, hall⟩ := hat
    have HALL := hide hall
    have HM := hide hm
    have HBL := hide hbl
    have HKP := hide hkp
    clear hall
    by_cases hp : k < P.length
    · have hki : (k : Int) < (P.length : Int) := by omega
      obtain ⟨r1, r2, r3, r4, r5, r6⟩ := rise_drop hri hp
      have hpr : PairsV wr (w.heap.size + 5) (.slice pq P.length pc) (whP P) := hkp
      obtain ⟨q', c', hu', hcl⟩ := hpr.cells
      injection hu' with hu1 hu2 hu3
      subst hu1 hu3
      clear hu2
      obtain ⟨g, rfl, hg, hcell⟩ := hcl (by unfold whP; rw [List.length_map]; omega)
      obtain ⟨x0, x1, x2⟩ := hcell k (by unfold whP; rw [List.length_map]; exact hp)
      rw [whP_at P k hp] at x0 x1 x2
      dsimp only at x0 x1 x2
      rw [r6] at hri
      have HR6 := hide r6
      obtain ⟨pr, hpr2⟩ : ∃ pr, P.getD k (0, 0) = pr := ⟨_, rfl⟩
      rw [hpr2] at x0 x1 r1 r2 r3 r4 r5 HR6
      obtain ⟨x, y⟩ := pr
      dsimp only at x0 x1 r1 r2 r3 r4 r5
      have HR5 := hide r5
      have hbA : Below wr.heap.size wr (wr.alloc (Obj.cells #[.int .i64 (x : Int), .int .i64 (y : Int), .bool true] 60)) := (Below.refl _ _).alloc (Nat.le_refl _) _
      have C7 := hide (unhide CL x y i j L (wr.alloc (Obj.cells #[.int .i64 (x : Int), .int .i64 (y : Int), .bool true] 60)) (tr2 hbl hbA) (Nat.le_trans hsz hbA.size) (hm.below hbA) r1 (by have := unhide HNA; omega) r2 (by have := unhide HMB; omega) (by have := unhide HNA; have := unhide HMB; omega))
      have KP := hide (Blk.new wr #[.int .i64 (x : Int), .int .i64 (y : Int), .bool true] 60)
      have HBA := hide hbA
      obtain ⟨T, hT⟩ : ∃ T, tk 2 (List.drop i (List.take x a)) ++ tk 3 (List.drop j (List.take y b)) = T := ⟨_, rfl⟩
      rw [hT] at C7
      have HT := hide hT
      have hTl : (L ++ T).length ≤ x + y := by
        rw [← hT, List.length_append, List.length_append, tk_len, tk_len, List.length_drop, List.length_drop, List.length_take, List.length_take]; omega
      obtain ⟨sx, hsx⟩ : ∃ sx, tx a x = sx := ⟨_, rfl⟩
      have HSX := hide hsx
      have hxn : x < n := by have := unhide HNA; omega
      have hxni : (x : Int) < (n : Int) := by omega
      have hx0 : (0 : Int) ≤ (x : Int) := by omega
      have hyl : (y : Int) ≤ 1000 := by have := unhide HMB; omega
      clear hbl hkp hm hri hbA r5 r6 hT hcl hcell hpr hpr2 hsx
      go_wp2_with fail
      refine Calls.mono (unhide C7) ?_
      rintro e w2 ⟨rfl, hm2, hb2, hk2⟩
      have KP2 := hide (blk_kept (unhide KP) hk2 (by omega) (by decide))
      have HM2 := hide hm2
      have HB2 := hide hb2
      have HK2 : Hid (PairsV w2 (w.heap.size + 5) (.slice (some ⟨g, 0, none⟩) P.length pc) (whP P)) := hide (owns_kept (ownsRow_below (unhide HKP) (unhide HBA)) hk2 (by omega) (by decide))
      have hz2 : w.heap.size + 5 ≤ w2.heap.size := by have := (unhide KP2).lt; omega
      obtain ⟨e0, e1, e3, e4, ql, nl, cl, e2, hrow⟩ := hm2
      have HROW : Hid (PcsV w2.drew (w.heap.size + 5) (.slice ql nl cl) (L ++ T)) := hide hrow
      obtain ⟨ga, oa, hqa, cS⟩ := view_atR (unhide HVA) (unhide HB2) x (by have := unhide HNA; omega)
      rw [unhide HSX] at cS
      subst hqa
      have hgl : ga < w.heap.size := by
        obtain ⟨g3, o3, hq3, hc3⟩ := view_atR (unhide HVA) (Below.refl _ _) x (by have := unhide HNA; omega)
        cases hq3
        exact World.block_lt_of_cell? w _ hc3
      have hSa : KeX w.heap.size (.slice (some ⟨ga, oa, none⟩) n ca) wr.heap.size x ga oa sx w2.drew := ⟨e0.cell 0, (unhide KP2).cell 0, cS⟩
      have hb2a : Below w2.drew.heap.size w2.drew (w2.drew.alloc (Obj.cells #[.string sx] 9)) := (Below.refl _ _).alloc (Nat.le_refl _) _
      have hSb : KeX w.heap.size (.slice (some ⟨ga, oa, none⟩) n ca) wr.heap.size x ga oa sx (w2.drew.alloc (Obj.cells #[.string sx] 9)) := hSa.later hb2a
      have d0 : w2.drew.cell? ⟨w.heap.size + 2, 0, none⟩ = some (.slice ql nl cl) := e2.cell 0
      have d1 : (w2.drew.alloc (Obj.cells #[.string sx] 9)).cell? ⟨w.heap.size + 2, 0, none⟩ = some (.slice ql nl cl) := cell_later hb2a d0
      have d1 : (w2.alloc (Obj.cells #[.string sx] 9)).drew.cell? ⟨w.heap.size + 2, 0, none⟩ = some (.slice ql nl cl) := d1
      have HSB := hide hSb
      have hBX : Below w.heap.size w (w2.drew.alloc (Obj.cells #[.string sx] 9)) := (unhide HB2).drew.alloc (by show _ ≤ w2.heap.size; omega) _
      have HBX := hide hBX
      have C8 := hide (appendAll_any (w.heap.size + 5) (.slice ql nl cl) (L ++ T) 1 (some ⟨w2.drew.heap.size, 0, none⟩) 1 1 [sx] (w2.drew.alloc (Obj.cells #[.string sx] 9)) (ownsRow_below (unhide HROW) hb2a) (fun W hW hO => view_one W sx 9 (blk_kept0 (Blk.new w2.drew #[.string sx] 9) hO (by decide))) (by show _ ≤ (w2.alloc _).heap.size; simp; omega) (by have := unhide HNA; have := unhide HMB; simp only [List.length_cons, List.length_nil]; omega))
      have HM2a := hide ((LsM.drew (unhide HM2)).below hb2a)
      have KP3 := hide (Blk.later (w := w2.drew) (unhide KP2) hb2a)
      clear e0 e1 e3 e4 hrow cS hSb hb2a hBX e2
      go_wp2
      refine wp_region_held (S := KeX w.heap.size (.slice (some ⟨ga, oa, none⟩) n ca) wr.heap.size x ga oa sx) (by kernel_rfl) ?_
      change wpAnyH _ _ _ _ _ _ _ _ (World.drew _)
      refine wpAnyH_take (i := 1) (oi := { dst := some 27, op := _, type := _, pos := _, after := _, guard := _ }) (v := ?va1_1) rfl (by kernel_rfl) (by kernel_rfl) (by kernel_rfl) (fun _ _ _ h => h) (Or.inl ⟨by kernel_rfl, ?ha1_1⟩) hSa ?ra1_1
      case ha1_1 => first | (intro w hSw; obtain ⟨s0, s1, s2⟩ := hSw; go_simp; done) | (intro w hSw; obtain ⟨s0, s1, s2⟩ := hSw; go_simp; with_reducible rfl)
      try simp only [Act.put, List.setIfInBounds_toArray, List.set_cons_zero, List.set_cons_succ]
      refine wpAnyH_take (i := 2) (oi := { dst := some 28, op := _, type := _, pos := _, after := _, guard := _ }) (v := ?va2_2) rfl (by kernel_rfl) (by kernel_rfl) (by kernel_rfl) (fun _ _ _ h => h) (Or.inl ⟨by kernel_rfl, ?ha2_2⟩) hSa ?ra2_2
      case ha2_2 => first | (intro w hSw; obtain ⟨s0, s1, s2⟩ := hSw; go_simp; done) | (intro w hSw; obtain ⟨s0, s1, s2⟩ := hSw; go_simp; with_reducible rfl)
      try simp only [Act.put, List.setIfInBounds_toArray, List.set_cons_zero, List.set_cons_succ]
      refine wpAnyH_take (i := 3) (oi := { dst := some 29, op := _, type := _, pos := _, after := _, guard := _ }) (v := ?va3_3) rfl (by kernel_rfl) (by kernel_rfl) (by kernel_rfl) (fun _ _ _ h => h) (Or.inl ⟨by kernel_rfl, ?ha3_3⟩) hSa ?ra3_3
      case ha3_3 => first | (intro w hSw; obtain ⟨s0, s1, s2⟩ := hSw; go_simp; done) | (intro w hSw; obtain ⟨s0, s1, s2⟩ := hSw; go_simp; with_reducible rfl)
      try simp only [Act.put, List.setIfInBounds_toArray, List.set_cons_zero, List.set_cons_succ]
      refine wpAnyH_take (i := 4) (oi := { dst := some 30, op := _, type := _, pos := _, after := _, guard := _ }) (v := ?va4_4) rfl (by kernel_rfl) (by kernel_rfl) (by kernel_rfl) (fun _ _ _ h => h) (Or.inl ⟨by kernel_rfl, ?ha4_4⟩) hSa ?ra4_4
      case ha4_4 => first | (intro w hSw; obtain ⟨s0, s1, s2⟩ := hSw; go_simp; done) | (intro w hSw; obtain ⟨s0, s1, s2⟩ := hSw; go_simp; with_reducible rfl)
      try simp only [Act.put, List.setIfInBounds_toArray, List.set_cons_zero, List.set_cons_succ]
      refine wpAnyH_take (i := 5) (oi := { dst := some 31, op := _, type := _, pos := _, after := _, guard := _ }) (v := ?va5_5) rfl (by kernel_rfl) (by kernel_rfl) (by kernel_rfl) (fun _ _ _ h => h) (Or.inl ⟨by kernel_rfl, ?ha5_5⟩) hSa ?ra5_5
      case ha5_5 => first | (intro w hSw; obtain ⟨s0, s1, s2⟩ := hSw; go_simp; done) | (intro w hSw; obtain ⟨s0, s1, s2⟩ := hSw; go_simp; with_reducible rfl)
      try simp only [Act.put, List.setIfInBounds_toArray, List.set_cons_zero, List.set_cons_succ]
      refine wpAnyH_ready (rs := [0, 6]) (by kernel_rfl) (by simp) ?_
      refine AllReadyH.cons rfl (fun K hK => ?_) (AllReadyH.cons rfl (fun K hK => ?_) AllReadyH.nil)
      · go_simp
        have hSa' := hSa
        refine hK _ _ hSa' (fun _ => ?_)
        clear hK K hSa
        have hSa := hSa'
        clear hSa'
        refine wpAnyH_ready (rs := [6]) (by kernel_rfl) (by simp) ?_
        refine AllReadyH.cons rfl (fun K hK => ?_) AllReadyH.nil
        go_simp
        have hSa' : KeX w.heap.size (.slice (some ⟨ga, oa, none⟩) n ca) wr.heap.size x ga oa sx (w2.drew.alloc (Obj.cells #[.string sx] 9)) := unhide HSB
        refine hK _ _ hSa' (fun _ => ?_)
        clear hK K hSa
        have hSa := hSa'
        clear hSa'
        refine wpAnyH_ready (rs := [7]) (by kernel_rfl) (by simp) ?_
        refine AllReadyH.cons rfl (fun K hK => ?_) AllReadyH.nil
        go_simp
        refine Calls.mono (unhide C8) ?_
        rintro e w3 ⟨v3, rfl, hr3, hb3, hk3⟩
        obtain ⟨q3, n3, c3, hv3⟩ := slice_of hr3
        subst hv3
        have hm3 := (unhide HM2a).store hb3 hr3
        have z0 : w3.cell? ⟨w.heap.size + 2, 0, none⟩ = some (.slice ql nl cl) := (hb3.cell (p := ⟨w.heap.size + 2, 0, none⟩) (by show w.heap.size + 2 < w.heap.size + 5; omega)).trans d1
        have z1 : w3.frozen? ⟨w.heap.size + 2, 0, none⟩ = false := by
            obtain ⟨q9, n9, c9, k9, _⟩ := (unhide HM2a).kl
            exact (k9.below hb3 (by omega)).frozen 0
        have kp4 := blk_kept0 (unhide KP3) hk3 (by decide)
        have KP4 := hide (kp4.away (b' := w.heap.size + 2) (o := 0) (by have := (unhide KP2).lt; omega) (.slice q3 n3 c3))
        have HM3 := hide hm3
        have HB3 := hide hb3
        have HK3 := hide hk3
        have hSa' : KeX w.heap.size (.slice (some ⟨ga, oa, none⟩) n ca) wr.heap.size x ga oa sx w3 := ⟨(hb3.cell (p := ⟨w.heap.size, 0, none⟩) (by show w.heap.size < w.heap.size + 5; omega)).trans (unhide HSB).1, kp4.cell 0, (hb3.cell (p := ⟨ga, oa + x, none⟩) (by show ga < w.heap.size + 5; omega)).trans (unhide HSB).2.2⟩
        have HSC := hide hSa'
        clear hr3 hb3 hk3 hm3 kp4
        refine hK _ _ hSa' (fun _ => ?_)
        clear hK K hSa
        have hSa := hSa'
        clear hSa'
        refine wpAnyH_ready (rs := [8]) (by kernel_rfl) (by simp) ?_
        refine AllReadyH.cons rfl (fun K hK => ?_) AllReadyH.nil
        skip
        go_simp
        have hSa' : KeX w.heap.size (.slice (some ⟨ga, oa, none⟩) n ca) wr.heap.size x ga oa sx (w3.setCell ⟨w.heap.size + 2, 0, none⟩ (.slice q3 n3 c3)) := ⟨(unhide HM3).ka.cell 0, (unhide KP4).cell 0, by rw [World.cell?_setCell_far _ _ _ _ (by show w.heap.size + 2 ≠ ga; omega)]; exact (unhide HSC).2.2⟩
        clear z0 z1
        refine hK _ _ hSa' (fun _ => ?_)
        clear hK K hSa
        have hSa := hSa'
        clear hSa'
        refine wpAnyH_done (by kernel_rfl) ?_ _
        clear hSa d0 d1
        have HQ : Hid (LsT (.slice (some ⟨ga, oa, none⟩) n ca) (.slice qb m cb) (.slice (some ⟨g, 0, none⟩) P.length pc) P w i j x y wr.heap.size (L ++ T ++ tk 1 [sx]) (w3.setCell ⟨w.heap.size + 2, 0, none⟩ (.slice q3 n3 c3))) := hide (by
          have g1 : Below w.heap.size w w3 := (unhide HBX).trans (Below.mono (unhide HB3) (by omega))
          refine ⟨g1.setCell (by show w.heap.size ≤ w.heap.size + 2; omega) _, ?_, ?_, unhide HM3, unhide KP4⟩
          · exact owns_store (owns_kept (b := w.heap.size + 2) (ownsRow_below (show PairsV w2.drew _ _ _ from unhide HK2) ((Below.refl _ _).alloc (Nat.le_refl _) _)) (ok_weak (unhide HK3)) (by omega) (by decide)) (by omega) _
          · have h1 := (unhide HB3).size
            have h2 : w2.heap.size ≤ (w2.drew.alloc (Obj.cells #[.string sx] 9)).heap.size := by show _ ≤ (w2.alloc _).heap.size; simp
            show _ ≤ (w3.setCell _ _).heap.size
            simp
            omega)
        obtain ⟨V, hV⟩ : ∃ V, (w3.setCell ⟨w.heap.size + 2, 0, none⟩ (.slice q3 n3 c3)) = V := ⟨_, rfl⟩
        rw [hV] at HQ ⊢
        clear hV HM3 HB3 HK3 KP4 HSC HM2a KP3 HBX HSB HROW HM2 KP2 HB2 HK2 C8 HM HBL HKP
        have hq := unhide HQ
        have k3 := hq.m.ki
        have k4 := hq.m.kj
        have kp := hq.p
        have u0 : V.cell? ⟨wr.heap.size, 0, none⟩ = some (.int .i64 (x : Int)) := kp.cell 0
        have u1 : V.cell? ⟨wr.heap.size, 1, none⟩ = some (.int .i64 (y : Int)) := kp.cell 1
        have u3 : V.cell? ⟨w.heap.size + 3, 0, none⟩ = some (.int .i64 (i : Int)) := k3.cell 0
        have u4 : V.cell? ⟨w.heap.size + 4, 0, none⟩ = some (.int .i64 (j : Int)) := k4.cell 0
        have f3 := k3.frozen 0
        have f4 := k4.frozen 0
        have hne : wr.heap.size ≠ w.heap.size + 3 := by omega
        clear hq k3 k4 kp
        go_wp2
        go_region
        go_wp2
        go_roundw
        case rel =>
          refine ⟨k + 1, by omega, by go_num, ?_⟩
          have hq := unhide HQ
          refine ⟨(hq.bl.drew.setCell (by show w.heap.size ≤ w.heap.size + 3; omega) _).setCell (by show w.heap.size ≤ w.heap.size + 4; omega) _, ?_, by simpa using hq.sz, x + 1, y + 1, L ++ T ++ tk 1 [sx], ?_, unhide HR5, by omega, by omega, by rw [List.length_append, tk_len]; simp only [List.length_cons, List.length_nil]; omega, ?_⟩
          · exact owns_store (owns_store (show PairsV V.drew _ _ _ from hq.pr) (by omega) _) (by omega) _
          · exact hq.m.drew.go
          · rw [unhide HALL, unhide HR6, lsP, ← unhide HT, ← unhide HSX]
            simp [tk, tx, List.append_assoc]
        case measure => simp [intOf]; omega
      · go_simp
        have hSa' : KeX w.heap.size (.slice (some ⟨ga, oa, none⟩) n ca) wr.heap.size x ga oa sx (w2.drew.alloc (Obj.cells #[.string sx] 9)) := unhide HSB
        refine hK _ _ hSa' (fun _ => ?_)
        clear hK K hSa
        have hSa := hSa'
        clear hSa'
        refine wpAnyH_ready (rs := [0]) (by kernel_rfl) (by simp) ?_
        refine AllReadyH.cons rfl (fun K hK => ?_) AllReadyH.nil
        go_simp
        have hSa' := hSa
        refine hK _ _ hSa' (fun _ => ?_)
        clear hK K hSa
        have hSa := hSa'
        clear hSa'
        refine wpAnyH_ready (rs := [7]) (by kernel_rfl) (by simp) ?_
        refine AllReadyH.cons rfl (fun K hK => ?_) AllReadyH.nil
        go_simp
        refine Calls.mono (unhide C8) ?_
        rintro e w3 ⟨v3, rfl, hr3, hb3, hk3⟩
        obtain ⟨q3, n3, c3, hv3⟩ := slice_of hr3
        subst hv3
        have hm3 := (unhide HM2a).store hb3 hr3
        have z0 : w3.cell? ⟨w.heap.size + 2, 0, none⟩ = some (.slice ql nl cl) := (hb3.cell (p := ⟨w.heap.size + 2, 0, none⟩) (by show w.heap.size + 2 < w.heap.size + 5; omega)).trans d1
        have z1 : w3.frozen? ⟨w.heap.size + 2, 0, none⟩ = false := by
            obtain ⟨q9, n9, c9, k9, _⟩ := (unhide HM2a).kl
            exact (k9.below hb3 (by omega)).frozen 0
        have kp4 := blk_kept0 (unhide KP3) hk3 (by decide)
        have KP4 := hide (kp4.away (b' := w.heap.size + 2) (o := 0) (by have := (unhide KP2).lt; omega) (.slice q3 n3 c3))
        have HM3 := hide hm3
        have HB3 := hide hb3
        have HK3 := hide hk3
        have hSa' : KeX w.heap.size (.slice (some ⟨ga, oa, none⟩) n ca) wr.heap.size x ga oa sx w3 := ⟨(hb3.cell (p := ⟨w.heap.size, 0, none⟩) (by show w.heap.size < w.heap.size + 5; omega)).trans (unhide HSB).1, kp4.cell 0, (hb3.cell (p := ⟨ga, oa + x, none⟩) (by show ga < w.heap.size + 5; omega)).trans (unhide HSB).2.2⟩
        have HSC := hide hSa'
        clear hr3 hb3 hk3 hm3 kp4
        refine hK _ _ hSa' (fun _ => ?_)
        clear hK K hSa
        have hSa := hSa'
        clear hSa'
        refine wpAnyH_ready (rs := [8]) (by kernel_rfl) (by simp) ?_
        refine AllReadyH.cons rfl (fun K hK => ?_) AllReadyH.nil
        skip
        go_simp
        have hSa' : KeX w.heap.size (.slice (some ⟨ga, oa, none⟩) n ca) wr.heap.size x ga oa sx (w3.setCell ⟨w.heap.size + 2, 0, none⟩ (.slice q3 n3 c3)) := ⟨(unhide HM3).ka.cell 0, (unhide KP4).cell 0, by rw [World.cell?_setCell_far _ _ _ _ (by show w.heap.size + 2 ≠ ga; omega)]; exact (unhide HSC).2.2⟩
        clear z0 z1
        refine hK _ _ hSa' (fun _ => ?_)
        clear hK K hSa
        have hSa := hSa'
        clear hSa'
        refine wpAnyH_done (by kernel_rfl) ?_ _
        clear hSa d0 d1
        have HQ : Hid (LsT (.slice (some ⟨ga, oa, none⟩) n ca) (.slice qb m cb) (.slice (some ⟨g, 0, none⟩) P.length pc) P w i j x y wr.heap.size (L ++ T ++ tk 1 [sx]) (w3.setCell ⟨w.heap.size + 2, 0, none⟩ (.slice q3 n3 c3))) := hide (by
          have g1 : Below w.heap.size w w3 := (unhide HBX).trans (Below.mono (unhide HB3) (by omega))
          refine ⟨g1.setCell (by show w.heap.size ≤ w.heap.size + 2; omega) _, ?_, ?_, unhide HM3, unhide KP4⟩
          · exact owns_store (owns_kept (b := w.heap.size + 2) (ownsRow_below (show PairsV w2.drew _ _ _ from unhide HK2) ((Below.refl _ _).alloc (Nat.le_refl _) _)) (ok_weak (unhide HK3)) (by omega) (by decide)) (by omega) _
          · have h1 := (unhide HB3).size
            have h2 : w2.heap.size ≤ (w2.drew.alloc (Obj.cells #[.string sx] 9)).heap.size := by show _ ≤ (w2.alloc _).heap.size; simp
            show _ ≤ (w3.setCell _ _).heap.size
            simp
            omega)
        obtain ⟨V, hV⟩ : ∃ V, (w3.setCell ⟨w.heap.size + 2, 0, none⟩ (.slice q3 n3 c3)) = V := ⟨_, rfl⟩
        rw [hV] at HQ ⊢
        clear hV HM3 HB3 HK3 KP4 HSC HM2a KP3 HBX HSB HROW HM2 KP2 HB2 HK2 C8 HM HBL HKP
        have hq := unhide HQ
        have k3 := hq.m.ki
        have k4 := hq.m.kj
        have kp := hq.p
        have u0 : V.cell? ⟨wr.heap.size, 0, none⟩ = some (.int .i64 (x : Int)) := kp.cell 0
        have u1 : V.cell? ⟨wr.heap.size, 1, none⟩ = some (.int .i64 (y : Int)) := kp.cell 1
        have u3 : V.cell? ⟨w.heap.size + 3, 0, none⟩ = some (.int .i64 (i : Int)) := k3.cell 0
        have u4 : V.cell? ⟨w.heap.size + 4, 0, none⟩ = some (.int .i64 (j : Int)) := k4.cell 0
        have f3 := k3.frozen 0
        have f4 := k4.frozen 0
        have hne : wr.heap.size ≠ w.heap.size + 3 := by omega
        clear hq k3 k4 kp
        go_wp2
        go_region
        go_wp2
        go_roundw
        case rel =>
          refine ⟨k + 1, by omega, by go_num, ?_⟩
          have hq := unhide HQ
          refine ⟨(hq.bl.drew.setCell (by show w.heap.size ≤ w.heap.size + 3; omega) _).setCell (by show w.heap.size ≤ w.heap.size + 4; omega) _, ?_, by simpa using hq.sz, x + 1, y + 1, L ++ T ++ tk 1 [sx], ?_, unhide HR5, by omega, by omega, by rw [List.length_append, tk_len]; simp only [List.length_cons, List.length_nil]; omega, ?_⟩
          · exact owns_store (owns_store (show PairsV V.drew _ _ _ from hq.pr) (by omega) _) (by omega) _
          · exact hq.m.drew.go
          · rw [unhide HALL, unhide HR6, lsP, ← unhide HT, ← unhide HSX]
            simp [tk, tx, List.append_assoc]
        case measure => simp [intOf]; omega
    · have hpi : ¬ (k : Int) < (P.length : Int) := by omega
      have hdr : P.drop k = [] := List.drop_eq_nil_of_le (by omega)
      obtain ⟨e0, e1, e3, e4, ql, nl, cl, e2, hrow⟩ := hm
      have C9 := hide (unhide CL n m i j L wr hbl hsz (unhide HM) (by have := unhide HNA; omega) (Nat.le_refl _) (by have := unhide HMB; omega) (Nat.le_refl _) (by have := unhide HNA; have := unhide HMB; omega))
      have HT : Hid (L ++ (tk 2 (List.drop i (List.take n a)) ++ tk 3 (List.drop j (List.take m b))) = lsP a b 0 0 P) := hide (by
        rw [unhide HALL, hdr, lsP, List.take_of_length_le (by have := unhide HNA; omega), List.take_of_length_le (by have := unhide HMB; omega)])
      have a0 : wr.cell? ⟨w.heap.size, 0, none⟩ = some (.slice qa n ca) := e0.cell 0
      have b0 : wr.cell? ⟨w.heap.size + 1, 0, none⟩ = some (.slice qb m cb) := e1.cell 0
      clear hbl hkp hri e0 e1 e2 e3 e4 hrow hdr HALL HM HKP HBL
      rw [unhide HT] at C9
      go_wp2_with fail
      refine Calls.mono (unhide C9) ?_
      rintro e w2 ⟨rfl, hm2, hb2, hk2⟩
      obtain ⟨e0, e1, e3, e4, ql, nl, cl, e2, hrow⟩ := hm2
      have l0 : w2.cell? ⟨w.heap.size + 2, 0, none⟩ = some (.slice ql nl cl) := e2.cell 0
      have HROW := hide hrow
      have HB2 := hide hb2
      clear C9 e0 e1 e2 e3 e4 hrow hb2 hk2
      go_wp2
      go_ret
      exact ⟨_, rfl, owns_mono (unhide HROW) (by omega), unhide HB2⟩
end Go.Proofs.YtfbgpodcdgmpjaaDoor
