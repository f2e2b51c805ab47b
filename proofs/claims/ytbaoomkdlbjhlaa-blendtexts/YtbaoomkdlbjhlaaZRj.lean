/-
  What the reference's 'Join' of layer 25 does (made by mk_zrj.py).
-/
import Derived.Test.YtbaoomkdlbjhlaaZSm
import Derived.Test.YtbaoomkdlbjhlaaZJo
import Derived.Test.YtbaoomkdlbjhlaaZOp
import Derived.Deep.RegionHeld
import Derived.Deep.DeepCutAuto
namespace Go.Proofs.Ytbaoomkdlbjhlaa
open Go.RowKit
set_option linter.unusedVariables false
set_option linter.unusedSimpArgs false

/-- What holds ahead of a round. -/
structure RjS (w W1 : World) (B g : Nat) (o a b : List ByteArray) (P : List PT) (u : Value) (m : Nat) (wr : World) : Prop where
  ob : Blk wr (w.heap.size + 1) #[u, .int .i64 (clF (P.take m) : Nat)] 28
  rb : Blk wr w.heap.size #[.slice none 0 0, .int .i64 0] 28
  tr : wr.heap[g]? = W1.heap[g]?
  row : TxsV wr B u (jnF o a b (P.take m))
  bl : Below w.heap.size w wr
  sz : B ≤ wr.heap.size
def SxJ (pb bb p : Nat) (o1 : Int) (s0 : ByteArray) (X : World) : Prop := X.cell? ⟨pb, 1, none⟩ = some (.int .i64 o1) ∧ X.cell? ⟨bb, p, none⟩ = some (.string s0)
theorem SxJ.below {pb bb p : Nat} {o1 : Int} {s0 : ByteArray} {X X' : World} (h : SxJ pb bb p o1 s0 X) (hb : Below X.heap.size X X') : SxJ pb bb p o1 s0 X' := ⟨cellB hb h.1, cellB hb h.2⟩
theorem SxJ.grown {pb bb p : Nat} {o1 : Int} {s0 : ByteArray} {X X' : World} {row : Option Nat} (h : SxJ pb bb p o1 s0 X) (hg : X.grownBy X' row) (h1 : ∀ q, row = some q → q ≠ pb ∧ q ≠ bb) : SxJ pb bb p o1 s0 X' :=
  ⟨cell_of_same (hg.block pb (World.block_lt_of_cell? X _ h.1) (fun e => (h1 pb e.symm).1 rfl)) h.1, cell_of_same (hg.block bb (World.block_lt_of_cell? X _ h.2) (fun e => (h1 bb e.symm).2 rfl)) h.2⟩
theorem SxJ.set {pb bb p : Nat} {o1 : Int} {s0 : ByteArray} {X : World} (h : SxJ pb bb p o1 s0 X) {c : Nat} (hc : c ≠ pb ∧ c ≠ bb) (n : Nat) (v : Value) : SxJ pb bb p o1 s0 (X.setCell ⟨c, n, none⟩ v) :=
  ⟨cell_of_same (Below.heap_setCell X ⟨c, n, none⟩ v pb hc.1.symm) h.1, cell_of_same (Below.heap_setCell X ⟨c, n, none⟩ v bb hc.2.symm) h.2⟩
theorem kept_one (S : Sms) (n a b : Nat) : ∀ (r : List (Nat × Nat × Nat)) (i j k : Nat), ∀ p ∈ ptF S n a b i j k r, p.1 = 1 → p.2.1.2 = p.2.1.1 + 1 := by
  have hs : ∀ (i i' j j' k k' : Nat), ∀ p ∈ stF S i i' j j' k k', p.1 = 1 → p.2.1.2 = p.2.1.1 + 1 := by
    intro i i' j j' k k' p hp h1
    unfold stF at hp
    split at hp
    · cases hp
    · rw [List.mem_singleton] at hp
      subst hp
      exact absurd h1 (kdF_ne1 _ _ _ _ _ _ _)
  intro r
  induction r with
  | nil => intro i j k p hp; exact hs _ _ _ _ _ _ p hp
  | cons t r ih =>
    intro i j k p hp
    rw [ptF] at hp
    rcases List.mem_append.1 hp with h | h
    · exact hs _ _ _ _ _ _ p h
    · rcases List.mem_cons.1 h with rfl | h
      · intro _; rfl
      · exact ih _ _ _ p h
set_option maxHeartbeats 8000000 in
set_option maxRecDepth 100000 in
theorem rjoin_any (qo qa qb : Option Addr) (co ca cb : Nat) (o a b : List ByteArray) (w : World) (ho : ArgV w qo co o) (ha : ArgV w qa ca a) (hb : ArgV w qb cb b) (lo : o.length ≤ 1000) (la : a.length ≤ 1000) (lb : b.length ≤ 1000) :
    Calls Try.prog 10 #[.slice qo o.length co, .slice qa a.length ca, .slice qb b.length cb] w fun e w' => ∃ u, e = .returned (.agg #[u, .int .i64 (clF (allP o a b) : Nat)]) ∧ TxsV w' w.heap.size u (jnF o a b (allP o a b)) ∧ Below w.heap.size w w' := by
  obtain ⟨i0, hi0, hi1, hi2, hi3⟩ := infoS
  have CT := hide (fun W (hW : Below w.heap.size w W) => rtexts_any qo qa qb co ca cb o a b W (ho.below hW).1 (ha.below hW).1 (hb.below hW).1 ho.2.1 ha.2.1 hb.2.1 lo la lb)
  have HO := hide ho
  have HA := hide ha
  have HB := hide hb
  have hlc : o.length ≤ co ∧ a.length ≤ ca ∧ b.length ≤ cb := ⟨ho.2.1, ha.2.1, hb.2.1⟩
  have HIN := hide (goP_in _ _ _ _ _ _ _ (allP_go o a b))
  have HK1 : Hid (∀ p ∈ allP o a b, p.1 = 1 → p.2.1.2 = p.2.1.1 + 1) := hide (kept_one _ _ _ _ _ _ _ _)
  have hPl := allP_len o a b
  have HJL := hide (jnF_le o a b)
  have HJT := hide (fun k (h : k < (allP o a b).length) => jnF_take (o := o) (a := a) (b := b) (allP o a b) k h)
  have HCL := hide (fun k => clF_le ((allP o a b).take k))
  have HFIN : Hid ((allP o a b).take (allP o a b).length = allP o a b) := hide (List.take_length)
  generalize allP o a b = P at *
  clear ho ha hb
  have KR : Hid (Blk ((w.alloc (Obj.cells #[.slice none 0 0, .int .i64 0] 28)).alloc (Obj.cells #[.slice none 0 0, .int .i64 0] 28)) w.heap.size #[.slice none 0 0, .int .i64 0] 28) := hide ((Blk.new w #[.slice none 0 0, .int .i64 0] 28).alloc _)
  have KO : Hid (Blk ((w.alloc (Obj.cells #[.slice none 0 0, .int .i64 0] 28)).alloc (Obj.cells #[.slice none 0 0, .int .i64 0] 28)) (w.heap.size + 1) #[.slice none 0 0, .int .i64 0] 28) := hide (by have := Blk.new (w.alloc (Obj.cells #[.slice none 0 0, .int .i64 0] 28)) #[.slice none 0 0, .int .i64 0] 28; rw [show (w.alloc (Obj.cells #[.slice none 0 0, .int .i64 0] 28)).heap.size = w.heap.size + 1 by simp] at this; exact this)
  have HW0 : Hid (Below w.heap.size w ((w.alloc (Obj.cells #[.slice none 0 0, .int .i64 0] 28)).alloc (Obj.cells #[.slice none 0 0, .int .i64 0] 28))) := hide (((Below.refl _ _).alloc (Nat.le_refl _) _).alloc (by simp) _)
  go_enter Try.func10, Try.ntmps10
  go_wp2_with fail
  refine (unhide CT _ (unhide HW0)).mono ?_
  rintro e w1 ⟨v, rfl, hv, hb1⟩
  obtain ⟨tq, tc, rfl, hat⟩ := rparts_at hv
  have hrow := hv
  have K1 := hide ((unhide KO).later hb1)
  have K2 := hide ((unhide KR).later hb1)
  have HAT := hide hat
  have HB1 := hide (tr2 (unhide HW0) hb1)
  have hsz : w.heap.size + 1 < ((w.alloc (Obj.cells #[.slice none 0 0, .int .i64 0] 28)).alloc (Obj.cells #[.slice none 0 0, .int .i64 0] 28)).heap.size := (unhide KO).lt
  have HGL : Hid (∀ g, tq = some ⟨g, 0, none⟩ → w.heap.size + 1 < g ∧ g < w1.heap.size) := hide (fun g hg => by have := hrow.lt g (by rw [hg]; rfl); omega)
  have HG0 : Hid (∃ g, 0 < P.length → tq = some ⟨g, 0, none⟩) := hide (by
    by_cases h0 : 0 < P.length
    · obtain ⟨g, hg, _⟩ := hat h0
      exact ⟨g, fun _ => hg⟩
    · exact ⟨0, fun h => absurd h h0⟩)
  have HGB : Hid (w.heap.size < w1.heap.size) := hide (by have := (unhide K1).lt; omega)
  clear hv hb1 hat hrow KO KR HW0 CT hsz
  go_wp2
  go_loopw [18] (fun x wr => ∃ (m : Nat) (u : Value), m ≤ P.length ∧ x = .int .i64 (m : Int) ∧ ∃ g, (0 < P.length → tq = some ⟨g, 0, none⟩) ∧ RjS w w1 w1.heap.size g o a b P u m wr) (fun x _ => P.length - (intOf x).toNat)
  case atStart => exact ⟨0, .slice none 0 0, Nat.zero_le _, rfl, unhide HG0 |>.choose, unhide HG0 |>.choose_spec, unhide K1, unhide K2, rfl, World.ownsRow_nil _ _ _ _, unhide HB1, Nat.le_refl _⟩
  case round =>
    clear K1 K2
    obtain ⟨m, u, hm, rfl, g, hgq, hS⟩ := hrel
    obtain ⟨uq, un, uc, hu⟩ := slice_of hS.row
    subst hu
    have HS := hide hS
    have hob := hS.ob.lt
    have hcl := unhide HCL m
    rw [List.length_take] at hcl
    by_cases hp : m < P.length
    · have hpi : (m : Int) < (P.length : Int) := by omega
      have hq : tq = some ⟨g, 0, none⟩ := hgq (by omega)
      subst hq
      have hgl := unhide HGL g rfl
      obtain ⟨g', hgg, hcell⟩ := unhide HAT (by omega)
      cases hgg
      have hck := hcell m hp
      obtain ⟨ej, ec⟩ := unhide HJT m hp
      have hl1 := unhide HJL m
      have hl2 := unhide HJL (m + 1)
      have hmem : P.getD m p7 ∈ P := by rw [List.getD, List.getElem?_eq_getElem hp]; exact List.getElem_mem hp
      have hin := unhide HIN _ hmem
      have hk1 := unhide HK1 _ hmem
      rw [ej, List.length_append] at hl2
      generalize hgt : P.getD m p7 = t at *
      obtain ⟨kd, ⟨o1, o2⟩, ⟨a1, a2⟩, ⟨b1, b2⟩⟩ := t
      obtain ⟨i1, i2, i3, i4, i5, i6, i7, i8⟩ := hin
      dsimp only at i1 i2 i3 i4 i5 i6 i7 i8 hk1
      have k0 : wr.cell? ⟨g, m * 7, none⟩ = some (.int .i64 (kd : Int)) := cell_of_same hS.tr (hck 0 (by decide))
      have k1 : wr.cell? ⟨g, m * 7 + 1, none⟩ = some (.int .i64 (o1 : Int)) := cell_of_same hS.tr (hck 1 (by decide))
      have k2 : wr.cell? ⟨g, m * 7 + 2, none⟩ = some (.int .i64 (a1 : Int)) := cell_of_same hS.tr (hck 2 (by decide))
      have k3 : wr.cell? ⟨g, m * 7 + 3, none⟩ = some (.int .i64 (b1 : Int)) := cell_of_same hS.tr (hck 3 (by decide))
      have k4 : wr.cell? ⟨g, m * 7 + 4, none⟩ = some (.int .i64 (o2 : Int)) := cell_of_same hS.tr (hck 4 (by decide))
      have k5 : wr.cell? ⟨g, m * 7 + 5, none⟩ = some (.int .i64 (a2 : Int)) := cell_of_same hS.tr (hck 5 (by decide))
      have k6 : wr.cell? ⟨g, m * 7 + 6, none⟩ = some (.int .i64 (b2 : Int)) := cell_of_same hS.tr (hck 6 (by decide))
      have hgw : g < wr.heap.size := World.block_lt_of_cell? wr _ k0
      have PO := hide (fun W (hW : Below w.heap.size w W) => ((unhide HO).below hW).part i3 i6)
      have PA := hide (fun W (hW : Below w.heap.size w W) => ((unhide HA).below hW).part i4 i7)
      have PB := hide (fun W (hW : Below w.heap.size w W) => ((unhide HB).below hW).part i5 i8)
      have r2 := run_partT qa a.length ca a1 a2 i4 (by omega)
      have r3 := run_partT qb b.length cb b1 b2 i5 (by omega)
      have HEJ := hide ej
      have HEC := hide ec
      have HNB : Hid (∀ q, (Value.slice uq un uc).ownBlock = some q → w1.heap.size ≤ q ∧ q < wr.heap.size) := hide (fun q hq => hS.row.lt q hq)
      have HBw := hide hS.bl
      have hzw := hS.bl.size
      have hz1 := hS.sz
      have c0 := hS.ob.cell 0
      have c1 := hS.ob.cell 1
      have g0 := hS.ob.frozen 0
      have g1 := hS.ob.frozen 1
      generalize hcn : clF (P.take m) = cn at *
      have hkk : kd = 1 ∨ kd = 2 ∨ kd = 3 ∨ kd = 4 ∨ kd = 5 := by omega
      clear hck hcell hgt hmem ej ec HIN i1 i2 hS hgq
      rcases hkk with rfl | rfl | rfl | rfl | rfl
      · obtain rfl : o2 = o1 + 1 := hk1 rfl
        have hsub : sub o o1 (o1 + 1) = [tx o o1] := sub_one o o1 (by omega)
        have HBO0 := hide ((unhide HO).1)
        obtain ⟨bb, obb, rfl, cS⟩ := view_atR (unhide HO).1 (unhide HBw) o1 (by omega)
        have HBO : Hid (bb < w.heap.size) := hide (by obtain ⟨_, aa, cc, e5, h5⟩ := unhide HBO0; cases e5; obtain ⟨b5, f5, e6, h6⟩ := h5 (by omega); cases e6; exact World.block_lt_of_cell? w _ (h6 o1 (by omega)))
        clear HBO0
        have hbl2 : bb < wr.heap.size := World.block_lt_of_cell? wr _ cS
        have hoi : (o1 : Int) < (o.length : Int) := by omega
        have HTX : Hid (jn1 o a b (1, (o1, o1 + 1), (a1, a2), (b1, b2)) = [tx o o1]) := hide hsub
        generalize htx : tx o o1 = s0 at *
        have KB8 : Hid (Blk (wr.alloc (Obj.cells #[.int .i64 1, .int .i64 (o1 : Int), .int .i64 (a1 : Int), .int .i64 (b1 : Int), .int .i64 ((o1 : Int) + 1), .int .i64 (a2 : Int), .int .i64 (b2 : Int)] 45)) (w.heap.size + 1) #[.slice uq un uc, .int .i64 (cn : Int)] 28) := hide ((by have := (unhide HS).ob; rw [hcn] at this; exact this : Blk wr (w.heap.size + 1) #[.slice uq un uc, .int .i64 (cn : Int)] 28).alloc _)
        have KR8 := hide ((unhide HS).rb.alloc (Obj.cells #[.int .i64 1, .int .i64 (o1 : Int), .int .i64 (a1 : Int), .int .i64 (b1 : Int), .int .i64 ((o1 : Int) + 1), .int .i64 (a2 : Int), .int .i64 (b2 : Int)] 45))
        have hl3 : (jnF o a b (P.take m)).length ≤ 5000 := by omega
        have HRW : Hid (TxsV (((wr.alloc (Obj.cells #[.int .i64 1, .int .i64 (o1 : Int), .int .i64 (a1 : Int), .int .i64 (b1 : Int), .int .i64 ((o1 : Int) + 1), .int .i64 (a2 : Int), .int .i64 (b2 : Int)] 45))).alloc (Obj.cells #[.string s0] 9)).drew w1.heap.size (.slice uq un uc) (jnF o a b (P.take m))) := hide (((unhide HS).row.alloc (Obj.cells #[.int .i64 1, .int .i64 (o1 : Int), .int .i64 (a1 : Int), .int .i64 (b1 : Int), .int .i64 ((o1 : Int) + 1), .int .i64 (a2 : Int), .int .i64 (b2 : Int)] 45)).alloc (Obj.cells #[.string s0] 9))
        have KB9 : Hid (Blk (((wr.alloc (Obj.cells #[.int .i64 1, .int .i64 (o1 : Int), .int .i64 (a1 : Int), .int .i64 (b1 : Int), .int .i64 ((o1 : Int) + 1), .int .i64 (a2 : Int), .int .i64 (b2 : Int)] 45))).alloc (Obj.cells #[.string s0] 9)).drew (w.heap.size + 1) #[.slice uq un uc, .int .i64 (cn : Int)] 28) := hide ((unhide KB8).alloc (Obj.cells #[.string s0] 9))
        have KR9 : Hid (Blk (((wr.alloc (Obj.cells #[.int .i64 1, .int .i64 (o1 : Int), .int .i64 (a1 : Int), .int .i64 (b1 : Int), .int .i64 ((o1 : Int) + 1), .int .i64 (a2 : Int), .int .i64 (b2 : Int)] 45))).alloc (Obj.cells #[.string s0] 9)).drew w.heap.size #[.slice none 0 0, .int .i64 0] 28) := hide ((unhide KR8).alloc (Obj.cells #[.string s0] 9))
        have KP : Hid (Blk (wr.alloc (Obj.cells #[.int .i64 1, .int .i64 (o1 : Int), .int .i64 (a1 : Int), .int .i64 (b1 : Int), .int .i64 ((o1 : Int) + 1), .int .i64 (a2 : Int), .int .i64 (b2 : Int)] 45)) wr.heap.size #[.int .i64 1, .int .i64 (o1 : Int), .int .i64 (a1 : Int), .int .i64 (b1 : Int), .int .i64 ((o1 : Int) + 1), .int .i64 (a2 : Int), .int .i64 (b2 : Int)] 45) := hide (Blk.new wr #[.int .i64 1, .int .i64 (o1 : Int), .int .i64 (a1 : Int), .int .i64 (b1 : Int), .int .i64 ((o1 : Int) + 1), .int .i64 (a2 : Int), .int .i64 (b2 : Int)] 45)
        have cS2 : (wr.alloc (Obj.cells #[.int .i64 1, .int .i64 (o1 : Int), .int .i64 (a1 : Int), .int .i64 (b1 : Int), .int .i64 ((o1 : Int) + 1), .int .i64 (a2 : Int), .int .i64 (b2 : Int)] 45)).cell? ⟨bb, obb + o1, none⟩ = some (.string s0) := cellB ((Below.refl wr.heap.size wr).alloc (Nat.le_refl _) _) cS
        have hbx : bb < wr.heap.size := hbl2
        have HNX : Hid (∀ q, (Value.slice uq un uc).ownBlock = some q → q ≠ wr.heap.size ∧ q ≠ bb ∧ q ≠ w.heap.size + 1 ∧ q ≠ w.heap.size ∧ q ≠ g) := hide (fun q hq => by have h1 := unhide HNB q hq; have h2 := unhide HGL g rfl; have h3 := unhide HBO; omega)
        have hSa : SxJ wr.heap.size bb (obb + o1) (o1 : Int) s0 (wr.alloc (Obj.cells #[.int .i64 1, .int .i64 (o1 : Int), .int .i64 (a1 : Int), .int .i64 (b1 : Int), .int .i64 ((o1 : Int) + 1), .int .i64 (a2 : Int), .int .i64 (b2 : Int)] 45)).drew := ⟨(unhide KP).cell 1, cS2⟩
        clear c0 c1 g0 g1 hcn
        go_upto_region 9 with fail
        clear k0 k1 k2 k3 k4 k5 k6 cS KP r2 r3 PO PA PB cS2
        refine wp_region_held (S := SxJ wr.heap.size bb (obb + o1) (o1 : Int) s0) (by kernel_rfl) ?_
        change wpAnyH _ _ _ _ _ _ _ _ (World.drew _)
        refine wpAnyH_take (i := 0) (oi := { dst := some 42, op := _, type := _, pos := _, after := _, guard := _ }) (v := ?va0_1) rfl (by kernel_rfl) (by kernel_rfl) (by kernel_rfl) (fun _ _ _ h => h) (Or.inl ⟨by kernel_rfl, ?ha0_1⟩) hSa ?ra0_1
        case ha0_1 => first | (intro w hSw; obtain ⟨q0, q1⟩ := hSw; go_simp; done) | (intro w hSw; obtain ⟨q0, q1⟩ := hSw; go_simp; with_reducible rfl)
        try simp only [Act.put, List.setIfInBounds_toArray, List.set_cons_zero, List.set_cons_succ]
        refine wpAnyH_take (i := 2) (oi := { dst := some 44, op := _, type := _, pos := _, after := _, guard := _ }) (v := ?va2_2) rfl (by kernel_rfl) (by kernel_rfl) (by kernel_rfl) (fun _ _ _ h => h) (Or.inl ⟨by kernel_rfl, ?ha2_2⟩) hSa ?ra2_2
        case ha2_2 => first | (intro w hSw; obtain ⟨q0, q1⟩ := hSw; go_simp; done) | (intro w hSw; obtain ⟨q0, q1⟩ := hSw; go_simp; with_reducible rfl)
        try simp only [Act.put, List.setIfInBounds_toArray, List.set_cons_zero, List.set_cons_succ]
        refine wpAnyH_take (i := 3) (oi := { dst := some 45, op := _, type := _, pos := _, after := _, guard := _ }) (v := ?va3_3) rfl (by kernel_rfl) (by kernel_rfl) (by kernel_rfl) (fun _ _ _ h => h) (Or.inl ⟨by kernel_rfl, ?ha3_3⟩) hSa ?ra3_3
        case ha3_3 => first | (intro w hSw; obtain ⟨q0, q1⟩ := hSw; go_simp; done) | (intro w hSw; obtain ⟨q0, q1⟩ := hSw; go_simp; with_reducible rfl)
        try simp only [Act.put, List.setIfInBounds_toArray, List.set_cons_zero, List.set_cons_succ]
        refine wpAnyH_take (i := 4) (oi := { dst := some 46, op := _, type := _, pos := _, after := _, guard := _ }) (v := ?va4_4) rfl (by kernel_rfl) (by kernel_rfl) (by kernel_rfl) (fun _ _ _ h => h) (Or.inl ⟨by kernel_rfl, ?ha4_4⟩) hSa ?ra4_4
        case ha4_4 => first | (intro w hSw; obtain ⟨q0, q1⟩ := hSw; go_simp; done) | (intro w hSw; obtain ⟨q0, q1⟩ := hSw; go_simp; with_reducible rfl)
        try simp only [Act.put, List.setIfInBounds_toArray, List.set_cons_zero, List.set_cons_succ]
        refine wpAnyH_take (i := 5) (oi := { dst := some 47, op := _, type := _, pos := _, after := _, guard := _ }) (v := ?va5_5) rfl (by kernel_rfl) (by kernel_rfl) (by kernel_rfl) (fun _ _ _ h => h) (Or.inl ⟨by kernel_rfl, ?ha5_5⟩) hSa ?ra5_5
        case ha5_5 => first | (intro w hSw; obtain ⟨q0, q1⟩ := hSw; go_simp; done) | (intro w hSw; obtain ⟨q0, q1⟩ := hSw; go_simp; with_reducible rfl)
        try simp only [Act.put, List.setIfInBounds_toArray, List.set_cons_zero, List.set_cons_succ]
        refine wpAnyH_take (i := 6) (oi := { dst := some 48, op := _, type := _, pos := _, after := _, guard := _ }) (v := ?va6_6) rfl (by kernel_rfl) (by kernel_rfl) (by kernel_rfl) (fun _ _ _ h => h) (Or.inl ⟨by kernel_rfl, ?ha6_6⟩) hSa ?ra6_6
        case ha6_6 => first | (intro w hSw; obtain ⟨q0, q1⟩ := hSw; go_simp; done) | (intro w hSw; obtain ⟨q0, q1⟩ := hSw; go_simp; with_reducible rfl)
        try simp only [Act.put, List.setIfInBounds_toArray, List.set_cons_zero, List.set_cons_succ]
        refine wpAnyH_take (i := 7) (oi := { dst := some 49, op := _, type := _, pos := _, after := _, guard := _ }) (v := ?va7_7) rfl (by kernel_rfl) (by kernel_rfl) (by kernel_rfl) (fun _ _ _ h => h) (Or.inl ⟨by kernel_rfl, ?ha7_7⟩) hSa ?ra7_7
        case ha7_7 => first | (intro w hSw; obtain ⟨q0, q1⟩ := hSw; go_simp; done) | (intro w hSw; obtain ⟨q0, q1⟩ := hSw; go_simp; with_reducible rfl)
        try simp only [Act.put, List.setIfInBounds_toArray, List.set_cons_zero, List.set_cons_succ]
        refine wpAnyH_ready (rs := [1, 8]) (by kernel_rfl) (by simp) ?_
        refine AllReadyH.cons rfl (fun KK hK => ?_) (AllReadyH.cons rfl (fun KK hK => ?_) AllReadyH.nil)
        · have x0 := (unhide KB8).cell 0
          go_simp
          have hSa' := hSa
          clear x0
          refine hK _ _ hSa' (fun _ => ?_)
          clear hK KK hSa
          have hSa := hSa'
          clear hSa'
          refine wpAnyH_ready (rs := [8]) (by kernel_rfl) (by simp) ?_
          refine AllReadyH.cons rfl (fun KK hK => ?_) AllReadyH.nil
          go_simp
          have hSa' : SxJ wr.heap.size bb (obb + o1) (o1 : Int) s0 (((wr.alloc (Obj.cells #[.int .i64 1, .int .i64 (o1 : Int), .int .i64 (a1 : Int), .int .i64 (b1 : Int), .int .i64 ((o1 : Int) + 1), .int .i64 (a2 : Int), .int .i64 (b2 : Int)] 45))).alloc (Obj.cells #[.string s0] 9)).drew := SxJ.below (X := (wr.alloc (Obj.cells #[.int .i64 1, .int .i64 (o1 : Int), .int .i64 (a1 : Int), .int .i64 (b1 : Int), .int .i64 ((o1 : Int) + 1), .int .i64 (a2 : Int), .int .i64 (b2 : Int)] 45))) (X' := (wr.alloc (Obj.cells #[.int .i64 1, .int .i64 (o1 : Int), .int .i64 (a1 : Int), .int .i64 (b1 : Int), .int .i64 ((o1 : Int) + 1), .int .i64 (a2 : Int), .int .i64 (b2 : Int)] 45)).alloc (Obj.cells #[.string s0] 9)) hSa ((Below.refl _ _).alloc (Nat.le_refl _) (Obj.cells #[.string s0] 9))
          refine hK _ _ hSa' (fun _ => ?_)
          clear hK KK hSa
          have hSa := hSa'
          clear hSa'
          refine wpAnyH_ready (rs := [9]) (by kernel_rfl) (by simp) ?_
          refine AllReadyH.cons rfl (fun KK hK => ?_) AllReadyH.nil
          obtain ⟨v4, w4, hr, hown, hgr, _⟩ := append_fresh (P := Try.prog) (((wr.alloc (Obj.cells #[.int .i64 1, .int .i64 (o1 : Int), .int .i64 (a1 : Int), .int .i64 (b1 : Int), .int .i64 ((o1 : Int) + 1), .int .i64 (a2 : Int), .int .i64 (b2 : Int)] 45))).alloc (Obj.cells #[.string s0] 9)).drew w1.heap.size 22 22 9 i0 (.string ⟨#[]⟩) 1 16 Try.underlying22 hi0 hi1 hi2 hi3 rfl (by decide) (.slice uq un uc) _ _ (unhide HRW) ⟨wr.heap.size + 1, 0, none⟩ 1 1 [.string s0] rfl (by have := cell_one_new (wr.alloc (Obj.cells #[.int .i64 1, .int .i64 (o1 : Int), .int .i64 (a1 : Int), .int .i64 (b1 : Int), .int .i64 ((o1 : Int) + 1), .int .i64 (a2 : Int), .int .i64 (b2 : Int)] 45)) (.string s0) 9; rw [show (wr.alloc (Obj.cells #[.int .i64 1, .int .i64 (o1 : Int), .int .i64 (a1 : Int), .int .i64 (b1 : Int), .int .i64 ((o1 : Int) + 1), .int .i64 (a2 : Int), .int .i64 (b2 : Int)] 45)).heap.size = wr.heap.size + 1 by simp] at this; exact this) (fun u hu => by simp at hu; subst hu; rfl) (by simp only [maxLen]; omega) (by omega) (by simp; omega)
          obtain ⟨yq, yn, yc, hy⟩ := slice_of hown
          subst hy
          refine step_append_run2 (o := { dst := some 51, op := _, type := _, pos := _, after := _, guard := _ }) rfl (.tmp 43) (.tmp 50) 22 22 rfl (.slice uq un uc) (.slice (some ⟨wr.heap.size + 1, 0, none⟩) 1 1) (by simp [Act.eval, Act.put]) (by simp [Act.eval, Act.put]) hr ?_
          simp only [Act.put, List.setIfInBounds_toArray, List.set_cons_zero, List.set_cons_succ]
          have hSa' := SxJ.grown hSa hgr (fun q hq => by have := unhide HNX q hq; exact ⟨this.1, this.2.1⟩)
          have K9 := (unhide KB9).grown hgr (fun e => (unhide HNX _ e.symm).2.2.1 rfl)
          refine hK _ _ hSa' (fun _ => ?_)
          clear hK KK hSa
          have hSa := hSa'
          clear hSa'
          refine wpAnyH_take (i := 10) (oi := { dst := some 52, op := _, type := _, pos := _, after := _, guard := _ }) (v := ?va10_8) rfl (by kernel_rfl) (by kernel_rfl) (by kernel_rfl) (fun _ _ _ h => h) (Or.inl ⟨by kernel_rfl, ?ha10_8⟩) hSa ?ra10_8
          case ha10_8 => first | (intro w hSw; obtain ⟨q0, q1⟩ := hSw; go_simp; done) | (intro w hSw; obtain ⟨q0, q1⟩ := hSw; go_simp; with_reducible rfl)
          try simp only [Act.put, List.setIfInBounds_toArray, List.set_cons_zero, List.set_cons_succ]
          refine wpAnyH_ready (rs := [11]) (by kernel_rfl) (by simp) ?_
          refine AllReadyH.cons rfl (fun KK hK => ?_) AllReadyH.nil
          have d0 := K9.cell 0
          have e0 := K9.frozen 0
          go_simp
          have hSa' : SxJ wr.heap.size bb (obb + o1) (o1 : Int) s0 (w4.setCell ⟨w.heap.size + 1, 0, none⟩ (.slice yq yn yc)) := SxJ.set hSa (by have h2 := unhide HGL g rfl; have h3 := unhide HBO; omega) 0 (.slice yq yn yc)
          refine hK _ _ hSa' (fun _ => ?_)
          clear hK KK hSa
          have hSa := hSa'
          clear hSa'
          refine wpAnyH_done (by kernel_rfl) ?_ _
          clear hSa
          try simp only [Act.put, List.setIfInBounds_toArray, List.set_cons_zero, List.set_cons_succ]
          have HOB : Hid (Blk (w4.setCell ⟨w.heap.size + 1, 0, none⟩ (.slice yq yn yc)) (w.heap.size + 1) #[.slice yq yn yc, .int .i64 (cn : Int)] 28) := hide (K9.set 0 (by simp) (.slice yq yn yc))
          have HRB : Hid (Blk (w4.setCell ⟨w.heap.size + 1, 0, none⟩ (.slice yq yn yc)) w.heap.size #[.slice none 0 0, .int .i64 0] 28) := hide (((unhide KR9).grown hgr (fun e => (unhide HNX _ e.symm).2.2.2.1 rfl)).away (by omega) _)
          have HTR : Hid ((w4.setCell ⟨w.heap.size + 1, 0, none⟩ (.slice yq yn yc)).heap[g]? = w1.heap[g]?) := hide ((Below.heap_setCell _ ⟨w.heap.size + 1, 0, none⟩ _ g (by have h2 := unhide HGL g rfl; show g ≠ w.heap.size + 1; omega)).trans ((hgr.block g (by simp; omega) (fun e => (unhide HNX _ e.symm).2.2.2.2 rfl)).trans (((((Below.refl wr.heap.size wr).alloc (Nat.le_refl _) _).alloc (by simp) _).drew.block g hgw).trans (unhide HS).tr)))
          have HOW : Hid (TxsV (w4.setCell ⟨w.heap.size + 1, 0, none⟩ (.slice yq yn yc)) w1.heap.size (.slice yq yn yc) (jnF o a b (P.take (m + 1)))) := hide (by
            rw [unhide HEJ, unhide HTX]
            have hown2 : TxsV w4 w1.heap.size (.slice yq yn yc) (jnF o a b (P.take m) ++ [s0]) := by unfold TxsV; rw [List.length_append, List.map_append]; exact hown
            exact owns_away hown2 (fun q hq => by have h1 := (hown2.lt q hq.symm).1; have h2 := unhide HGL g rfl; omega))
          have HBW : Hid (Below w.heap.size w (w4.setCell ⟨w.heap.size + 1, 0, none⟩ (.slice yq yn yc))) := hide (((((unhide HBw).alloc hzw _).alloc (by simp; omega) _).drew.grown hgr (by simp; omega) (fun q hq => by have h1 := (unhide HNB q hq).1; omega)).setCell (by show w.heap.size ≤ w.heap.size + 1; omega) _)
          have HSZ : Hid (w1.heap.size ≤ (w4.setCell ⟨w.heap.size + 1, 0, none⟩ (.slice yq yn yc)).heap.size) := hide (by have := hgr.size; simp at this ⊢; omega)
          clear hown hgr hr K9
          go_wp2
          go_roundw
          case rel => exact ⟨m + 1, .slice yq yn yc, by omega, by go_num, g, fun _ => rfl, by rw [unhide HEC]; exact unhide HOB, unhide HRB, unhide HTR, unhide HOW, unhide HBW, unhide HSZ⟩
          case measure => simp [intOf]; omega
        · go_simp
          have hSa' : SxJ wr.heap.size bb (obb + o1) (o1 : Int) s0 (((wr.alloc (Obj.cells #[.int .i64 1, .int .i64 (o1 : Int), .int .i64 (a1 : Int), .int .i64 (b1 : Int), .int .i64 ((o1 : Int) + 1), .int .i64 (a2 : Int), .int .i64 (b2 : Int)] 45))).alloc (Obj.cells #[.string s0] 9)).drew := SxJ.below (X := (wr.alloc (Obj.cells #[.int .i64 1, .int .i64 (o1 : Int), .int .i64 (a1 : Int), .int .i64 (b1 : Int), .int .i64 ((o1 : Int) + 1), .int .i64 (a2 : Int), .int .i64 (b2 : Int)] 45))) (X' := (wr.alloc (Obj.cells #[.int .i64 1, .int .i64 (o1 : Int), .int .i64 (a1 : Int), .int .i64 (b1 : Int), .int .i64 ((o1 : Int) + 1), .int .i64 (a2 : Int), .int .i64 (b2 : Int)] 45)).alloc (Obj.cells #[.string s0] 9)) hSa ((Below.refl _ _).alloc (Nat.le_refl _) (Obj.cells #[.string s0] 9))
          refine hK _ _ hSa' (fun _ => ?_)
          clear hK KK hSa
          have hSa := hSa'
          clear hSa'
          refine wpAnyH_ready (rs := [1]) (by kernel_rfl) (by simp) ?_
          refine AllReadyH.cons rfl (fun KK hK => ?_) AllReadyH.nil
          have x0 := (unhide KB9).cell 0
          have x1 := (unhide KB8).cell 0
          go_simp
          have hSa' := hSa
          clear x0 x1
          refine hK _ _ hSa' (fun _ => ?_)
          clear hK KK hSa
          have hSa := hSa'
          clear hSa'
          refine wpAnyH_ready (rs := [9]) (by kernel_rfl) (by simp) ?_
          refine AllReadyH.cons rfl (fun KK hK => ?_) AllReadyH.nil
          obtain ⟨v4, w4, hr, hown, hgr, _⟩ := append_fresh (P := Try.prog) (((wr.alloc (Obj.cells #[.int .i64 1, .int .i64 (o1 : Int), .int .i64 (a1 : Int), .int .i64 (b1 : Int), .int .i64 ((o1 : Int) + 1), .int .i64 (a2 : Int), .int .i64 (b2 : Int)] 45))).alloc (Obj.cells #[.string s0] 9)).drew w1.heap.size 22 22 9 i0 (.string ⟨#[]⟩) 1 16 Try.underlying22 hi0 hi1 hi2 hi3 rfl (by decide) (.slice uq un uc) _ _ (unhide HRW) ⟨wr.heap.size + 1, 0, none⟩ 1 1 [.string s0] rfl (by have := cell_one_new (wr.alloc (Obj.cells #[.int .i64 1, .int .i64 (o1 : Int), .int .i64 (a1 : Int), .int .i64 (b1 : Int), .int .i64 ((o1 : Int) + 1), .int .i64 (a2 : Int), .int .i64 (b2 : Int)] 45)) (.string s0) 9; rw [show (wr.alloc (Obj.cells #[.int .i64 1, .int .i64 (o1 : Int), .int .i64 (a1 : Int), .int .i64 (b1 : Int), .int .i64 ((o1 : Int) + 1), .int .i64 (a2 : Int), .int .i64 (b2 : Int)] 45)).heap.size = wr.heap.size + 1 by simp] at this; exact this) (fun u hu => by simp at hu; subst hu; rfl) (by simp only [maxLen]; omega) (by omega) (by simp; omega)
          obtain ⟨yq, yn, yc, hy⟩ := slice_of hown
          subst hy
          refine step_append_run2 (o := { dst := some 51, op := _, type := _, pos := _, after := _, guard := _ }) rfl (.tmp 43) (.tmp 50) 22 22 rfl (.slice uq un uc) (.slice (some ⟨wr.heap.size + 1, 0, none⟩) 1 1) (by simp [Act.eval, Act.put]) (by simp [Act.eval, Act.put]) hr ?_
          simp only [Act.put, List.setIfInBounds_toArray, List.set_cons_zero, List.set_cons_succ]
          have hSa' := SxJ.grown hSa hgr (fun q hq => by have := unhide HNX q hq; exact ⟨this.1, this.2.1⟩)
          have K9 := (unhide KB9).grown hgr (fun e => (unhide HNX _ e.symm).2.2.1 rfl)
          refine hK _ _ hSa' (fun _ => ?_)
          clear hK KK hSa
          have hSa := hSa'
          clear hSa'
          refine wpAnyH_take (i := 10) (oi := { dst := some 52, op := _, type := _, pos := _, after := _, guard := _ }) (v := ?va10_9) rfl (by kernel_rfl) (by kernel_rfl) (by kernel_rfl) (fun _ _ _ h => h) (Or.inl ⟨by kernel_rfl, ?ha10_9⟩) hSa ?ra10_9
          case ha10_9 => first | (intro w hSw; obtain ⟨q0, q1⟩ := hSw; go_simp; done) | (intro w hSw; obtain ⟨q0, q1⟩ := hSw; go_simp; with_reducible rfl)
          try simp only [Act.put, List.setIfInBounds_toArray, List.set_cons_zero, List.set_cons_succ]
          refine wpAnyH_ready (rs := [11]) (by kernel_rfl) (by simp) ?_
          refine AllReadyH.cons rfl (fun KK hK => ?_) AllReadyH.nil
          have d0 := K9.cell 0
          have e0 := K9.frozen 0
          go_simp
          have hSa' : SxJ wr.heap.size bb (obb + o1) (o1 : Int) s0 (w4.setCell ⟨w.heap.size + 1, 0, none⟩ (.slice yq yn yc)) := SxJ.set hSa (by have h2 := unhide HGL g rfl; have h3 := unhide HBO; omega) 0 (.slice yq yn yc)
          refine hK _ _ hSa' (fun _ => ?_)
          clear hK KK hSa
          have hSa := hSa'
          clear hSa'
          refine wpAnyH_done (by kernel_rfl) ?_ _
          clear hSa
          try simp only [Act.put, List.setIfInBounds_toArray, List.set_cons_zero, List.set_cons_succ]
          have HOB : Hid (Blk (w4.setCell ⟨w.heap.size + 1, 0, none⟩ (.slice yq yn yc)) (w.heap.size + 1) #[.slice yq yn yc, .int .i64 (cn : Int)] 28) := hide (K9.set 0 (by simp) (.slice yq yn yc))
          have HRB : Hid (Blk (w4.setCell ⟨w.heap.size + 1, 0, none⟩ (.slice yq yn yc)) w.heap.size #[.slice none 0 0, .int .i64 0] 28) := hide (((unhide KR9).grown hgr (fun e => (unhide HNX _ e.symm).2.2.2.1 rfl)).away (by omega) _)
          have HTR : Hid ((w4.setCell ⟨w.heap.size + 1, 0, none⟩ (.slice yq yn yc)).heap[g]? = w1.heap[g]?) := hide ((Below.heap_setCell _ ⟨w.heap.size + 1, 0, none⟩ _ g (by have h2 := unhide HGL g rfl; show g ≠ w.heap.size + 1; omega)).trans ((hgr.block g (by simp; omega) (fun e => (unhide HNX _ e.symm).2.2.2.2 rfl)).trans (((((Below.refl wr.heap.size wr).alloc (Nat.le_refl _) _).alloc (by simp) _).drew.block g hgw).trans (unhide HS).tr)))
          have HOW : Hid (TxsV (w4.setCell ⟨w.heap.size + 1, 0, none⟩ (.slice yq yn yc)) w1.heap.size (.slice yq yn yc) (jnF o a b (P.take (m + 1)))) := hide (by
            rw [unhide HEJ, unhide HTX]
            have hown2 : TxsV w4 w1.heap.size (.slice yq yn yc) (jnF o a b (P.take m) ++ [s0]) := by unfold TxsV; rw [List.length_append, List.map_append]; exact hown
            exact owns_away hown2 (fun q hq => by have h1 := (hown2.lt q hq.symm).1; have h2 := unhide HGL g rfl; omega))
          have HBW : Hid (Below w.heap.size w (w4.setCell ⟨w.heap.size + 1, 0, none⟩ (.slice yq yn yc))) := hide (((((unhide HBw).alloc hzw _).alloc (by simp; omega) _).drew.grown hgr (by simp; omega) (fun q hq => by have h1 := (unhide HNB q hq).1; omega)).setCell (by show w.heap.size ≤ w.heap.size + 1; omega) _)
          have HSZ : Hid (w1.heap.size ≤ (w4.setCell ⟨w.heap.size + 1, 0, none⟩ (.slice yq yn yc)).heap.size) := hide (by have := hgr.size; simp at this ⊢; omega)
          clear hown hgr hr K9
          go_wp2
          go_roundw
          case rel => exact ⟨m + 1, .slice yq yn yc, by omega, by go_num, g, fun _ => rfl, by rw [unhide HEC]; exact unhide HOB, unhide HRB, unhide HTR, unhide HOW, unhide HBW, unhide HSZ⟩
          case measure => simp [intOf]; omega
      · have KB8 : Hid (Blk (wr.alloc (Obj.cells #[.int .i64 2, .int .i64 (o1 : Int), .int .i64 (a1 : Int), .int .i64 (b1 : Int), .int .i64 (o2 : Int), .int .i64 (a2 : Int), .int .i64 (b2 : Int)] 45)) (w.heap.size + 1) #[.slice uq un uc, .int .i64 (cn : Int)] 28) := hide ((by have := (unhide HS).ob; rw [hcn] at this; exact this : Blk wr (w.heap.size + 1) #[.slice uq un uc, .int .i64 (cn : Int)] 28).alloc _)
        have KR8 := hide ((unhide HS).rb.alloc (Obj.cells #[.int .i64 2, .int .i64 (o1 : Int), .int .i64 (a1 : Int), .int .i64 (b1 : Int), .int .i64 (o2 : Int), .int .i64 (a2 : Int), .int .i64 (b2 : Int)] 45))
        have hl3 : (jnF o a b (P.take m)).length + (sub b b1 b2).length ≤ 1000000 := by
          have h9 : (jn1 o a b (2, (o1, o2), (a1, a2), (b1, b2))).length = (sub b b1 b2).length := rfl
          omega
        clear c0 c1 g0 g1
        have c0 := (unhide KB8).cell 0
        have c1 := (unhide KB8).cell 1
        go_wp2_with (at_builtin; refine wpList_append_view _ rfl _ _ rfl w1.heap.size (.slice uq un uc) _ rfl ((unhide HS).row.alloc _) _ _ _ _ rfl (unhide PB _ ((unhide HBw).alloc hzw _)) hl3 (by simp; omega) ?_; intro u9 z9 hown9 hgr9 _; obtain ⟨yq, yn, yc, hy⟩ := slice_of hown9; subst hy; have K9 := (unhide KB8).grown hgr9 (fun e => by have h1 := (unhide HNB _ e.symm).1; have h2 := unhide HGL g rfl; omega); have d0 := K9.cell 0; have d1 := K9.cell 1; have e0 := K9.frozen 0; have e1 := K9.frozen 1)
        go_wp2
        have HOB : Hid (Blk (z9.setCell ⟨w.heap.size + 1, 0, none⟩ (.slice yq yn yc)) (w.heap.size + 1) #[.slice yq yn yc, .int .i64 (cn : Int)] 28) := hide (K9.set 0 (by simp) (.slice yq yn yc))
        have HRB : Hid (Blk (z9.setCell ⟨w.heap.size + 1, 0, none⟩ (.slice yq yn yc)) w.heap.size #[.slice none 0 0, .int .i64 0] 28) := hide (((unhide KR8).grown hgr9 (fun e => by have h1 := (unhide HNB _ e.symm).1; have h2 := unhide HGL g rfl; omega)).away (by omega) _)
        have HTR : Hid ((z9.setCell ⟨w.heap.size + 1, 0, none⟩ (.slice yq yn yc)).heap[g]? = w1.heap[g]?) := hide ((Below.heap_setCell _ ⟨w.heap.size + 1, 0, none⟩ _ g (by have h2 := unhide HGL g rfl; show g ≠ w.heap.size + 1; omega)).trans ((hgr9.block g (by simp; omega) (fun e => by have h1 := (unhide HNB _ e.symm).1; have h2 := unhide HGL g rfl; omega)).trans ((((Below.refl wr.heap.size wr).alloc (Nat.le_refl _) _).block g hgw).trans (unhide HS).tr)))
        have HOW : Hid (TxsV (z9.setCell ⟨w.heap.size + 1, 0, none⟩ (.slice yq yn yc)) w1.heap.size (.slice yq yn yc) (jnF o a b (P.take (m + 1)))) := hide (by rw [unhide HEJ]; exact owns_away hown9 (fun q hq => by have h1 := (hown9.lt q hq.symm).1; have h2 := unhide HGL g rfl; omega))
        have HBW : Hid (Below w.heap.size w (z9.setCell ⟨w.heap.size + 1, 0, none⟩ (.slice yq yn yc))) := hide ((((unhide HBw).alloc hzw _).grown hgr9 (by simp; omega) (fun q hq => by have h1 := (unhide HNB q hq).1; omega)).setCell (by show w.heap.size ≤ w.heap.size + 1; omega) _)
        have HSZ : Hid (w1.heap.size ≤ (z9.setCell ⟨w.heap.size + 1, 0, none⟩ (.slice yq yn yc)).heap.size) := hide (by have := hgr9.size; simp at this ⊢; omega)
        clear hown9 hgr9 d0 d1 e0 e1 K9
        go_roundw
        case rel => exact ⟨m + 1, .slice yq yn yc, by omega, by go_num, g, fun _ => rfl, by rw [unhide HEC]; exact unhide HOB, unhide HRB, unhide HTR, unhide HOW, unhide HBW, unhide HSZ⟩
        case measure => simp [intOf]; omega
      · have KB8 : Hid (Blk (wr.alloc (Obj.cells #[.int .i64 3, .int .i64 (o1 : Int), .int .i64 (a1 : Int), .int .i64 (b1 : Int), .int .i64 (o2 : Int), .int .i64 (a2 : Int), .int .i64 (b2 : Int)] 45)) (w.heap.size + 1) #[.slice uq un uc, .int .i64 (cn : Int)] 28) := hide ((by have := (unhide HS).ob; rw [hcn] at this; exact this : Blk wr (w.heap.size + 1) #[.slice uq un uc, .int .i64 (cn : Int)] 28).alloc _)
        have KR8 := hide ((unhide HS).rb.alloc (Obj.cells #[.int .i64 3, .int .i64 (o1 : Int), .int .i64 (a1 : Int), .int .i64 (b1 : Int), .int .i64 (o2 : Int), .int .i64 (a2 : Int), .int .i64 (b2 : Int)] 45))
        have hl3 : (jnF o a b (P.take m)).length + (sub a a1 a2).length ≤ 1000000 := by
          have h9 : (jn1 o a b (3, (o1, o2), (a1, a2), (b1, b2))).length = (sub a a1 a2).length := rfl
          omega
        clear c0 c1 g0 g1
        have c0 := (unhide KB8).cell 0
        have c1 := (unhide KB8).cell 1
        go_wp2_with (at_builtin; refine wpList_append_view _ rfl _ _ rfl w1.heap.size (.slice uq un uc) _ rfl ((unhide HS).row.alloc _) _ _ _ _ rfl (unhide PA _ ((unhide HBw).alloc hzw _)) hl3 (by simp; omega) ?_; intro u9 z9 hown9 hgr9 _; obtain ⟨yq, yn, yc, hy⟩ := slice_of hown9; subst hy; have K9 := (unhide KB8).grown hgr9 (fun e => by have h1 := (unhide HNB _ e.symm).1; have h2 := unhide HGL g rfl; omega); have d0 := K9.cell 0; have d1 := K9.cell 1; have e0 := K9.frozen 0; have e1 := K9.frozen 1)
        go_wp2
        have HOB : Hid (Blk (z9.setCell ⟨w.heap.size + 1, 0, none⟩ (.slice yq yn yc)) (w.heap.size + 1) #[.slice yq yn yc, .int .i64 (cn : Int)] 28) := hide (K9.set 0 (by simp) (.slice yq yn yc))
        have HRB : Hid (Blk (z9.setCell ⟨w.heap.size + 1, 0, none⟩ (.slice yq yn yc)) w.heap.size #[.slice none 0 0, .int .i64 0] 28) := hide (((unhide KR8).grown hgr9 (fun e => by have h1 := (unhide HNB _ e.symm).1; have h2 := unhide HGL g rfl; omega)).away (by omega) _)
        have HTR : Hid ((z9.setCell ⟨w.heap.size + 1, 0, none⟩ (.slice yq yn yc)).heap[g]? = w1.heap[g]?) := hide ((Below.heap_setCell _ ⟨w.heap.size + 1, 0, none⟩ _ g (by have h2 := unhide HGL g rfl; show g ≠ w.heap.size + 1; omega)).trans ((hgr9.block g (by simp; omega) (fun e => by have h1 := (unhide HNB _ e.symm).1; have h2 := unhide HGL g rfl; omega)).trans ((((Below.refl wr.heap.size wr).alloc (Nat.le_refl _) _).block g hgw).trans (unhide HS).tr)))
        have HOW : Hid (TxsV (z9.setCell ⟨w.heap.size + 1, 0, none⟩ (.slice yq yn yc)) w1.heap.size (.slice yq yn yc) (jnF o a b (P.take (m + 1)))) := hide (by rw [unhide HEJ]; exact owns_away hown9 (fun q hq => by have h1 := (hown9.lt q hq.symm).1; have h2 := unhide HGL g rfl; omega))
        have HBW : Hid (Below w.heap.size w (z9.setCell ⟨w.heap.size + 1, 0, none⟩ (.slice yq yn yc))) := hide ((((unhide HBw).alloc hzw _).grown hgr9 (by simp; omega) (fun q hq => by have h1 := (unhide HNB q hq).1; omega)).setCell (by show w.heap.size ≤ w.heap.size + 1; omega) _)
        have HSZ : Hid (w1.heap.size ≤ (z9.setCell ⟨w.heap.size + 1, 0, none⟩ (.slice yq yn yc)).heap.size) := hide (by have := hgr9.size; simp at this ⊢; omega)
        clear hown9 hgr9 d0 d1 e0 e1 K9
        go_roundw
        case rel => exact ⟨m + 1, .slice yq yn yc, by omega, by go_num, g, fun _ => rfl, by rw [unhide HEC]; exact unhide HOB, unhide HRB, unhide HTR, unhide HOW, unhide HBW, unhide HSZ⟩
        case measure => simp [intOf]; omega
      · have KB8 : Hid (Blk (wr.alloc (Obj.cells #[.int .i64 4, .int .i64 (o1 : Int), .int .i64 (a1 : Int), .int .i64 (b1 : Int), .int .i64 (o2 : Int), .int .i64 (a2 : Int), .int .i64 (b2 : Int)] 45)) (w.heap.size + 1) #[.slice uq un uc, .int .i64 (cn : Int)] 28) := hide ((by have := (unhide HS).ob; rw [hcn] at this; exact this : Blk wr (w.heap.size + 1) #[.slice uq un uc, .int .i64 (cn : Int)] 28).alloc _)
        have KR8 := hide ((unhide HS).rb.alloc (Obj.cells #[.int .i64 4, .int .i64 (o1 : Int), .int .i64 (a1 : Int), .int .i64 (b1 : Int), .int .i64 (o2 : Int), .int .i64 (a2 : Int), .int .i64 (b2 : Int)] 45))
        have hl3 : (jnF o a b (P.take m)).length + (sub a a1 a2).length ≤ 1000000 := by
          have h9 : (jn1 o a b (4, (o1, o2), (a1, a2), (b1, b2))).length = (sub a a1 a2).length := rfl
          omega
        clear c0 c1 g0 g1
        have c0 := (unhide KB8).cell 0
        have c1 := (unhide KB8).cell 1
        go_wp2_with (at_builtin; refine wpList_append_view _ rfl _ _ rfl w1.heap.size (.slice uq un uc) _ rfl ((unhide HS).row.alloc _) _ _ _ _ rfl (unhide PA _ ((unhide HBw).alloc hzw _)) hl3 (by simp; omega) ?_; intro u9 z9 hown9 hgr9 _; obtain ⟨yq, yn, yc, hy⟩ := slice_of hown9; subst hy; have K9 := (unhide KB8).grown hgr9 (fun e => by have h1 := (unhide HNB _ e.symm).1; have h2 := unhide HGL g rfl; omega); have d0 := K9.cell 0; have d1 := K9.cell 1; have e0 := K9.frozen 0; have e1 := K9.frozen 1)
        go_wp2
        have HOB : Hid (Blk (z9.setCell ⟨w.heap.size + 1, 0, none⟩ (.slice yq yn yc)) (w.heap.size + 1) #[.slice yq yn yc, .int .i64 (cn : Int)] 28) := hide (K9.set 0 (by simp) (.slice yq yn yc))
        have HRB : Hid (Blk (z9.setCell ⟨w.heap.size + 1, 0, none⟩ (.slice yq yn yc)) w.heap.size #[.slice none 0 0, .int .i64 0] 28) := hide (((unhide KR8).grown hgr9 (fun e => by have h1 := (unhide HNB _ e.symm).1; have h2 := unhide HGL g rfl; omega)).away (by omega) _)
        have HTR : Hid ((z9.setCell ⟨w.heap.size + 1, 0, none⟩ (.slice yq yn yc)).heap[g]? = w1.heap[g]?) := hide ((Below.heap_setCell _ ⟨w.heap.size + 1, 0, none⟩ _ g (by have h2 := unhide HGL g rfl; show g ≠ w.heap.size + 1; omega)).trans ((hgr9.block g (by simp; omega) (fun e => by have h1 := (unhide HNB _ e.symm).1; have h2 := unhide HGL g rfl; omega)).trans ((((Below.refl wr.heap.size wr).alloc (Nat.le_refl _) _).block g hgw).trans (unhide HS).tr)))
        have HOW : Hid (TxsV (z9.setCell ⟨w.heap.size + 1, 0, none⟩ (.slice yq yn yc)) w1.heap.size (.slice yq yn yc) (jnF o a b (P.take (m + 1)))) := hide (by rw [unhide HEJ]; exact owns_away hown9 (fun q hq => by have h1 := (hown9.lt q hq.symm).1; have h2 := unhide HGL g rfl; omega))
        have HBW : Hid (Below w.heap.size w (z9.setCell ⟨w.heap.size + 1, 0, none⟩ (.slice yq yn yc))) := hide ((((unhide HBw).alloc hzw _).grown hgr9 (by simp; omega) (fun q hq => by have h1 := (unhide HNB q hq).1; omega)).setCell (by show w.heap.size ≤ w.heap.size + 1; omega) _)
        have HSZ : Hid (w1.heap.size ≤ (z9.setCell ⟨w.heap.size + 1, 0, none⟩ (.slice yq yn yc)).heap.size) := hide (by have := hgr9.size; simp at this ⊢; omega)
        clear hown9 hgr9 d0 d1 e0 e1 K9
        go_roundw
        case rel => exact ⟨m + 1, .slice yq yn yc, by omega, by go_num, g, fun _ => rfl, by rw [unhide HEC]; exact unhide HOB, unhide HRB, unhide HTR, unhide HOW, unhide HBW, unhide HSZ⟩
        case measure => simp [intOf]; omega
      · have h9 : (jn1 o a b (5, (o1, o2), (a1, a2), (b1, b2))).length = (sub a a1 a2).length + (sub b b1 b2).length := by
          show (sub a a1 a2 ++ sub b b1 b2).length = _
          rw [List.length_append]
        have hl3 : (jnF o a b (P.take m)).length + (sub a a1 a2).length ≤ 1000000 := by omega
        have hl4 : (jnF o a b (P.take m) ++ sub a a1 a2).length + (sub b b1 b2).length ≤ 1000000 := by rw [List.length_append]; omega
        have KB8 : Hid (Blk (wr.alloc (Obj.cells #[.int .i64 5, .int .i64 (o1 : Int), .int .i64 (a1 : Int), .int .i64 (b1 : Int), .int .i64 (o2 : Int), .int .i64 (a2 : Int), .int .i64 (b2 : Int)] 45)) (w.heap.size + 1) #[.slice uq un uc, .int .i64 (cn : Int)] 28) := hide ((by have := (unhide HS).ob; rw [hcn] at this; exact this : Blk wr (w.heap.size + 1) #[.slice uq un uc, .int .i64 (cn : Int)] 28).alloc _)
        have KR8 := hide ((unhide HS).rb.alloc (Obj.cells #[.int .i64 5, .int .i64 (o1 : Int), .int .i64 (a1 : Int), .int .i64 (b1 : Int), .int .i64 (o2 : Int), .int .i64 (a2 : Int), .int .i64 (b2 : Int)] 45))
        clear h9 c0 c1 g0 g1
        have c0 := (unhide KB8).cell 0
        have c1 := (unhide KB8).cell 1
        go_upto_region 17 with (at_builtin; refine wpList_append_view _ rfl _ _ rfl w1.heap.size (.slice uq un uc) _ rfl ((unhide HS).row.alloc _) _ _ _ _ rfl (unhide PA _ ((unhide HBw).alloc hzw _)) hl3 (by simp; omega) ?_; intro u9 z9 hown9 hgr9 _; obtain ⟨yq, yn, yc, hy⟩ := slice_of hown9; subst hy; have K9 := (unhide KB8).grown hgr9 (fun e => by have h1 := (unhide HNB _ e.symm).1; have h2 := unhide HGL g rfl; omega); have d0 := K9.cell 0; have d1 := K9.cell 1; have e0 := K9.frozen 0; have e1 := K9.frozen 1)
        have KS : Hid (Blk (z9.setCell ⟨w.heap.size + 1, 0, none⟩ (.slice yq yn yc)) (w.heap.size + 1) #[.slice yq yn yc, .int .i64 (cn : Int)] 28) := hide (K9.set 0 (by simp) (.slice yq yn yc))
        have HRb : Hid (Blk (z9.setCell ⟨w.heap.size + 1, 0, none⟩ (.slice yq yn yc)) w.heap.size #[.slice none 0 0, .int .i64 0] 28) := hide (((unhide KR8).grown hgr9 (fun e => by have h1 := (unhide HNB _ e.symm).1; have h2 := unhide HGL g rfl; omega)).away (by omega) _)
        have HTS : Hid ((z9.setCell ⟨w.heap.size + 1, 0, none⟩ (.slice yq yn yc)).heap[g]? = w1.heap[g]?) := hide ((Below.heap_setCell _ ⟨w.heap.size + 1, 0, none⟩ _ g (by have h2 := unhide HGL g rfl; show g ≠ w.heap.size + 1; omega)).trans ((hgr9.block g (by simp; omega) (fun e => by have h1 := (unhide HNB _ e.symm).1; have h2 := unhide HGL g rfl; omega)).trans ((((Below.refl wr.heap.size wr).alloc (Nat.le_refl _) _).block g hgw).trans (unhide HS).tr)))
        have HRS : Hid (TxsV (z9.setCell ⟨w.heap.size + 1, 0, none⟩ (.slice yq yn yc)) w1.heap.size (.slice yq yn yc) (jnF o a b (P.take m) ++ sub a a1 a2)) := hide (owns_away hown9 (fun q hq => by have h1 := (hown9.lt q hq.symm).1; have h2 := unhide HGL g rfl; omega))
        have HBS : Hid (Below w.heap.size w (z9.setCell ⟨w.heap.size + 1, 0, none⟩ (.slice yq yn yc))) := hide ((((unhide HBw).alloc hzw _).grown hgr9 (by simp; omega) (fun q hq => by have h1 := (unhide HNB q hq).1; omega)).setCell (by show w.heap.size ≤ w.heap.size + 1; omega) _)
        have hzs : w1.heap.size ≤ (z9.setCell ⟨w.heap.size + 1, 0, none⟩ (.slice yq yn yc)).heap.size := by have := hgr9.size; simp at this ⊢; omega
        have hzg : g < (z9.setCell ⟨w.heap.size + 1, 0, none⟩ (.slice yq yn yc)).heap.size := by have := hgr9.size; simp at this ⊢; omega
        clear hown9 hgr9 d0 d1 e0 e1 K9 c0 c1 k0 k1 k2 k3 k4 k5 k6 KB8 KR8
        generalize (z9.setCell ⟨w.heap.size + 1, 0, none⟩ (.slice yq yn yc)) = Z at *
        have HNS : Hid (∀ q, (Value.slice yq yn yc).ownBlock = some q → w1.heap.size ≤ q) := hide (fun q hq => ((unhide HRS).lt q hq).1)
        have c0 := (unhide KS).cell 0
        have c1 := (unhide KS).cell 1
        go_wp2_with (at_builtin; refine wpList_append_view _ rfl _ _ rfl w1.heap.size (.slice yq yn yc) _ rfl (unhide HRS) _ _ _ _ rfl (unhide PB _ (unhide HBS)) hl4 hzs ?_; intro u8 z8 hown8 hgr8 _; obtain ⟨xq, xn, xc, hx⟩ := slice_of hown8; subst hx; have K8 := (unhide KS).grown hgr8 (fun e => by have h1 := unhide HNS _ e.symm; have h2 := unhide HGL g rfl; omega); have d0 := K8.cell 0; have d1 := K8.cell 1; have e0 := K8.frozen 0; have e1 := K8.frozen 1)
        go_wp2
        have HOB : Hid (Blk ((z8.setCell ⟨w.heap.size + 1, 0, none⟩ (.slice xq xn xc)).setCell ⟨w.heap.size + 1, 1, none⟩ (.int .i64 ((cn : Int) + 1))) (w.heap.size + 1) #[.slice xq xn xc, .int .i64 ((cn : Int) + 1)] 28) := hide ((K8.set 0 (by simp) (.slice xq xn xc)).set 1 (by simp) (.int .i64 ((cn : Int) + 1)))
        have HRB : Hid (Blk ((z8.setCell ⟨w.heap.size + 1, 0, none⟩ (.slice xq xn xc)).setCell ⟨w.heap.size + 1, 1, none⟩ (.int .i64 ((cn : Int) + 1))) w.heap.size #[.slice none 0 0, .int .i64 0] 28) := hide ((((unhide HRb).grown hgr8 (fun e => by have h1 := unhide HNS _ e.symm; have h2 := unhide HGL g rfl; omega)).away (by omega) _).away (by omega) _)
        have HTR : Hid (((z8.setCell ⟨w.heap.size + 1, 0, none⟩ (.slice xq xn xc)).setCell ⟨w.heap.size + 1, 1, none⟩ (.int .i64 ((cn : Int) + 1))).heap[g]? = w1.heap[g]?) := hide ((Below.heap_setCell _ ⟨w.heap.size + 1, 1, none⟩ _ g (by have h2 := unhide HGL g rfl; show g ≠ w.heap.size + 1; omega)).trans ((Below.heap_setCell _ ⟨w.heap.size + 1, 0, none⟩ _ g (by have h2 := unhide HGL g rfl; show g ≠ w.heap.size + 1; omega)).trans ((hgr8.block g hzg (fun e => by have h1 := unhide HNS _ e.symm; have h2 := unhide HGL g rfl; omega)).trans (unhide HTS))))
        have hq8 : ∀ q, some q = (Value.slice xq xn xc).ownBlock → q ≠ w.heap.size + 1 := fun q hq => by have h1 := (hown8.lt q hq.symm).1; have h2 := unhide HGL g rfl; omega
        have HOW : Hid (TxsV ((z8.setCell ⟨w.heap.size + 1, 0, none⟩ (.slice xq xn xc)).setCell ⟨w.heap.size + 1, 1, none⟩ (.int .i64 ((cn : Int) + 1))) w1.heap.size (.slice xq xn xc) (jnF o a b (P.take (m + 1)))) := hide (by
          rw [unhide HEJ]
          have hown7 : TxsV z8 w1.heap.size (.slice xq xn xc) (jnF o a b (P.take m) ++ jn1 o a b (5, (o1, o2), (a1, a2), (b1, b2))) := by first | exact hown8 | (rw [List.append_assoc] at hown8; exact hown8)
          exact owns_away (owns_away hown7 hq8) hq8)
        have HBW : Hid (Below w.heap.size w ((z8.setCell ⟨w.heap.size + 1, 0, none⟩ (.slice xq xn xc)).setCell ⟨w.heap.size + 1, 1, none⟩ (.int .i64 ((cn : Int) + 1)))) := hide ((((unhide HBS).grown hgr8 (unhide HBS).size (fun q hq => by have h1 := unhide HNS q hq; have h2 := unhide HGL g rfl; omega)).setCell (by show w.heap.size ≤ w.heap.size + 1; omega) _).setCell (by show w.heap.size ≤ w.heap.size + 1; omega) _)
        have HSZ : Hid (w1.heap.size ≤ ((z8.setCell ⟨w.heap.size + 1, 0, none⟩ (.slice xq xn xc)).setCell ⟨w.heap.size + 1, 1, none⟩ (.int .i64 ((cn : Int) + 1))).heap.size) := hide (by have := hgr8.size; simp at this ⊢; omega)
        have HC5 : Hid ((((clF (P.take (m + 1)) : Nat)) : Int) = (cn : Int) + 1) := hide (by rw [unhide HEC]; simp)
        clear hown8 hgr8 d0 d1 e0 e1 K8
        go_roundw
        case rel => exact ⟨m + 1, .slice xq xn xc, by omega, by go_num, g, fun _ => rfl, by rw [unhide HC5]; exact unhide HOB, unhide HRB, unhide HTR, unhide HOW, unhide HBW, unhide HSZ⟩
        case measure => simp [intOf]; omega
    · have hpi : ¬ (m : Int) < (P.length : Int) := by omega
      have hme : m = P.length := by omega
      subst hme
      rw [unhide HFIN] at hcl
      have KO := hide hS.ob
      have KR := hide hS.rb
      have HR := hide hS.row
      have HBW := hide hS.bl
      have hsz := hS.sz
      have hw1 := (unhide HB1).size
      rw [unhide HFIN] at KO HR
      have c0 := (unhide KO).cell 0
      have c1 := (unhide KO).cell 1
      have d0 := (unhide KR).cell 0
      have d1 := (unhide KR).cell 1
      have e0 := (unhide KR).frozen 0
      have e1 := (unhide KR).frozen 1
      have hq0 : ∀ q, some q = (Value.slice uq un uc).ownBlock → q ≠ w.heap.size := fun q hq => by have h1 := (hS.row.lt q hq.symm).1; have := hS.ob.lt; have hb := (unhide HGB); omega
      have HR2 : Hid (TxsV ((wr.setCell ⟨w.heap.size, 0, none⟩ (.slice uq un uc)).setCell ⟨w.heap.size, 1, none⟩ (.int .i64 (clF P : Nat))) w.heap.size (.slice uq un uc) (jnF o a b P)) := hide (owns_mono (owns_away (owns_away (unhide HR) hq0) hq0) hw1)
      have HB2 := hide (((unhide HBW).setCell (p := ⟨w.heap.size, 0, none⟩) (Nat.le_refl _) (.slice uq un uc)).setCell (p := ⟨w.heap.size, 1, none⟩) (Nat.le_refl _) (.int .i64 (clF P : Nat)))
      have K2 := hide (((unhide KR).set 0 (by simp) (.slice uq un uc)).set 1 (by simp) (.int .i64 (clF P : Nat)))
      have y0 := (unhide K2).cell 0
      have y1 := (unhide K2).cell 1
      clear hS HS hgq
      go_wp2
      refine bodyPost_ret (v := .agg #[.slice uq un uc, .int .i64 (clF P : Nat)]) (by simp [results, Try.results10, go_sem, y0, y1]) rfl ?_
      exact ⟨_, rfl, unhide HR2, unhide HB2⟩
end Go.Proofs.Ytbaoomkdlbjhlaa
