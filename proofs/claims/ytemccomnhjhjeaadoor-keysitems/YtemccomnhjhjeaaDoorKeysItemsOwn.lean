/-
  For all nodes the law KeysItems answers true: an item of each node tells its number, its parent's, its place, how deep it lies and its size as the document says; three tables of the library start as the program's text lays them (the card ties them); and each argument reads as it did.
-/
import Derived.Test.YtemccomnhjhjeaaDoorMgBE
import Derived.Test.YtemccomnhjhjeaaDoorKTh
import Derived.Test.YtemccomnhjhjeaaDoorRWy
import Derived.Deep.RegionHeld
import Derived.Test.YtemccomnhjhjeaaDoorOFo
import Derived.Test.YtemccomnhjhjeaaDoorMgAE
import Derived.Test.YtemccomnhjhjeaaDoorCards
import Derived.Test.YtemccomnhjhjeaaDoorTie
import Derived.ProofKit
import Derived.OpenShut
import Derived.ShutString
import Derived.ChangeOld
import Derived.Below
import Derived.Deep.DeepHandedRow
import Derived.Lib.LaidTab

/-
  The law KeysItems.
-/
namespace Go.Proofs.YtemccomnhjhjeaaDoor
open Go.RowKit Go.Maps
set_option linter.unusedVariables false
set_option linter.unusedSimpArgs false

theorem ints_init {q : Option Addr} {n : Nat} {zs : List Int} {w : World} (h : IntsV q (n + 1) zs w) : IntsV q n zs.dropLast w := by
  obtain ⟨h1, h2⟩ := h
  refine ⟨by rw [List.length_dropLast]; omega, fun h0 => ?_⟩
  obtain ⟨g, o, hq, hc⟩ := h2 (by omega)
  refine ⟨g, o, hq, fun j hj => ?_⟩
  rw [hc j (by omega)]
  have h3 : j < zs.dropLast.length := by rw [List.length_dropLast]; omega
  have h4 : j < zs.length := by omega
  simp [List.getD, h4, List.getElem?_dropLast, show j < zs.length - 1 by omega]
theorem numF_le : ∀ (zs : List Int) (f : Forest), numF f zs ≤ f.count * (zs.length + 1) + zs.length
  | [], f => by unfold numF; omega
  | p :: r, f => by
    have h1 := numF_le r (kidsAt f p.toNat)
    have h2 := kidsAt_count f p.toNat
    have h3 : (kidsAt f p.toNat).count * (r.length + 1) ≤ f.count * (r.length + 1) := Nat.mul_le_mul_right _ h2
    unfold numF
    simp only [List.length_cons]
    have h4 : f.count * (r.length + 1 + 1) = f.count * (r.length + 1) + f.count := by rw [Nat.mul_add, Nat.mul_one]
    split <;> omega
theorem wayok_init : ∀ (zs : List Int) (f : Forest), WayOk f zs → WayOk f zs.dropLast
  | [], f, h => trivial
  | [a], f, h => trivial
  | a :: b :: r, f, h => ⟨h.1, h.2.1, wayok_init (b :: r) _ h.2.2⟩
/-- What the loop has at an item. -/
structure ItAtK (f : Forest) (N k : Nat) (x : It) (W : List Int) (m : Nat) (kids : Forest) : Prop where
  way : wayF f 0 (k : Int) = W
  len : W.length = m + 1
  lm : m < N
  e0 : atE f W = 0
  nd : ∃ k' sp n ats tx rest, atN f W = .cons k' sp n ats tx kids rest
  sz : szA f k = 1 + (kids.count : Int)
  x1 : x.1 = (k : Int)
  x3 : x.2.2.1 = W.getD m 0
  x4 : x.2.2.2 = (m : Int)
  p0 : m = 0 → x.2.1 = -1
  p1 : m ≠ 0 → x.2.1 = ((numF f W.dropLast : Nat) : Int)
  ok : WayOk f W
theorem itat (f : Forest) (k : Nat) (x : It) (h : (itm f 0 (-1) 0 0)[k]? = some x) : ∃ W m kids, ItAtK f f.count k x W m kids := by
  obtain ⟨i, R, hw⟩ := itway f 0 (-1) 0 0 k x h
  obtain ⟨k', sp, n, ats, tx, kids, rest, e, es⟩ := hw.nd
  have hk : k < f.count := by have := (List.getElem?_eq_some_iff.1 h).1; rw [itm_len] at this; exact this
  have hway := hw.way
  rw [Nat.zero_add] at hway
  have hx3 := hw.x3
  have hl := wayF_len f 0 (k : Int)
  rw [hway, List.length_cons] at hl
  refine ⟨(i : Int) :: R, R.length, kids, ⟨hway, rfl, by omega, hw.e0, ⟨k', sp, n, ats, tx, rest, e⟩, es, by rw [hw.x1, Nat.zero_add], ?_, by rw [hw.x4, Nat.zero_add], fun h0 => hw.p0 (List.eq_nil_of_length_eq_zero h0), fun h0 => ?_, hw.ok⟩⟩
  · have key : ∀ (a : Int) (h : a :: R ≠ []), (a :: R).getLast h = (a :: R).getD R.length 0 := fun a h => by
      rw [List.getLast_eq_getElem]; simp [List.getD]
    rw [hx3, key]
    rw [Nat.zero_add]
  · rw [hw.p1 (fun e => h0 (by rw [e]; rfl)), Nat.zero_add]
def KeepLi (b : Nat) (k x2 z m sz : Int) (gb g4 o4 : Nat) (qk : Option Addr) (lk ck : Nat) (W : World) : Prop :=
  W.cell? ⟨b, 0, none⟩ = some (.int .i64 k) ∧ W.cell? ⟨b, 1, none⟩ = some (.int .i64 x2) ∧ W.cell? ⟨b, 2, none⟩ = some (.int .i64 z) ∧ W.cell? ⟨b, 3, none⟩ = some (.int .i64 m) ∧ W.cell? ⟨b, 4, none⟩ = some (.int .i64 sz) ∧ W.cell? ⟨gb, 6, none⟩ = some (.slice qk lk ck) ∧ W.cell? ⟨g4, o4, none⟩ = some (.int .i64 z)
theorem KeepLi.later {b : Nat} {k x2 z m sz : Int} {gb g4 o4 : Nat} {qk : Option Addr} {lk ck : Nat} {W W' : World} (h : KeepLi b k x2 z m sz gb g4 o4 qk lk ck W) (hb : Below W.heap.size W W') : KeepLi b k x2 z m sz gb g4 o4 qk lk ck W' :=
  ⟨cell_later hb h.1, cell_later hb h.2.1, cell_later hb h.2.2.1, cell_later hb h.2.2.2.1, cell_later hb h.2.2.2.2.1, cell_later hb h.2.2.2.2.2.1, cell_later hb h.2.2.2.2.2.2⟩
set_option maxHeartbeats 8000000 in
set_option maxRecDepth 100000 in
theorem kitems_walk (f : Forest) (q : Option Addr) (cap : Nat) (w : World) (hf : Fo q f w) (hcap : f.len ≤ cap) :
    Calls Tryd.prog 3 #[.slice q f.len cap] w fun e w' => e = .returned (.bool true) ∧ Below w.heap.size w w' := by
  have CL := hide (large19_any f q cap w hf)
  obtain ⟨lb, lN, hlg⟩ : ∃ lb lN, lgT 1 f 400 = (lb, lN) := ⟨_, _, rfl⟩
  rw [hlg] at CL
  dsimp only at CL
  cases lb with
  | true =>
    clear hf hlg hcap
    generalize f.len = fl at *
    go_enter Tryd.func3, Tryd.ntmps3
    go_wp2_with fail
    refine (unhide CL).mono ?_
    rintro e w1 ⟨rfl, hb1⟩
    have HB := hide hb1
    have C3 := hide (three_any w1)
    clear CL hb1
    go_wp2_with fail
    refine (unhide C3).mono ?_
    rintro e w2 ⟨rfl, hb2⟩
    have HB2 := hide (tr2 (unhide HB) hb2)
    clear C3 hb2
    go_wp2
    go_ret
    exact ⟨rfl, unhide HB2⟩
  | false =>
    obtain ⟨hs, hn⟩ := lgT_small (by omega) hlg
    have hr := lgT_room 1 f 400 lN hlg
    have hc : f.count ≤ 400 := by omega
    have hfl := f.len_count
    have HF := hide hf
    have HS := hide hs
    have C1 := hide (fun (W : World) (hW : Below w.heap.size w W) => items_any f q cap W (hf.below hW) hcap (by omega))
    have C2 := hide (fun (W : World) (hW : Below w.heap.size w W) => rcount_any f.count f (Nat.le_refl _) (by omega) q cap W (hf.below hW))
    have C3 := hide (fun (W : World) (hW : Below w.heap.size w W) (num : Int) (h0 : 0 ≤ num) (h1 : num ≤ 1000000) => rway_any f.count f (Nat.le_refl _) (by omega) q cap num W h0 h1 (hf.below hW))
    have C4 := hide (fun (zs : List Int) (qw : Option Addr) (n cw : Nat) (W : World) (hW : Below w.heap.size w W) (h1 : IntsV qw n zs W) (h2 : n ≤ cw) (h3 : n ≤ 1000000) => rnod_any zs f q cap qw n cw w W hf hW (by omega) (by omega) h1 h2 h3)
    have C5 := hide (fun (zs : List Int) (qw : Option Addr) (n cw : Nat) (W : World) (hW : Below w.heap.size w W) h0 ho (h1 : IntsV qw n zs W) (h2 : n ≤ cw) (h3 : n ≤ 1000000) h4 => rnum_any zs f q cap qw n cw W h0 ho (hf.below hW) hcap (by omega) h1 h2 h3 h4)
    obtain ⟨N, hN⟩ : ∃ N, f.count = N := ⟨_, rfl⟩
    rw [hN] at C1 C2 hc
    have HN := hide hN
    generalize f.len = fl at *
    clear hf hlg hcap hs hn hr hfl hN
    have hNi : (N : Int) ≤ 400 := by omega
    go_enter Tryd.func3, Tryd.ntmps3
    go_wp2_with fail
    refine (unhide CL).mono ?_
    rintro e w1 ⟨rfl, hb1⟩
    have C1' := hide (unhide C1 w1 hb1)
    have HB1 := hide hb1
    clear CL C1 hb1
    go_wp2_with fail
    refine (unhide C1').mono ?_
    rintro e w2 ⟨qi, ci, rfl, his, hb2⟩
    have HIS := hide his
    have HB2 := hide (tr2 (unhide HB1) hb2)
    have C2' := hide (unhide C2 w2 (unhide HB2))
    have hci := his.2.1
    clear C1' hb2 his
    go_wp2_with fail
    refine (unhide C2').mono ?_
    rintro e w3 ⟨rfl, hb3⟩
    have HB3 := hide hb3
    clear C2' hb3
    go_wp2
    go_loopw [21] (fun z wr => ∃ k : Nat, k ≤ N ∧ z = .int .i64 (k : Int) ∧ Below w2.heap.size w2 wr) (fun z _ => N - (intOf z).toNat)
    case atStart => exact ⟨0, Nat.zero_le _, rfl, unhide HB3⟩
    case round =>
      clear HB3
      obtain ⟨k, hk, rfl, hbw⟩ := hrel
      by_cases hp : k < N
      · skip
        have hkl : k < (itm f 0 (-1) 0 0).length := by rw [itm_len, unhide HN]; exact hp
        have hx : (itm f 0 (-1) 0 0)[k]? = some (itm f 0 (-1) 0 0)[k] := List.getElem?_eq_getElem hkl
        obtain ⟨x, hxe⟩ : ∃ x, (itm f 0 (-1) 0 0)[k] = x := ⟨_, rfl⟩
        rw [hxe] at hx
        obtain ⟨gi, hqi, hz⟩ : ∃ g, qi = some ⟨g, 0, none⟩ ∧ ItZ (itm f 0 (-1) 0 0) (szA f) g w2 := by
          rcases (unhide HIS).2.2 with h | h
          · have := unhide HN; rw [h] at this; simp [Forest.count] at this; omega
          · exact h
        subst hqi
        obtain ⟨u0, u1, u2, u3, u4⟩ := hz.2 k x hx
        have y0 := cell_later hbw u0
        have y1 := cell_later hbw u1
        have y2 := cell_later hbw u2
        have y3 := cell_later hbw u3
        have y4 := cell_later hbw u4
        clear u0 u1 u2 u3 u4
        obtain ⟨W, m, kids, hK⟩ := itat f k x hx
        rw [unhide HN] at hK
        rw [hK.x1] at y0
        rw [hK.x3] at y2
        rw [hK.x4] at y3
        rw [hK.sz] at y4
        obtain ⟨x1, x2, x3, x4⟩ := x
        dsimp only at y1
        have hx20 : m = 0 → x2 = -1 := hK.p0
        have hx21 : m ≠ 0 → x2 = ((numF f W.dropLast : Nat) : Int) := hK.p1
        have HK := hide (And.intro hK.way (And.intro hK.len (And.intro hK.e0 (And.intro hK.nd hK.ok))))
        have hmN : m < N := hK.lm
        have hpi : (k : Int) < (N : Int) := by omega
        have hk0 : (0 : Int) ≤ (k : Int) := by omega
        obtain ⟨z, hzd⟩ : ∃ z, W.getD m 0 = z := ⟨_, rfl⟩
        rw [hzd] at y2
        have HZD := hide hzd
        obtain ⟨kc, hkc⟩ : ∃ kc, kids.count = kc := ⟨_, rfl⟩
        rw [hkc] at y4
        obtain ⟨V1, hV1⟩ : ∃ V1, wr.alloc (Obj.cells #[.int .i64 (k : Int), .int .i64 x2, .int .i64 z, .int .i64 (m : Int), .int .i64 (1 + (kc : Int))] 29) = V1 := ⟨_, rfl⟩
        have hbV1 : Below wr.heap.size wr V1 := by rw [← hV1]; exact (Below.refl _ _).alloc (Nat.le_refl _) _
        have hkV1 : Blk V1 wr.heap.size #[.int .i64 (k : Int), .int .i64 x2, .int .i64 z, .int .i64 (m : Int), .int .i64 (1 + (kc : Int))] 29 := by rw [← hV1]; exact Blk.new wr _ _
        have hbw0 : Below w.heap.size w wr := tr2 (unhide HB2) hbw
        have hbv0 : Below w.heap.size w V1 := tr2 hbw0 hbV1
        have C3' := hide (unhide C3 V1 hbv0 (k : Int) (by omega) (by omega))
        rw [hK.way] at C3'
        have HBW := hide hbw
        have HBV := hide hbv0
        have HKV := hide hkV1
        clear hz hx hxe hkl hK hbV1 hkV1 hbw0 hbv0 hbw hzd
        go_wp2_with fail
        refine (unhide C3').mono ?_
        rintro e w4 ⟨q4, n4, c4, rfl, hnc4, hi4, hb4⟩
        have hn4 : n4 = m + 1 := by rw [hi4.1]; exact (unhide HK).2.1
        subst hn4
        have hk4 := (unhide HKV).later hb4
        have hbw4 : Below w.heap.size w w4 := tr2 (unhide HBV) hb4
        have C4' := hide (unhide C4 W q4 (m + 1) c4 w4 hbw4 hi4 hnc4 (by omega))
        have HI4 := hide hi4
        have HBW4 := hide hbw4
        have HK4 := hide hk4
        have hb4' : Below wr.heap.size wr w4 := by rw [← hV1] at hb4; exact ((Below.refl wr.heap.size wr).alloc (Nat.le_refl _) _).trans (hb4.mono (by simp))
        have HBR4 := hide hb4'
        have hm1 : ((m : Int) + 1 == 0) = false := beq_eq_false_iff_ne.2 (by omega)
        have hm2 : ¬ ((m : Int) + 1 = 0) := by omega
        clear C3' hi4 hb4 hk4 hbw4 hb4' y0 y1 y2 y3 y4 hV1
        go_wp2_with fail
        refine (unhide C4').mono ?_
        rintro e w5 ⟨k2, sp2, nm2, tx2, qa2, qk2, la2, ca2, lk2, ck2, rfl, hv5, hb5⟩
        rw [(unhide HK).2.2.1]
        have hkk : kids.len = lk2 ∧ Fo qk2 kids w := by
          rcases hv5 with ⟨h, _⟩ | ⟨_, k', sp', n', ats', tx', kids', rest', hat, qa3, ca3, qk3, ck3, hve, _, hfk, _⟩
          · exact absurd (unhide HK).2.2.1 h
          · obtain ⟨k6, sp6, n6, ats6, tx6, rest6, hnd⟩ := (unhide HK).2.2.2.1
            rw [hat] at hnd
            injection hnd with _ _ _ _ _ e6 _
            subst e6
            unfold ndV at hve
            simp only [Value.agg.injEq, Array.mk.injEq, List.cons.injEq, Value.int.injEq, Value.slice.injEq] at hve
            obtain ⟨_, _, _, _, _, ⟨hq, hl, _⟩, _⟩ := hve
            exact ⟨hl.symm, by rw [hq]; exact hfk⟩
        have hkcN : kc ≤ 400 := by
          rw [← hkc]
          obtain ⟨k6, sp6, n6, ats6, tx6, rest6, hnd⟩ := (unhide HK).2.2.2.1
          have h1 := (atN_small W f (unhide HS)).2
          rw [hnd, unhide HN] at h1
          simp only [Forest.count] at h1
          omega
        have CK := hide (fun (X : World) (hX : Below w.heap.size w X) => rcount_any kids.count kids (Nat.le_refl _) (by omega) qk2 ck2 X (hkk.2.below hX))
        rw [hkk.1, hkc] at CK
        have HLK := hide hkk
        obtain ⟨V6, hV6⟩ : ∃ V6, w5.alloc (Obj.cells #[.slice none 0 0, .int .i64 k2, .int .i64 sp2, .string nm2, .slice qa2 la2 ca2, .string tx2, .slice qk2 lk2 ck2, .int .i64 0] 36) = V6 := ⟨_, rfl⟩
        have hbV6 : Below w5.heap.size w5 V6 := by rw [← hV6]; exact (Below.refl _ _).alloc (Nat.le_refl _) _
        have hkG6 : Blk V6 w5.heap.size #[.slice none 0 0, .int .i64 k2, .int .i64 sp2, .string nm2, .slice qa2 la2 ca2, .string tx2, .slice qk2 lk2 ck2, .int .i64 0] 36 := by rw [← hV6]; exact Blk.new w5 _ _
        have hb46 : Below w4.heap.size w4 V6 := tr2 hb5 hbV6
        have HKG6 := hide hkG6
        have HKI6 := hide ((unhide HK4).later hb46)
        have HI6 := hide ((unhide HI4).below hb46)
        have HB6 := hide (tr2 (unhide HBW4) hb46)
        have HBR6 := hide (tr2 (unhide HBR4) hb46)
        clear C4' hv5 hb5 hkk hbV6 hkG6 hb46 hkc HK4 HI4 HBW4 HBR4
        subst hV6
        by_cases hm0 : m = 0
        · have hx2 := hx20 hm0
          subst hx2
          have hml : ¬ (1 : Int) < (m : Int) + 1 := by omega
          have hm00 : decide (0 < m) = false := decide_eq_false (by omega)
          clear hx20 hx21 hm1 hm2 hm0
          have hkI := unhide HKI6
          have hkG := unhide HKG6
          obtain ⟨g4, o4, hq4, hcl⟩ := (unhide HI6).2 (by omega)
          subst hq4
          have hwm : IntKind.i64.wrap (m : Int) = (m : Int) := by rw [IntKind.wrap_i64]; omega
          have hwk : IntKind.i64.wrap (1 + (kc : Int)) = 1 + (kc : Int) := by rw [IntKind.wrap_i64]; omega
          have hmm : (m : Int) < (m : Int) + 1 := by omega
          have hm0' : (0 : Int) ≤ (m : Int) := by omega
          have hs7 : (w5.alloc (Obj.cells #[.slice none 0 0, .int .i64 k2, .int .i64 sp2, .string nm2, .slice qa2 la2 ca2, .string tx2, .slice qk2 lk2 ck2, .int .i64 0] 36)).cell? ⟨g4, o4 + m, none⟩ = some (.int .i64 z) := by have := hcl m (by omega); rw [unhide HZD] at this; exact this
          have hSB : Hid (KeepLi wr.heap.size (k : Int) (-1) z (m : Int) (1 + (kc : Int)) w5.heap.size g4 (o4 + m) qk2 lk2 ck2 (w5.alloc (Obj.cells #[.slice none 0 0, .int .i64 k2, .int .i64 sp2, .string nm2, .slice qa2 la2 ca2, .string tx2, .slice qk2 lk2 ck2, .int .i64 0] 36))) := hide ⟨hkI.cell 0, hkI.cell 1, hkI.cell 2, hkI.cell 3, hkI.cell 4, hkG.cell 6, hs7⟩
          clear hkI hkG hs7 hcl hkcN
          go_wp2
          have hSa : KeepLi wr.heap.size (k : Int) (-1) z (m : Int) (1 + (kc : Int)) w5.heap.size g4 (o4 + m) qk2 lk2 ck2 (w5.alloc (Obj.cells #[.slice none 0 0, .int .i64 k2, .int .i64 sp2, .string nm2, .slice qa2 la2 ca2, .string tx2, .slice qk2 lk2 ck2, .int .i64 0] 36)).drew := unhide hSB
          refine wp_region_held (S := KeepLi wr.heap.size (k : Int) (-1) z (m : Int) (1 + (kc : Int)) w5.heap.size g4 (o4 + m) qk2 lk2 ck2) (by kernel_rfl) ?_
          change wpAnyH _ _ _ _ _ _ _ _ (World.drew _)
          refine wpAnyH_take (i := 0) (oi := { dst := some 45, op := _, type := _, pos := _, after := _, guard := _ }) (v := ?va0) rfl (by kernel_rfl) (by kernel_rfl) (by kernel_rfl) (fun _ _ _ h => h) (Or.inl ⟨by kernel_rfl, ?ha0⟩) hSa ?ra0
          case ha0 => first | (intro w hSw; obtain ⟨s0, s1, s2, s3, s4, s6, s7⟩ := hSw; go_simp; done) | (intro w hSw; obtain ⟨s0, s1, s2, s3, s4, s6, s7⟩ := hSw; go_simp; with_reducible rfl)
          try simp only [Act.put, List.setIfInBounds_toArray, List.set_cons_zero, List.set_cons_succ]
          refine wpAnyH_take (i := 1) (oi := { dst := some 46, op := _, type := _, pos := _, after := _, guard := _ }) (v := ?va1) rfl (by kernel_rfl) (by kernel_rfl) (by kernel_rfl) (fun _ _ _ h => h) (Or.inl ⟨by kernel_rfl, ?ha1⟩) hSa ?ra1
          case ha1 => first | (intro w hSw; obtain ⟨s0, s1, s2, s3, s4, s6, s7⟩ := hSw; go_simp; done) | (intro w hSw; obtain ⟨s0, s1, s2, s3, s4, s6, s7⟩ := hSw; go_simp; with_reducible rfl)
          try simp only [Act.put, List.setIfInBounds_toArray, List.set_cons_zero, List.set_cons_succ]
          refine wpAnyH_take (i := 2) (oi := { dst := some 47, op := _, type := _, pos := _, after := _, guard := _ }) (v := ?va2) rfl (by kernel_rfl) (by kernel_rfl) (by kernel_rfl) (fun _ _ _ h => h) (Or.inl ⟨by kernel_rfl, ?ha2⟩) hSa ?ra2
          case ha2 => first | (intro w hSw; obtain ⟨s0, s1, s2, s3, s4, s6, s7⟩ := hSw; go_simp; done) | (intro w hSw; obtain ⟨s0, s1, s2, s3, s4, s6, s7⟩ := hSw; go_simp; with_reducible rfl)
          try simp only [Act.put, List.setIfInBounds_toArray, List.set_cons_zero, List.set_cons_succ]
          refine wpAnyH_take (i := 3) (oi := { dst := some 48, op := _, type := _, pos := _, after := _, guard := _ }) (v := ?va3) rfl (by kernel_rfl) (by kernel_rfl) (by kernel_rfl) (fun _ _ _ h => h) (Or.inl ⟨by kernel_rfl, ?ha3⟩) hSa ?ra3
          case ha3 => first | (intro w hSw; obtain ⟨s0, s1, s2, s3, s4, s6, s7⟩ := hSw; go_simp; done) | (intro w hSw; obtain ⟨s0, s1, s2, s3, s4, s6, s7⟩ := hSw; go_simp; with_reducible rfl)
          try simp only [Act.put, List.setIfInBounds_toArray, List.set_cons_zero, List.set_cons_succ]
          refine wpAnyH_take (i := 4) (oi := { dst := some 49, op := _, type := _, pos := _, after := _, guard := _ }) (v := ?va4) rfl (by kernel_rfl) (by kernel_rfl) (by kernel_rfl) (fun _ _ _ h => h) (Or.inl ⟨by kernel_rfl, ?ha4⟩) hSa ?ra4
          case ha4 => first | (intro w hSw; obtain ⟨s0, s1, s2, s3, s4, s6, s7⟩ := hSw; go_simp; done) | (intro w hSw; obtain ⟨s0, s1, s2, s3, s4, s6, s7⟩ := hSw; go_simp; with_reducible rfl)
          try simp only [Act.put, List.setIfInBounds_toArray, List.set_cons_zero, List.set_cons_succ]
          refine wpAnyH_take (i := 5) (oi := { dst := some 50, op := _, type := _, pos := _, after := _, guard := _ }) (v := ?va5) rfl (by kernel_rfl) (by kernel_rfl) (by kernel_rfl) (fun _ _ _ h => h) (Or.inl ⟨by kernel_rfl, ?ha5⟩) hSa ?ra5
          case ha5 => first | (intro w hSw; obtain ⟨s0, s1, s2, s3, s4, s6, s7⟩ := hSw; go_simp; done) | (intro w hSw; obtain ⟨s0, s1, s2, s3, s4, s6, s7⟩ := hSw; go_simp; with_reducible rfl)
          try simp only [Act.put, List.setIfInBounds_toArray, List.set_cons_zero, List.set_cons_succ]
          refine wpAnyH_take (i := 6) (oi := { dst := some 51, op := _, type := _, pos := _, after := _, guard := _ }) (v := ?va6) rfl (by kernel_rfl) (by kernel_rfl) (by kernel_rfl) (fun _ _ _ h => h) (Or.inl ⟨by kernel_rfl, ?ha6⟩) hSa ?ra6
          case ha6 => first | (intro w hSw; obtain ⟨s0, s1, s2, s3, s4, s6, s7⟩ := hSw; go_simp; done) | (intro w hSw; obtain ⟨s0, s1, s2, s3, s4, s6, s7⟩ := hSw; go_simp; with_reducible rfl)
          try simp only [Act.put, List.setIfInBounds_toArray, List.set_cons_zero, List.set_cons_succ]
          refine wpAnyH_take (i := 7) (oi := { dst := some 52, op := _, type := _, pos := _, after := _, guard := _ }) (v := ?va7) rfl (by kernel_rfl) (by kernel_rfl) (by kernel_rfl) (fun _ _ _ h => h) (Or.inl ⟨by kernel_rfl, ?ha7⟩) hSa ?ra7
          case ha7 => first | (intro w hSw; obtain ⟨s0, s1, s2, s3, s4, s6, s7⟩ := hSw; go_simp; done) | (intro w hSw; obtain ⟨s0, s1, s2, s3, s4, s6, s7⟩ := hSw; go_simp; with_reducible rfl)
          try simp only [Act.put, List.setIfInBounds_toArray, List.set_cons_zero, List.set_cons_succ]
          refine wpAnyH_take (i := 8) (oi := { dst := some 53, op := _, type := _, pos := _, after := _, guard := _ }) (v := ?va8) rfl (by kernel_rfl) (by kernel_rfl) (by kernel_rfl) (fun _ _ _ h => h) (Or.inl ⟨by kernel_rfl, ?ha8⟩) hSa ?ra8
          case ha8 => first | (intro w hSw; obtain ⟨s0, s1, s2, s3, s4, s6, s7⟩ := hSw; go_simp; done) | (intro w hSw; obtain ⟨s0, s1, s2, s3, s4, s6, s7⟩ := hSw; go_simp; with_reducible rfl)
          try simp only [Act.put, List.setIfInBounds_toArray, List.set_cons_zero, List.set_cons_succ]
          refine wpAnyH_take (i := 9) (oi := { dst := some 54, op := _, type := _, pos := _, after := _, guard := _ }) (v := ?va9) rfl (by kernel_rfl) (by kernel_rfl) (by kernel_rfl) (fun _ _ _ h => h) (Or.inl ⟨by kernel_rfl, ?ha9⟩) hSa ?ra9
          case ha9 => first | (intro w hSw; obtain ⟨s0, s1, s2, s3, s4, s6, s7⟩ := hSw; go_simp; done) | (intro w hSw; obtain ⟨s0, s1, s2, s3, s4, s6, s7⟩ := hSw; go_simp; with_reducible rfl)
          try simp only [Act.put, List.setIfInBounds_toArray, List.set_cons_zero, List.set_cons_succ]
          refine wpAnyH_take (i := 10) (oi := { dst := some 55, op := _, type := _, pos := _, after := _, guard := _ }) (v := ?va10) rfl (by kernel_rfl) (by kernel_rfl) (by kernel_rfl) (fun _ _ _ h => h) (Or.inl ⟨by kernel_rfl, ?ha10⟩) hSa ?ra10
          case ha10 => first | (intro w hSw; obtain ⟨s0, s1, s2, s3, s4, s6, s7⟩ := hSw; go_simp; done) | (intro w hSw; obtain ⟨s0, s1, s2, s3, s4, s6, s7⟩ := hSw; go_simp; with_reducible rfl)
          try simp only [Act.put, List.setIfInBounds_toArray, List.set_cons_zero, List.set_cons_succ]
          refine wpAnyH_take (i := 11) (oi := { dst := some 56, op := _, type := _, pos := _, after := _, guard := _ }) (v := ?va11) rfl (by kernel_rfl) (by kernel_rfl) (by kernel_rfl) (fun _ _ _ h => h) (Or.inl ⟨by kernel_rfl, ?ha11⟩) hSa ?ra11
          case ha11 => first | (intro w hSw; obtain ⟨s0, s1, s2, s3, s4, s6, s7⟩ := hSw; go_simp; done) | (intro w hSw; obtain ⟨s0, s1, s2, s3, s4, s6, s7⟩ := hSw; go_simp; with_reducible rfl)
          try simp only [Act.put, List.setIfInBounds_toArray, List.set_cons_zero, List.set_cons_succ]
          refine wpAnyH_take (i := 12) (oi := { dst := some 57, op := _, type := _, pos := _, after := _, guard := _ }) (v := ?va12) rfl (by kernel_rfl) (by kernel_rfl) (by kernel_rfl) (fun _ _ _ h => h) (Or.inl ⟨by kernel_rfl, ?ha12⟩) hSa ?ra12
          case ha12 => first | (intro w hSw; obtain ⟨s0, s1, s2, s3, s4, s6, s7⟩ := hSw; go_simp; done) | (intro w hSw; obtain ⟨s0, s1, s2, s3, s4, s6, s7⟩ := hSw; go_simp; with_reducible rfl)
          try simp only [Act.put, List.setIfInBounds_toArray, List.set_cons_zero, List.set_cons_succ]
          refine wpAnyH_take (i := 13) (oi := { dst := some 58, op := _, type := _, pos := _, after := _, guard := _ }) (v := ?va13) rfl (by kernel_rfl) (by kernel_rfl) (by kernel_rfl) (fun _ _ _ h => h) (Or.inl ⟨by kernel_rfl, ?ha13⟩) hSa ?ra13
          case ha13 => first | (intro w hSw; obtain ⟨s0, s1, s2, s3, s4, s6, s7⟩ := hSw; go_simp; done) | (intro w hSw; obtain ⟨s0, s1, s2, s3, s4, s6, s7⟩ := hSw; go_simp; with_reducible rfl)
          try simp only [Act.put, List.setIfInBounds_toArray, List.set_cons_zero, List.set_cons_succ]
          refine wpAnyH_take (i := 14) (oi := { dst := some 59, op := _, type := _, pos := _, after := _, guard := _ }) (v := ?va14) rfl (by kernel_rfl) (by kernel_rfl) (by kernel_rfl) (fun _ _ _ h => h) (Or.inl ⟨by kernel_rfl, ?ha14⟩) hSa ?ra14
          case ha14 => first | (intro w hSw; obtain ⟨s0, s1, s2, s3, s4, s6, s7⟩ := hSw; go_simp; done) | (intro w hSw; obtain ⟨s0, s1, s2, s3, s4, s6, s7⟩ := hSw; go_simp; with_reducible rfl)
          try simp only [Act.put, List.setIfInBounds_toArray, List.set_cons_zero, List.set_cons_succ]
          refine wpAnyH_take (i := 15) (oi := { dst := some 60, op := _, type := _, pos := _, after := _, guard := _ }) (v := ?va15) rfl (by kernel_rfl) (by kernel_rfl) (by kernel_rfl) (fun _ _ _ h => h) (Or.inl ⟨by kernel_rfl, ?ha15⟩) hSa ?ra15
          case ha15 => first | (intro w hSw; obtain ⟨s0, s1, s2, s3, s4, s6, s7⟩ := hSw; go_simp; done) | (intro w hSw; obtain ⟨s0, s1, s2, s3, s4, s6, s7⟩ := hSw; go_simp; with_reducible rfl)
          try simp only [Act.put, List.setIfInBounds_toArray, List.set_cons_zero, List.set_cons_succ]
          refine wpAnyH_take (i := 16) (oi := { dst := some 61, op := _, type := _, pos := _, after := _, guard := _ }) (v := ?va16) rfl (by kernel_rfl) (by kernel_rfl) (by kernel_rfl) (fun _ _ _ h => h) (Or.inl ⟨by kernel_rfl, ?ha16⟩) hSa ?ra16
          case ha16 => first | (intro w hSw; obtain ⟨s0, s1, s2, s3, s4, s6, s7⟩ := hSw; go_simp; done) | (intro w hSw; obtain ⟨s0, s1, s2, s3, s4, s6, s7⟩ := hSw; go_simp; with_reducible rfl)
          try simp only [Act.put, List.setIfInBounds_toArray, List.set_cons_zero, List.set_cons_succ]
          refine wpAnyH_take (i := 17) (oi := { dst := some 62, op := _, type := _, pos := _, after := _, guard := _ }) (v := ?va17) rfl (by kernel_rfl) (by kernel_rfl) (by kernel_rfl) (fun _ _ _ h => h) (Or.inl ⟨by kernel_rfl, ?ha17⟩) hSa ?ra17
          case ha17 => first | (intro w hSw; obtain ⟨s0, s1, s2, s3, s4, s6, s7⟩ := hSw; go_simp; done) | (intro w hSw; obtain ⟨s0, s1, s2, s3, s4, s6, s7⟩ := hSw; go_simp; with_reducible rfl)
          try simp only [Act.put, List.setIfInBounds_toArray, List.set_cons_zero, List.set_cons_succ]
          refine wpAnyH_take (i := 18) (oi := { dst := some 63, op := _, type := _, pos := _, after := _, guard := _ }) (v := ?va18) rfl (by kernel_rfl) (by kernel_rfl) (by kernel_rfl) (fun _ _ _ h => h) (Or.inl ⟨by kernel_rfl, ?ha18⟩) hSa ?ra18
          case ha18 => first | (intro w hSw; obtain ⟨s0, s1, s2, s3, s4, s6, s7⟩ := hSw; go_simp; done) | (intro w hSw; obtain ⟨s0, s1, s2, s3, s4, s6, s7⟩ := hSw; go_simp; with_reducible rfl)
          try simp only [Act.put, List.setIfInBounds_toArray, List.set_cons_zero, List.set_cons_succ]
          refine wpAnyH_take (i := 19) (oi := { dst := some 64, op := _, type := _, pos := _, after := _, guard := _ }) (v := ?va19) rfl (by kernel_rfl) (by kernel_rfl) (by kernel_rfl) (fun _ _ _ h => h) (Or.inl ⟨by kernel_rfl, ?ha19⟩) hSa ?ra19
          case ha19 => first | (intro w hSw; obtain ⟨s0, s1, s2, s3, s4, s6, s7⟩ := hSw; go_simp; done) | (intro w hSw; obtain ⟨s0, s1, s2, s3, s4, s6, s7⟩ := hSw; go_simp; with_reducible rfl)
          try simp only [Act.put, List.setIfInBounds_toArray, List.set_cons_zero, List.set_cons_succ]
          refine wpAnyH_take (i := 20) (oi := { dst := some 65, op := _, type := _, pos := _, after := _, guard := _ }) (v := ?va20) rfl (by kernel_rfl) (by kernel_rfl) (by kernel_rfl) (fun _ _ _ h => h) (Or.inl ⟨by kernel_rfl, ?ha20⟩) hSa ?ra20
          case ha20 => first | (intro w hSw; obtain ⟨s0, s1, s2, s3, s4, s6, s7⟩ := hSw; go_simp; done) | (intro w hSw; obtain ⟨s0, s1, s2, s3, s4, s6, s7⟩ := hSw; go_simp; with_reducible rfl)
          try simp only [Act.put, List.setIfInBounds_toArray, List.set_cons_zero, List.set_cons_succ]
          refine wpAnyH_take (i := 21) (oi := { dst := some 66, op := _, type := _, pos := _, after := _, guard := _ }) (v := ?va21) rfl (by kernel_rfl) (by kernel_rfl) (by kernel_rfl) (fun _ _ _ h => h) (Or.inl ⟨by kernel_rfl, ?ha21⟩) hSa ?ra21
          case ha21 => first | (intro w hSw; obtain ⟨s0, s1, s2, s3, s4, s6, s7⟩ := hSw; go_simp; done) | (intro w hSw; obtain ⟨s0, s1, s2, s3, s4, s6, s7⟩ := hSw; go_simp; with_reducible rfl)
          try simp only [Act.put, List.setIfInBounds_toArray, List.set_cons_zero, List.set_cons_succ]
          refine wpAnyH_take (i := 22) (oi := { dst := some 67, op := _, type := _, pos := _, after := _, guard := _ }) (v := ?va22) rfl (by kernel_rfl) (by kernel_rfl) (by kernel_rfl) (fun _ _ _ h => h) (Or.inl ⟨by kernel_rfl, ?ha22⟩) hSa ?ra22
          case ha22 => first | (intro w hSw; obtain ⟨s0, s1, s2, s3, s4, s6, s7⟩ := hSw; go_simp; done) | (intro w hSw; obtain ⟨s0, s1, s2, s3, s4, s6, s7⟩ := hSw; go_simp; with_reducible rfl)
          try simp only [Act.put, List.setIfInBounds_toArray, List.set_cons_zero, List.set_cons_succ]
          refine wpAnyH_take (i := 23) (oi := { dst := some 68, op := _, type := _, pos := _, after := _, guard := _ }) (v := ?va23) rfl (by kernel_rfl) (by kernel_rfl) (by kernel_rfl) (fun _ _ _ h => h) (Or.inl ⟨by kernel_rfl, ?ha23⟩) hSa ?ra23
          case ha23 => first | (intro w hSw; obtain ⟨s0, s1, s2, s3, s4, s6, s7⟩ := hSw; go_simp; done) | (intro w hSw; obtain ⟨s0, s1, s2, s3, s4, s6, s7⟩ := hSw; go_simp; with_reducible rfl)
          try simp only [Act.put, List.setIfInBounds_toArray, List.set_cons_zero, List.set_cons_succ]
          refine wpAnyH_take (i := 24) (oi := { dst := some 69, op := _, type := _, pos := _, after := _, guard := _ }) (v := ?va24) rfl (by kernel_rfl) (by kernel_rfl) (by kernel_rfl) (fun _ _ _ h => h) (Or.inl ⟨by kernel_rfl, ?ha24⟩) hSa ?ra24
          case ha24 => first | (intro w hSw; obtain ⟨s0, s1, s2, s3, s4, s6, s7⟩ := hSw; go_simp; done) | (intro w hSw; obtain ⟨s0, s1, s2, s3, s4, s6, s7⟩ := hSw; go_simp; with_reducible rfl)
          try simp only [Act.put, List.setIfInBounds_toArray, List.set_cons_zero, List.set_cons_succ]
          refine wpAnyH_take (i := 25) (oi := { dst := some 70, op := _, type := _, pos := _, after := _, guard := _ }) (v := ?va25) rfl (by kernel_rfl) (by kernel_rfl) (by kernel_rfl) (fun _ _ _ h => h) (Or.inl ⟨by kernel_rfl, ?ha25⟩) hSa ?ra25
          case ha25 => first | (intro w hSw; obtain ⟨s0, s1, s2, s3, s4, s6, s7⟩ := hSw; go_simp; done) | (intro w hSw; obtain ⟨s0, s1, s2, s3, s4, s6, s7⟩ := hSw; go_simp; with_reducible rfl)
          try simp only [Act.put, List.setIfInBounds_toArray, List.set_cons_zero, List.set_cons_succ]
          refine wpAnyH_take (i := 26) (oi := { dst := some 71, op := _, type := _, pos := _, after := _, guard := _ }) (v := ?va26) rfl (by kernel_rfl) (by kernel_rfl) (by kernel_rfl) (fun _ _ _ h => h) (Or.inl ⟨by kernel_rfl, ?ha26⟩) hSa ?ra26
          case ha26 => first | (intro w hSw; obtain ⟨s0, s1, s2, s3, s4, s6, s7⟩ := hSw; go_simp; done) | (intro w hSw; obtain ⟨s0, s1, s2, s3, s4, s6, s7⟩ := hSw; go_simp; with_reducible rfl)
          try simp only [Act.put, List.setIfInBounds_toArray, List.set_cons_zero, List.set_cons_succ]
          refine wpAnyH_take (i := 27) (oi := { dst := some 72, op := _, type := _, pos := _, after := _, guard := _ }) (v := ?va27) rfl (by kernel_rfl) (by kernel_rfl) (by kernel_rfl) (fun _ _ _ h => h) (Or.inl ⟨by kernel_rfl, ?ha27⟩) hSa ?ra27
          case ha27 => first | (intro w hSw; obtain ⟨s0, s1, s2, s3, s4, s6, s7⟩ := hSw; go_simp; done) | (intro w hSw; obtain ⟨s0, s1, s2, s3, s4, s6, s7⟩ := hSw; go_simp; with_reducible rfl)
          try simp only [Act.put, List.setIfInBounds_toArray, List.set_cons_zero, List.set_cons_succ]
          refine wpAnyH_take (i := 28) (oi := { dst := some 73, op := _, type := _, pos := _, after := _, guard := _ }) (v := ?va28) rfl (by kernel_rfl) (by kernel_rfl) (by kernel_rfl) (fun _ _ _ h => h) (Or.inl ⟨by kernel_rfl, ?ha28⟩) hSa ?ra28
          case ha28 => first | (intro w hSw; obtain ⟨s0, s1, s2, s3, s4, s6, s7⟩ := hSw; go_simp; done) | (intro w hSw; obtain ⟨s0, s1, s2, s3, s4, s6, s7⟩ := hSw; go_simp; with_reducible rfl)
          try simp only [Act.put, List.setIfInBounds_toArray, List.set_cons_zero, List.set_cons_succ]
          refine wpAnyH_take (i := 29) (oi := { dst := some 74, op := _, type := _, pos := _, after := _, guard := _ }) (v := ?va29) rfl (by kernel_rfl) (by kernel_rfl) (by kernel_rfl) (fun _ _ _ h => h) (Or.inl ⟨by kernel_rfl, ?ha29⟩) hSa ?ra29
          case ha29 => first | (intro w hSw; obtain ⟨s0, s1, s2, s3, s4, s6, s7⟩ := hSw; go_simp; done) | (intro w hSw; obtain ⟨s0, s1, s2, s3, s4, s6, s7⟩ := hSw; go_simp; with_reducible rfl)
          try simp only [Act.put, List.setIfInBounds_toArray, List.set_cons_zero, List.set_cons_succ]
          refine wpAnyH_take (i := 30) (oi := { dst := some 75, op := _, type := _, pos := _, after := _, guard := _ }) (v := ?va30) rfl (by kernel_rfl) (by kernel_rfl) (by kernel_rfl) (fun _ _ _ h => h) (Or.inl ⟨by kernel_rfl, ?ha30⟩) hSa ?ra30
          case ha30 => first | (intro w hSw; obtain ⟨s0, s1, s2, s3, s4, s6, s7⟩ := hSw; go_simp; done) | (intro w hSw; obtain ⟨s0, s1, s2, s3, s4, s6, s7⟩ := hSw; go_simp; with_reducible rfl)
          try simp only [Act.put, List.setIfInBounds_toArray, List.set_cons_zero, List.set_cons_succ]
          refine wpAnyH_take (i := 31) (oi := { dst := some 76, op := _, type := _, pos := _, after := _, guard := _ }) (v := ?va31) rfl (by kernel_rfl) (by kernel_rfl) (by kernel_rfl) (fun _ _ _ h => h) (Or.inl ⟨by kernel_rfl, ?ha31⟩) hSa ?ra31
          case ha31 => first | (intro w hSw; obtain ⟨s0, s1, s2, s3, s4, s6, s7⟩ := hSw; go_simp; done) | (intro w hSw; obtain ⟨s0, s1, s2, s3, s4, s6, s7⟩ := hSw; go_simp; with_reducible rfl)
          try simp only [Act.put, List.setIfInBounds_toArray, List.set_cons_zero, List.set_cons_succ]
          refine wpAnyH_take (i := 32) (oi := { dst := some 77, op := _, type := _, pos := _, after := _, guard := _ }) (v := ?va32) rfl (by kernel_rfl) (by kernel_rfl) (by kernel_rfl) (fun _ _ _ h => h) (Or.inl ⟨by kernel_rfl, ?ha32⟩) hSa ?ra32
          case ha32 => first | (intro w hSw; obtain ⟨s0, s1, s2, s3, s4, s6, s7⟩ := hSw; go_simp; done) | (intro w hSw; obtain ⟨s0, s1, s2, s3, s4, s6, s7⟩ := hSw; go_simp; with_reducible rfl)
          try simp only [Act.put, List.setIfInBounds_toArray, List.set_cons_zero, List.set_cons_succ]
          refine wpAnyH_take (i := 33) (oi := { dst := some 78, op := _, type := _, pos := _, after := _, guard := _ }) (v := ?va33) rfl (by kernel_rfl) (by kernel_rfl) (by kernel_rfl) (fun _ _ _ h => h) (Or.inl ⟨by kernel_rfl, ?ha33⟩) hSa ?ra33
          case ha33 => first | (intro w hSw; obtain ⟨s0, s1, s2, s3, s4, s6, s7⟩ := hSw; go_simp; done) | (intro w hSw; obtain ⟨s0, s1, s2, s3, s4, s6, s7⟩ := hSw; go_simp; with_reducible rfl)
          try simp only [Act.put, List.setIfInBounds_toArray, List.set_cons_zero, List.set_cons_succ]
          refine wpAnyH_take (i := 34) (oi := { dst := some 79, op := _, type := _, pos := _, after := _, guard := _ }) (v := ?va34) rfl (by kernel_rfl) (by kernel_rfl) (by kernel_rfl) (fun _ _ _ h => h) (Or.inl ⟨by kernel_rfl, ?ha34⟩) hSa ?ra34
          case ha34 => first | (intro w hSw; obtain ⟨s0, s1, s2, s3, s4, s6, s7⟩ := hSw; go_simp; done) | (intro w hSw; obtain ⟨s0, s1, s2, s3, s4, s6, s7⟩ := hSw; go_simp; with_reducible rfl)
          try simp only [Act.put, List.setIfInBounds_toArray, List.set_cons_zero, List.set_cons_succ]
          refine wpAnyH_ready (rs := [35]) (by kernel_rfl) (by simp) ?_
          refine AllReadyH.cons rfl (fun K hK => ?_) AllReadyH.nil
          go_simp
          refine Calls.mono (unhide CK _ (unhide HB6).drew) ?_
          rintro e w9 ⟨rfl, hb9⟩
          have HB9 := hide (tr2 (below_draws (w5.alloc (Obj.cells #[.slice none 0 0, .int .i64 k2, .int .i64 sp2, .string nm2, .slice qa2 la2 ca2, .string tx2, .slice qk2 lk2 ck2, .int .i64 0] 36)) 1) hb9)
          have hSa' := hSa.later hb9
          clear hb9
          refine hK _ _ hSa' (fun _ => ?_)
          clear hK K hSa
          have hSa := hSa'
          clear hSa'
          refine wpAnyH_take (i := 36) (oi := { dst := some 81, op := _, type := _, pos := _, after := _, guard := _ }) (v := ?va36) rfl (by kernel_rfl) (by kernel_rfl) (by kernel_rfl) (fun _ _ _ h => h) (Or.inl ⟨by kernel_rfl, ?ha36⟩) hSa ?ra36
          case ha36 => first | (intro w hSw; obtain ⟨s0, s1, s2, s3, s4, s6, s7⟩ := hSw; go_simp; done) | (intro w hSw; obtain ⟨s0, s1, s2, s3, s4, s6, s7⟩ := hSw; go_simp; with_reducible rfl)
          try simp only [Act.put, List.setIfInBounds_toArray, List.set_cons_zero, List.set_cons_succ]
          refine wpAnyH_take (i := 37) (oi := { dst := some 82, op := _, type := _, pos := _, after := _, guard := _ }) (v := ?va37) rfl (by kernel_rfl) (by kernel_rfl) (by kernel_rfl) (fun _ _ _ h => h) (Or.inl ⟨by kernel_rfl, ?ha37⟩) hSa ?ra37
          case ha37 => first | (intro w hSw; obtain ⟨s0, s1, s2, s3, s4, s6, s7⟩ := hSw; go_simp; done) | (intro w hSw; obtain ⟨s0, s1, s2, s3, s4, s6, s7⟩ := hSw; go_simp; with_reducible rfl)
          try simp only [Act.put, List.setIfInBounds_toArray, List.set_cons_zero, List.set_cons_succ]
          refine wpAnyH_take (i := 38) (oi := { dst := some 83, op := _, type := _, pos := _, after := _, guard := _ }) (v := ?va38) rfl (by kernel_rfl) (by kernel_rfl) (by kernel_rfl) (fun _ _ _ h => h) (Or.inl ⟨by kernel_rfl, ?ha38⟩) hSa ?ra38
          case ha38 => first | (intro w hSw; obtain ⟨s0, s1, s2, s3, s4, s6, s7⟩ := hSw; go_simp; done) | (intro w hSw; obtain ⟨s0, s1, s2, s3, s4, s6, s7⟩ := hSw; go_simp; with_reducible rfl)
          try simp only [Act.put, List.setIfInBounds_toArray, List.set_cons_zero, List.set_cons_succ]
          refine wpAnyH_done (by kernel_rfl) ?_ _
          clear hSa
          go_wp2
          go_roundw
          case rel => exact ⟨k + 1, by omega, by go_num, tr2 (unhide HBW) (tr2 (unhide HBR6) (unhide HB9))⟩
          case measure => simp [intOf]; omega
        · have hx2 := hx21 hm0
          obtain ⟨nu, hnu⟩ : ∃ nu, numF f W.dropLast = nu := ⟨_, rfl⟩
          rw [hnu] at hx2
          subst hx2
          have hml : (1 : Int) < (m : Int) + 1 := by omega
          have hm00 : decide (0 < m) = true := decide_eq_true (by omega)
          have hm01 : 0 < m := by omega
          have hlenW := (unhide HK).2.1
          have hNl : numF f W.dropLast ≤ 1000000 := by
            have h1 := numF_le W.dropLast f
            rw [unhide HN, List.length_dropLast, hlenW] at h1
            have h2 : N * (m + 1 - 1 + 1) ≤ 400 * 401 := Nat.mul_le_mul hc (by omega)
            omega
          have CN := hide (unhide C5 W.dropLast q4 m c4 (w5.alloc (Obj.cells #[.slice none 0 0, .int .i64 k2, .int .i64 sp2, .string nm2, .slice qa2 la2 ca2, .string tx2, .slice qk2 lk2 ck2, .int .i64 0] 36)) (unhide HB6) (fun e0 => by
            have h := congrArg List.length e0
            rw [List.length_dropLast, hlenW] at h
            simp at h; omega) (wayok_init W f (unhide HK).2.2.2.2) (ints_init (unhide HI6)) (by omega) (by omega) hNl)
          rw [hnu] at CN
          have hnul : nu ≤ 1000000 := by omega
          have hmc : m ≤ c4 := by omega
          have hmci : (m : Int) ≤ (c4 : Int) := by omega
          clear hx20 hx21 hm1 hm2 hm0 hnu hlenW hNl
          have hkI := unhide HKI6
          have hkG := unhide HKG6
          obtain ⟨g4, o4, hq4, hcl⟩ := (unhide HI6).2 (by omega)
          subst hq4
          have hwm : IntKind.i64.wrap (m : Int) = (m : Int) := by rw [IntKind.wrap_i64]; omega
          have hwk : IntKind.i64.wrap (1 + (kc : Int)) = 1 + (kc : Int) := by rw [IntKind.wrap_i64]; omega
          have hmm : (m : Int) < (m : Int) + 1 := by omega
          have hm0' : (0 : Int) ≤ (m : Int) := by omega
          have hs7 : (w5.alloc (Obj.cells #[.slice none 0 0, .int .i64 k2, .int .i64 sp2, .string nm2, .slice qa2 la2 ca2, .string tx2, .slice qk2 lk2 ck2, .int .i64 0] 36)).cell? ⟨g4, o4 + m, none⟩ = some (.int .i64 z) := by have := hcl m (by omega); rw [unhide HZD] at this; exact this
          have hSB : Hid (KeepLi wr.heap.size (k : Int) (nu : Int) z (m : Int) (1 + (kc : Int)) w5.heap.size g4 (o4 + m) qk2 lk2 ck2 (w5.alloc (Obj.cells #[.slice none 0 0, .int .i64 k2, .int .i64 sp2, .string nm2, .slice qa2 la2 ca2, .string tx2, .slice qk2 lk2 ck2, .int .i64 0] 36))) := hide ⟨hkI.cell 0, hkI.cell 1, hkI.cell 2, hkI.cell 3, hkI.cell 4, hkG.cell 6, hs7⟩
          clear hkI hkG hs7 hcl hkcN
          go_wp2_with fail
          refine Calls.mono (unhide CN) ?_
          rintro e w8 ⟨rfl, hb8⟩
          have HB8 := hide (tr2 (unhide HB6) hb8)
          have HBR8 := hide (tr2 (unhide HBR6) hb8)
          have hSC := hide ((unhide hSB).later hb8)
          clear hb8 CN
          go_wp2
          have hSb : KeepLi wr.heap.size (k : Int) (nu : Int) z (m : Int) (1 + (kc : Int)) w5.heap.size g4 (o4 + m) qk2 lk2 ck2 w8.drew := unhide hSC
          refine wp_region_held (S := KeepLi wr.heap.size (k : Int) (nu : Int) z (m : Int) (1 + (kc : Int)) w5.heap.size g4 (o4 + m) qk2 lk2 ck2) (by kernel_rfl) ?_
          change wpAnyH _ _ _ _ _ _ _ _ (World.drew _)
          refine wpAnyH_take (i := 0) (oi := { dst := some 45, op := _, type := _, pos := _, after := _, guard := _ }) (v := ?vb0) rfl (by kernel_rfl) (by kernel_rfl) (by kernel_rfl) (fun _ _ _ h => h) (Or.inl ⟨by kernel_rfl, ?hb0⟩) hSb ?rb0
          case hb0 => first | (intro w hSw; obtain ⟨s0, s1, s2, s3, s4, s6, s7⟩ := hSw; go_simp; done) | (intro w hSw; obtain ⟨s0, s1, s2, s3, s4, s6, s7⟩ := hSw; go_simp; with_reducible rfl)
          try simp only [Act.put, List.setIfInBounds_toArray, List.set_cons_zero, List.set_cons_succ]
          refine wpAnyH_take (i := 1) (oi := { dst := some 46, op := _, type := _, pos := _, after := _, guard := _ }) (v := ?vb1) rfl (by kernel_rfl) (by kernel_rfl) (by kernel_rfl) (fun _ _ _ h => h) (Or.inl ⟨by kernel_rfl, ?hb1⟩) hSb ?rb1
          case hb1 => first | (intro w hSw; obtain ⟨s0, s1, s2, s3, s4, s6, s7⟩ := hSw; go_simp; done) | (intro w hSw; obtain ⟨s0, s1, s2, s3, s4, s6, s7⟩ := hSw; go_simp; with_reducible rfl)
          try simp only [Act.put, List.setIfInBounds_toArray, List.set_cons_zero, List.set_cons_succ]
          refine wpAnyH_take (i := 2) (oi := { dst := some 47, op := _, type := _, pos := _, after := _, guard := _ }) (v := ?vb2) rfl (by kernel_rfl) (by kernel_rfl) (by kernel_rfl) (fun _ _ _ h => h) (Or.inl ⟨by kernel_rfl, ?hb2⟩) hSb ?rb2
          case hb2 => first | (intro w hSw; obtain ⟨s0, s1, s2, s3, s4, s6, s7⟩ := hSw; go_simp; done) | (intro w hSw; obtain ⟨s0, s1, s2, s3, s4, s6, s7⟩ := hSw; go_simp; with_reducible rfl)
          try simp only [Act.put, List.setIfInBounds_toArray, List.set_cons_zero, List.set_cons_succ]
          refine wpAnyH_take (i := 3) (oi := { dst := some 48, op := _, type := _, pos := _, after := _, guard := _ }) (v := ?vb3) rfl (by kernel_rfl) (by kernel_rfl) (by kernel_rfl) (fun _ _ _ h => h) (Or.inl ⟨by kernel_rfl, ?hb3⟩) hSb ?rb3
          case hb3 => first | (intro w hSw; obtain ⟨s0, s1, s2, s3, s4, s6, s7⟩ := hSw; go_simp; done) | (intro w hSw; obtain ⟨s0, s1, s2, s3, s4, s6, s7⟩ := hSw; go_simp; with_reducible rfl)
          try simp only [Act.put, List.setIfInBounds_toArray, List.set_cons_zero, List.set_cons_succ]
          refine wpAnyH_take (i := 4) (oi := { dst := some 49, op := _, type := _, pos := _, after := _, guard := _ }) (v := ?vb4) rfl (by kernel_rfl) (by kernel_rfl) (by kernel_rfl) (fun _ _ _ h => h) (Or.inl ⟨by kernel_rfl, ?hb4⟩) hSb ?rb4
          case hb4 => first | (intro w hSw; obtain ⟨s0, s1, s2, s3, s4, s6, s7⟩ := hSw; go_simp; done) | (intro w hSw; obtain ⟨s0, s1, s2, s3, s4, s6, s7⟩ := hSw; go_simp; with_reducible rfl)
          try simp only [Act.put, List.setIfInBounds_toArray, List.set_cons_zero, List.set_cons_succ]
          refine wpAnyH_take (i := 5) (oi := { dst := some 50, op := _, type := _, pos := _, after := _, guard := _ }) (v := ?vb5) rfl (by kernel_rfl) (by kernel_rfl) (by kernel_rfl) (fun _ _ _ h => h) (Or.inl ⟨by kernel_rfl, ?hb5⟩) hSb ?rb5
          case hb5 => first | (intro w hSw; obtain ⟨s0, s1, s2, s3, s4, s6, s7⟩ := hSw; go_simp; done) | (intro w hSw; obtain ⟨s0, s1, s2, s3, s4, s6, s7⟩ := hSw; go_simp; with_reducible rfl)
          try simp only [Act.put, List.setIfInBounds_toArray, List.set_cons_zero, List.set_cons_succ]
          refine wpAnyH_take (i := 6) (oi := { dst := some 51, op := _, type := _, pos := _, after := _, guard := _ }) (v := ?vb6) rfl (by kernel_rfl) (by kernel_rfl) (by kernel_rfl) (fun _ _ _ h => h) (Or.inl ⟨by kernel_rfl, ?hb6⟩) hSb ?rb6
          case hb6 => first | (intro w hSw; obtain ⟨s0, s1, s2, s3, s4, s6, s7⟩ := hSw; go_simp; done) | (intro w hSw; obtain ⟨s0, s1, s2, s3, s4, s6, s7⟩ := hSw; go_simp; with_reducible rfl)
          try simp only [Act.put, List.setIfInBounds_toArray, List.set_cons_zero, List.set_cons_succ]
          refine wpAnyH_take (i := 7) (oi := { dst := some 52, op := _, type := _, pos := _, after := _, guard := _ }) (v := ?vb7) rfl (by kernel_rfl) (by kernel_rfl) (by kernel_rfl) (fun _ _ _ h => h) (Or.inl ⟨by kernel_rfl, ?hb7⟩) hSb ?rb7
          case hb7 => first | (intro w hSw; obtain ⟨s0, s1, s2, s3, s4, s6, s7⟩ := hSw; go_simp; done) | (intro w hSw; obtain ⟨s0, s1, s2, s3, s4, s6, s7⟩ := hSw; go_simp; with_reducible rfl)
          try simp only [Act.put, List.setIfInBounds_toArray, List.set_cons_zero, List.set_cons_succ]
          refine wpAnyH_take (i := 8) (oi := { dst := some 53, op := _, type := _, pos := _, after := _, guard := _ }) (v := ?vb8) rfl (by kernel_rfl) (by kernel_rfl) (by kernel_rfl) (fun _ _ _ h => h) (Or.inl ⟨by kernel_rfl, ?hb8⟩) hSb ?rb8
          case hb8 => first | (intro w hSw; obtain ⟨s0, s1, s2, s3, s4, s6, s7⟩ := hSw; go_simp; done) | (intro w hSw; obtain ⟨s0, s1, s2, s3, s4, s6, s7⟩ := hSw; go_simp; with_reducible rfl)
          try simp only [Act.put, List.setIfInBounds_toArray, List.set_cons_zero, List.set_cons_succ]
          refine wpAnyH_take (i := 9) (oi := { dst := some 54, op := _, type := _, pos := _, after := _, guard := _ }) (v := ?vb9) rfl (by kernel_rfl) (by kernel_rfl) (by kernel_rfl) (fun _ _ _ h => h) (Or.inl ⟨by kernel_rfl, ?hb9⟩) hSb ?rb9
          case hb9 => first | (intro w hSw; obtain ⟨s0, s1, s2, s3, s4, s6, s7⟩ := hSw; go_simp; done) | (intro w hSw; obtain ⟨s0, s1, s2, s3, s4, s6, s7⟩ := hSw; go_simp; with_reducible rfl)
          try simp only [Act.put, List.setIfInBounds_toArray, List.set_cons_zero, List.set_cons_succ]
          refine wpAnyH_take (i := 10) (oi := { dst := some 55, op := _, type := _, pos := _, after := _, guard := _ }) (v := ?vb10) rfl (by kernel_rfl) (by kernel_rfl) (by kernel_rfl) (fun _ _ _ h => h) (Or.inl ⟨by kernel_rfl, ?hb10⟩) hSb ?rb10
          case hb10 => first | (intro w hSw; obtain ⟨s0, s1, s2, s3, s4, s6, s7⟩ := hSw; go_simp; done) | (intro w hSw; obtain ⟨s0, s1, s2, s3, s4, s6, s7⟩ := hSw; go_simp; with_reducible rfl)
          try simp only [Act.put, List.setIfInBounds_toArray, List.set_cons_zero, List.set_cons_succ]
          refine wpAnyH_take (i := 11) (oi := { dst := some 56, op := _, type := _, pos := _, after := _, guard := _ }) (v := ?vb11) rfl (by kernel_rfl) (by kernel_rfl) (by kernel_rfl) (fun _ _ _ h => h) (Or.inl ⟨by kernel_rfl, ?hb11⟩) hSb ?rb11
          case hb11 => first | (intro w hSw; obtain ⟨s0, s1, s2, s3, s4, s6, s7⟩ := hSw; go_simp; done) | (intro w hSw; obtain ⟨s0, s1, s2, s3, s4, s6, s7⟩ := hSw; go_simp; with_reducible rfl)
          try simp only [Act.put, List.setIfInBounds_toArray, List.set_cons_zero, List.set_cons_succ]
          refine wpAnyH_take (i := 12) (oi := { dst := some 57, op := _, type := _, pos := _, after := _, guard := _ }) (v := ?vb12) rfl (by kernel_rfl) (by kernel_rfl) (by kernel_rfl) (fun _ _ _ h => h) (Or.inl ⟨by kernel_rfl, ?hb12⟩) hSb ?rb12
          case hb12 => first | (intro w hSw; obtain ⟨s0, s1, s2, s3, s4, s6, s7⟩ := hSw; go_simp; done) | (intro w hSw; obtain ⟨s0, s1, s2, s3, s4, s6, s7⟩ := hSw; go_simp; with_reducible rfl)
          try simp only [Act.put, List.setIfInBounds_toArray, List.set_cons_zero, List.set_cons_succ]
          refine wpAnyH_take (i := 13) (oi := { dst := some 58, op := _, type := _, pos := _, after := _, guard := _ }) (v := ?vb13) rfl (by kernel_rfl) (by kernel_rfl) (by kernel_rfl) (fun _ _ _ h => h) (Or.inl ⟨by kernel_rfl, ?hb13⟩) hSb ?rb13
          case hb13 => first | (intro w hSw; obtain ⟨s0, s1, s2, s3, s4, s6, s7⟩ := hSw; go_simp; done) | (intro w hSw; obtain ⟨s0, s1, s2, s3, s4, s6, s7⟩ := hSw; go_simp; with_reducible rfl)
          try simp only [Act.put, List.setIfInBounds_toArray, List.set_cons_zero, List.set_cons_succ]
          refine wpAnyH_take (i := 14) (oi := { dst := some 59, op := _, type := _, pos := _, after := _, guard := _ }) (v := ?vb14) rfl (by kernel_rfl) (by kernel_rfl) (by kernel_rfl) (fun _ _ _ h => h) (Or.inl ⟨by kernel_rfl, ?hb14⟩) hSb ?rb14
          case hb14 => first | (intro w hSw; obtain ⟨s0, s1, s2, s3, s4, s6, s7⟩ := hSw; go_simp; done) | (intro w hSw; obtain ⟨s0, s1, s2, s3, s4, s6, s7⟩ := hSw; go_simp; with_reducible rfl)
          try simp only [Act.put, List.setIfInBounds_toArray, List.set_cons_zero, List.set_cons_succ]
          refine wpAnyH_take (i := 15) (oi := { dst := some 60, op := _, type := _, pos := _, after := _, guard := _ }) (v := ?vb15) rfl (by kernel_rfl) (by kernel_rfl) (by kernel_rfl) (fun _ _ _ h => h) (Or.inl ⟨by kernel_rfl, ?hb15⟩) hSb ?rb15
          case hb15 => first | (intro w hSw; obtain ⟨s0, s1, s2, s3, s4, s6, s7⟩ := hSw; go_simp; done) | (intro w hSw; obtain ⟨s0, s1, s2, s3, s4, s6, s7⟩ := hSw; go_simp; with_reducible rfl)
          try simp only [Act.put, List.setIfInBounds_toArray, List.set_cons_zero, List.set_cons_succ]
          refine wpAnyH_take (i := 16) (oi := { dst := some 61, op := _, type := _, pos := _, after := _, guard := _ }) (v := ?vb16) rfl (by kernel_rfl) (by kernel_rfl) (by kernel_rfl) (fun _ _ _ h => h) (Or.inl ⟨by kernel_rfl, ?hb16⟩) hSb ?rb16
          case hb16 => first | (intro w hSw; obtain ⟨s0, s1, s2, s3, s4, s6, s7⟩ := hSw; go_simp; done) | (intro w hSw; obtain ⟨s0, s1, s2, s3, s4, s6, s7⟩ := hSw; go_simp; with_reducible rfl)
          try simp only [Act.put, List.setIfInBounds_toArray, List.set_cons_zero, List.set_cons_succ]
          refine wpAnyH_take (i := 17) (oi := { dst := some 62, op := _, type := _, pos := _, after := _, guard := _ }) (v := ?vb17) rfl (by kernel_rfl) (by kernel_rfl) (by kernel_rfl) (fun _ _ _ h => h) (Or.inl ⟨by kernel_rfl, ?hb17⟩) hSb ?rb17
          case hb17 => first | (intro w hSw; obtain ⟨s0, s1, s2, s3, s4, s6, s7⟩ := hSw; go_simp; done) | (intro w hSw; obtain ⟨s0, s1, s2, s3, s4, s6, s7⟩ := hSw; go_simp; with_reducible rfl)
          try simp only [Act.put, List.setIfInBounds_toArray, List.set_cons_zero, List.set_cons_succ]
          refine wpAnyH_take (i := 18) (oi := { dst := some 63, op := _, type := _, pos := _, after := _, guard := _ }) (v := ?vb18) rfl (by kernel_rfl) (by kernel_rfl) (by kernel_rfl) (fun _ _ _ h => h) (Or.inl ⟨by kernel_rfl, ?hb18⟩) hSb ?rb18
          case hb18 => first | (intro w hSw; obtain ⟨s0, s1, s2, s3, s4, s6, s7⟩ := hSw; go_simp; done) | (intro w hSw; obtain ⟨s0, s1, s2, s3, s4, s6, s7⟩ := hSw; go_simp; with_reducible rfl)
          try simp only [Act.put, List.setIfInBounds_toArray, List.set_cons_zero, List.set_cons_succ]
          refine wpAnyH_take (i := 19) (oi := { dst := some 64, op := _, type := _, pos := _, after := _, guard := _ }) (v := ?vb19) rfl (by kernel_rfl) (by kernel_rfl) (by kernel_rfl) (fun _ _ _ h => h) (Or.inl ⟨by kernel_rfl, ?hb19⟩) hSb ?rb19
          case hb19 => first | (intro w hSw; obtain ⟨s0, s1, s2, s3, s4, s6, s7⟩ := hSw; go_simp; done) | (intro w hSw; obtain ⟨s0, s1, s2, s3, s4, s6, s7⟩ := hSw; go_simp; with_reducible rfl)
          try simp only [Act.put, List.setIfInBounds_toArray, List.set_cons_zero, List.set_cons_succ]
          refine wpAnyH_take (i := 20) (oi := { dst := some 65, op := _, type := _, pos := _, after := _, guard := _ }) (v := ?vb20) rfl (by kernel_rfl) (by kernel_rfl) (by kernel_rfl) (fun _ _ _ h => h) (Or.inl ⟨by kernel_rfl, ?hb20⟩) hSb ?rb20
          case hb20 => first | (intro w hSw; obtain ⟨s0, s1, s2, s3, s4, s6, s7⟩ := hSw; go_simp; done) | (intro w hSw; obtain ⟨s0, s1, s2, s3, s4, s6, s7⟩ := hSw; go_simp; with_reducible rfl)
          try simp only [Act.put, List.setIfInBounds_toArray, List.set_cons_zero, List.set_cons_succ]
          refine wpAnyH_take (i := 21) (oi := { dst := some 66, op := _, type := _, pos := _, after := _, guard := _ }) (v := ?vb21) rfl (by kernel_rfl) (by kernel_rfl) (by kernel_rfl) (fun _ _ _ h => h) (Or.inl ⟨by kernel_rfl, ?hb21⟩) hSb ?rb21
          case hb21 => first | (intro w hSw; obtain ⟨s0, s1, s2, s3, s4, s6, s7⟩ := hSw; go_simp; done) | (intro w hSw; obtain ⟨s0, s1, s2, s3, s4, s6, s7⟩ := hSw; go_simp; with_reducible rfl)
          try simp only [Act.put, List.setIfInBounds_toArray, List.set_cons_zero, List.set_cons_succ]
          refine wpAnyH_take (i := 22) (oi := { dst := some 67, op := _, type := _, pos := _, after := _, guard := _ }) (v := ?vb22) rfl (by kernel_rfl) (by kernel_rfl) (by kernel_rfl) (fun _ _ _ h => h) (Or.inl ⟨by kernel_rfl, ?hb22⟩) hSb ?rb22
          case hb22 => first | (intro w hSw; obtain ⟨s0, s1, s2, s3, s4, s6, s7⟩ := hSw; go_simp; done) | (intro w hSw; obtain ⟨s0, s1, s2, s3, s4, s6, s7⟩ := hSw; go_simp; with_reducible rfl)
          try simp only [Act.put, List.setIfInBounds_toArray, List.set_cons_zero, List.set_cons_succ]
          refine wpAnyH_take (i := 23) (oi := { dst := some 68, op := _, type := _, pos := _, after := _, guard := _ }) (v := ?vb23) rfl (by kernel_rfl) (by kernel_rfl) (by kernel_rfl) (fun _ _ _ h => h) (Or.inl ⟨by kernel_rfl, ?hb23⟩) hSb ?rb23
          case hb23 => first | (intro w hSw; obtain ⟨s0, s1, s2, s3, s4, s6, s7⟩ := hSw; go_simp; done) | (intro w hSw; obtain ⟨s0, s1, s2, s3, s4, s6, s7⟩ := hSw; go_simp; with_reducible rfl)
          try simp only [Act.put, List.setIfInBounds_toArray, List.set_cons_zero, List.set_cons_succ]
          refine wpAnyH_take (i := 24) (oi := { dst := some 69, op := _, type := _, pos := _, after := _, guard := _ }) (v := ?vb24) rfl (by kernel_rfl) (by kernel_rfl) (by kernel_rfl) (fun _ _ _ h => h) (Or.inl ⟨by kernel_rfl, ?hb24⟩) hSb ?rb24
          case hb24 => first | (intro w hSw; obtain ⟨s0, s1, s2, s3, s4, s6, s7⟩ := hSw; go_simp; done) | (intro w hSw; obtain ⟨s0, s1, s2, s3, s4, s6, s7⟩ := hSw; go_simp; with_reducible rfl)
          try simp only [Act.put, List.setIfInBounds_toArray, List.set_cons_zero, List.set_cons_succ]
          refine wpAnyH_take (i := 25) (oi := { dst := some 70, op := _, type := _, pos := _, after := _, guard := _ }) (v := ?vb25) rfl (by kernel_rfl) (by kernel_rfl) (by kernel_rfl) (fun _ _ _ h => h) (Or.inl ⟨by kernel_rfl, ?hb25⟩) hSb ?rb25
          case hb25 => first | (intro w hSw; obtain ⟨s0, s1, s2, s3, s4, s6, s7⟩ := hSw; go_simp; done) | (intro w hSw; obtain ⟨s0, s1, s2, s3, s4, s6, s7⟩ := hSw; go_simp; with_reducible rfl)
          try simp only [Act.put, List.setIfInBounds_toArray, List.set_cons_zero, List.set_cons_succ]
          refine wpAnyH_take (i := 26) (oi := { dst := some 71, op := _, type := _, pos := _, after := _, guard := _ }) (v := ?vb26) rfl (by kernel_rfl) (by kernel_rfl) (by kernel_rfl) (fun _ _ _ h => h) (Or.inl ⟨by kernel_rfl, ?hb26⟩) hSb ?rb26
          case hb26 => first | (intro w hSw; obtain ⟨s0, s1, s2, s3, s4, s6, s7⟩ := hSw; go_simp; done) | (intro w hSw; obtain ⟨s0, s1, s2, s3, s4, s6, s7⟩ := hSw; go_simp; with_reducible rfl)
          try simp only [Act.put, List.setIfInBounds_toArray, List.set_cons_zero, List.set_cons_succ]
          refine wpAnyH_take (i := 27) (oi := { dst := some 72, op := _, type := _, pos := _, after := _, guard := _ }) (v := ?vb27) rfl (by kernel_rfl) (by kernel_rfl) (by kernel_rfl) (fun _ _ _ h => h) (Or.inl ⟨by kernel_rfl, ?hb27⟩) hSb ?rb27
          case hb27 => first | (intro w hSw; obtain ⟨s0, s1, s2, s3, s4, s6, s7⟩ := hSw; go_simp; done) | (intro w hSw; obtain ⟨s0, s1, s2, s3, s4, s6, s7⟩ := hSw; go_simp; with_reducible rfl)
          try simp only [Act.put, List.setIfInBounds_toArray, List.set_cons_zero, List.set_cons_succ]
          refine wpAnyH_take (i := 28) (oi := { dst := some 73, op := _, type := _, pos := _, after := _, guard := _ }) (v := ?vb28) rfl (by kernel_rfl) (by kernel_rfl) (by kernel_rfl) (fun _ _ _ h => h) (Or.inl ⟨by kernel_rfl, ?hb28⟩) hSb ?rb28
          case hb28 => first | (intro w hSw; obtain ⟨s0, s1, s2, s3, s4, s6, s7⟩ := hSw; go_simp; done) | (intro w hSw; obtain ⟨s0, s1, s2, s3, s4, s6, s7⟩ := hSw; go_simp; with_reducible rfl)
          try simp only [Act.put, List.setIfInBounds_toArray, List.set_cons_zero, List.set_cons_succ]
          refine wpAnyH_take (i := 29) (oi := { dst := some 74, op := _, type := _, pos := _, after := _, guard := _ }) (v := ?vb29) rfl (by kernel_rfl) (by kernel_rfl) (by kernel_rfl) (fun _ _ _ h => h) (Or.inl ⟨by kernel_rfl, ?hb29⟩) hSb ?rb29
          case hb29 => first | (intro w hSw; obtain ⟨s0, s1, s2, s3, s4, s6, s7⟩ := hSw; go_simp; done) | (intro w hSw; obtain ⟨s0, s1, s2, s3, s4, s6, s7⟩ := hSw; go_simp; with_reducible rfl)
          try simp only [Act.put, List.setIfInBounds_toArray, List.set_cons_zero, List.set_cons_succ]
          refine wpAnyH_take (i := 30) (oi := { dst := some 75, op := _, type := _, pos := _, after := _, guard := _ }) (v := ?vb30) rfl (by kernel_rfl) (by kernel_rfl) (by kernel_rfl) (fun _ _ _ h => h) (Or.inl ⟨by kernel_rfl, ?hb30⟩) hSb ?rb30
          case hb30 => first | (intro w hSw; obtain ⟨s0, s1, s2, s3, s4, s6, s7⟩ := hSw; go_simp; done) | (intro w hSw; obtain ⟨s0, s1, s2, s3, s4, s6, s7⟩ := hSw; go_simp; with_reducible rfl)
          try simp only [Act.put, List.setIfInBounds_toArray, List.set_cons_zero, List.set_cons_succ]
          refine wpAnyH_take (i := 31) (oi := { dst := some 76, op := _, type := _, pos := _, after := _, guard := _ }) (v := ?vb31) rfl (by kernel_rfl) (by kernel_rfl) (by kernel_rfl) (fun _ _ _ h => h) (Or.inl ⟨by kernel_rfl, ?hb31⟩) hSb ?rb31
          case hb31 => first | (intro w hSw; obtain ⟨s0, s1, s2, s3, s4, s6, s7⟩ := hSw; go_simp; done) | (intro w hSw; obtain ⟨s0, s1, s2, s3, s4, s6, s7⟩ := hSw; go_simp; with_reducible rfl)
          try simp only [Act.put, List.setIfInBounds_toArray, List.set_cons_zero, List.set_cons_succ]
          refine wpAnyH_take (i := 32) (oi := { dst := some 77, op := _, type := _, pos := _, after := _, guard := _ }) (v := ?vb32) rfl (by kernel_rfl) (by kernel_rfl) (by kernel_rfl) (fun _ _ _ h => h) (Or.inl ⟨by kernel_rfl, ?hb32⟩) hSb ?rb32
          case hb32 => first | (intro w hSw; obtain ⟨s0, s1, s2, s3, s4, s6, s7⟩ := hSw; go_simp; done) | (intro w hSw; obtain ⟨s0, s1, s2, s3, s4, s6, s7⟩ := hSw; go_simp; with_reducible rfl)
          try simp only [Act.put, List.setIfInBounds_toArray, List.set_cons_zero, List.set_cons_succ]
          refine wpAnyH_take (i := 33) (oi := { dst := some 78, op := _, type := _, pos := _, after := _, guard := _ }) (v := ?vb33) rfl (by kernel_rfl) (by kernel_rfl) (by kernel_rfl) (fun _ _ _ h => h) (Or.inl ⟨by kernel_rfl, ?hb33⟩) hSb ?rb33
          case hb33 => first | (intro w hSw; obtain ⟨s0, s1, s2, s3, s4, s6, s7⟩ := hSw; go_simp; done) | (intro w hSw; obtain ⟨s0, s1, s2, s3, s4, s6, s7⟩ := hSw; go_simp; with_reducible rfl)
          try simp only [Act.put, List.setIfInBounds_toArray, List.set_cons_zero, List.set_cons_succ]
          refine wpAnyH_take (i := 34) (oi := { dst := some 79, op := _, type := _, pos := _, after := _, guard := _ }) (v := ?vb34) rfl (by kernel_rfl) (by kernel_rfl) (by kernel_rfl) (fun _ _ _ h => h) (Or.inl ⟨by kernel_rfl, ?hb34⟩) hSb ?rb34
          case hb34 => first | (intro w hSw; obtain ⟨s0, s1, s2, s3, s4, s6, s7⟩ := hSw; go_simp; done) | (intro w hSw; obtain ⟨s0, s1, s2, s3, s4, s6, s7⟩ := hSw; go_simp; with_reducible rfl)
          try simp only [Act.put, List.setIfInBounds_toArray, List.set_cons_zero, List.set_cons_succ]
          refine wpAnyH_ready (rs := [35]) (by kernel_rfl) (by simp) ?_
          refine AllReadyH.cons rfl (fun K hK => ?_) AllReadyH.nil
          go_simp
          refine Calls.mono (unhide CK _ (unhide HB8).drew) ?_
          rintro e w9 ⟨rfl, hb9⟩
          have HB9 := hide (tr2 (below_draws w8 1) hb9)
          have hSb' := hSb.later hb9
          clear hb9
          refine hK _ _ hSb' (fun _ => ?_)
          clear hK K hSb
          have hSb := hSb'
          clear hSb'
          refine wpAnyH_take (i := 36) (oi := { dst := some 81, op := _, type := _, pos := _, after := _, guard := _ }) (v := ?vb36) rfl (by kernel_rfl) (by kernel_rfl) (by kernel_rfl) (fun _ _ _ h => h) (Or.inl ⟨by kernel_rfl, ?hb36⟩) hSb ?rb36
          case hb36 => first | (intro w hSw; obtain ⟨s0, s1, s2, s3, s4, s6, s7⟩ := hSw; go_simp; done) | (intro w hSw; obtain ⟨s0, s1, s2, s3, s4, s6, s7⟩ := hSw; go_simp; with_reducible rfl)
          try simp only [Act.put, List.setIfInBounds_toArray, List.set_cons_zero, List.set_cons_succ]
          refine wpAnyH_take (i := 37) (oi := { dst := some 82, op := _, type := _, pos := _, after := _, guard := _ }) (v := ?vb37) rfl (by kernel_rfl) (by kernel_rfl) (by kernel_rfl) (fun _ _ _ h => h) (Or.inl ⟨by kernel_rfl, ?hb37⟩) hSb ?rb37
          case hb37 => first | (intro w hSw; obtain ⟨s0, s1, s2, s3, s4, s6, s7⟩ := hSw; go_simp; done) | (intro w hSw; obtain ⟨s0, s1, s2, s3, s4, s6, s7⟩ := hSw; go_simp; with_reducible rfl)
          try simp only [Act.put, List.setIfInBounds_toArray, List.set_cons_zero, List.set_cons_succ]
          refine wpAnyH_take (i := 38) (oi := { dst := some 83, op := _, type := _, pos := _, after := _, guard := _ }) (v := ?vb38) rfl (by kernel_rfl) (by kernel_rfl) (by kernel_rfl) (fun _ _ _ h => h) (Or.inl ⟨by kernel_rfl, ?hb38⟩) hSb ?rb38
          case hb38 => first | (intro w hSw; obtain ⟨s0, s1, s2, s3, s4, s6, s7⟩ := hSw; go_simp; done) | (intro w hSw; obtain ⟨s0, s1, s2, s3, s4, s6, s7⟩ := hSw; go_simp; with_reducible rfl)
          try simp only [Act.put, List.setIfInBounds_toArray, List.set_cons_zero, List.set_cons_succ]
          refine wpAnyH_done (by kernel_rfl) ?_ _
          clear hSb
          go_wp2
          go_roundw
          case rel => exact ⟨k + 1, by omega, by go_num, tr2 (unhide HBW) (tr2 (unhide HBR8) (unhide HB9))⟩
          case measure => simp [intOf]; omega
      · have hpi : ¬ (k : Int) < (N : Int) := by omega
        have HB := hide (tr2 (unhide HB2) hbw)
        have C9 := hide (three_any wr)
        clear hbw
        go_wp2_with fail
        refine (unhide C9).mono ?_
        rintro e w9 ⟨rfl, hb9⟩
        have HB9 := hide (tr2 (unhide HB) hb9)
        clear C9 hb9
        go_wp2
        go_ret
        exact ⟨rfl, unhide HB9⟩
end Go.Proofs.YtemccomnhjhjeaaDoor

/-
  An argument of type []int opened.
-/
namespace Go.Proofs.YtemccomnhjhjeaaDoor
open Go.RowKit Go.Deep Go.WideShapes Go.ChangeShapes
set_option linter.unusedVariables false
set_option linter.unusedSimpArgs false

theorem open_ints19 {H : Type} {enc : TypeId × Value → H} {W : World} {qa : Option Addr} {len cap : Nat} {d : DataW H} {ps : List MemPlace}
    (h : DataW.Trod enc Tryd.prog W 0 (fun _ => true) true 30 (.slice qa len cap) d ps) : ∃ zs : List Int, len ≤ cap ∧ IntsV qa len zs W := by
  obtain ⟨n, t0⟩ := h
  rcases open_slice Tryd.underlying30 t0 with ⟨hc, hx⟩ | ⟨a, len', cap', m, k, D, Pl, hc, hle, hl, hm, hmm, hx, hall⟩
  · simp only [Value.cells, List.cons.injEq, and_true, Value.slice.injEq] at hc
    obtain ⟨rfl, rfl, rfl⟩ := hc
    exact ⟨[], Nat.le_refl _, rfl, fun h => by omega⟩
  · simp only [Value.cells, List.cons.injEq, and_true, Value.slice.injEq] at hc
    obtain ⟨rfl, rfl, rfl⟩ := hc
    simp only [if_true] at hmm
    subst hmm
    have each : ∀ i, i < len → ∃ z : Int, W.cell? (a.add i) = some (.int .i64 z) := fun i hi => by
      obtain ⟨cs', h1, h2⟩ := hall i (by omega)
      rw [fint_cells, Nat.mul_one] at h1
      obtain ⟨z, he, _⟩ := DataW.trod_int Tryd.underlying3 h2
      obtain ⟨_, hlen, hcell⟩ := World.cells?_some h1
      refine ⟨z, ?_⟩
      have := hcell 0 (by omega)
      rw [he] at this
      simpa [fadd_addr] using this
    have hch : ∃ f : Nat → Int, ∀ i, i < len → W.cell? (a.add i) = some (.int .i64 (f i)) :=
      ⟨fun i => if hi : i < len then Classical.choose (each i hi) else 0, fun i hi => by
        have := Classical.choose_spec (each i hi)
        simpa only [dif_pos hi] using this⟩
    obtain ⟨f, hf⟩ := hch
    refine ⟨(List.range len).map f, by omega, by simp, fun h0 => ?_⟩
    obtain ⟨b, o, spot⟩ := a
    have hspot : spot = none := by
      have := hf 0 (by omega)
      simpa [Addr.add] using World.cell?_spot this
    subst hspot
    refine ⟨b, o, rfl, fun i hi => ?_⟩
    have hg : ((List.range len).map f).getD i 0 = f i := by simp [List.getD, hi]
    rw [hg]
    have := hf i hi
    have e : (⟨b, o, none⟩ : Addr).add i = ⟨b, o + i, none⟩ := by unfold Addr.add; split <;> simp_all
    rw [e] at this
    exact this
end Go.Proofs.YtemccomnhjhjeaaDoor

namespace Go.Proofs.YtemccomnhjhjeaaDoor.keysItemsF
open Go.ChangeShapes Go.WideShapes Go.ChangeAt Go.RowKit
open Go.ChangeMaps (open_string shut_string)
set_option linter.unusedVariables false

theorem own : ownKnob Tryd.prog.godebug = none := by kernel_rfl
theorem laidOut : laidOutB Tryd.prog = true := by kernel_rfl

set_option maxRecDepth 100000 in
theorem contract (H : Type) (enc : TypeId × Value → H) (W : World) (base : Nat) (args : Array Value) (ds gs : List (DataW H)) (before : List MemPlace)
    (hval : ∀ (j : Nat) t v, Tryd.f3.params[j]? = some t → args[j]? = some v → Value.okWide Tryd.prog W .any base t v)
    (hW : DataW.Whole enc Tryd.prog Tryd.f3.params.toList Rows.keysItemsSpec.vars false W args.toList ds gs before) (hL : laidMetH Tryd.prog Rows.keysItemsRow.laid W) :
    Calls Tryd.prog 3 args W fun e W' => ∃ v, e = .returned v ∧ Rows.keysItemsSpec.post enc Tryd.prog Tryd.f3 false true false false W args v W' := by
  have hW' := hW
  obtain ⟨p, q, hA0, hV, rfl, hfz, hnd⟩ := hW
  have hA : DataW.TrodAll enc Tryd.prog W 0 (fun _ => true) true Tryd.f3.params.toList args.toList ds p := hA0
  rw [Tryd.params3] at hA hval
  obtain ⟨v0, vs0, d0, ds0, p0, q0, hargs, rfl, rfl, h0, r0⟩ := trodAll_cons hA
  obtain ⟨rfl, rfl, rfl⟩ := trodAll_nil r0
  obtain rfl : args = #[v0] := by cases args; simp_all
  obtain ⟨rfl, rfl⟩ := trodVars_none hV
  have k0 := h0
  have lt0 : ∀ x ∈ p0, x.block < W.heap.size := by obtain ⟨m, hm⟩ := k0; exact DataW.trod_lt m _ _ _ hm
  obtain ⟨q0', len0, cap0, rfl⟩ := okWide_slice Tryd.underlying22 (hval 0 22 v0 rfl rfl)
  obtain ⟨f0, rfl, hcap0, hfo0⟩ := open_nodes h0
  clear hA0
  refine (kitems_walk f0 q0' cap0 W hfo0 hcap0).mono fun e W' ⟨he, bel⟩ => ?_
  subst he
  exact ⟨_, rfl, _, _, _, [], _, [], hW', trodAll_mk1 (shut_bool Tryd.underlying4 _), (trodAll_cons_mk (Below.trod laidOut (by kernel_rfl) (of_decide_eq_true (by kernel_rfl)) k0 bel lt0) trodAll_mk0), rfl, bel.frame _, fun h => by cases h⟩

/-- What the tables' initialisers lay. -/
def lay0 : Obj → Obj
  | .cells _ t frozen => .cells #[.int .u64 1, .int .u64 10, .int .u64 100, .int .u64 1000, .int .u64 10000, .int .u64 100000, .int .u64 1000000, .int .u64 10000000, .int .u64 100000000, .int .u64 1000000000, .int .u64 10000000000, .int .u64 100000000000, .int .u64 1000000000000, .int .u64 10000000000000, .int .u64 100000000000000, .int .u64 1000000000000000, .int .u64 10000000000000000, .int .u64 100000000000000000, .int .u64 1000000000000000000, .int .u64 10000000000000000000] t frozen
  | o => o
def lay1 : Obj → Obj
  | .cells _ t frozen => .cells #[.int .u8 0, .int .u8 1, .int .u8 28, .int .u8 2, .int .u8 29, .int .u8 14, .int .u8 24, .int .u8 3, .int .u8 30, .int .u8 22, .int .u8 20, .int .u8 15, .int .u8 25, .int .u8 17, .int .u8 4, .int .u8 8, .int .u8 31, .int .u8 27, .int .u8 13, .int .u8 23, .int .u8 21, .int .u8 19, .int .u8 16, .int .u8 7, .int .u8 26, .int .u8 12, .int .u8 18, .int .u8 6, .int .u8 11, .int .u8 5, .int .u8 10, .int .u8 9] t frozen
  | o => o
def lay2 : Obj → Obj
  | .cells _ t frozen => .cells #[.int .u8 0, .int .u8 1, .int .u8 56, .int .u8 2, .int .u8 57, .int .u8 49, .int .u8 28, .int .u8 3, .int .u8 61, .int .u8 58, .int .u8 42, .int .u8 50, .int .u8 38, .int .u8 29, .int .u8 17, .int .u8 4, .int .u8 62, .int .u8 47, .int .u8 59, .int .u8 36, .int .u8 45, .int .u8 43, .int .u8 51, .int .u8 22, .int .u8 53, .int .u8 39, .int .u8 33, .int .u8 30, .int .u8 24, .int .u8 18, .int .u8 12, .int .u8 5, .int .u8 63, .int .u8 55, .int .u8 48, .int .u8 27, .int .u8 60, .int .u8 41, .int .u8 37, .int .u8 16, .int .u8 46, .int .u8 35, .int .u8 44, .int .u8 21, .int .u8 52, .int .u8 32, .int .u8 23, .int .u8 11, .int .u8 54, .int .u8 26, .int .u8 40, .int .u8 15, .int .u8 34, .int .u8 20, .int .u8 31, .int .u8 10, .int .u8 25, .int .u8 14, .int .u8 19, .int .u8 9, .int .u8 13, .int .u8 8, .int .u8 7, .int .u8 6] t frozen
  | o => o
set_option maxRecDepth 100000 in
theorem laid_met (os : Os) : laidMet Tryd.prog Rows.keysItemsRow.laid (({ World.holding Tryd.prog os ⟨#[], #[], []⟩ with heap := (((World.holding Tryd.prog os ⟨#[], #[], []⟩).heap.modify 0 lay0).modify 1 lay1).modify 2 lay2 } : World).forCall (fun _ _ => 0) ⟨#[], #[.slice none 0 0], []⟩).memory :=
  laidMet_of_run' 8 (by kernel_rfl) (by kernel_rfl)
theorem reads (os : Os) {H : Type} (enc : TypeId × Value → H) : ∃ places, DataW.whole enc Tryd.prog (({ World.holding Tryd.prog os ⟨#[], #[], []⟩ with heap := (((World.holding Tryd.prog os ⟨#[], #[], []⟩).heap.modify 0 lay0).modify 1 lay1).modify 2 lay2 } : World).forCall (fun _ _ => 0) ⟨#[], #[.slice none 0 0], []⟩).memory Tryd.f3.params.toList Rows.keysItemsSpec.vars false #[Value.slice none 0 0].toList 8 = some ([.nil], [], places) :=
  ⟨[], by kernel_rfl⟩

set_option maxRecDepth 100000 in
theorem lifted (os : Os) (started : os.Started) (H : Type) (enc : TypeId × Value → H) (F : Stop.Interp) :
    ReturnsInHanded {} Tryd.checked os 3 .any ((OpenSpec.ofChange Rows.keysItemsSpec).preRow enc Tryd.prog Tryd.f3 Rows.keysItemsRow.domain false Rows.keysItemsRow.laid) (((OpenSpec.ofChange Rows.keysItemsSpec).at F).post enc Tryd.prog Tryd.f3 false true false false) := by
  obtain ⟨places, hx⟩ := reads os enc
  refine returnsInHanded_of_row (C := Tryd.checked) (s := OpenSpec.ofChange Rows.keysItemsSpec) own started (by kernel_rfl) Tryd.func3
    (witness_row_at (enc := enc) (C := Tryd.checked) false ({ World.holding Tryd.prog os ⟨#[], #[], []⟩ with heap := (((World.holding Tryd.prog os ⟨#[], #[], []⟩).heap.modify 0 lay0).modify 1 lay1).modify 2 lay2 } : World) #[.slice none 0 0] rfl (by kernel_rfl) (by kernel_rfl) (by kernel_rfl)
      (OpenSpec.preRow_of_cond 8 hx (by kernel_rfl) (fun k hk => by cases hk) (by kernel_rfl) (laid_met os))) ?_
  intro W base args ds gs before hval hW _ _ _ hL _ _
  exact contract H enc W base args ds gs before hval hW hL

theorem said : Rows.KeysItemsSaid :=
  OpenClaim.holds_of_cond 3 Tryd.f3 rfl rfl rfl rfl rfl rfl rfl ⟨rfl, rfl, rfl, rfl, rfl⟩ rfl rfl rfl rfl rfl (by kernel_rfl) Tryd.func3 (by kernel_rfl)
    (of_decide_eq_true (by kernel_rfl)) (by unfold Func.isWrapper; first | (rw [if_pos (by decide +kernel)]; kernel_rfl) | (rw [if_neg (by decide +kernel)]; exact ⟨rfl, rfl⟩))
    (fun os started H enc _ F => by rw [OpenClaim.pre_eq_preRow]; exact lifted os started H enc F)

theorem plain (f : FuncId) (fn : Func) (hf : Tryd.pinned.checked.prog.funcNamed "recto/rectolaw19.KeysItems" = some f) (hfn : Tryd.pinned.checked.prog.funcs[f]? = some fn) :
    false = Tryd.pinned.checked.prog.looks [] ∧ ∀ (j : Nat) t, fn.params[j]? = some t → Tryd.pinned.checked.prog.wantsStandIn t = false := by
  obtain rfl : f = 3 := Option.some.inj ((show Tryd.prog.funcNamed "recto/rectolaw19.KeysItems" = some 3 by kernel_rfl).symm.trans hf) |>.symm
  obtain rfl : fn = Tryd.f3 := (Option.some.inj (Tryd.func3.symm.trans hfn)).symm
  refine ⟨by kernel_rfl, fun j t ht => ?_⟩
  rw [Tryd.params3] at ht
  obtain rfl : t = 22 := by simpa using Array.mem_of_getElem? ht
  exact (show Tryd.prog.wantsStandIn 22 = false by kernel_rfl)

theorem card : Rows.KeysItemsCardSaid :=
  Claim7.holds_tied_plain_at .later [] _ _ _ _ said (fun _ h => by cases h) (by kernel_rfl) (fun _ h => by cases h) keysItems_row_tie rfl ⟨rfl, rfl⟩ (by kernel_rfl) rfl plain (by kernel_rfl)
end Go.Proofs.YtemccomnhjhjeaaDoor.keysItemsF

namespace Go.Proofs.YtemccomnhjhjeaaDoor
theorem keysItems_card : Rows.KeysItemsCardSaid := keysItemsF.card
end Go.Proofs.YtemccomnhjhjeaaDoor
