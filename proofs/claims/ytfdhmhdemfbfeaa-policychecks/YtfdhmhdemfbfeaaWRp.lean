/-
  The reference's Plain of layer 16: it is the plain policy, in new memory (made by mk_wrp.py).
-/
import Derived.Test.YtfdhmhdemfbfeaaWLg
namespace Go.Proofs.Ytfdhmhdemfbfeaa
open Go.RowKit
set_option linter.unusedVariables false
set_option linter.unusedSimpArgs false

theorem row_ne {w : World} {base : Nat} {e t : TypeId} {size : Nat} {v : Value} {n : Nat} {xs : List Value} {b : Nat} {vs : Array Value} (h : w.ownsRow base e size v n xs) (hb : Blk w b vs t) (hne : t ≠ e) : some b ≠ v.ownBlock := by
  intro he
  rcases h.2 with ⟨hv, _⟩ | ⟨g, cap, cur, hv, h2, h3, h4⟩
  · subst hv; cases he
  · subst hv
    have e2 : b = g := by simpa [Value.ownBlock] using he
    subst e2
    have h5 := hb.symm.trans h3
    simp at h5
    exact hne h5.2
theorem bare_cells (w : World) (t : TypeId) (k : Nat) (h : k < 26) : (w.alloc (Obj.cells #[.string ⟨#[112]⟩, .string ⟨#[100, 105, 118]⟩, .string ⟨#[104, 49]⟩, .string ⟨#[104, 50]⟩, .string ⟨#[104, 51]⟩, .string ⟨#[117, 108]⟩, .string ⟨#[111, 108]⟩, .string ⟨#[108, 105]⟩, .string ⟨#[98, 108, 111, 99, 107, 113, 117, 111, 116, 101]⟩, .string ⟨#[112, 114, 101]⟩, .string ⟨#[98]⟩, .string ⟨#[105]⟩, .string ⟨#[101, 109]⟩, .string ⟨#[115, 116, 114, 111, 110, 103]⟩, .string ⟨#[117]⟩, .string ⟨#[99, 111, 100, 101]⟩, .string ⟨#[98, 114]⟩, .string ⟨#[104, 114]⟩, .string ⟨#[115, 112, 97, 110]⟩, .string ⟨#[116, 97, 98, 108, 101]⟩, .string ⟨#[99, 97, 112, 116, 105, 111, 110]⟩, .string ⟨#[116, 98, 111, 100, 121]⟩, .string ⟨#[116, 104, 101, 97, 100]⟩, .string ⟨#[116, 114]⟩, .string ⟨#[116, 100]⟩, .string ⟨#[116, 104]⟩] t)).cell? ⟨w.heap.size, 0 + k, none⟩ = some (.string (bareNs.getD k ByteArray.empty)) := by
  rw [Nat.zero_add]
  refine ((Blk.new w _ t).cell k).trans ?_
  have : (#[.string ⟨#[112]⟩, .string ⟨#[100, 105, 118]⟩, .string ⟨#[104, 49]⟩, .string ⟨#[104, 50]⟩, .string ⟨#[104, 51]⟩, .string ⟨#[117, 108]⟩, .string ⟨#[111, 108]⟩, .string ⟨#[108, 105]⟩, .string ⟨#[98, 108, 111, 99, 107, 113, 117, 111, 116, 101]⟩, .string ⟨#[112, 114, 101]⟩, .string ⟨#[98]⟩, .string ⟨#[105]⟩, .string ⟨#[101, 109]⟩, .string ⟨#[115, 116, 114, 111, 110, 103]⟩, .string ⟨#[117]⟩, .string ⟨#[99, 111, 100, 101]⟩, .string ⟨#[98, 114]⟩, .string ⟨#[104, 114]⟩, .string ⟨#[115, 112, 97, 110]⟩, .string ⟨#[116, 97, 98, 108, 101]⟩, .string ⟨#[99, 97, 112, 116, 105, 111, 110]⟩, .string ⟨#[116, 98, 111, 100, 121]⟩, .string ⟨#[116, 104, 101, 97, 100]⟩, .string ⟨#[116, 114]⟩, .string ⟨#[116, 100]⟩, .string ⟨#[116, 104]⟩] : Array Value) = (bareNs.map Value.string).toArray := rfl
  rw [this]
  rw [List.getElem?_toArray, List.getElem?_map, List.getD, List.getElem?_eq_getElem (by rw [bare_len]; exact h)]; rfl

set_option maxHeartbeats 8000000 in
set_option maxRecDepth 100000 in
theorem rplain16_any (w : World) :
    Calls Try.prog 11 #[] w fun e w' => (∃ v, e = .returned v ∧ PolV w' v plainP) ∧ Below w.heap.size w w' := by
  obtain ⟨i0, hi, hz0, hz1, hz2⟩ := info_parts Try.infoRef
  have hb0 : Below w.heap.size w ((w.alloc (Obj.cells #[.slice none 0 0, .slice none 0 0, .int .i64 0, .int .i64 0] 30)).alloc (Obj.cells #[.string ⟨#[112]⟩, .string ⟨#[100, 105, 118]⟩, .string ⟨#[104, 49]⟩, .string ⟨#[104, 50]⟩, .string ⟨#[104, 51]⟩, .string ⟨#[117, 108]⟩, .string ⟨#[111, 108]⟩, .string ⟨#[108, 105]⟩, .string ⟨#[98, 108, 111, 99, 107, 113, 117, 111, 116, 101]⟩, .string ⟨#[112, 114, 101]⟩, .string ⟨#[98]⟩, .string ⟨#[105]⟩, .string ⟨#[101, 109]⟩, .string ⟨#[115, 116, 114, 111, 110, 103]⟩, .string ⟨#[117]⟩, .string ⟨#[99, 111, 100, 101]⟩, .string ⟨#[98, 114]⟩, .string ⟨#[104, 114]⟩, .string ⟨#[115, 112, 97, 110]⟩, .string ⟨#[116, 97, 98, 108, 101]⟩, .string ⟨#[99, 97, 112, 116, 105, 111, 110]⟩, .string ⟨#[116, 98, 111, 100, 121]⟩, .string ⟨#[116, 104, 101, 97, 100]⟩, .string ⟨#[116, 114]⟩, .string ⟨#[116, 100]⟩, .string ⟨#[116, 104]⟩] 9)) := ((Below.refl w.heap.size w).alloc (Nat.le_refl _) _).alloc (by simp) _
  have KR : Hid (Blk ((w.alloc (Obj.cells #[.slice none 0 0, .slice none 0 0, .int .i64 0, .int .i64 0] 30)).alloc (Obj.cells #[.string ⟨#[112]⟩, .string ⟨#[100, 105, 118]⟩, .string ⟨#[104, 49]⟩, .string ⟨#[104, 50]⟩, .string ⟨#[104, 51]⟩, .string ⟨#[117, 108]⟩, .string ⟨#[111, 108]⟩, .string ⟨#[108, 105]⟩, .string ⟨#[98, 108, 111, 99, 107, 113, 117, 111, 116, 101]⟩, .string ⟨#[112, 114, 101]⟩, .string ⟨#[98]⟩, .string ⟨#[105]⟩, .string ⟨#[101, 109]⟩, .string ⟨#[115, 116, 114, 111, 110, 103]⟩, .string ⟨#[117]⟩, .string ⟨#[99, 111, 100, 101]⟩, .string ⟨#[98, 114]⟩, .string ⟨#[104, 114]⟩, .string ⟨#[115, 112, 97, 110]⟩, .string ⟨#[116, 97, 98, 108, 101]⟩, .string ⟨#[99, 97, 112, 116, 105, 111, 110]⟩, .string ⟨#[116, 98, 111, 100, 121]⟩, .string ⟨#[116, 104, 101, 97, 100]⟩, .string ⟨#[116, 114]⟩, .string ⟨#[116, 100]⟩, .string ⟨#[116, 104]⟩] 9)) w.heap.size #[.slice none 0 0, .slice none 0 0, .int .i64 0, .int .i64 0] 30) := hide ((Blk.new w _ _).alloc _)
  have HNC : Hid (∀ k, k < 26 → ((w.alloc (Obj.cells #[.slice none 0 0, .slice none 0 0, .int .i64 0, .int .i64 0] 30)).alloc (Obj.cells #[.string ⟨#[112]⟩, .string ⟨#[100, 105, 118]⟩, .string ⟨#[104, 49]⟩, .string ⟨#[104, 50]⟩, .string ⟨#[104, 51]⟩, .string ⟨#[117, 108]⟩, .string ⟨#[111, 108]⟩, .string ⟨#[108, 105]⟩, .string ⟨#[98, 108, 111, 99, 107, 113, 117, 111, 116, 101]⟩, .string ⟨#[112, 114, 101]⟩, .string ⟨#[98]⟩, .string ⟨#[105]⟩, .string ⟨#[101, 109]⟩, .string ⟨#[115, 116, 114, 111, 110, 103]⟩, .string ⟨#[117]⟩, .string ⟨#[99, 111, 100, 101]⟩, .string ⟨#[98, 114]⟩, .string ⟨#[104, 114]⟩, .string ⟨#[115, 112, 97, 110]⟩, .string ⟨#[116, 97, 98, 108, 101]⟩, .string ⟨#[99, 97, 112, 116, 105, 111, 110]⟩, .string ⟨#[116, 98, 111, 100, 121]⟩, .string ⟨#[116, 104, 101, 97, 100]⟩, .string ⟨#[116, 114]⟩, .string ⟨#[116, 100]⟩, .string ⟨#[116, 104]⟩] 9)).cell? ⟨w.heap.size + 1, 0 + k, none⟩ = some (.string (bareNs.getD k ByteArray.empty))) := hide (fun k hk => by
    have := bare_cells (w.alloc (Obj.cells #[.slice none 0 0, .slice none 0 0, .int .i64 0, .int .i64 0] 30)) 9 k hk
    simpa using this)
  have HB0 := hide hb0
  have HSZ : Hid (((w.alloc (Obj.cells #[.slice none 0 0, .slice none 0 0, .int .i64 0, .int .i64 0] 30)).alloc (Obj.cells #[.string ⟨#[112]⟩, .string ⟨#[100, 105, 118]⟩, .string ⟨#[104, 49]⟩, .string ⟨#[104, 50]⟩, .string ⟨#[104, 51]⟩, .string ⟨#[117, 108]⟩, .string ⟨#[111, 108]⟩, .string ⟨#[108, 105]⟩, .string ⟨#[98, 108, 111, 99, 107, 113, 117, 111, 116, 101]⟩, .string ⟨#[112, 114, 101]⟩, .string ⟨#[98]⟩, .string ⟨#[105]⟩, .string ⟨#[101, 109]⟩, .string ⟨#[115, 116, 114, 111, 110, 103]⟩, .string ⟨#[117]⟩, .string ⟨#[99, 111, 100, 101]⟩, .string ⟨#[98, 114]⟩, .string ⟨#[104, 114]⟩, .string ⟨#[115, 112, 97, 110]⟩, .string ⟨#[116, 97, 98, 108, 101]⟩, .string ⟨#[99, 97, 112, 116, 105, 111, 110]⟩, .string ⟨#[116, 98, 111, 100, 121]⟩, .string ⟨#[116, 104, 101, 97, 100]⟩, .string ⟨#[116, 114]⟩, .string ⟨#[116, 100]⟩, .string ⟨#[116, 104]⟩] 9)).heap.size = w.heap.size + 2) := hide (by simp)
  clear hb0
  go_enter Try.func11, Try.ntmps11
  go_wp2
  generalize ((w.alloc (Obj.cells #[.slice none 0 0, .slice none 0 0, .int .i64 0, .int .i64 0] 30)).alloc (Obj.cells #[.string ⟨#[112]⟩, .string ⟨#[100, 105, 118]⟩, .string ⟨#[104, 49]⟩, .string ⟨#[104, 50]⟩, .string ⟨#[104, 51]⟩, .string ⟨#[117, 108]⟩, .string ⟨#[111, 108]⟩, .string ⟨#[108, 105]⟩, .string ⟨#[98, 108, 111, 99, 107, 113, 117, 111, 116, 101]⟩, .string ⟨#[112, 114, 101]⟩, .string ⟨#[98]⟩, .string ⟨#[105]⟩, .string ⟨#[101, 109]⟩, .string ⟨#[115, 116, 114, 111, 110, 103]⟩, .string ⟨#[117]⟩, .string ⟨#[99, 111, 100, 101]⟩, .string ⟨#[98, 114]⟩, .string ⟨#[104, 114]⟩, .string ⟨#[115, 112, 97, 110]⟩, .string ⟨#[116, 97, 98, 108, 101]⟩, .string ⟨#[99, 97, 112, 116, 105, 111, 110]⟩, .string ⟨#[116, 98, 111, 100, 121]⟩, .string ⟨#[116, 104, 101, 97, 100]⟩, .string ⟨#[116, 114]⟩, .string ⟨#[116, 100]⟩, .string ⟨#[116, 104]⟩] 9)) = w1 at *
  go_loopw [1, 6] (fun x i wr => ∃ (k : Nat) (vn : Value), k ≤ 26 ∧ i = .int .i64 k ∧ vn = x ∧ wr.ownsRow w1.heap.size 36 4 vn k (flatR (bareNs.take k)) ∧ Below w1.heap.size w1 wr) (fun _ i _ => 26 - (intOf i).toNat)
  case atStart => exact ⟨0, _, by omega, rfl, rfl, World.ownsRow_nil _ _ _ _, Below.refl _ _⟩
  case round =>
    obtain ⟨k, vn, hk, rfl, rfl, hown, hbw⟩ := hrel
    have hsz := hbw.size
    by_cases hp : k < 26
    · have hpi : (k : Int) < 26 := by omega
      have d0 : wr.cell? ⟨w.heap.size + 1, 0 + k, none⟩ = some (.string (bareNs.getD k ByteArray.empty)) := cell_on hbw (unhide HNC k hp)
      have hnx := hide (take_next bareNs k (by rw [bare_len]; exact hp))
      rw [Nat.zero_add] at d0
      generalize bareNs.getD k ByteArray.empty = nm at *
      go_wp2_with (at_builtin; refine wpList_append_own _ rfl _ _ 28 rfl w1.heap.size 36 i0 (.agg #[.string ⟨#[]⟩, .int .i64 0, .slice none 0 0, .slice none 0 0]) 4 72 Try.underlying28 hi hz0 hz1 hz2 rfl (by decide) _ _ _ rfl (hown.alloc _) ⟨wr.heap.size, 0, none⟩ 1 1 [.string nm, .int .i64 1, .slice none 0 0, .slice none 0 0] rfl rfl ?c1 ?c2 ?c3 ?c4 ?c5 ?_)
      case c1 =>
        intro j u hj
        have e2 : (⟨wr.heap.size, 0, none⟩ : Addr).add j = ⟨wr.heap.size, j, none⟩ := by unfold Addr.add; split <;> simp_all
        rw [e2, (Blk.new wr _ _).cell j]
        simpa using hj
      case c2 => intro u hu; simp at hu; rcases hu with rfl | rfl | rfl | rfl <;> rfl
      case c3 => unfold maxLen; omega
      case c4 => omega
      case c5 => simp; omega
      intro v' w2 hown' hgrow _
      have hbig : Below w1.heap.size w1 w2 := (hbw.alloc hsz _).grown hgrow (by simp; omega) (fun j hj => (hown.lt j hj).1)
      clear hgrow
      go_wp2
      go_roundw
      case rel => exact ⟨k + 1, _, by omega, by go_num, rfl, by rw [unhide hnx, flatR_app]; exact hown', hbig⟩
      case measure => simp [intOf]; omega
    · have hkn : k = 26 := by omega
      have hown2 := hown
      rw [hkn, show bareNs.take 26 = bareNs from rfl] at hown2
      have HO0 := hide hown2
      have HW0 := hide hbw
      obtain ⟨qn, mn, cn, hvn⟩ := slice_of hown
      subst hvn
      clear hown hown2 hbw hsz
      generalize wr = z0 at *
      have N0_0 : Hid (Blk ((z0.alloc (Obj.cells #[.string ⟨#[99, 108, 97, 115, 115]⟩] 9)).alloc (Obj.cells #[.string ⟨#[115, 101, 99, 116, 105, 111, 110]⟩, .int .i64 1, .slice (some ⟨z0.heap.size, 0, none⟩) 1 1, .slice none 0 0] 36)) (z0.heap.size) #[.string ⟨#[99, 108, 97, 115, 115]⟩] 9) := hide ((show Blk (z0.alloc (Obj.cells #[.string ⟨#[99, 108, 97, 115, 115]⟩] 9)) (z0.heap.size) #[.string ⟨#[99, 108, 97, 115, 115]⟩] 9 from (Blk.new _ _ _)).alloc _)
      have NR0 : Hid (Blk ((z0.alloc (Obj.cells #[.string ⟨#[99, 108, 97, 115, 115]⟩] 9)).alloc (Obj.cells #[.string ⟨#[115, 101, 99, 116, 105, 111, 110]⟩, .int .i64 1, .slice (some ⟨z0.heap.size, 0, none⟩) 1 1, .slice none 0 0] 36)) (z0.heap.size + 1) #[.string ⟨#[115, 101, 99, 116, 105, 111, 110]⟩, .int .i64 1, .slice (some ⟨z0.heap.size, 0, none⟩) 1 1, .slice none 0 0] 36) := hide (blk_next (by simp))
      have HA0 : Hid (Below w1.heap.size w1 ((z0.alloc (Obj.cells #[.string ⟨#[99, 108, 97, 115, 115]⟩] 9)).alloc (Obj.cells #[.string ⟨#[115, 101, 99, 116, 105, 111, 110]⟩, .int .i64 1, .slice (some ⟨z0.heap.size, 0, none⟩) 1 1, .slice none 0 0] 36))) := hide (((unhide HW0).alloc ((unhide HW0).size) _).alloc (by have := (unhide HW0).size; simp; omega) _)
      have HQ0 : Hid (World.ownsRow ((z0.alloc (Obj.cells #[.string ⟨#[99, 108, 97, 115, 115]⟩] 9)).alloc (Obj.cells #[.string ⟨#[115, 101, 99, 116, 105, 111, 110]⟩, .int .i64 1, .slice (some ⟨z0.heap.size, 0, none⟩) 1 1, .slice none 0 0] 36)) w1.heap.size 36 4 (.slice qn mn cn) 26 (flatR bareNs)) := hide (((unhide HO0).alloc _).alloc _)
      go_wp2_with (at_builtin; refine wpList_append_own _ rfl _ _ 28 rfl w1.heap.size 36 i0 (.agg #[.string ⟨#[]⟩, .int .i64 0, .slice none 0 0, .slice none 0 0]) 4 72 Try.underlying28 hi hz0 hz1 hz2 rfl (by decide) (.slice qn mn cn) 26 (flatR bareNs) rfl (unhide HQ0) ⟨z0.heap.size + 1, 0, none⟩ 1 1 [.string ⟨#[115, 101, 99, 116, 105, 111, 110]⟩, .int .i64 1, .slice (some ⟨z0.heap.size, 0, none⟩) 1 1, .slice none 0 0] rfl rfl ?d01 ?d02 ?d03 ?d04 ?d05 ?_)
      case d01 =>
        intro j u hj
        have e2 : (⟨z0.heap.size + 1, 0, none⟩ : Addr).add j = ⟨z0.heap.size + 1, j, none⟩ := by unfold Addr.add; split <;> simp_all
        rw [e2, (unhide NR0).cell j]
        simpa using hj
      case d02 => intro u hu; simp at hu; rcases hu with rfl | rfl | rfl | rfl <;> rfl
      case d03 => unfold maxLen; omega
      case d04 => omega
      case d05 => exact (unhide HA0).size
      intro v1 z1 hown1 hgrow1 _
      have G0_0 := hide (blk_own (unhide N0_0) hgrow1 (row_ne (unhide HQ0) (unhide N0_0) (by decide)))
      have HW1 : Hid (Below w1.heap.size w1 z1) := hide ((unhide HA0).grown hgrow1 (unhide HA0).size (fun j hj => ((unhide HQ0).lt j hj).1))
      obtain ⟨q1, m1, c1, hv1⟩ := slice_of hown1
      subst hv1
      have HO1 := hide hown1
      clear hgrow1 hown1 N0_0 NR0 HA0 HQ0 HO0 HW0
      have N1_0 : Hid (Blk (((z1.alloc (Obj.cells #[.string ⟨#[116, 105, 116, 108, 101]⟩] 9)).alloc (Obj.cells #[.string ⟨#[104, 114, 101, 102]⟩] 9)).alloc (Obj.cells #[.string ⟨#[97]⟩, .int .i64 1, .slice (some ⟨z1.heap.size, 0, none⟩) 1 1, .slice (some ⟨z1.heap.size + 1, 0, none⟩) 1 1] 36)) (z1.heap.size) #[.string ⟨#[116, 105, 116, 108, 101]⟩] 9) := hide (((show Blk (z1.alloc (Obj.cells #[.string ⟨#[116, 105, 116, 108, 101]⟩] 9)) (z1.heap.size) #[.string ⟨#[116, 105, 116, 108, 101]⟩] 9 from (Blk.new _ _ _)).alloc _).alloc _)
      have N1_1 : Hid (Blk (((z1.alloc (Obj.cells #[.string ⟨#[116, 105, 116, 108, 101]⟩] 9)).alloc (Obj.cells #[.string ⟨#[104, 114, 101, 102]⟩] 9)).alloc (Obj.cells #[.string ⟨#[97]⟩, .int .i64 1, .slice (some ⟨z1.heap.size, 0, none⟩) 1 1, .slice (some ⟨z1.heap.size + 1, 0, none⟩) 1 1] 36)) (z1.heap.size + 1) #[.string ⟨#[104, 114, 101, 102]⟩] 9) := hide ((show Blk ((z1.alloc (Obj.cells #[.string ⟨#[116, 105, 116, 108, 101]⟩] 9)).alloc (Obj.cells #[.string ⟨#[104, 114, 101, 102]⟩] 9)) (z1.heap.size + 1) #[.string ⟨#[104, 114, 101, 102]⟩] 9 from (blk_next (by simp))).alloc _)
      have NR1 : Hid (Blk (((z1.alloc (Obj.cells #[.string ⟨#[116, 105, 116, 108, 101]⟩] 9)).alloc (Obj.cells #[.string ⟨#[104, 114, 101, 102]⟩] 9)).alloc (Obj.cells #[.string ⟨#[97]⟩, .int .i64 1, .slice (some ⟨z1.heap.size, 0, none⟩) 1 1, .slice (some ⟨z1.heap.size + 1, 0, none⟩) 1 1] 36)) (z1.heap.size + 1 + 1) #[.string ⟨#[97]⟩, .int .i64 1, .slice (some ⟨z1.heap.size, 0, none⟩) 1 1, .slice (some ⟨z1.heap.size + 1, 0, none⟩) 1 1] 36) := hide (blk_next (by simp))
      have HA1 : Hid (Below w1.heap.size w1 (((z1.alloc (Obj.cells #[.string ⟨#[116, 105, 116, 108, 101]⟩] 9)).alloc (Obj.cells #[.string ⟨#[104, 114, 101, 102]⟩] 9)).alloc (Obj.cells #[.string ⟨#[97]⟩, .int .i64 1, .slice (some ⟨z1.heap.size, 0, none⟩) 1 1, .slice (some ⟨z1.heap.size + 1, 0, none⟩) 1 1] 36))) := hide ((((unhide HW1).alloc ((unhide HW1).size) _).alloc (by have := (unhide HW1).size; simp; omega) _).alloc (by have := (unhide HW1).size; simp; omega) _)
      have HQ1 : Hid (World.ownsRow (((z1.alloc (Obj.cells #[.string ⟨#[116, 105, 116, 108, 101]⟩] 9)).alloc (Obj.cells #[.string ⟨#[104, 114, 101, 102]⟩] 9)).alloc (Obj.cells #[.string ⟨#[97]⟩, .int .i64 1, .slice (some ⟨z1.heap.size, 0, none⟩) 1 1, .slice (some ⟨z1.heap.size + 1, 0, none⟩) 1 1] 36)) w1.heap.size 36 4 (.slice q1 m1 c1) 27 (flatR bareNs ++ [.string ⟨#[115, 101, 99, 116, 105, 111, 110]⟩, .int .i64 1, .slice (some ⟨z0.heap.size, 0, none⟩) 1 1, .slice none 0 0])) := hide ((((unhide HO1).alloc _).alloc _).alloc _)
      have E1_G0_0 : Hid (Blk (((z1.alloc (Obj.cells #[.string ⟨#[116, 105, 116, 108, 101]⟩] 9)).alloc (Obj.cells #[.string ⟨#[104, 114, 101, 102]⟩] 9)).alloc (Obj.cells #[.string ⟨#[97]⟩, .int .i64 1, .slice (some ⟨z1.heap.size, 0, none⟩) 1 1, .slice (some ⟨z1.heap.size + 1, 0, none⟩) 1 1] 36)) (z0.heap.size) #[.string ⟨#[99, 108, 97, 115, 115]⟩] 9) := hide ((((unhide G0_0).alloc _).alloc _).alloc _)
      go_wp2_with (at_builtin; refine wpList_append_own _ rfl _ _ 28 rfl w1.heap.size 36 i0 (.agg #[.string ⟨#[]⟩, .int .i64 0, .slice none 0 0, .slice none 0 0]) 4 72 Try.underlying28 hi hz0 hz1 hz2 rfl (by decide) (.slice q1 m1 c1) 27 (flatR bareNs ++ [.string ⟨#[115, 101, 99, 116, 105, 111, 110]⟩, .int .i64 1, .slice (some ⟨z0.heap.size, 0, none⟩) 1 1, .slice none 0 0]) rfl (unhide HQ1) ⟨z1.heap.size + 1 + 1, 0, none⟩ 1 1 [.string ⟨#[97]⟩, .int .i64 1, .slice (some ⟨z1.heap.size, 0, none⟩) 1 1, .slice (some ⟨z1.heap.size + 1, 0, none⟩) 1 1] rfl rfl ?d11 ?d12 ?d13 ?d14 ?d15 ?_)
      case d11 =>
        intro j u hj
        have e2 : (⟨z1.heap.size + 1 + 1, 0, none⟩ : Addr).add j = ⟨z1.heap.size + 1 + 1, j, none⟩ := by unfold Addr.add; split <;> simp_all
        rw [e2, (unhide NR1).cell j]
        simpa using hj
      case d12 => intro u hu; simp at hu; rcases hu with rfl | rfl | rfl | rfl <;> rfl
      case d13 => unfold maxLen; omega
      case d14 => omega
      case d15 => exact (unhide HA1).size
      intro v2 z2 hown2 hgrow2 _
      have F1_G0_0 := hide (blk_own (unhide E1_G0_0) hgrow2 (row_ne (unhide HQ1) (unhide E1_G0_0) (by decide)))
      have G1_0 := hide (blk_own (unhide N1_0) hgrow2 (row_ne (unhide HQ1) (unhide N1_0) (by decide)))
      have G1_1 := hide (blk_own (unhide N1_1) hgrow2 (row_ne (unhide HQ1) (unhide N1_1) (by decide)))
      have HW2 : Hid (Below w1.heap.size w1 z2) := hide ((unhide HA1).grown hgrow2 (unhide HA1).size (fun j hj => ((unhide HQ1).lt j hj).1))
      obtain ⟨q2, m2, c2, hv2⟩ := slice_of hown2
      subst hv2
      have HO2 := hide hown2
      clear hgrow2 hown2 N1_0 N1_1 NR1 HA1 HQ1 HO1 HW1 E1_G0_0 G0_0
      have N2_0 : Hid (Blk (((z2.alloc (Obj.cells #[.string ⟨#[97, 108, 116]⟩] 9)).alloc (Obj.cells #[.string ⟨#[115, 114, 99]⟩] 9)).alloc (Obj.cells #[.string ⟨#[105, 109, 103]⟩, .int .i64 1, .slice (some ⟨z2.heap.size, 0, none⟩) 1 1, .slice (some ⟨z2.heap.size + 1, 0, none⟩) 1 1] 36)) (z2.heap.size) #[.string ⟨#[97, 108, 116]⟩] 9) := hide (((show Blk (z2.alloc (Obj.cells #[.string ⟨#[97, 108, 116]⟩] 9)) (z2.heap.size) #[.string ⟨#[97, 108, 116]⟩] 9 from (Blk.new _ _ _)).alloc _).alloc _)
      have N2_1 : Hid (Blk (((z2.alloc (Obj.cells #[.string ⟨#[97, 108, 116]⟩] 9)).alloc (Obj.cells #[.string ⟨#[115, 114, 99]⟩] 9)).alloc (Obj.cells #[.string ⟨#[105, 109, 103]⟩, .int .i64 1, .slice (some ⟨z2.heap.size, 0, none⟩) 1 1, .slice (some ⟨z2.heap.size + 1, 0, none⟩) 1 1] 36)) (z2.heap.size + 1) #[.string ⟨#[115, 114, 99]⟩] 9) := hide ((show Blk ((z2.alloc (Obj.cells #[.string ⟨#[97, 108, 116]⟩] 9)).alloc (Obj.cells #[.string ⟨#[115, 114, 99]⟩] 9)) (z2.heap.size + 1) #[.string ⟨#[115, 114, 99]⟩] 9 from (blk_next (by simp))).alloc _)
      have NR2 : Hid (Blk (((z2.alloc (Obj.cells #[.string ⟨#[97, 108, 116]⟩] 9)).alloc (Obj.cells #[.string ⟨#[115, 114, 99]⟩] 9)).alloc (Obj.cells #[.string ⟨#[105, 109, 103]⟩, .int .i64 1, .slice (some ⟨z2.heap.size, 0, none⟩) 1 1, .slice (some ⟨z2.heap.size + 1, 0, none⟩) 1 1] 36)) (z2.heap.size + 1 + 1) #[.string ⟨#[105, 109, 103]⟩, .int .i64 1, .slice (some ⟨z2.heap.size, 0, none⟩) 1 1, .slice (some ⟨z2.heap.size + 1, 0, none⟩) 1 1] 36) := hide (blk_next (by simp))
      have HA2 : Hid (Below w1.heap.size w1 (((z2.alloc (Obj.cells #[.string ⟨#[97, 108, 116]⟩] 9)).alloc (Obj.cells #[.string ⟨#[115, 114, 99]⟩] 9)).alloc (Obj.cells #[.string ⟨#[105, 109, 103]⟩, .int .i64 1, .slice (some ⟨z2.heap.size, 0, none⟩) 1 1, .slice (some ⟨z2.heap.size + 1, 0, none⟩) 1 1] 36))) := hide ((((unhide HW2).alloc ((unhide HW2).size) _).alloc (by have := (unhide HW2).size; simp; omega) _).alloc (by have := (unhide HW2).size; simp; omega) _)
      have HQ2 : Hid (World.ownsRow (((z2.alloc (Obj.cells #[.string ⟨#[97, 108, 116]⟩] 9)).alloc (Obj.cells #[.string ⟨#[115, 114, 99]⟩] 9)).alloc (Obj.cells #[.string ⟨#[105, 109, 103]⟩, .int .i64 1, .slice (some ⟨z2.heap.size, 0, none⟩) 1 1, .slice (some ⟨z2.heap.size + 1, 0, none⟩) 1 1] 36)) w1.heap.size 36 4 (.slice q2 m2 c2) 28 (flatR bareNs ++ [.string ⟨#[115, 101, 99, 116, 105, 111, 110]⟩, .int .i64 1, .slice (some ⟨z0.heap.size, 0, none⟩) 1 1, .slice none 0 0] ++ [.string ⟨#[97]⟩, .int .i64 1, .slice (some ⟨z1.heap.size, 0, none⟩) 1 1, .slice (some ⟨z1.heap.size + 1, 0, none⟩) 1 1])) := hide ((((unhide HO2).alloc _).alloc _).alloc _)
      have E2_F1_G0_0 : Hid (Blk (((z2.alloc (Obj.cells #[.string ⟨#[97, 108, 116]⟩] 9)).alloc (Obj.cells #[.string ⟨#[115, 114, 99]⟩] 9)).alloc (Obj.cells #[.string ⟨#[105, 109, 103]⟩, .int .i64 1, .slice (some ⟨z2.heap.size, 0, none⟩) 1 1, .slice (some ⟨z2.heap.size + 1, 0, none⟩) 1 1] 36)) (z0.heap.size) #[.string ⟨#[99, 108, 97, 115, 115]⟩] 9) := hide ((((unhide F1_G0_0).alloc _).alloc _).alloc _)
      have E2_G1_0 : Hid (Blk (((z2.alloc (Obj.cells #[.string ⟨#[97, 108, 116]⟩] 9)).alloc (Obj.cells #[.string ⟨#[115, 114, 99]⟩] 9)).alloc (Obj.cells #[.string ⟨#[105, 109, 103]⟩, .int .i64 1, .slice (some ⟨z2.heap.size, 0, none⟩) 1 1, .slice (some ⟨z2.heap.size + 1, 0, none⟩) 1 1] 36)) (z1.heap.size) #[.string ⟨#[116, 105, 116, 108, 101]⟩] 9) := hide ((((unhide G1_0).alloc _).alloc _).alloc _)
      have E2_G1_1 : Hid (Blk (((z2.alloc (Obj.cells #[.string ⟨#[97, 108, 116]⟩] 9)).alloc (Obj.cells #[.string ⟨#[115, 114, 99]⟩] 9)).alloc (Obj.cells #[.string ⟨#[105, 109, 103]⟩, .int .i64 1, .slice (some ⟨z2.heap.size, 0, none⟩) 1 1, .slice (some ⟨z2.heap.size + 1, 0, none⟩) 1 1] 36)) (z1.heap.size + 1) #[.string ⟨#[104, 114, 101, 102]⟩] 9) := hide ((((unhide G1_1).alloc _).alloc _).alloc _)
      go_wp2_with (at_builtin; refine wpList_append_own _ rfl _ _ 28 rfl w1.heap.size 36 i0 (.agg #[.string ⟨#[]⟩, .int .i64 0, .slice none 0 0, .slice none 0 0]) 4 72 Try.underlying28 hi hz0 hz1 hz2 rfl (by decide) (.slice q2 m2 c2) 28 (flatR bareNs ++ [.string ⟨#[115, 101, 99, 116, 105, 111, 110]⟩, .int .i64 1, .slice (some ⟨z0.heap.size, 0, none⟩) 1 1, .slice none 0 0] ++ [.string ⟨#[97]⟩, .int .i64 1, .slice (some ⟨z1.heap.size, 0, none⟩) 1 1, .slice (some ⟨z1.heap.size + 1, 0, none⟩) 1 1]) rfl (unhide HQ2) ⟨z2.heap.size + 1 + 1, 0, none⟩ 1 1 [.string ⟨#[105, 109, 103]⟩, .int .i64 1, .slice (some ⟨z2.heap.size, 0, none⟩) 1 1, .slice (some ⟨z2.heap.size + 1, 0, none⟩) 1 1] rfl rfl ?d21 ?d22 ?d23 ?d24 ?d25 ?_)
      case d21 =>
        intro j u hj
        have e2 : (⟨z2.heap.size + 1 + 1, 0, none⟩ : Addr).add j = ⟨z2.heap.size + 1 + 1, j, none⟩ := by unfold Addr.add; split <;> simp_all
        rw [e2, (unhide NR2).cell j]
        simpa using hj
      case d22 => intro u hu; simp at hu; rcases hu with rfl | rfl | rfl | rfl <;> rfl
      case d23 => unfold maxLen; omega
      case d24 => omega
      case d25 => exact (unhide HA2).size
      intro v3 z3 hown3 hgrow3 _
      have F2_F1_G0_0 := hide (blk_own (unhide E2_F1_G0_0) hgrow3 (row_ne (unhide HQ2) (unhide E2_F1_G0_0) (by decide)))
      have F2_G1_0 := hide (blk_own (unhide E2_G1_0) hgrow3 (row_ne (unhide HQ2) (unhide E2_G1_0) (by decide)))
      have F2_G1_1 := hide (blk_own (unhide E2_G1_1) hgrow3 (row_ne (unhide HQ2) (unhide E2_G1_1) (by decide)))
      have G2_0 := hide (blk_own (unhide N2_0) hgrow3 (row_ne (unhide HQ2) (unhide N2_0) (by decide)))
      have G2_1 := hide (blk_own (unhide N2_1) hgrow3 (row_ne (unhide HQ2) (unhide N2_1) (by decide)))
      have HW3 : Hid (Below w1.heap.size w1 z3) := hide ((unhide HA2).grown hgrow3 (unhide HA2).size (fun j hj => ((unhide HQ2).lt j hj).1))
      obtain ⟨q3, m3, c3, hv3⟩ := slice_of hown3
      subst hv3
      have HO3 := hide hown3
      clear hgrow3 hown3 N2_0 N2_1 NR2 HA2 HQ2 HO2 HW2 E2_F1_G0_0 E2_G1_0 E2_G1_1 F1_G0_0 G1_0 G1_1
      have NR3 : Hid (Blk (z3.alloc (Obj.cells #[.string ⟨#[115, 99, 114, 105, 112, 116]⟩, .int .i64 3, .slice none 0 0, .slice none 0 0] 36)) (z3.heap.size) #[.string ⟨#[115, 99, 114, 105, 112, 116]⟩, .int .i64 3, .slice none 0 0, .slice none 0 0] 36) := hide (Blk.new _ _ _)
      have HA3 : Hid (Below w1.heap.size w1 (z3.alloc (Obj.cells #[.string ⟨#[115, 99, 114, 105, 112, 116]⟩, .int .i64 3, .slice none 0 0, .slice none 0 0] 36))) := hide ((unhide HW3).alloc ((unhide HW3).size) _)
      have HQ3 : Hid (World.ownsRow (z3.alloc (Obj.cells #[.string ⟨#[115, 99, 114, 105, 112, 116]⟩, .int .i64 3, .slice none 0 0, .slice none 0 0] 36)) w1.heap.size 36 4 (.slice q3 m3 c3) 29 (flatR bareNs ++ [.string ⟨#[115, 101, 99, 116, 105, 111, 110]⟩, .int .i64 1, .slice (some ⟨z0.heap.size, 0, none⟩) 1 1, .slice none 0 0] ++ [.string ⟨#[97]⟩, .int .i64 1, .slice (some ⟨z1.heap.size, 0, none⟩) 1 1, .slice (some ⟨z1.heap.size + 1, 0, none⟩) 1 1] ++ [.string ⟨#[105, 109, 103]⟩, .int .i64 1, .slice (some ⟨z2.heap.size, 0, none⟩) 1 1, .slice (some ⟨z2.heap.size + 1, 0, none⟩) 1 1])) := hide ((unhide HO3).alloc _)
      have E3_F2_F1_G0_0 : Hid (Blk (z3.alloc (Obj.cells #[.string ⟨#[115, 99, 114, 105, 112, 116]⟩, .int .i64 3, .slice none 0 0, .slice none 0 0] 36)) (z0.heap.size) #[.string ⟨#[99, 108, 97, 115, 115]⟩] 9) := hide ((unhide F2_F1_G0_0).alloc _)
      have E3_F2_G1_0 : Hid (Blk (z3.alloc (Obj.cells #[.string ⟨#[115, 99, 114, 105, 112, 116]⟩, .int .i64 3, .slice none 0 0, .slice none 0 0] 36)) (z1.heap.size) #[.string ⟨#[116, 105, 116, 108, 101]⟩] 9) := hide ((unhide F2_G1_0).alloc _)
      have E3_F2_G1_1 : Hid (Blk (z3.alloc (Obj.cells #[.string ⟨#[115, 99, 114, 105, 112, 116]⟩, .int .i64 3, .slice none 0 0, .slice none 0 0] 36)) (z1.heap.size + 1) #[.string ⟨#[104, 114, 101, 102]⟩] 9) := hide ((unhide F2_G1_1).alloc _)
      have E3_G2_0 : Hid (Blk (z3.alloc (Obj.cells #[.string ⟨#[115, 99, 114, 105, 112, 116]⟩, .int .i64 3, .slice none 0 0, .slice none 0 0] 36)) (z2.heap.size) #[.string ⟨#[97, 108, 116]⟩] 9) := hide ((unhide G2_0).alloc _)
      have E3_G2_1 : Hid (Blk (z3.alloc (Obj.cells #[.string ⟨#[115, 99, 114, 105, 112, 116]⟩, .int .i64 3, .slice none 0 0, .slice none 0 0] 36)) (z2.heap.size + 1) #[.string ⟨#[115, 114, 99]⟩] 9) := hide ((unhide G2_1).alloc _)
      go_wp2_with (at_builtin; refine wpList_append_own _ rfl _ _ 28 rfl w1.heap.size 36 i0 (.agg #[.string ⟨#[]⟩, .int .i64 0, .slice none 0 0, .slice none 0 0]) 4 72 Try.underlying28 hi hz0 hz1 hz2 rfl (by decide) (.slice q3 m3 c3) 29 (flatR bareNs ++ [.string ⟨#[115, 101, 99, 116, 105, 111, 110]⟩, .int .i64 1, .slice (some ⟨z0.heap.size, 0, none⟩) 1 1, .slice none 0 0] ++ [.string ⟨#[97]⟩, .int .i64 1, .slice (some ⟨z1.heap.size, 0, none⟩) 1 1, .slice (some ⟨z1.heap.size + 1, 0, none⟩) 1 1] ++ [.string ⟨#[105, 109, 103]⟩, .int .i64 1, .slice (some ⟨z2.heap.size, 0, none⟩) 1 1, .slice (some ⟨z2.heap.size + 1, 0, none⟩) 1 1]) rfl (unhide HQ3) ⟨z3.heap.size, 0, none⟩ 1 1 [.string ⟨#[115, 99, 114, 105, 112, 116]⟩, .int .i64 3, .slice none 0 0, .slice none 0 0] rfl rfl ?d31 ?d32 ?d33 ?d34 ?d35 ?_)
      case d31 =>
        intro j u hj
        have e2 : (⟨z3.heap.size, 0, none⟩ : Addr).add j = ⟨z3.heap.size, j, none⟩ := by unfold Addr.add; split <;> simp_all
        rw [e2, (unhide NR3).cell j]
        simpa using hj
      case d32 => intro u hu; simp at hu; rcases hu with rfl | rfl | rfl | rfl <;> rfl
      case d33 => unfold maxLen; omega
      case d34 => omega
      case d35 => exact (unhide HA3).size
      intro v4 z4 hown4 hgrow4 _
      have F3_F2_F1_G0_0 := hide (blk_own (unhide E3_F2_F1_G0_0) hgrow4 (row_ne (unhide HQ3) (unhide E3_F2_F1_G0_0) (by decide)))
      have F3_F2_G1_0 := hide (blk_own (unhide E3_F2_G1_0) hgrow4 (row_ne (unhide HQ3) (unhide E3_F2_G1_0) (by decide)))
      have F3_F2_G1_1 := hide (blk_own (unhide E3_F2_G1_1) hgrow4 (row_ne (unhide HQ3) (unhide E3_F2_G1_1) (by decide)))
      have F3_G2_0 := hide (blk_own (unhide E3_G2_0) hgrow4 (row_ne (unhide HQ3) (unhide E3_G2_0) (by decide)))
      have F3_G2_1 := hide (blk_own (unhide E3_G2_1) hgrow4 (row_ne (unhide HQ3) (unhide E3_G2_1) (by decide)))
      have HW4 : Hid (Below w1.heap.size w1 z4) := hide ((unhide HA3).grown hgrow4 (unhide HA3).size (fun j hj => ((unhide HQ3).lt j hj).1))
      obtain ⟨q4, m4, c4, hv4⟩ := slice_of hown4
      subst hv4
      have HO4 := hide hown4
      clear hgrow4 hown4 NR3 HA3 HQ3 HO3 HW3 E3_F2_F1_G0_0 E3_F2_G1_0 E3_F2_G1_1 E3_G2_0 E3_G2_1 F2_F1_G0_0 F2_G1_0 F2_G1_1 G2_0 G2_1
      have NR4 : Hid (Blk (z4.alloc (Obj.cells #[.string ⟨#[115, 116, 121, 108, 101]⟩, .int .i64 3, .slice none 0 0, .slice none 0 0] 36)) (z4.heap.size) #[.string ⟨#[115, 116, 121, 108, 101]⟩, .int .i64 3, .slice none 0 0, .slice none 0 0] 36) := hide (Blk.new _ _ _)
      have HA4 : Hid (Below w1.heap.size w1 (z4.alloc (Obj.cells #[.string ⟨#[115, 116, 121, 108, 101]⟩, .int .i64 3, .slice none 0 0, .slice none 0 0] 36))) := hide ((unhide HW4).alloc ((unhide HW4).size) _)
      have HQ4 : Hid (World.ownsRow (z4.alloc (Obj.cells #[.string ⟨#[115, 116, 121, 108, 101]⟩, .int .i64 3, .slice none 0 0, .slice none 0 0] 36)) w1.heap.size 36 4 (.slice q4 m4 c4) 30 (flatR bareNs ++ [.string ⟨#[115, 101, 99, 116, 105, 111, 110]⟩, .int .i64 1, .slice (some ⟨z0.heap.size, 0, none⟩) 1 1, .slice none 0 0] ++ [.string ⟨#[97]⟩, .int .i64 1, .slice (some ⟨z1.heap.size, 0, none⟩) 1 1, .slice (some ⟨z1.heap.size + 1, 0, none⟩) 1 1] ++ [.string ⟨#[105, 109, 103]⟩, .int .i64 1, .slice (some ⟨z2.heap.size, 0, none⟩) 1 1, .slice (some ⟨z2.heap.size + 1, 0, none⟩) 1 1] ++ [.string ⟨#[115, 99, 114, 105, 112, 116]⟩, .int .i64 3, .slice none 0 0, .slice none 0 0])) := hide ((unhide HO4).alloc _)
      have E4_F3_F2_F1_G0_0 : Hid (Blk (z4.alloc (Obj.cells #[.string ⟨#[115, 116, 121, 108, 101]⟩, .int .i64 3, .slice none 0 0, .slice none 0 0] 36)) (z0.heap.size) #[.string ⟨#[99, 108, 97, 115, 115]⟩] 9) := hide ((unhide F3_F2_F1_G0_0).alloc _)
      have E4_F3_F2_G1_0 : Hid (Blk (z4.alloc (Obj.cells #[.string ⟨#[115, 116, 121, 108, 101]⟩, .int .i64 3, .slice none 0 0, .slice none 0 0] 36)) (z1.heap.size) #[.string ⟨#[116, 105, 116, 108, 101]⟩] 9) := hide ((unhide F3_F2_G1_0).alloc _)
      have E4_F3_F2_G1_1 : Hid (Blk (z4.alloc (Obj.cells #[.string ⟨#[115, 116, 121, 108, 101]⟩, .int .i64 3, .slice none 0 0, .slice none 0 0] 36)) (z1.heap.size + 1) #[.string ⟨#[104, 114, 101, 102]⟩] 9) := hide ((unhide F3_F2_G1_1).alloc _)
      have E4_F3_G2_0 : Hid (Blk (z4.alloc (Obj.cells #[.string ⟨#[115, 116, 121, 108, 101]⟩, .int .i64 3, .slice none 0 0, .slice none 0 0] 36)) (z2.heap.size) #[.string ⟨#[97, 108, 116]⟩] 9) := hide ((unhide F3_G2_0).alloc _)
      have E4_F3_G2_1 : Hid (Blk (z4.alloc (Obj.cells #[.string ⟨#[115, 116, 121, 108, 101]⟩, .int .i64 3, .slice none 0 0, .slice none 0 0] 36)) (z2.heap.size + 1) #[.string ⟨#[115, 114, 99]⟩] 9) := hide ((unhide F3_G2_1).alloc _)
      go_wp2_with (at_builtin; refine wpList_append_own _ rfl _ _ 28 rfl w1.heap.size 36 i0 (.agg #[.string ⟨#[]⟩, .int .i64 0, .slice none 0 0, .slice none 0 0]) 4 72 Try.underlying28 hi hz0 hz1 hz2 rfl (by decide) (.slice q4 m4 c4) 30 (flatR bareNs ++ [.string ⟨#[115, 101, 99, 116, 105, 111, 110]⟩, .int .i64 1, .slice (some ⟨z0.heap.size, 0, none⟩) 1 1, .slice none 0 0] ++ [.string ⟨#[97]⟩, .int .i64 1, .slice (some ⟨z1.heap.size, 0, none⟩) 1 1, .slice (some ⟨z1.heap.size + 1, 0, none⟩) 1 1] ++ [.string ⟨#[105, 109, 103]⟩, .int .i64 1, .slice (some ⟨z2.heap.size, 0, none⟩) 1 1, .slice (some ⟨z2.heap.size + 1, 0, none⟩) 1 1] ++ [.string ⟨#[115, 99, 114, 105, 112, 116]⟩, .int .i64 3, .slice none 0 0, .slice none 0 0]) rfl (unhide HQ4) ⟨z4.heap.size, 0, none⟩ 1 1 [.string ⟨#[115, 116, 121, 108, 101]⟩, .int .i64 3, .slice none 0 0, .slice none 0 0] rfl rfl ?d41 ?d42 ?d43 ?d44 ?d45 ?_)
      case d41 =>
        intro j u hj
        have e2 : (⟨z4.heap.size, 0, none⟩ : Addr).add j = ⟨z4.heap.size, j, none⟩ := by unfold Addr.add; split <;> simp_all
        rw [e2, (unhide NR4).cell j]
        simpa using hj
      case d42 => intro u hu; simp at hu; rcases hu with rfl | rfl | rfl | rfl <;> rfl
      case d43 => unfold maxLen; omega
      case d44 => omega
      case d45 => exact (unhide HA4).size
      intro v5 z5 hown5 hgrow5 _
      have F4_F3_F2_F1_G0_0 := hide (blk_own (unhide E4_F3_F2_F1_G0_0) hgrow5 (row_ne (unhide HQ4) (unhide E4_F3_F2_F1_G0_0) (by decide)))
      have F4_F3_F2_G1_0 := hide (blk_own (unhide E4_F3_F2_G1_0) hgrow5 (row_ne (unhide HQ4) (unhide E4_F3_F2_G1_0) (by decide)))
      have F4_F3_F2_G1_1 := hide (blk_own (unhide E4_F3_F2_G1_1) hgrow5 (row_ne (unhide HQ4) (unhide E4_F3_F2_G1_1) (by decide)))
      have F4_F3_G2_0 := hide (blk_own (unhide E4_F3_G2_0) hgrow5 (row_ne (unhide HQ4) (unhide E4_F3_G2_0) (by decide)))
      have F4_F3_G2_1 := hide (blk_own (unhide E4_F3_G2_1) hgrow5 (row_ne (unhide HQ4) (unhide E4_F3_G2_1) (by decide)))
      have HW5 : Hid (Below w1.heap.size w1 z5) := hide ((unhide HA4).grown hgrow5 (unhide HA4).size (fun j hj => ((unhide HQ4).lt j hj).1))
      obtain ⟨q5, m5, c5, hv5⟩ := slice_of hown5
      subst hv5
      have HO5 := hide hown5
      clear hgrow5 hown5 NR4 HA4 HQ4 HO4 HW4 E4_F3_F2_F1_G0_0 E4_F3_F2_G1_0 E4_F3_F2_G1_1 E4_F3_G2_0 E4_F3_G2_1 F3_F2_F1_G0_0 F3_F2_G1_0 F3_F2_G1_1 F3_G2_0 F3_G2_1
      have hown6 : World.ownsRow z5 w1.heap.size 36 4 (.slice q5 m5 c5) 31 (flatR bareNs ++ [.string ⟨#[115, 101, 99, 116, 105, 111, 110]⟩, .int .i64 1, .slice (some ⟨z0.heap.size, 0, none⟩) 1 1, .slice none 0 0, .string ⟨#[97]⟩, .int .i64 1, .slice (some ⟨z1.heap.size, 0, none⟩) 1 1, .slice (some ⟨z1.heap.size + 1, 0, none⟩) 1 1, .string ⟨#[105, 109, 103]⟩, .int .i64 1, .slice (some ⟨z2.heap.size, 0, none⟩) 1 1, .slice (some ⟨z2.heap.size + 1, 0, none⟩) 1 1, .string ⟨#[115, 99, 114, 105, 112, 116]⟩, .int .i64 3, .slice none 0 0, .slice none 0 0, .string ⟨#[115, 116, 121, 108, 101]⟩, .int .i64 3, .slice none 0 0, .slice none 0 0]) := by first | exact unhide HO5 | simpa only [List.append_assoc, List.cons_append, List.nil_append] using unhide HO5
      obtain ⟨g3, cp3, hv3, hg3a, hg3, hc3⟩ := row_cell hown6 (by omega)
      cases hv3
      have KR3 := hide ((unhide KR).below (unhide HW5) (by have := unhide HSZ; omega))
      have HC3 := hide hc3
      have HBw : Hid (Below w.heap.size w z5) := hide ((unhide HB0).trans ((unhide HW5).mono (by have := unhide HSZ; omega)))
      have HGW : Hid (w.heap.size < g3) := hide (by have := unhide HSZ; omega)
      clear hown6 hc3 HO5
      have hNE : ∀ b vs, Blk z5 b vs 9 → b ≠ w.heap.size := fun b vs hb e => by
        subst e
        have h5 := hb.symm.trans (unhide KR3)
        simp at h5
      have HNE := hide hNE
      clear hNE
      have x0 : z5.cell? ⟨w.heap.size, 0, none⟩ = some (.slice none 0 0) := (unhide KR3).cell 0
      have x1 : z5.cell? ⟨w.heap.size, 1, none⟩ = some (.slice none 0 0) := (unhide KR3).cell 1
      have x2 : z5.cell? ⟨w.heap.size, 2, none⟩ = some (.int .i64 0) := (unhide KR3).cell 2
      have x3 : z5.cell? ⟨w.heap.size, 3, none⟩ = some (.int .i64 0) := (unhide KR3).cell 3
      have y0 := (unhide KR3).frozen 0
      have y1 := (unhide KR3).frozen 1
      have y2 := (unhide KR3).frozen 2
      have y3 := (unhide KR3).frozen 3
      have hrw3 : w.heap.size < z5.heap.size := (unhide KR3).lt
      go_wp2
      have kk := (((((unhide KR3).set 0 (by simp) (.slice (some ⟨g3, 0, none⟩) 31 c5)).set 1 (by simp) (.slice (some ⟨z5.heap.size, 0, none⟩) 3 3)).set 2 (by simp) (.int .i64 2)).set 3 (by simp) (.int .i64 3)).alloc (Obj.cells #[.string ⟨#[104, 116, 116, 112]⟩, .string ⟨#[104, 116, 116, 112, 115]⟩, .string ⟨#[109, 97, 105, 108, 116, 111]⟩] 9)
      have dd0 := kk.cell 0
      have dd1 := kk.cell 1
      have dd2 := kk.cell 2
      have dd3 := kk.cell 3
      refine bodyPost_ret (v := .agg #[.slice (some ⟨g3, 0, none⟩) 31 c5, .slice (some ⟨z5.heap.size, 0, none⟩) 3 3, .int .i64 2, .int .i64 3]) (by simp [results, Try.results11, go_sem, dd0, dd1, dd2, dd3]) rfl ?_
      have hcz : Cz w.heap.size z5 ((((z5.setCell ⟨w.heap.size, 0, none⟩ (.slice (some ⟨g3, 0, none⟩) 31 c5)).setCell ⟨w.heap.size, 1, none⟩ (.slice (some ⟨z5.heap.size, 0, none⟩) 3 3)).setCell ⟨w.heap.size, 2, none⟩ (.int .i64 2)).setCell ⟨w.heap.size, 3, none⟩ (.int .i64 3)) := ((((Cz.refl _ _).set _).set _).set _).set _
      have hsz4 : ((((z5.setCell ⟨w.heap.size, 0, none⟩ (.slice (some ⟨g3, 0, none⟩) 31 c5)).setCell ⟨w.heap.size, 1, none⟩ (.slice (some ⟨z5.heap.size, 0, none⟩) 3 3)).setCell ⟨w.heap.size, 2, none⟩ (.int .i64 2)).setCell ⟨w.heap.size, 3, none⟩ (.int .i64 3)).heap.size = z5.heap.size := by simp
      refine ⟨⟨_, rfl, _, _, rfl, ⟨by decide, some ⟨g3, 0, none⟩, c5, rfl, fun _ => ⟨g3, 0, rfl, plain_at (b0 := (z0.heap.size)) (b1 := (z1.heap.size)) (b2 := (z1.heap.size + 1)) (b3 := (z2.heap.size)) (b4 := (z2.heap.size + 1)) ?_ ?_ ?_ ?_ ?_ ?_⟩⟩, ⟨by decide, _, 3, rfl, fun _ => ⟨z5.heap.size, 0, rfl, ?_⟩⟩⟩, ?_⟩
      · intro j u hj
        have := unhide HC3 j u hj
        have h2 := (cell_same (hcz.2 g3 hg3 (by have := unhide HGW; omega)) (o := j)).trans this
        exact cell_on ((Below.refl _ _).alloc (Nat.le_refl _) _) h2
      · exact (hcz.blk (unhide F4_F3_F2_F1_G0_0) (unhide HNE _ _ (unhide F4_F3_F2_F1_G0_0))).alloc _
      · exact (hcz.blk (unhide F4_F3_F2_G1_0) (unhide HNE _ _ (unhide F4_F3_F2_G1_0))).alloc _
      · exact (hcz.blk (unhide F4_F3_F2_G1_1) (unhide HNE _ _ (unhide F4_F3_F2_G1_1))).alloc _
      · exact (hcz.blk (unhide F4_F3_G2_0) (unhide HNE _ _ (unhide F4_F3_G2_0))).alloc _
      · exact (hcz.blk (unhide F4_F3_G2_1) (unhide HNE _ _ (unhide F4_F3_G2_1))).alloc _
      · intro i hi
        have hs3 := blk_next (vs := #[.string ⟨#[104, 116, 116, 112]⟩, .string ⟨#[104, 116, 116, 112, 115]⟩, .string ⟨#[109, 97, 105, 108, 116, 111]⟩]) (t := 9) hsz4.symm
        have : i = 0 ∨ i = 1 ∨ i = 2 := by have : i < 3 := hi; omega
        rcases this with rfl | rfl | rfl
        · exact hs3.cell 0
        · exact hs3.cell 1
        · exact hs3.cell 2
      · exact (((((unhide HBw).setCell (by simp) _).setCell (by simp) _).setCell (by simp) _).setCell (by simp) _).alloc (by simp; omega) _
end Go.Proofs.Ytfdhmhdemfbfeaa
