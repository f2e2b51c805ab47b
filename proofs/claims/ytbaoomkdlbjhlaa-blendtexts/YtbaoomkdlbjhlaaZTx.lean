/-
  What 'blend.Texts' does.
-/
import Derived.Test.YtbaoomkdlbjhlaaZPa
import Derived.Test.YtbaoomkdlbjhlaaZAp
import Derived.Test.YtbaoomkdlbjhlaaZJp
import Derived.Laws.EntriesVeiled
namespace Go.Proofs.Ytbaoomkdlbjhlaa
open Go.RowKit
set_option linter.unusedVariables false
set_option linter.unusedSimpArgs false

def SzT (ss : List ByteArray) : Prop := ∀ k, k < ss.length → (tx ss k).size ≤ 9223372036854775807
set_option maxHeartbeats 2000000 in
theorem btexts_any (qo qa qb : Option Addr) (co ca cb : Nat) (o a b : List ByteArray) (w : World) (ho : ArgV w qo co o) (ha : ArgV w qa ca a) (hb : ArgV w qb cb b) (so : SzT o) (sa : SzT a) (sb : SzT b) (lo : o.length ≤ 1000) (la : a.length ≤ 1000) (lb : b.length ≤ 1000) :
    Calls Try.prog 11 #[.slice qo o.length co, .slice qa a.length ca, .slice qb b.length cb] w fun e w' => ∃ u, e = .returned u ∧ PartsV w' w.heap.size u (allP o a b) ∧ Below w.heap.size w w' := by
  have HO := hide ho
  have HA := hide ha
  have HB := hide hb
  have C1 := hide (fun W (hW : Below w.heap.size w W) => mline_any _ _ o a W (ho.below hW).1 (ha.below hW).1 so sa lo la)
  have C2 := hide (fun W (hW : Below w.heap.size w W) => mline_any _ _ o b W (ho.below hW).1 (hb.below hW).1 so sb lo lb)
  have R1 := hide (rise_p _ _ _ (lnP_rise0 (eqT o a) o.length a.length 0 0))
  have R2 := hide (rise_p _ _ _ (lnP_rise0 (eqT o b) o.length b.length 0 0))
  have CP := hide (fun q1 q2 c1 c2 W => parts_any w.heap.size qo qa qb co ca cb o a b q1 q2 c1 c2 (lnP (eqT o a) o.length a.length 0 0) (lnP (eqT o b) o.length b.length 0 0) W)
  unfold LineSaid at C1 C2
  unfold allP
  generalize lnP (eqT o a) o.length a.length 0 0 = L1 at *
  generalize lnP (eqT o b) o.length b.length 0 0 = L2 at *
  have HX := hide (Blk.new w #[.slice qo o.length co, .slice qa a.length ca, .slice qb b.length cb, .func (Fn.func 17) #[] #[]] 48)
  have hbx : Below w.heap.size w (w.alloc (Obj.cells #[.slice qo o.length co, .slice qa a.length ca, .slice qb b.length cb, .func (Fn.func 17) #[] #[]] 48)) := (Below.refl _ _).alloc (Nat.le_refl _) _
  have HBX := hide hbx
  clear ho ha hb hbx
  go_enter Try.func11, Try.ntmps11
  go_wp2_with fail
  refine (unhide C1 _ (unhide HBX)).mono ?_
  rintro e w1 ⟨u1, rfl, hp1, hb1⟩
  have hb01 := tr2 (unhide HBX) hb1
  obtain ⟨q1, c1, rfl, hc1, hm1, hp1'⟩ := pairsV_at hp1
  have HB01 := hide hb01
  have HB1 := hide hb1
  have HP1 := hide hp1'
  clear hp1 hp1' hb1 hb01
  go_wp2_with fail
  refine (unhide C2 _ (unhide HB01)).mono ?_
  rintro e w2 ⟨u2, rfl, hp2, hb2⟩
  obtain ⟨q2, c2, rfl, hc2, hm2, hp2'⟩ := pairsV_at hp2
  have HB02 := hide (tr2 (unhide HB01) hb2)
  have HB12 := hide (tr2 (unhide HB1) hb2)
  have hTV : ThreeV w2 w.heap.size qo qa qb co ca cb o a b := ⟨cellB (unhide HB12) ((unhide HX).cell 0), cellB (unhide HB12) ((unhide HX).cell 1), cellB (unhide HB12) ((unhide HX).cell 2), cellB (unhide HB12) ((unhide HX).cell 3), ((unhide HO).below (unhide HB02)).1, ((unhide HA).below (unhide HB02)).1, ((unhide HB).below (unhide HB02)).1, (unhide HO).2.1, (unhide HA).2.1, (unhide HB).2.1⟩
  have C3 := hide (unhide CP q1 q2 c1 c2 w2 hTV ((unhide HP1).below hb2) hp2' hc1 hc2 (unhide R1) (unhide R2) lo la lb hm1 hm2)
  clear hp2 hp2' hb2 hTV CP C1 C2 HX HO HA HB
  go_wp2_with fail
  refine (unhide C3).mono ?_
  rintro e w3 ⟨u3, rfl, hp3, hb3⟩
  have HP3 := hide hp3
  have HB3 := hide hb3
  clear hp3 hb3
  go_wp2
  go_ret
  exact ⟨_, rfl, owns_mono (unhide HP3) (unhide HB02).size, tr2 (unhide HB02) (unhide HB3)⟩
end Go.Proofs.Ytbaoomkdlbjhlaa
