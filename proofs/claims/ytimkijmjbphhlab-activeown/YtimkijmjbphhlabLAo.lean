/-
  The walk of ActiveOwn.
-/
import Derived.Test.YtimkijmjbphhlabAOl
namespace Go.Proofs.Ytimkijmjbphhlab
open Go.RowKit
set_option linter.unusedVariables false
set_option linter.unusedSimpArgs false

theorem Stk.put {base p b o : Nat} {v : Value} {L : List AEnt} {w : World} (h : Stk base p v L w) (h1 : p ≠ b) (h2 : v.ownBlock ≠ some b) (u : Value) : Stk base p v L (w.setCell ⟨b, o, none⟩ u) :=
  ⟨h.1.away h1 u, ownsRow_away h.2.1 h2 u, h.2.2⟩
set_option maxHeartbeats 8000000 in
set_option maxRecDepth 100000 in
theorem activeOwn_walk (value : ByteArray) (w : World) :
    Calls Try.prog 6 #[.string value] w fun e w' => e = .returned (.bool true) ∧ Below w.heap.size w w' := by
  have CN := hide (new_any w.heap.size w (Nat.le_refl _))
  have AD := hide (fun gA W h hb hA hp => add_own w.heap.size w.heap.size 3 ⟨#[97]⟩ ⟨#[120]⟩ ⟨#[49]⟩ gA W h hb (by decide) hA hp)
  have LA := hide (fun v g c W h hA => last_one w.heap.size w.heap.size v 3 ⟨#[97]⟩ ⟨#[120]⟩ ⟨#[49]⟩ g c W h hA)
  have AL := hide (fun v g c W h hA => all_one w.heap.size w.heap.size v 3 ⟨#[97]⟩ ⟨#[120]⟩ ⟨#[49]⟩ g c W h hA)
  have C4 := hide (fun w => four_any w)
  unfold entV yE at AD
  dsimp only at AD
  unfold ptr at *
  go_enter Try.func6, Try.ntmps6
  go_wp2_with fail
  refine (unhide CN).mono ?_
  rintro e w1 ⟨rfl, hs1, hb1⟩
  have hz1 := hs1.lt
  have al : Below w1.heap.size w1 (w1.alloc (Obj.cells #[.string ⟨#[120]⟩, .string ⟨#[49]⟩] 46)) := (Below.refl _ _).alloc (Nat.le_refl _) _
  have S1 := hide (hs1.later al)
  have B1 := hide (cellC hb1 al)
  have A1 : Hid (At1 (w1.alloc (Obj.cells #[.string ⟨#[120]⟩, .string ⟨#[49]⟩] 46)) w1.heap.size ⟨#[120]⟩ ⟨#[49]⟩) := hide ⟨_, Blk.new w1 _ _, rfl, rfl⟩
  clear hs1 hb1 al
  go_wp2_with fail
  refine (unhide AD w1.heap.size _ (unhide S1) (by simp; omega) (unhide A1) (by omega)).mono ?_
  rintro e w2 ⟨rfl, g2, c2, v2, hs2, hA2, hg2, ht2, hne2, hov2⟩
  have hg2' : w1.heap.size + 1 ≤ g2 := by simpa using hg2
  have kA : At1 w2 w1.heap.size ⟨#[120]⟩ ⟨#[49]⟩ := (unhide A1).tch ht2 (by omega) (by simp)
  have d1 : w2.cell? ⟨w1.heap.size, 1, none⟩ = some (.string ⟨#[49]⟩) := kA.c1
  have f1 : w2.frozen? ⟨w1.heap.size, 1, none⟩ = false := kA.f1
  have hov2' : ∀ k, v2.ownBlock = some k → w1.heap.size + 1 ≤ k := fun k hk => by simpa using hov2 k hk
  have B2 : Below w.heap.size w (w2.setCell ⟨w1.heap.size, 1, none⟩ (.string value)) := ((unhide B1).trans (ht2.below (unhide B1).size (Nat.le_refl _) (fun k hk => by cases hk))).setCell (by simp; omega) _
  have S2 := hs2.put (b := w1.heap.size) (o := 1) (by omega) (fun e => by have := hov2' _ e; omega) (.string value)
  have A2 := hA2.away (b := w1.heap.size) (o := 1) (by omega) (.string value)
  have HB2 := hide B2
  have HS2 := hide S2
  have HA2 := hide A2
  have hg2l := A2.lt
  have hg2m : g2 < w2.heap.size := by simpa [World.setCell] using hg2l
  have HV2 := hide hne2
  have HG2 := hide (show w.heap.size < g2 by omega)
  have HO2 := hide hs2.own
  clear hs2 hA2 hg2 ht2 hov2 hov2' kA B2 S2 A2 hne2
  go_wp2_with fail
  refine (unhide LA v2 g2 c2 _ (unhide HS2) (unhide HA2)).mono ?_
  rintro e w3 ⟨g3, c3, rfl, hA3, hg3, hb3⟩
  have hg3' : w2.heap.size ≤ g3 := by simpa [World.setCell] using hg3
  have S3 := (unhide HS2).later hb3
  have A32 := (unhide HA2).later hb3
  have B3 := cellC (unhide HB2) hb3
  have al : Below w3.heap.size w3 (w3.alloc (Obj.cells #[.bool false, .int .i64 3, .string ⟨#[97]⟩, .slice (some ⟨g3, 0, none⟩) 1 c3] 28)) := (Below.refl _ _).alloc (Nat.le_refl _) _
  have aA3 := hA3.later al
  have d0 : (w3.alloc (Obj.cells #[.bool false, .int .i64 3, .string ⟨#[97]⟩, .slice (some ⟨g3, 0, none⟩) 1 c3] 28)).cell? ⟨g3, 1, none⟩ = some (.string ⟨#[49]⟩) := aA3.c1
  have fz : (w3.alloc (Obj.cells #[.bool false, .int .i64 3, .string ⟨#[97]⟩, .slice (some ⟨g3, 0, none⟩) 1 c3] 28)).frozen? ⟨g3, 1, none⟩ = false := aA3.f1
  have hg3l := hA3.lt
  have e3 : w3.cell? ⟨g3, 1, none⟩ = some (.string ⟨#[49]⟩) := hA3.c1
  have z3 : w3.frozen? ⟨g3, 1, none⟩ = false := hA3.f1
  have S3' := hide (S3.put (b := g3) (o := 1) (by have := (unhide HS2).lt; simp [World.setCell] at this; omega) (fun e => by have := (unhide HO2) _ e; omega) (.string value))
  have A3' := hide (A32.away (b := g3) (o := 1) (by omega) (.string value))
  have hz3 := B3.size
  have HB3 := hide (B3.setCell (p := ⟨g3, 1, none⟩) (by simp; have := unhide HG2; omega) (.string value))
  clear hA3 hg3 hb3 S3 A32 B3 al aA3
  have al : Below (w3.setCell ⟨g3, 1, none⟩ (.string value)).heap.size (w3.setCell ⟨g3, 1, none⟩ (.string value)) ((w3.setCell ⟨g3, 1, none⟩ (.string value)).alloc (Obj.cells #[.bool false, .int .i64 3, .string ⟨#[97]⟩, .slice (some ⟨g3, 0, none⟩) 1 c3] 28)) := (Below.refl _ _).alloc (Nat.le_refl _) _
  have HAL := hide al
  clear al
  go_wp2_with fail
  refine (unhide AL v2 g2 c2 ((w3.setCell ⟨g3, 1, none⟩ (.string value)).alloc (Obj.cells #[.bool false, .int .i64 3, .string ⟨#[97]⟩, .slice (some ⟨g3, 0, none⟩) 1 c3] 28)) ((unhide S3').later (unhide HAL)) ((unhide A3').later (unhide HAL))).mono ?_
  rintro e w4 ⟨r4, d4, g4, c4, rfl, hr4, hA4, hg4, hrg, hb4⟩
  have hg4' : w3.heap.size + 1 ≤ g4 := by simpa [World.setCell] using hg4
  have S4 := ((unhide S3').later (unhide HAL)).later hb4
  have A42 := ((unhide A3').later (unhide HAL)).later hb4
  have B4 := cellC (cellC (unhide HB3) (unhide HAL)) hb4
  have e4 : w4.cell? ⟨g4, 1, none⟩ = some (.string ⟨#[49]⟩) := hA4.c1
  have z4 : w4.frozen? ⟨g4, 1, none⟩ = false := hA4.f1
  have S4' := hide (S4.put (b := g4) (o := 1) (by have := (unhide HS2).lt; simp [World.setCell] at this; omega) (fun e => by have := (unhide HO2) _ e; omega) (.string value))
  have A4' := hide (A42.away (b := g4) (o := 1) (by omega) (.string value))
  have HB4 := hide (B4.setCell (p := ⟨g4, 1, none⟩) (by simp; have := unhide HG2; omega) (.string value))
  clear hA4 hg4 hb4 S4 A42 B4
  go_wp2_with fail
  refine (unhide LA v2 g2 c2 _ (unhide S4') (unhide A4')).mono ?_
  rintro e w5 ⟨g5, c5, rfl, hA5, hg5, hb5⟩
  have B5 := hide (cellC (unhide HB4) hb5)
  have e5 : w5.cell? ⟨g5, 1, none⟩ = some (.string ⟨#[49]⟩) := hA5.c1
  have hg5l := hA5.lt
  clear hA5 hg5 hb5
  go_wp2_with fail
  refine (unhide C4 _).mono ?_
  rintro e w6 ⟨rfl, hb6⟩
  have B6 := hide (cellC ((unhide B5).alloc (unhide B5).size _) hb6)
  clear hb6
  go_wp2
  go_ret
  exact ⟨rfl, unhide B6⟩
end Go.Proofs.Ytimkijmjbphhlab
