/-
  The small case that each statement on stacks asks: a p in a cell of a table.
-/
import Derived.Test.YtdkjdomacilagaaKPu
namespace Go.Proofs.Ytdkjdomacilagaa
open Go.RowKit
set_option linter.unusedVariables false
set_option linter.unusedSimpArgs false

def eHt : Ent := ⟨0, 0, ⟨#[104, 116, 109, 108]⟩⟩
def eTa : Ent := ⟨0, 0, ⟨#[116, 97, 98, 108, 101]⟩⟩
def eTd : Ent := ⟨0, 0, ⟨#[116, 100]⟩⟩
def eP : Ent := ⟨4, 0, ⟨#[112]⟩⟩
theorem tlH : (⟨#[104, 116, 109, 108]⟩ : ByteArray).toList = [104, 116, 109, 108] := by rw [Lib.toList_data]
theorem tlTa : (⟨#[116, 97, 98, 108, 101]⟩ : ByteArray).toList = [116, 97, 98, 108, 101] := by rw [Lib.toList_data]
theorem tlTd : (⟨#[116, 100]⟩ : ByteArray).toList = [116, 100] := by rw [Lib.toList_data]
theorem tlP : (⟨#[112]⟩ : ByteArray).toList = [112] := by rw [Lib.toList_data]
theorem tl0 : (⟨#[]⟩ : ByteArray).toList = [] := by rw [Lib.toList_data]
theorem cell_in1 : inS 0 [[112]] [eHt, eTa, eTd, eP] = true := by
  simp [inS, inR, nmdB, inB, eP, tlP]
theorem cell_in2 : inS 0 [[116, 97, 98, 108, 101]] [eHt, eTa, eTd, eP] = false := by
  simp [inS, inR, nmdB, inB, endsE, eP, tlP, eTd, tlTd, endB, endNs, againN]
theorem cell_in3 : inS 2 [[116, 97, 98, 108, 101]] [eHt, eTa, eTd, eP] = true := by
  simp [inS, inR, nmdB, inB, endsE, eP, tlP, eTd, tlTd, eTa, tlTa, htNs]
theorem cell_find : findE 4 [eHt, eTa, eTd, eP] = 3 := by simp [findE, findR, eP]
theorem cell_imp : offN (impB ⟨#[]⟩) [eHt, eTa, eTd, eP] = 1 := by
  simp [offN, impB, nmdB, inB, eP, tlP, tl0, eTd, tlTd, lpNs, List.takeWhile]

theorem cellB {w w1 w2 : World} {v : Value} {L : List Ent} (hb : Below w.heap.size w w1) (hs : Stk w.heap.size w.heap.size v L w1) (ht : Tch w.heap.size v.ownBlock w1 w2) : Below w.heap.size w w2 :=
  hb.trans (ht.below hb.size (Nat.le_refl _) (fun k hk => (hs.2.1.lt k hk).1))
theorem cellB2 {w w1 w2 : World} (hb : Below w.heap.size w w1) (h2 : Below w1.heap.size w1 w2) : Below w.heap.size w w2 := hb.trans (h2.mono hb.size)

set_option maxHeartbeats 4000000 in
set_option maxRecDepth 100000 in
theorem cell_any (w : World) : Calls Try.prog 10 #[] w fun e w' => e = .returned (.bool true) ∧ Below w.heap.size w w' := by
  have CN := hide (new_any w.heap.size w (Nat.le_refl _))
  have P1 := hide (fun v W h hb => push_any w.heap.size w.heap.size v eHt [] W h hb)
  have P2 := hide (fun v W h hb => push_any w.heap.size w.heap.size v eTa [eHt] W h hb)
  have P3 := hide (fun v W h hb => push_any w.heap.size w.heap.size v eTd [eHt, eTa] W h hb)
  have P4 := hide (fun v W h hb => push_any w.heap.size w.heap.size v eP [eHt, eTa, eTd] W h hb)
  have I1 := hide (fun v nv W h hv => in_s w.heap.size w.heap.size v nv 0 [[112]] [eHt, eTa, eTd, eP] W h hv)
  have I2 := hide (fun v nv W h hv => in_s w.heap.size w.heap.size v nv 0 [[116, 97, 98, 108, 101]] [eHt, eTa, eTd, eP] W h hv)
  have I3 := hide (fun v nv W h hv => in_s w.heap.size w.heap.size v nv 2 [[116, 97, 98, 108, 101]] [eHt, eTa, eTd, eP] W h hv)
  have F4 := hide (fun v W h => find_any w.heap.size w.heap.size v 4 [eHt, eTa, eTd, eP] W h)
  have M1 := hide (fun v W h => implied_any w.heap.size w.heap.size v ⟨#[]⟩ [eHt, eTa, eTd, eP] W h (by decide))
  simp only [List.length_cons, List.length_nil, List.nil_append, List.cons_append, Nat.reduceLeDiff, if_false] at P1 P2 P3 P4
  rw [cell_in1] at I1
  rw [cell_in2] at I2
  rw [cell_in3] at I3
  rw [cell_find] at F4
  rw [cell_imp] at M1
  unfold entV eHt at P1
  unfold entV eTa at P2
  unfold entV eTd at P3
  unfold entV eP at P4
  dsimp only at P1 P2 P3 P4
  unfold ptr at *
  go_enter Try.func10, Try.ntmps10
  go_wp2_with fail
  refine (unhide CN).mono ?_
  rintro e w1 ⟨rfl, hs1, hb1⟩
  have hz1 := hb1.size
  have S1 := hide hs1
  have B1 := hide hb1
  clear hs1 hb1
  go_wp2_with fail
  refine (unhide P1 _ _ (unhide S1) (by omega)).mono ?_
  rintro e w2 ⟨rfl, v2, hs, ht, ho⟩
  have hz2 := ht.size
  have B2 := hide (cellB (unhide B1) (unhide S1) ht)
  have S2 := hide hs
  clear hs ht ho
  go_wp2_with fail
  refine (unhide P2 _ _ (unhide S2) (by omega)).mono ?_
  rintro e w3 ⟨rfl, v3, hs, ht, ho⟩
  have hz3 := ht.size
  have B3 := hide (cellB (unhide B2) (unhide S2) ht)
  have S3 := hide hs
  clear hs ht ho
  go_wp2_with fail
  refine (unhide P3 _ _ (unhide S3) (by omega)).mono ?_
  rintro e w4 ⟨rfl, v4, hs, ht, ho⟩
  have hz4 := ht.size
  have B4 := hide (cellB (unhide B3) (unhide S3) ht)
  have S4 := hide hs
  clear hs ht ho
  go_wp2_with fail
  refine (unhide P4 _ _ (unhide S4) (by omega)).mono ?_
  rintro e w5 ⟨rfl, v5, hs, ht, ho⟩
  have hz5 := ht.size
  have B5 := hide (cellB (unhide B4) (unhide S4) ht)
  have S5 := hide hs
  clear hs ht ho
  go_wp2_with fail
  have al5 : Below w5.heap.size w5 (w5.alloc (Obj.cells #[.string ⟨#[112]⟩] 9)) := (Below.refl _ _).alloc (Nat.le_refl _) _
  refine (unhide I1 _ _ _ ((unhide S5).later al5) (view_litk w5 [[112]] _ (by decide) _ rfl _ rfl _ rfl)).mono ?_
  rintro e w6 ⟨rfl, hb⟩
  have B6 := hide (cellB2 (unhide B5) (tr2 al5 hb))
  have S6 := hide ((unhide S5).later (tr2 al5 hb))
  clear hb al5
  go_wp2_with fail
  have al6 : Below w6.heap.size w6 (w6.alloc (Obj.cells #[.string ⟨#[116, 97, 98, 108, 101]⟩] 9)) := (Below.refl _ _).alloc (Nat.le_refl _) _
  refine (unhide I2 _ _ _ ((unhide S6).later al6) (view_litk w6 [[116, 97, 98, 108, 101]] _ (by decide) _ rfl _ rfl _ rfl)).mono ?_
  rintro e w7 ⟨rfl, hb⟩
  have B7 := hide (cellB2 (unhide B6) (tr2 al6 hb))
  have S7 := hide ((unhide S6).later (tr2 al6 hb))
  clear hb al6
  go_wp2_with fail
  have al7 : Below w7.heap.size w7 (w7.alloc (Obj.cells #[.string ⟨#[116, 97, 98, 108, 101]⟩] 9)) := (Below.refl _ _).alloc (Nat.le_refl _) _
  refine (unhide I3 _ _ _ ((unhide S7).later al7) (view_litk w7 [[116, 97, 98, 108, 101]] _ (by decide) _ rfl _ rfl _ rfl)).mono ?_
  rintro e w8 ⟨rfl, hb⟩
  have B8 := hide (cellB2 (unhide B7) (tr2 al7 hb))
  have S8 := hide ((unhide S7).later (tr2 al7 hb))
  clear hb al7
  go_wp2_with fail
  refine (unhide F4 _ _ (unhide S8)).mono ?_
  rintro e w9 ⟨rfl, hw⟩
  obtain rfl : w8 = w9 := hw.symm
  clear hw
  go_wp2_with fail
  refine (unhide M1 _ _ (unhide S8)).mono ?_
  rintro e w9 ⟨rfl, v9, hs, ht, ho⟩
  have B9 := hide (cellB (unhide B8) (unhide S8) ht)
  clear hs ht ho
  go_wp2
  go_ret
  exact ⟨rfl, unhide B9⟩
end Go.Proofs.Ytdkjdomacilagaa
