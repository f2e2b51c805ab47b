/-
  'rectolaw08.large' and 'rectolaw08.text'.
-/
import Derived.Test.YtpfnjgkfombmpaaDoorYR2
import Derived.Test.YtpfnjgkfombmpaaDoorYSm
import Derived.Test.YtpfnjgkfombmpaaDoorYLg
namespace Go.Proofs.YtpfnjgkfombmpaaDoor
open Go.RowKit
set_option linter.unusedVariables false
set_option linter.unusedSimpArgs false

theorem large08_any (f : Forest) (q : Option Addr) (cap : Nat) (w : World) (hf : Fo q f w) :
    Calls Tryd.prog 9 #[.slice q f.len cap] w fun e w' => e = .returned (.bool (lgT 1 f 1200).1) ∧ Below w.heap.size w w' := by
  have CL := hide (large_any f.count f (Nat.le_refl _) 1 q cap w.heap.size 1200 w (w.alloc (Obj.cells #[.int .i64 1200] 45)) (by omega) (Nat.le_refl _) (by omega) hf ((Below.refl _ _).alloc (Nat.le_refl _) _) (Blk.new w _ _))
  rw [show ((1 : Nat) : Int) = 1 from rfl] at CL
  generalize lgT 1 f 1200 = r at *
  generalize f.len = fl at *
  clear hf
  go_enter Tryd.func9, Tryd.ntmps9
  go_wp2_with fail
  refine (unhide CL).mono ?_
  rintro e w1 ⟨rfl, _, hb⟩
  go_wp2
  go_ret
  exact ⟨rfl, hb⟩
theorem same_f1 : sameF f1 f1 = true := by
  show (alikeN 2 0 ⟨#[]⟩ [] ⟨#[97]⟩ 2 0 ⟨#[]⟩ [] ⟨#[97]⟩ && (true && true)) = true
  simp [alikeN, sameA]
set_option maxHeartbeats 4000000 in
set_option maxRecDepth 100000 in
theorem text_any (w : World) (ht : Tabs w) : Calls Tryd.prog 10 #[] w fun e w' => e = .returned (.bool true) ∧ Below w.heap.size w w' := by
  have hbA := (Below.refl w.heap.size w).alloc (Nat.le_refl _) (Obj.cells #[.int .i64 2, .int .i64 0, .string ⟨#[]⟩, .slice none 0 0, .string ⟨#[97]⟩, .slice none 0 0] 31)
  have hN := Blk.new w #[.int .i64 2, .int .i64 0, .string ⟨#[]⟩, .slice none 0 0, .string ⟨#[97]⟩, .slice none 0 0] 31
  have hl0 : Lies f1 w.heap.size 0 (w.alloc (Obj.cells #[.int .i64 2, .int .i64 0, .string ⟨#[]⟩, .slice none 0 0, .string ⟨#[97]⟩, .slice none 0 0] 31)) :=
    ⟨⟨hN.cell 0, hN.cell 1, hN.cell 2, ⟨none, 0, hN.cell 3, .inl rfl⟩, hN.cell 4, ⟨none, 0, hN.cell 5, Nat.le_refl _, .inl rfl⟩⟩, trivial⟩
  have HL0 := hide (And.intro hl0 (And.intro (ht.below hbA) hbA))
  have CB := hide (tbytes_any f1 (some ⟨w.heap.size, 0, none⟩) 1 _ (unhide HL0).2.1 (.inr ⟨w.heap.size, 0, rfl, hl0⟩) sm_f1 (by decide) (by decide))
  rw [bytesV_f1, check_f1, show f1.len = 1 from rfl] at CB
  have CR := hide (fun (W : World) (hW : Tabs W) => read_one W hW)
  have CS := hide (fun (W : World) (g cap : Nat) (hx : Lies f1 w.heap.size 0 W) (hy : Lies f1 g 0 W) => same_any f1 f1 (some ⟨w.heap.size, 0, none⟩) (some ⟨g, 0, none⟩) 1 cap W (.inr ⟨_, _, rfl, hx⟩) (.inr ⟨_, _, rfl, hy⟩) sm_f1 (by decide) (by decide))
  rw [same_f1, show f1.len = 1 from rfl] at CS
  have CC := hide (fun (W : World) (hx : Lies f1 w.heap.size 0 W) => count_any f1 (some ⟨w.heap.size, 0, none⟩) 1 W (.inr ⟨_, _, rfl, hx⟩) (by decide) (by decide))
  rw [count_f1, show f1.len = 1 from rfl, show ((1 : Nat) : Int) = 1 from rfl] at CC
  have CW := hide (fun (W : World) (hx : Lies f1 w.heap.size 0 W) => words_any f1 (some ⟨w.heap.size, 0, none⟩) 1 W (.inr ⟨_, _, rfl, hx⟩) sm_f1 (by decide) (by decide))
  rw [words_f1, show f1.len = 1 from rfl, show bs [97] = ⟨#[97]⟩ from rfl] at CW
  have hsb : s1b = ⟨#[1, 1, 1, 2, 1, 1, 97]⟩ := rfl
  rw [hsb] at CB CR
  clear hl0 hbA hN ht hsb
  go_enter Tryd.func10, Tryd.ntmps10
  go_wp2_with fail
  refine (unhide CB).mono ?_
  rintro e w1 ⟨rfl, hb1⟩
  have HX1 := hide (And.intro ((unhide HL0).1.below hb1) (tr2 (unhide HL0).2.2 hb1))
  have CR1 := hide (unhide CR w1 ((unhide HL0).2.1.below hb1))
  clear CB CR hb1 HL0
  go_wp2_with fail
  refine (unhide CR1).mono ?_
  rintro e w2 ⟨g, cap, rfl, hcap, hl2, hb2⟩
  have hx2 := (unhide HX1).1.below hb2
  have HX2 := hide (And.intro hx2 (tr2 (unhide HX1).2 hb2))
  have CS2 := hide (unhide CS w2 g cap hx2 hl2)
  clear CR1 CS HX1 hcap hl2 hx2 hb2
  go_wp2_with fail
  refine (unhide CS2).mono ?_
  rintro e w3 ⟨rfl, hb3⟩
  have hx3 := (unhide HX2).1.below hb3
  have HX3 := hide (And.intro hx3 (tr2 (unhide HX2).2 hb3))
  have CC3 := hide (unhide CC w3 hx3)
  clear CS2 CC HX2 hx3 hb3
  go_wp2_with fail
  refine (unhide CC3).mono ?_
  rintro e w4 ⟨rfl, hb4⟩
  have hx4 := (unhide HX3).1.below hb4
  have HX4 := hide (And.intro hx4 (tr2 (unhide HX3).2 hb4))
  have CW4 := hide (unhide CW w4 hx4)
  clear CC3 CW HX3 hx4 hb4
  go_wp2_with fail
  refine (unhide CW4).mono ?_
  rintro e w5 ⟨rfl, hb5⟩
  have HX5 := hide (tr2 (unhide HX4).2 hb5)
  clear CW4 HX4 hb5
  go_wp2
  go_ret
  exact ⟨rfl, unhide HX5⟩
end Go.Proofs.YtpfnjgkfombmpaaDoor
