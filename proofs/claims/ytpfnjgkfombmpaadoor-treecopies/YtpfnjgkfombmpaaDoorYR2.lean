/-
  The one text of rectolaw08.text: what is plain of it, tree.Read of its bytes, tree.alike.
-/
import Derived.Test.YtpfnjgkfombmpaaDoorYR1
import Derived.Test.YtpfnjgkfombmpaaDoorYCt
import Derived.Test.YtpfnjgkfombmpaaDoorYRw
namespace Go.Proofs.YtpfnjgkfombmpaaDoor
open Go.RowKit
set_option linter.unusedVariables false
set_option linter.unusedSimpArgs false

theorem sm_f1 : SmF f1 := ⟨⟨by decide, by decide, ⟨by decide, fun k hk => absurd hk (Nat.not_lt_zero k)⟩, by decide⟩, trivial, trivial⟩
theorem count_f1 : f1.count = 1 := rfl
theorem words_f1 : woF f1 = [97] := rfl
theorem bytes_f1 : bytesL f1 = [1, 1, 1, 2, 1, 1, 97] := by decide
theorem good_a : goodB [97] = true := by
  unfold goodB
  rw [rightB_cons (by simp)]
  decide
theorem ra_a : raB 2 0 ⟨#[]⟩ [] ⟨#[97]⟩ 0 = true := by
  unfold raB taB
  rw [Lib.toList_data, Lib.toList_data]
  show (if (2 : Int) = 1 then _ else if (2 : Int) = 2 then (![97].isEmpty && (goodB [97] && _)) else _) = true
  rw [good_a]
  decide
theorem check_f1 : checkN f1 = 0 := by
  rw [check_is]
  have h3 : rightN f1 = true := by
    show (apartB f1 && (raB 2 0 ⟨#[]⟩ [] ⟨#[97]⟩ 0 && ((leafB 2 || (apartB .nil && allB .nil)) && allB .nil))) = true
    rw [ra_a]; rfl
  unfold rcheckN
  rw [h3, if_neg (by decide), if_pos rfl]
theorem bytesV_f1 : bs (bytesV f1) = s1b := by
  unfold bytesV
  rw [if_pos check_f1, bytes_f1]; rfl

set_option maxHeartbeats 2000000 in
set_option maxRecDepth 100000 in
theorem read_one (w : World) (ht : Tabs w) :
    Calls Tryd.prog 30 #[.string s1b] w fun e w' => ∃ g cap, e = .returned (.tuple #[.slice (some ⟨g, 0, none⟩) 1 cap, .int .i64 0]) ∧ 1 ≤ cap ∧ Lies f1 g 0 w' ∧ Below w.heap.size w w' := by
  have hR : Rdr w.heap.size s1b 0 false (w.alloc (Obj.cells #[.string s1b, .int .i64 0, .bool false] 83)) := Blk.new w _ _
  have CL := hide (rlist_one w.heap.size _ hR)
  have hbA := (Below.refl w.heap.size w).alloc (Nat.le_refl _) (Obj.cells #[.string s1b, .int .i64 0, .bool false] 83)
  have hsz : (w.alloc (Obj.cells #[.string s1b, .int .i64 0, .bool false] 83)).heap.size = w.heap.size + 1 := by simp
  have HA := hide (And.intro hbA hsz)
  have CC := hide (fun (W : World) (g cap : Nat) (hW : Below w.heap.size w W) (h1 : 1 ≤ cap) (hl : Lies f1 g 0 W) => check_any f1 (some ⟨g, 0, none⟩) cap W (ht.below hW) (.inr ⟨g, 0, rfl, hl⟩) sm_f1 h1 (by decide))
  rw [check_f1, show f1.len = 1 from rfl] at CC
  clear hR ht hbA hsz
  generalize s1b = s at *
  go_enter Tryd.func30, Tryd.ntmps30
  go_wp2_with fail
  refine (unhide CL).mono ?_
  rintro e w1 ⟨g, cap, rfl, hcap, hl, hr, hk⟩
  have hbw : Below w.heap.size w w1 := (unhide HA).1.trans (hk.below (by rw [(unhide HA).2]; omega) (Nat.le_refl _))
  have c0 : w1.cell? ⟨w.heap.size, 0, none⟩ = some (.string ⟨#[]⟩) := hr.cell 0
  have c2 : w1.cell? ⟨w.heap.size, 2, none⟩ = some (.bool false) := hr.cell 2
  have CC1 := hide (unhide CC w1 g cap hbw hcap hl)
  have HX := hide (And.intro hcap (And.intro hl hbw))
  clear CL CC hcap hl hr hk hbw HA
  go_wp2_with fail
  refine (unhide CC1).mono ?_
  rintro e w2 ⟨rfl, hb2⟩
  have HY : Hid (1 ≤ cap ∧ Lies f1 g 0 w2 ∧ Below w.heap.size w w2) := hide ⟨(unhide HX).1, (unhide HX).2.1.below hb2, tr2 (unhide HX).2.2 hb2⟩
  clear HX hb2 CC1
  go_wp2
  go_ret2
  exact ⟨g, cap, rfl, unhide HY⟩
end Go.Proofs.YtpfnjgkfombmpaaDoor
