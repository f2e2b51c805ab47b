/-
  The small case of rectolaw24: a word that is another one.
-/
import Derived.Test.YtfbgpodcdgmpjaaXTx
namespace Go.Proofs.Ytfbgpodcdgmpjaa
open Go.RowKit
set_option linter.unusedVariables false
set_option linter.unusedSimpArgs false

def abcA : ByteArray := ⟨#[97, 32, 98, 32, 99]⟩
def abcB : ByteArray := ⟨#[97, 32, 120, 32, 99]⟩
def abcL : List Pc := [((1 : Int), ⟨#[97, 32]⟩), (2, ⟨#[98]⟩), (3, ⟨#[120]⟩), (1, ⟨#[32, 99]⟩)]
theorem abc_plain : jnP (rwP abcA abcB) = abcL := by kernel_rfl
theorem abc_mk : toldF mkF abcL = [97, 32, 91, 45, 98, 45, 93, 91, 43, 120, 43, 93, 32, 99] := by kernel_rfl
theorem abc_old : toldF (ifK (inK [1, 2])) abcL = [97, 32, 98, 32, 99] := by kernel_rfl
set_option maxHeartbeats 4000000 in
theorem abc_any (w : World) : Calls Try.prog 8 #[] w fun e w' => e = .returned (.bool true) ∧ Below w.heap.size w w' := by
  have CX := hide (wtexts_any abcA abcB w (by decide) (by decide))
  unfold TxSaid at CX
  rw [abc_plain] at CX
  unfold abcA abcB at CX
  have CM := hide (fun (q : Option Addr) (c : Nat) (W : World) h => marked_all q c abcL W h (by decide) (by decide) (by rw [abc_mk]; decide))
  have CO := hide (fun (q : Option Addr) (c : Nat) (W : World) h => old_any q c abcL W h (by decide) (by rw [abc_old]; decide))
  rw [abc_mk] at CM
  rw [abc_old] at CO
  have hl : abcL.length = 4 := rfl
  have hM : ((bs [97, 32, 91, 45, 98, 45, 93, 91, 43, 120, 43, 93, 32, 99]).toList == [97, 32, 91, 45, 98, 45, 93, 91, 43, 120, 43, 93, 32, 99]) = true := by kernel_rfl
  have hO : ((bs [97, 32, 98, 32, 99]).toList == [97, 32, 98, 32, 99]) = true := by kernel_rfl
  rw [hl] at CM CO
  go_enter Try.func8, Try.ntmps8
  go_wp2_with fail
  refine Calls.mono (unhide CX) ?_
  rintro e w1 ⟨v, rfl, hv, hb1⟩
  obtain ⟨q, c, hq, hc, hp⟩ := hv.read
  rw [hl] at hq
  subst hq
  obtain ⟨g, o, rfl, hcell⟩ := hp (by decide)
  have HP := hide (show PcA w1 (some ⟨g, o, none⟩) abcL from hp)
  obtain ⟨x0, x1⟩ := hcell 0 (by decide)
  have y1 := (hcell 1 (by decide)).2
  have z1 := (hcell 2 (by decide)).2
  have x0' : w1.cell? ⟨g, o, none⟩ = some (.int .i64 1) := by simpa [abcL] using x0
  have x1' : w1.cell? ⟨g, o + 1, none⟩ = some (.string ⟨#[97, 32]⟩) := by simpa [abcL] using x1
  have y1' : w1.cell? ⟨g, o + 2 + 1, none⟩ = some (.string ⟨#[98]⟩) := by simpa [abcL] using y1
  have z1' : w1.cell? ⟨g, o + 4 + 1, none⟩ = some (.string ⟨#[120]⟩) := by simpa [abcL] using z1
  have HB1 := hide hb1
  clear CX hv hp hcell x0 x1 y1 z1 hb1 hc
  go_wp2_with fail
  refine Calls.mono (unhide CM _ c w1 (unhide HP)) ?_
  rintro e w2 ⟨rfl, hb2⟩
  have HB2 := hide (tr2 (unhide HB1) hb2)
  have HP2 := hide ((unhide HP).below hb2)
  clear hb2
  go_wp2_with fail
  refine Calls.mono (unhide CO _ c w2 (unhide HP2)) ?_
  rintro e w3 ⟨rfl, hb3⟩
  have HB3 := hide (tr2 (unhide HB2) hb3)
  clear hb3
  go_wp2
  go_ret
  exact ⟨rfl, unhide HB3⟩
end Go.Proofs.Ytfbgpodcdgmpjaa
