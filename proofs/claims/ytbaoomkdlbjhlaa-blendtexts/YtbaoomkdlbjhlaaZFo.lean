/-
  'long', and the small case of layer 25.
-/
import Derived.Test.YtbaoomkdlbjhlaaZJo
import Derived.Test.YtbaoomkdlbjhlaaZCl
import Derived.Test.YtbaoomkdlbjhlaaPTx
namespace Go.Proofs.Ytbaoomkdlbjhlaa
open Go.RowKit
set_option linter.unusedVariables false
set_option linter.unusedSimpArgs false

theorem long25_any (q : Option Addr) (n c : Nat) (w : World) (hn : n ≤ 9223372036854775807) :
    Calls Try.prog 7 #[.slice q n c] w fun e w' => e = .returned (.bool (decide (40 < n))) ∧ Below w.heap.size w w' := by
  by_cases h : 40 < n
  · have hi : (40 : Int) < (n : Int) := by omega
    rw [decide_eq_true h]
    go_enter Try.func7, Try.ntmps7
    go_wp2
    go_ret
    exact ⟨by simp [hi], Below.refl _ _⟩
  · have hi : ¬ (40 : Int) < (n : Int) := by omega
    rw [decide_eq_false h]
    go_enter Try.func7, Try.ntmps7
    go_wp2
    go_ret
    exact ⟨by simp [hi], Below.refl _ _⟩
theorem arg_lit (W : World) (ss : List ByteArray) (hl : ss.length ≤ 1000) : ArgV (W.alloc (.cells (ss.map Value.string).toArray 9)) (some ⟨W.heap.size, 0, none⟩) ss.length ss := by
  have h := World.ownsRow_lit (base := W.heap.size) (e := 9) (size := 1) W (ss.map Value.string).toArray ss.length (Nat.le_refl _) (by simp only [maxLen]; omega) (by simp)
  rw [List.toList_toArray] at h
  have hv := view_of_owns h
  exact ⟨hv, Nat.le_refl _, fun e => by cases e⟩
def s1 (a : UInt8) : ByteArray := ⟨#[a]⟩
def lA : List ByteArray := [s1 97, s1 98, s1 99]
def lB : List ByteArray := [s1 97, s1 120, s1 99]
def lC : List ByteArray := [s1 97, s1 98, s1 99, s1 100]
def lD : List ByteArray := [s1 97, s1 120, s1 99, s1 100]
theorem four_p1 : allP lA lB lC = [(1, (0, 1), (0, 1), (0, 1)), (3, (1, 2), (1, 2), (1, 2)), (1, (2, 3), (2, 3), (2, 3)), (2, (3, 3), (3, 3), (3, 4))] := by
  have e1 : lnP (eqT lA lB) lA.length lB.length 0 0 = [(0, 0), (2, 2)] := by kernel_rfl
  have e2 : lnP (eqT lA lC) lA.length lC.length 0 0 = [(0, 0), (1, 1), (2, 2)] := by kernel_rfl
  have e3 : trF [(0, 0), (2, 2)] [(0, 0), (1, 1), (2, 2)] = [(0, 0, 0), (2, 2, 2)] := by simp [trF]
  unfold allP
  rw [e1, e2, e3]
  rfl
theorem four_p2 : allP [s1 97] [s1 98] [s1 99] = [(5, (0, 1), (0, 1), (0, 1))] := by
  have e1 : lnP (eqT [s1 97] [s1 98]) [s1 97].length [s1 98].length 0 0 = [] := by kernel_rfl
  have e2 : lnP (eqT [s1 97] [s1 99]) [s1 97].length [s1 99].length 0 0 = [] := by kernel_rfl
  have e3 : trF [] [] = [] := by simp [trF]
  unfold allP
  rw [e1, e2, e3]
  rfl
theorem four_j : jnF lA lB lC (allP lA lB lC) = lD ∧ clF (allP lA lB lC) = 0 := by
  rw [four_p1]
  exact ⟨by kernel_rfl, by kernel_rfl⟩
theorem szT_small {ss : List ByteArray} (h : ∀ s ∈ ss, s.size ≤ 9223372036854775807) : SzT ss := fun k hk => h _ (getD_mem ss k hk)
theorem szT_lit (l : List UInt8) : SzT (l.map s1) := szT_small (fun s hs => by obtain ⟨a, _, rfl⟩ := List.mem_map.1 hs; show (1 : Nat) ≤ _; decide)

set_option maxHeartbeats 4000000 in
set_option maxRecDepth 100000 in
theorem four_any (w : World) : Calls Try.prog 8 #[] w fun e w' => e = .returned (.bool true) ∧ Below w.heap.size w w' := by
  have A1 := arg_lit w lA (by decide)
  have A2 := arg_lit (w.alloc (.cells (lA.map Value.string).toArray 9)) lB (by decide)
  have A3 := arg_lit ((w.alloc (.cells (lA.map Value.string).toArray 9)).alloc (.cells (lB.map Value.string).toArray 9)) lC (by decide)
  have z1 : (w.alloc (.cells (lA.map Value.string).toArray 9)).heap.size = w.heap.size + 1 := by simp
  have z2 : ((w.alloc (.cells (lA.map Value.string).toArray 9)).alloc (.cells (lB.map Value.string).toArray 9)).heap.size = w.heap.size + 1 + 1 := by simp
  rw [z1] at A2
  rw [z2] at A3
  have CJ := hide (bjoin_any _ _ _ _ _ _ lA lB lC _ ((A1.below ((Below.refl _ _).alloc (Nat.le_refl _) _)).below ((Below.refl _ _).alloc (Nat.le_refl _) _)) (A2.below ((Below.refl _ _).alloc (Nat.le_refl _) _)) A3 (szT_lit [97, 98, 99]) (szT_lit [97, 120, 99]) (szT_lit [97, 98, 99, 100]) (by decide) (by decide) (by decide))
  rw [four_j.1, four_j.2] at CJ
  have HW0 : Hid (Below w.heap.size w (((w.alloc (.cells (lA.map Value.string).toArray 9)).alloc (.cells (lB.map Value.string).toArray 9)).alloc (.cells (lC.map Value.string).toArray 9))) := hide ((((Below.refl _ _).alloc (Nat.le_refl _) _).alloc (by simp) _).alloc (by simp; omega) _)
  clear A1 A2 A3 z1 z2
  go_enter Try.func8, Try.ntmps8
  go_wp2_with fail
  refine (unhide CJ).mono ?_
  rintro e w1 ⟨u, rfl, hu, hb1⟩
  have HB1 := hide (tr2 (unhide HW0) hb1)
  obtain ⟨uq, uc, rfl, huv⟩ : ∃ uq uc, u = .slice uq lD.length uc ∧ View w1 (.slice uq lD.length uc) lD := by
    have hv := view_of_owns hu
    obtain ⟨_, a, c, e, _⟩ := hv
    exact ⟨a, c, e, by rw [← e]; exact view_of_owns hu⟩
  have HU := hide huv
  clear hu hb1 huv CJ HW0
  have A1 := arg_lit w1 [s1 97] (by decide)
  have A2 := arg_lit (w1.alloc (.cells ([s1 97].map Value.string).toArray 9)) [s1 98] (by decide)
  have A3 := arg_lit ((w1.alloc (.cells ([s1 97].map Value.string).toArray 9)).alloc (.cells ([s1 98].map Value.string).toArray 9)) [s1 99] (by decide)
  have z1 : (w1.alloc (.cells ([s1 97].map Value.string).toArray 9)).heap.size = w1.heap.size + 1 := by simp
  have z2 : ((w1.alloc (.cells ([s1 97].map Value.string).toArray 9)).alloc (.cells ([s1 98].map Value.string).toArray 9)).heap.size = w1.heap.size + 1 + 1 := by simp
  rw [z1] at A2
  rw [z2] at A3
  have CT := hide (btexts_any _ _ _ _ _ _ [s1 97] [s1 98] [s1 99] _ ((A1.below ((Below.refl _ _).alloc (Nat.le_refl _) _)).below ((Below.refl _ _).alloc (Nat.le_refl _) _)) (A2.below ((Below.refl _ _).alloc (Nat.le_refl _) _)) A3 (szT_lit [97]) (szT_lit [98]) (szT_lit [99]) (by decide) (by decide) (by decide))
  rw [four_p2] at CT
  have HW1 : Hid (Below w1.heap.size w1 (((w1.alloc (.cells ([s1 97].map Value.string).toArray 9)).alloc (.cells ([s1 98].map Value.string).toArray 9)).alloc (.cells ([s1 99].map Value.string).toArray 9))) := hide ((((Below.refl _ _).alloc (Nat.le_refl _) _).alloc (by simp) _).alloc (by simp; omega) _)
  clear A1 A2 A3 z1 z2
  go_wp2_with fail
  refine (unhide CT).mono ?_
  rintro e w2 ⟨v, rfl, hv, hb2⟩
  obtain ⟨vq, vc, rfl, hva⟩ := parts_at hv
  have HB12 := hide (tr2 (unhide HW1) hb2)
  have HV := hide hva
  obtain ⟨g, rfl, hcell⟩ := hva (by decide)
  have x0 : w2.cell? ⟨g, 0, none⟩ = some (.int .i64 5) := hcell 0 (by decide) 0 (by decide)
  have A4 := arg_lit w2 lD (by decide)
  have HW2 : Hid (Below w2.heap.size w2 (w2.alloc (.cells (lD.map Value.string).toArray 9))) := hide ((Below.refl _ _).alloc (Nat.le_refl _) _)
  have CX := hide (texts_any _ _ lD lD _ (view_below (view_below (unhide HU) (unhide HB12)) (unhide HW2)) A4.1)
  have CC1 := hide (fun W hW => clean_any _ vc _ W (hva.below hW) (by decide) (by decide))
  have CC2 := hide (fun W => clean_any none 0 [] W (fun h => by cases h) (by decide) (by decide))
  have h5 : decide (clF [(5, (0, 1), (0, 1), (0, 1))] = 0) = false := by rfl
  have h0 : decide (clF [] = 0) = true := by rfl
  rw [h5] at CC1
  rw [h0] at CC2
  rw [sameT_refl] at CX
  have hlen : [(5, (0, 1), (0, 1), (0, 1))].length = (1 : Nat) := rfl
  have HB2 := hide (tr2 (unhide HB1) (unhide HB12))
  clear hcell hva hv hb2 A4 h5 h0 HB12 HB1 HW1 CT HU HV
  simp only [List.length_cons, List.length_nil] at *
  go_wp2_with fail
  refine (unhide CX).mono ?_
  rintro e w3 ⟨rfl, hb3⟩
  have HB23 := hide (tr2 (unhide HW2) hb3)
  have y0 := cellB (unhide HB23) x0
  clear hb3 CX
  go_wp2_with fail
  refine (unhide CC1 _ (unhide HB23)).mono ?_
  rintro e w4 ⟨rfl, hb4⟩
  have HB4 := hide (tr2 (unhide HB23) hb4)
  clear hb4 CC1
  go_wp2_with fail
  refine (unhide CC2 _).mono ?_
  rintro e w5 ⟨rfl, hb5⟩
  have HB5 := hide (tr2 (unhide HB4) hb5)
  clear hb5 CC2
  go_wp2
  go_ret
  exact ⟨rfl, tr2 (unhide HB2) (unhide HB5)⟩
end Go.Proofs.Ytbaoomkdlbjhlaa
