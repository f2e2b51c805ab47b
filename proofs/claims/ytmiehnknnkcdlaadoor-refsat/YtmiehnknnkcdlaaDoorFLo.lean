/-
  What the reference's 'Loose' does: may a name stand without a ; behind it?
-/
import Derived.Test.YtmiehnknnkcdlaaDoorFBp
import Derived.Test.YtmiehnknnkcdlaaDoorFNn
namespace Go.Proofs.YtmiehnknnkcdlaaDoor
open Go.RowKit
set_option linter.unusedVariables false

theorem lit_ne {s : ByteArray} {l m : List UInt8} (h : s.data.toList = l) (hn : l ≠ m) : (s.toList == m) = false := by rw [Lib.toList_data, h]; exact beq_eq_false_iff_ne.2 hn
theorem lit_no {s : ByteArray} {m : List UInt8} (h : ¬ s.data.toList = m) : (s.toList == m) = false := by rw [Lib.toList_data]; exact beq_eq_false_iff_ne.2 h
theorem lit_is {s : ByteArray} {m : List UInt8} (h : s.data.toList = m) : (s.toList == m) = true := by rw [Lib.toList_data, h]; simp
def RLoose : Prop := ∀ (s : ByteArray) (w : World), Calls Tryd.prog 47 #[.string s] w fun e w' => e = .returned (.bool (looseB s.data.toList)) ∧ Below w.heap.size w w'
set_option maxHeartbeats 4000000 in
theorem rloose_any : RLoose := by
  intro s w
  have CN := hide (rname_any s)
  by_cases h0 : s.data.toList = [110, 111, 116, 105, 110]
  · rw [tight_yes (by rw [h0]; decide)]
    have k0 : (s.toList == [110, 111, 116, 105, 110]) = true := lit_is h0
    clear h0 CN
    go_enter Tryd.func47, Tryd.ntmps47
    go_wp2
    go_ret
    exact ⟨rfl, Below.refl _ _⟩
  by_cases h1 : s.data.toList = [101, 117, 114, 111]
  · rw [tight_yes (by rw [h1]; decide)]
    have k0 : (s.toList == [110, 111, 116, 105, 110]) = false := lit_ne h1 (by decide)
    have k1 : (s.toList == [101, 117, 114, 111]) = true := lit_is h1
    clear h0 h1 CN
    go_enter Tryd.func47, Tryd.ntmps47
    go_wp2
    go_ret
    exact ⟨rfl, Below.refl _ _⟩
  by_cases h2 : s.data.toList = [104, 101, 108, 108, 105, 112]
  · rw [tight_yes (by rw [h2]; decide)]
    have k0 : (s.toList == [110, 111, 116, 105, 110]) = false := lit_ne h2 (by decide)
    have k1 : (s.toList == [101, 117, 114, 111]) = false := lit_ne h2 (by decide)
    have k2 : (s.toList == [104, 101, 108, 108, 105, 112]) = true := lit_is h2
    clear h0 h1 h2 CN
    go_enter Tryd.func47, Tryd.ntmps47
    go_wp2
    go_ret
    exact ⟨rfl, Below.refl _ _⟩
  by_cases h3 : s.data.toList = [109, 100, 97, 115, 104]
  · rw [tight_yes (by rw [h3]; decide)]
    have k0 : (s.toList == [110, 111, 116, 105, 110]) = false := lit_ne h3 (by decide)
    have k1 : (s.toList == [101, 117, 114, 111]) = false := lit_ne h3 (by decide)
    have k2 : (s.toList == [104, 101, 108, 108, 105, 112]) = false := lit_ne h3 (by decide)
    have k3 : (s.toList == [109, 100, 97, 115, 104]) = true := lit_is h3
    clear h0 h1 h2 h3 CN
    go_enter Tryd.func47, Tryd.ntmps47
    go_wp2
    go_ret
    exact ⟨rfl, Below.refl _ _⟩
  by_cases h4 : s.data.toList = [110, 100, 97, 115, 104]
  · rw [tight_yes (by rw [h4]; decide)]
    have k0 : (s.toList == [110, 111, 116, 105, 110]) = false := lit_ne h4 (by decide)
    have k1 : (s.toList == [101, 117, 114, 111]) = false := lit_ne h4 (by decide)
    have k2 : (s.toList == [104, 101, 108, 108, 105, 112]) = false := lit_ne h4 (by decide)
    have k3 : (s.toList == [109, 100, 97, 115, 104]) = false := lit_ne h4 (by decide)
    have k4 : (s.toList == [110, 100, 97, 115, 104]) = true := lit_is h4
    clear h0 h1 h2 h3 h4 CN
    go_enter Tryd.func47, Tryd.ntmps47
    go_wp2
    go_ret
    exact ⟨rfl, Below.refl _ _⟩
  by_cases h5 : s.data.toList = [97, 108, 112, 104, 97]
  · rw [tight_yes (by rw [h5]; decide)]
    have k0 : (s.toList == [110, 111, 116, 105, 110]) = false := lit_ne h5 (by decide)
    have k1 : (s.toList == [101, 117, 114, 111]) = false := lit_ne h5 (by decide)
    have k2 : (s.toList == [104, 101, 108, 108, 105, 112]) = false := lit_ne h5 (by decide)
    have k3 : (s.toList == [109, 100, 97, 115, 104]) = false := lit_ne h5 (by decide)
    have k4 : (s.toList == [110, 100, 97, 115, 104]) = false := lit_ne h5 (by decide)
    have k5 : (s.toList == [97, 108, 112, 104, 97]) = true := lit_is h5
    clear h0 h1 h2 h3 h4 h5 CN
    go_enter Tryd.func47, Tryd.ntmps47
    go_wp2
    go_ret
    exact ⟨rfl, Below.refl _ _⟩
  by_cases h6 : s.data.toList = [98, 101, 116, 97]
  · rw [tight_yes (by rw [h6]; decide)]
    have k0 : (s.toList == [110, 111, 116, 105, 110]) = false := lit_ne h6 (by decide)
    have k1 : (s.toList == [101, 117, 114, 111]) = false := lit_ne h6 (by decide)
    have k2 : (s.toList == [104, 101, 108, 108, 105, 112]) = false := lit_ne h6 (by decide)
    have k3 : (s.toList == [109, 100, 97, 115, 104]) = false := lit_ne h6 (by decide)
    have k4 : (s.toList == [110, 100, 97, 115, 104]) = false := lit_ne h6 (by decide)
    have k5 : (s.toList == [97, 108, 112, 104, 97]) = false := lit_ne h6 (by decide)
    have k6 : (s.toList == [98, 101, 116, 97]) = true := lit_is h6
    clear h0 h1 h2 h3 h4 h5 h6 CN
    go_enter Tryd.func47, Tryd.ntmps47
    go_wp2
    go_ret
    exact ⟨rfl, Below.refl _ _⟩
  by_cases h7 : s.data.toList = [114, 97, 114, 114]
  · rw [tight_yes (by rw [h7]; decide)]
    have k0 : (s.toList == [110, 111, 116, 105, 110]) = false := lit_ne h7 (by decide)
    have k1 : (s.toList == [101, 117, 114, 111]) = false := lit_ne h7 (by decide)
    have k2 : (s.toList == [104, 101, 108, 108, 105, 112]) = false := lit_ne h7 (by decide)
    have k3 : (s.toList == [109, 100, 97, 115, 104]) = false := lit_ne h7 (by decide)
    have k4 : (s.toList == [110, 100, 97, 115, 104]) = false := lit_ne h7 (by decide)
    have k5 : (s.toList == [97, 108, 112, 104, 97]) = false := lit_ne h7 (by decide)
    have k6 : (s.toList == [98, 101, 116, 97]) = false := lit_ne h7 (by decide)
    have k7 : (s.toList == [114, 97, 114, 114]) = true := lit_is h7
    clear h0 h1 h2 h3 h4 h5 h6 h7 CN
    go_enter Tryd.func47, Tryd.ntmps47
    go_wp2
    go_ret
    exact ⟨rfl, Below.refl _ _⟩
  by_cases h8 : s.data.toList = [108, 97, 114, 114]
  · rw [tight_yes (by rw [h8]; decide)]
    have k0 : (s.toList == [110, 111, 116, 105, 110]) = false := lit_ne h8 (by decide)
    have k1 : (s.toList == [101, 117, 114, 111]) = false := lit_ne h8 (by decide)
    have k2 : (s.toList == [104, 101, 108, 108, 105, 112]) = false := lit_ne h8 (by decide)
    have k3 : (s.toList == [109, 100, 97, 115, 104]) = false := lit_ne h8 (by decide)
    have k4 : (s.toList == [110, 100, 97, 115, 104]) = false := lit_ne h8 (by decide)
    have k5 : (s.toList == [97, 108, 112, 104, 97]) = false := lit_ne h8 (by decide)
    have k6 : (s.toList == [98, 101, 116, 97]) = false := lit_ne h8 (by decide)
    have k7 : (s.toList == [114, 97, 114, 114]) = false := lit_ne h8 (by decide)
    have k8 : (s.toList == [108, 97, 114, 114]) = true := lit_is h8
    clear h0 h1 h2 h3 h4 h5 h6 h7 h8 CN
    go_enter Tryd.func47, Tryd.ntmps47
    go_wp2
    go_ret
    exact ⟨rfl, Below.refl _ _⟩
  by_cases h9 : s.data.toList = [97, 112, 111, 115]
  · rw [tight_yes (by rw [h9]; decide)]
    have k0 : (s.toList == [110, 111, 116, 105, 110]) = false := lit_ne h9 (by decide)
    have k1 : (s.toList == [101, 117, 114, 111]) = false := lit_ne h9 (by decide)
    have k2 : (s.toList == [104, 101, 108, 108, 105, 112]) = false := lit_ne h9 (by decide)
    have k3 : (s.toList == [109, 100, 97, 115, 104]) = false := lit_ne h9 (by decide)
    have k4 : (s.toList == [110, 100, 97, 115, 104]) = false := lit_ne h9 (by decide)
    have k5 : (s.toList == [97, 108, 112, 104, 97]) = false := lit_ne h9 (by decide)
    have k6 : (s.toList == [98, 101, 116, 97]) = false := lit_ne h9 (by decide)
    have k7 : (s.toList == [114, 97, 114, 114]) = false := lit_ne h9 (by decide)
    have k8 : (s.toList == [108, 97, 114, 114]) = false := lit_ne h9 (by decide)
    have k9 : (s.toList == [97, 112, 111, 115]) = true := lit_is h9
    clear h0 h1 h2 h3 h4 h5 h6 h7 h8 h9 CN
    go_enter Tryd.func47, Tryd.ntmps47
    go_wp2
    go_ret
    exact ⟨rfl, Below.refl _ _⟩
  rw [tight_no (l := s.data.toList) (by unfold tightT; simp only [List.mem_cons, List.not_mem_nil, or_false, not_or]; exact ⟨h0, h1, h2, h3, h4, h5, h6, h7, h8, h9⟩)]
  have k0 : (s.toList == [110, 111, 116, 105, 110]) = false := lit_no h0
  have k1 : (s.toList == [101, 117, 114, 111]) = false := lit_no h1
  have k2 : (s.toList == [104, 101, 108, 108, 105, 112]) = false := lit_no h2
  have k3 : (s.toList == [109, 100, 97, 115, 104]) = false := lit_no h3
  have k4 : (s.toList == [110, 100, 97, 115, 104]) = false := lit_no h4
  have k5 : (s.toList == [97, 108, 112, 104, 97]) = false := lit_no h5
  have k6 : (s.toList == [98, 101, 116, 97]) = false := lit_no h6
  have k7 : (s.toList == [114, 97, 114, 114]) = false := lit_no h7
  have k8 : (s.toList == [108, 97, 114, 114]) = false := lit_no h8
  have k9 : (s.toList == [97, 112, 111, 115]) = false := lit_no h9
  clear h0 h1 h2 h3 h4 h5 h6 h7 h8 h9
  generalize nameC s.data.toList = c at *
  by_cases h : c = 0
  · subst h
    go_enter Tryd.func47, Tryd.ntmps47
    go_wp2_with fail
    refine (unhide CN _).mono ?_
    rintro e w1 ⟨rfl, hb1⟩
    go_wp2
    go_ret
    exact ⟨rfl, hb1⟩
  · have hc : (c != 0) = true := by simpa using h
    rw [decide_eq_true h]
    clear h
    go_enter Tryd.func47, Tryd.ntmps47
    go_wp2_with fail
    refine (unhide CN _).mono ?_
    rintro e w1 ⟨rfl, hb1⟩
    go_wp2
    go_ret
    exact ⟨rfl, hb1⟩
end Go.Proofs.YtmiehnknnkcdlaaDoor
