/-
  For all nodes and all bytes the law TreeBack answers true: what was written is read, and what is read is written as it was; the two tables of the package utf start as the program's text lays them (the card ties them); and each argument reads as it did.
-/
import Derived.Test.YtmlmpongcpojjaaDoorYTx
import Derived.Test.YtmlmpongcpojjaaDoorMgE
import Derived.Test.YtmlmpongcpojjaaDoorMgA
import Derived.Deep.SlicePairs
import Derived.Deep.Strs
import Derived.Carry
import Derived.OpenShut
import Derived.Test.YtmlmpongcpojjaaDoorCards
import Derived.Test.YtmlmpongcpojjaaDoorTie
import Derived.ProofKit
import Derived.ShutString
import Derived.ChangeOld
import Derived.Below
import Derived.Deep.DeepHandedRow
import Derived.Lib.LaidTab

/-
  The law TreeBack (made by mk_lyb.py).
-/
namespace Go.Proofs.YtmlmpongcpojjaaDoor
open Go.RowKit
set_option linter.unusedVariables false
set_option linter.unusedSimpArgs false

theorem check0d {f : Forest} (h : checkN f = 0) : f.depth ≤ 40 := by
  rw [check_is] at h
  unfold rcheckN at h
  by_cases h2 : 300 < f.count ∨ 40 < f.depth
  · rw [if_pos h2] at h; omega
  · omega
theorem read_written {f : Forest} (hs : SmF f) (h0 : checkN f = 0) : readZ (bytesL f) = (f, [], 0 + f.count, false) ∧ readB (bytesL f) = true := by
  obtain ⟨ha, hc⟩ := check0 h0
  have h := lsF_there 40 f [] 0 ha hs (check0d h0) (by omega)
  rw [List.append_nil] at h
  have hz : readZ (bytesL f) = (f, [], 0 + f.count, false) := h
  refine ⟨hz, ?_⟩
  unfold readB
  rw [hz]
  simp [h0]
theorem tread_written (f : Forest) (w : World) (ht : Tabs w) (hs : SmF f) (h0 : checkN f = 0) (hl : (bytesL f).length ≤ 1000000000000) :
    Calls Tryd.prog 21 #[.string (bs (bytesL f))] w fun e w' => ∃ q cap, e = .returned (.tuple #[.slice q f.len cap, .int .i64 0]) ∧ f.len ≤ cap ∧ Fo q f w' ∧ Below w.heap.size w w' := by
  obtain ⟨h1, h2⟩ := read_written hs h0
  have := tread_any (bs (bytesL f)) w ht (by rw [bs_size]; exact hl) (by rw [bs_toList, h1]; exact hs)
  rw [bs_toList, h1, h2] at this
  refine this.mono fun e w' h => ?_
  unfold RdSaid at h
  rw [if_pos rfl] at h
  obtain ⟨⟨q, cap, a, b, c⟩, d⟩ := h
  exact ⟨q, cap, a, b, c, d⟩
theorem tread_bad (x : ByteArray) (w : World) (ht : Tabs w) (hs : x.size ≤ 1000000000000) (hsm : SmF (readZ x.data.toList).1) (hb : readB x.data.toList = false) :
    Calls Tryd.prog 21 #[.string x] w fun e w' => e = .returned (.tuple #[.slice none 0 0, .int .i64 4]) ∧ Below w.heap.size w w' := by
  have := tread_any x w ht hs hsm
  rw [hb] at this
  exact this
theorem tread_good (x : ByteArray) (w : World) (ht : Tabs w) (hs : x.size ≤ 1000000000000) (hsm : SmF (readZ x.data.toList).1) (hb : readB x.data.toList = true) :
    Calls Tryd.prog 21 #[.string x] w fun e w' => ∃ q cap, e = .returned (.tuple #[.slice q (readZ x.data.toList).1.len cap, .int .i64 0]) ∧ (readZ x.data.toList).1.len ≤ cap ∧ Fo q (readZ x.data.toList).1 w' ∧ Below w.heap.size w w' := by
  have := tread_any x w ht hs hsm
  rw [hb] at this
  refine this.mono fun e w' h => ?_
  unfold RdSaid at h
  rw [if_pos rfl] at h
  obtain ⟨⟨q, cap, a, b, c⟩, d⟩ := h
  exact ⟨q, cap, a, b, c, d⟩
theorem readB_is {l : List UInt8} (h : readB l = true) : l = bytesL (readZ l).1 ∧ checkN (readZ l).1 = 0 := by
  unfold readB at h
  simp only [Bool.and_eq_true, decide_eq_true_eq, Bool.not_eq_true'] at h
  obtain ⟨h1, h2, h3⟩ := h
  have hb := (lsF_back 40 (l, 0, false) (show (lsF 40 (l, 0, false)).2.2.2 = false from h1)).1
  have h4 : (readZ l).2.1 = [] := by simpa using h2
  refine ⟨?_, h3⟩
  have hb' : l = bytesL (readZ l).1 ++ (readZ l).2.1 := hb
  rw [h4, List.append_nil] at hb'
  exact hb'
set_option maxHeartbeats 4000000 in
set_option maxRecDepth 100000 in
theorem back_walk (f : Forest) (q : Option Addr) (cap : Nat) (x : ByteArray) (w : World) (ht : Tabs w) (hf : Fo q f w) (hcap : f.len ≤ cap) :
    Calls Tryd.prog 6 #[.slice q f.len cap, .string x] w fun e w' => e = .returned (.bool true) ∧ Below w.heap.size w w' := by
  have CL := hide (large08_any f q cap w hf)
  have CT := hide (fun (W : World) (hW : Below w.heap.size w W) => text_any W (ht.below hW))
  obtain ⟨lb, lN, hlg⟩ : ∃ lb lN, lgT 1 f 1200 = (lb, lN) := ⟨_, _, rfl⟩
  rw [hlg] at CL
  dsimp only at CL
  cases lb with
  | true =>
    generalize f.len = fl at *
    clear hf ht hlg hcap
    go_enter Tryd.func6, Tryd.ntmps6
    go_wp2_with fail
    refine (unhide CL).mono ?_
    rintro e w1 ⟨rfl, hb⟩
    have hb' := hb
    clear CL hb
    have CT' := hide (unhide CT w1 hb')
    clear CT
    have HB := hide hb'
    clear hb'
    go_wp2_with fail
    refine (unhide CT').mono ?_
    rintro e w2 ⟨rfl, hb⟩
    have hb' := tr2 (unhide HB) hb
    clear HB CT' hb
    have HB := hide hb'
    clear hb'
    go_wp2
    go_ret
    exact ⟨rfl, unhide HB⟩
  | false =>
    by_cases hx : 3000 < x.size
    · have hxi : (3000 : Int) < (x.size : Int) := by omega
      generalize f.len = fl at *
      clear hf ht hlg hcap
      go_enter Tryd.func6, Tryd.ntmps6
      go_wp2_with fail
      refine (unhide CL).mono ?_
      rintro e w1 ⟨rfl, hb⟩
      have hb' := hb
      clear CL hb
      have CT' := hide (unhide CT w1 hb')
      clear CT
      have HB := hide hb'
      clear hb'
      go_wp2_with fail
      refine (unhide CT').mono ?_
      rintro e w2 ⟨rfl, hb⟩
      have hb' := tr2 (unhide HB) hb
      clear HB CT' hb
      have HB := hide hb'
      clear hb'
      go_wp2
      go_ret
      exact ⟨rfl, unhide HB⟩
    have hxi : ¬ (3000 : Int) < (x.size : Int) := by omega
    obtain ⟨hs, hn⟩ := lgT_small (by omega) hlg
    have hr := lgT_room 1 f 1200 lN hlg
    have hc : f.count ≤ 1200 := by omega
    have hxl : x.data.toList.length ≤ 5000 := by rw [Array.length_toList]; have : x.data.size = x.size := rfl; omega
    have hok := lsF_ok 40 (by omega) (x.data.toList, 0, false) (fun h => by cases h) (by show 0 ≤ 300; omega) (by show x.data.toList.length ≤ _; omega)
    have hsm2 : SmF (readZ x.data.toList).1 := hok.sm hxl
    have hcn2 : (readZ x.data.toList).1.count ≤ 1000 := by
      have h1 : (lsF 40 (x.data.toList, 0, false)).1.count + 0 ≤ (lsF 40 (x.data.toList, 0, false)).2.2.1 := hok.cnt
      have h2 := hok.rs.most
      show (lsF 40 (x.data.toList, 0, false)).1.count ≤ 1000
      omega
    have C1 := hide (fun (W : World) (hW : Below w.heap.size w W) => tbytes_any f q cap W (ht.below hW) (hf.below hW) hs hcap (by omega))
    have l1 := by_len f hs
    have n1 := numW_len f.len
    have hfl := f.len_count
    have hlen : (bytesL f).length ≤ 1000000000000 := by unfold bytesL; rw [List.length_append]; omega
    have C2 := hide (fun (h0 : checkN f = 0) (W : World) (hW : Below w.heap.size w W) => tread_written f W (ht.below hW) hs h0 hlen)
    have C3 := hide (fun (W : World) (hW : Below w.heap.size w W) (q2 : Option Addr) (cap2 : Nat) (h2 : Fo q2 f W) => nodes_any f.count f (Nat.le_refl _) (by omega) hs f q q2 cap cap2 W (hf.below hW) h2 hs (by omega))
    rw [(sameF_eq f f).2 rfl] at C3
    have C4B := hide (fun (hB : readB x.data.toList = false) (W : World) (hW : Below w.heap.size w W) => tread_bad x W (ht.below hW) (by omega) hsm2 hB)
    have C4G := hide (fun (hB : readB x.data.toList = true) (W : World) (hW : Below w.heap.size w W) => tread_good x W (ht.below hW) (by omega) hsm2 hB)
    have C5 := hide (fun (W : World) (hW : Below w.heap.size w W) (q3 : Option Addr) (cap3 : Nat) (hc3 : (readZ x.data.toList).1.len ≤ cap3) (hf3 : Fo q3 (readZ x.data.toList).1 W) => tbytes_any (readZ x.data.toList).1 q3 cap3 W (ht.below hW) hf3 hsm2 hc3 (by omega))
    have HRB := hide (fun (hB : readB x.data.toList = true) => readB_is hB)
    have HXS : Hid (bs x.data.toList = x) := hide (bs_self x)
    unfold bytesV at C1 C5
    have ex := beq_yes (rfl : x = x)
    clear hok hsm2 hcn2 l1 n1 hlen hlg hn hr hxl
    by_cases h0 : checkN f = 0
    · cases hB : readB x.data.toList with
      | true =>
        obtain ⟨hxb, hz⟩ := unhide HRB hB
        have C4 := hide (unhide C4G hB)
        rw [if_pos hz, hz, ← hxb, unhide HXS] at C5
        generalize (readZ x.data.toList).1.len = zl at *
        have C2' := hide (unhide C2 h0)
        rw [if_pos h0, h0] at C1
        generalize bs (bytesL f) = y at *
        generalize f.len = fl at *
        clear hf ht hcap hs hc hfl C4B C4G C2 HRB HXS hxb hz
        have C2 := C2'
        clear C2'
        go_enter Tryd.func6, Tryd.ntmps6
        go_wp2_with fail
        refine (unhide CL).mono ?_
        rintro e w1 ⟨rfl, hb⟩
        have hb' := hb
        clear CL hb
        have C1' := hide (unhide C1 w1 hb')
        clear C1
        have HB := hide hb'
        clear hb'
        go_wp2_with fail
        refine (unhide C1').mono ?_
        rintro e w2 ⟨rfl, hb⟩
        have hb' := tr2 (unhide HB) hb
        clear HB C1' hb
        have C2' := hide (unhide C2 w2 hb')
        clear C2
        have HB := hide hb'
        clear hb'
        go_wp2_with fail
        refine (unhide C2').mono ?_
        rintro e w3 ⟨q2, cap2, rfl, hc2, hf2, hb⟩
        have hb' := tr2 (unhide HB) hb
        have C3' := hide (unhide C3 w3 hb' q2 cap2 hf2)
        have HB := hide hb'
        clear hb hb' hc2 hf2 C3 C2'
        go_wp2_with fail
        refine (unhide C3').mono ?_
        rintro e w4 ⟨rfl, hb⟩
        have hb' := tr2 (unhide HB) hb
        clear HB C3' hb
        have C4' := hide (unhide C4 w4 hb')
        clear C4
        have HB := hide hb'
        clear hb'
        go_wp2_with fail
        refine (unhide C4').mono ?_
        rintro e w5a ⟨q3, cap3, rfl, hc3, hf3, hb⟩
        have hb' := tr2 (unhide HB) hb
        have C5' := hide (unhide C5 w5a hb' q3 cap3 hc3 hf3)
        have HB := hide hb'
        clear hb hb' hc3 hf3 C5 C4'
        go_wp2_with fail
        refine (unhide C5').mono ?_
        rintro e w5b ⟨rfl, hb⟩
        have hb' := tr2 (unhide HB) hb
        clear HB C5' hb
        have CT' := hide (unhide CT w5b hb')
        clear CT
        have HB := hide hb'
        clear hb'
        go_wp2_with fail
        refine (unhide CT').mono ?_
        rintro e w5c ⟨rfl, hb⟩
        have hb' := tr2 (unhide HB) hb
        clear HB CT' hb
        have HB := hide hb'
        clear hb'
        go_wp2
        go_ret
        exact ⟨rfl, unhide HB⟩
      | false =>
        have C4 := hide (unhide C4B hB)
        have C2' := hide (unhide C2 h0)
        rw [if_pos h0, h0] at C1
        generalize bs (bytesL f) = y at *
        generalize f.len = fl at *
        clear hf ht hcap hs hc hfl C4B C4G C2 HRB HXS 
        have C2 := C2'
        clear C2'
        go_enter Tryd.func6, Tryd.ntmps6
        go_wp2_with fail
        refine (unhide CL).mono ?_
        rintro e w1 ⟨rfl, hb⟩
        have hb' := hb
        clear CL hb
        have C1' := hide (unhide C1 w1 hb')
        clear C1
        have HB := hide hb'
        clear hb'
        go_wp2_with fail
        refine (unhide C1').mono ?_
        rintro e w2 ⟨rfl, hb⟩
        have hb' := tr2 (unhide HB) hb
        clear HB C1' hb
        have C2' := hide (unhide C2 w2 hb')
        clear C2
        have HB := hide hb'
        clear hb'
        go_wp2_with fail
        refine (unhide C2').mono ?_
        rintro e w3 ⟨q2, cap2, rfl, hc2, hf2, hb⟩
        have hb' := tr2 (unhide HB) hb
        have C3' := hide (unhide C3 w3 hb' q2 cap2 hf2)
        have HB := hide hb'
        clear hb hb' hc2 hf2 C3 C2'
        go_wp2_with fail
        refine (unhide C3').mono ?_
        rintro e w4 ⟨rfl, hb⟩
        have hb' := tr2 (unhide HB) hb
        clear HB C3' hb
        have C4' := hide (unhide C4 w4 hb')
        clear C4
        have HB := hide hb'
        clear hb'
        go_wp2_with fail
        refine (unhide C4').mono ?_
        rintro e w5a ⟨rfl, hb⟩
        have hb' := tr2 (unhide HB) hb
        clear HB C4' hb
        have CT' := hide (unhide CT w5a hb')
        clear CT
        have HB := hide hb'
        clear hb'
        go_wp2_with fail
        refine (unhide CT').mono ?_
        rintro e w5b ⟨rfl, hb⟩
        have hb' := tr2 (unhide HB) hb
        clear HB CT' hb
        have HB := hide hb'
        clear hb'
        go_wp2
        go_ret
        exact ⟨rfl, unhide HB⟩
    · cases hB : readB x.data.toList with
      | true =>
        obtain ⟨hxb, hz⟩ := unhide HRB hB
        have C4 := hide (unhide C4G hB)
        rw [if_pos hz, hz, ← hxb, unhide HXS] at C5
        generalize (readZ x.data.toList).1.len = zl at *
        have e0 : (checkN f == 0) = false := beq_eq_false_iff_ne.2 h0
        generalize bs (if checkN f = 0 then bytesL f else []) = y at *
        generalize f.len = fl at *
        clear hf ht hcap hs hc hfl C4B C4G C2 C3 HRB HXS hxb hz
        generalize checkN f = cf at *
        clear h0
        go_enter Tryd.func6, Tryd.ntmps6
        go_wp2_with fail
        refine (unhide CL).mono ?_
        rintro e w1 ⟨rfl, hb⟩
        have hb' := hb
        clear CL hb
        have C1' := hide (unhide C1 w1 hb')
        clear C1
        have HB := hide hb'
        clear hb'
        go_wp2_with fail
        refine (unhide C1').mono ?_
        rintro e w2 ⟨rfl, hb⟩
        have hb' := tr2 (unhide HB) hb
        clear HB C1' hb
        have C4' := hide (unhide C4 w2 hb')
        clear C4
        have HB := hide hb'
        clear hb'
        go_wp2_with fail
        refine (unhide C4').mono ?_
        rintro e w5a ⟨q3, cap3, rfl, hc3, hf3, hb⟩
        have hb' := tr2 (unhide HB) hb
        have C5' := hide (unhide C5 w5a hb' q3 cap3 hc3 hf3)
        have HB := hide hb'
        clear hb hb' hc3 hf3 C5 C4'
        go_wp2_with fail
        refine (unhide C5').mono ?_
        rintro e w5b ⟨rfl, hb⟩
        have hb' := tr2 (unhide HB) hb
        clear HB C5' hb
        have CT' := hide (unhide CT w5b hb')
        clear CT
        have HB := hide hb'
        clear hb'
        go_wp2_with fail
        refine (unhide CT').mono ?_
        rintro e w5c ⟨rfl, hb⟩
        have hb' := tr2 (unhide HB) hb
        clear HB CT' hb
        have HB := hide hb'
        clear hb'
        go_wp2
        go_ret
        exact ⟨rfl, unhide HB⟩
      | false =>
        have C4 := hide (unhide C4B hB)
        have e0 : (checkN f == 0) = false := beq_eq_false_iff_ne.2 h0
        generalize bs (if checkN f = 0 then bytesL f else []) = y at *
        generalize f.len = fl at *
        clear hf ht hcap hs hc hfl C4B C4G C2 C3 HRB HXS 
        generalize checkN f = cf at *
        clear h0
        go_enter Tryd.func6, Tryd.ntmps6
        go_wp2_with fail
        refine (unhide CL).mono ?_
        rintro e w1 ⟨rfl, hb⟩
        have hb' := hb
        clear CL hb
        have C1' := hide (unhide C1 w1 hb')
        clear C1
        have HB := hide hb'
        clear hb'
        go_wp2_with fail
        refine (unhide C1').mono ?_
        rintro e w2 ⟨rfl, hb⟩
        have hb' := tr2 (unhide HB) hb
        clear HB C1' hb
        have C4' := hide (unhide C4 w2 hb')
        clear C4
        have HB := hide hb'
        clear hb'
        go_wp2_with fail
        refine (unhide C4').mono ?_
        rintro e w5a ⟨rfl, hb⟩
        have hb' := tr2 (unhide HB) hb
        clear HB C4' hb
        have CT' := hide (unhide CT w5a hb')
        clear CT
        have HB := hide hb'
        clear hb'
        go_wp2_with fail
        refine (unhide CT').mono ?_
        rintro e w5b ⟨rfl, hb⟩
        have hb' := tr2 (unhide HB) hb
        clear HB CT' hb
        have HB := hide hb'
        clear hb'
        go_wp2
        go_ret
        exact ⟨rfl, unhide HB⟩
end Go.Proofs.YtmlmpongcpojjaaDoor

/-
  An argument of type []api.Node opened: the nodes behind it, with all that is below them.
-/
namespace Go.Proofs.YtmlmpongcpojjaaDoor
open Go.RowKit Go.Deep Go.WideShapes Go.ChangeShapes
set_option linter.unusedVariables false
set_option linter.unusedSimpArgs false

theorem fattr_cells : Tryd.prog.cellsOf 81 = 2 := by kernel_rfl
theorem fstr_cells : Tryd.prog.cellsOf 9 = 1 := by kernel_rfl
theorem fint_cells : Tryd.prog.cellsOf 3 = 1 := by kernel_rfl
theorem fattrs_cells : Tryd.prog.cellsOf 47 = 1 := by kernel_rfl
theorem fnodes_cells : Tryd.prog.cellsOf 22 = 1 := by kernel_rfl
theorem fnode_cells : Tryd.prog.cellsOf 49 = 6 := by kernel_rfl
theorem fadd_addr (a : Addr) (x y : Nat) : (a.add x).add y = a.add (x + y) := by
  unfold Addr.add
  by_cases h1 : x = 0
  · subst h1; simp
  · by_cases h2 : y = 0
    · subst h2; simp [h1]
    · simp [h1, h2, Nat.add_assoc]
def fstrOf : Value → ByteArray
  | .string s => s
  | _ => ByteArray.empty
def fmkAts (V0 V1 : Nat → Value) (len : Nat) : List (ByteArray × ByteArray) := (List.range len).map fun i => (fstrOf (V0 i), fstrOf (V1 i))
theorem fmkAts_len (V0 V1 : Nat → Value) (len : Nat) : (fmkAts V0 V1 len).length = len := by simp [fmkAts]
theorem fmkAts_an {V0 V1 : Nat → Value} {len k : Nat} (h : k < len) : an (fmkAts V0 V1 len) k = fstrOf (V0 k) := by simp [an, fmkAts, List.getD, h]
theorem fmkAts_av {V0 V1 : Nat → Value} {len k : Nat} (h : k < len) : av (fmkAts V0 V1 len) k = fstrOf (V1 k) := by simp [av, fmkAts, List.getD, h]
theorem open_fattrs {H : Type} {enc : TypeId × Value → H} {W : World} {fuel : Nat} {v : Value} {x : DataW H × List MemPlace}
    (h : DataW.trod enc Tryd.prog W 0 (fun _ => true) true fuel 47 [v] = some x) :
    ∃ (ats : List (ByteArray × ByteArray)) (q : Option Addr) (c : Nat), v = .slice q ats.length c ∧ Sl q ats W := by
  rcases open_slice_pairs Tryd.underlying47 Tryd.underlying81 fattr_cells rfl rfl fstr_cells fstr_cells h with ⟨hc, hx⟩ | ⟨a, len, cap, m, k, V0, V1, D0, D1, P0, P1, hc, _, hl, hm, hmm, hx, hall⟩
  · simp only [List.cons.injEq, and_true] at hc
    exact ⟨[], none, 0, hc, Or.inl rfl⟩
  · simp only [List.cons.injEq, and_true] at hc
    simp only [if_true] at hmm
    subst hmm
    have hs0 : ∀ i, i < m → V0 i = .string (fstrOf (V0 i)) := fun i hi => by
      obtain ⟨s, h1, h2, h3⟩ := DataW.trod_string Tryd.underlying9 (hall i hi).2.2.1
      simp only [List.cons.injEq, and_true] at h1
      rw [h1]; rfl
    have hs1 : ∀ i, i < m → V1 i = .string (fstrOf (V1 i)) := fun i hi => by
      obtain ⟨s, h1, h2, h3⟩ := DataW.trod_string Tryd.underlying9 (hall i hi).2.2.2
      simp only [List.cons.injEq, and_true] at h1
      rw [h1]; rfl
    refine ⟨fmkAts V0 V1 len, some a, m, by rw [fmkAts_len]; exact hc, ?_⟩
    by_cases h0 : len = 0
    · subst h0; exact Or.inl rfl
    · obtain ⟨sb, so, spot⟩ := a
      have hspot : spot = none := by simpa [Addr.add] using World.cell?_spot (hall 0 (by omega)).1
      subst hspot
      refine Or.inr ⟨sb, so, rfl, fun k hk => ?_⟩
      rw [fmkAts_len] at hk
      rw [fmkAts_an hk, fmkAts_av hk]
      have e0 := (hall k (by omega)).1
      have e1 := (hall k (by omega)).2.1
      rw [hs0 k (by omega)] at e0
      rw [hs1 k (by omega)] at e1
      rw [Addr.add_lit] at e0 e1
      exact ⟨e0, by rw [Nat.add_assoc]; exact e1⟩
/-- One node at a place. -/
def NodeAt (g o : Nat) (w : World) : Prop := ∃ k sp n ats tx kids,
  w.cell? ⟨g, o, none⟩ = some (.int .i64 k) ∧ w.cell? ⟨g, o + 1, none⟩ = some (.int .i64 sp) ∧ w.cell? ⟨g, o + 2, none⟩ = some (.string n) ∧
      (∃ qa ca, w.cell? ⟨g, o + 3, none⟩ = some (.slice qa (ats : List (ByteArray × ByteArray)).length ca) ∧ Sl qa ats w) ∧ w.cell? ⟨g, o + 4, none⟩ = some (.string tx) ∧
      ∃ qk ck, w.cell? ⟨g, o + 5, none⟩ = some (.slice qk (kids : Forest).len ck) ∧ kids.len ≤ ck ∧ (kids = .nil ∨ ∃ g' o', qk = some ⟨g', o', none⟩ ∧ Lies kids g' o' w)
theorem forest_of {g : Nat} {w : World} : ∀ (len o : Nat), (∀ i, i < len → NodeAt g (o + i * 6) w) → ∃ f : Forest, f.len = len ∧ Lies f g o w
  | 0, o, h => ⟨.nil, rfl, trivial⟩
  | len + 1, o, h => by
    obtain ⟨k, sp, n, ats, tx, kids, hn⟩ := h 0 (by omega)
    obtain ⟨f, hf, hl⟩ := forest_of len (o + 6) (fun i hi => by have := h (i + 1) (by omega); rw [show o + (i + 1) * 6 = o + 6 + i * 6 by omega] at this; exact this)
    rw [Nat.zero_mul, Nat.add_zero] at hn
    exact ⟨.cons k sp n ats tx kids f, by simp [Forest.len, hf], hn, hl⟩
theorem size_mem {H : Type} {d : DataW H} {l : List (DataW H)} (h : d ∈ l) : SizeOf.sizeOf d < SizeOf.sizeOf l := List.sizeOf_lt_of_mem h
set_option maxRecDepth 100000 in
theorem open_forest {H : Type} {enc : TypeId × Value → H} {W : World} : ∀ (sz : Nat) (fuel : Nat) (v : Value) (d : DataW H) (ps : List MemPlace), SizeOf.sizeOf d ≤ sz →
    DataW.trod enc Tryd.prog W 0 (fun _ => true) true fuel 22 [v] = some (d, ps) → ∃ (f : Forest) (q : Option Addr) (cap : Nat), v = .slice q f.len cap ∧ f.len ≤ cap ∧ Fo q f W
  | 0, fuel, v, d, ps, hs, h => by cases d <;> simp at hs
  | sz + 1, fuel, v, d, ps, hs, h => by
    rcases open_slice Tryd.underlying22 h with ⟨hc, hx⟩ | ⟨a, len, cap, m, k, D, Pl, hc, _, hl, hm, hmm, hx, hall⟩
    · simp only [List.cons.injEq, and_true] at hc
      exact ⟨.nil, none, 0, hc, Nat.le_refl _, Or.inl rfl⟩
    · simp only [List.cons.injEq, and_true] at hc
      simp only [if_true] at hmm
      subst hmm
      have hd : d = .slice ((List.range len).map D) ((List.range (m - len)).map fun j => D (len + j)) := congrArg Prod.fst hx
      have hsz : ∀ i, i < len → SizeOf.sizeOf (D i) < SizeOf.sizeOf d := fun i hi => by
        have h1 : D i ∈ (List.range len).map D := List.mem_map.2 ⟨i, List.mem_range.2 hi, rfl⟩
        have h2 := size_mem h1
        rw [hd]
        simp only [DataW.slice.sizeOf_spec]
        omega
      by_cases h0 : len = 0
      · subst h0
        exact ⟨.nil, some a, m, hc, Nat.zero_le _, Or.inl rfl⟩
      have each : ∀ i, i < len → ∃ cs', (∀ j, j < 6 → W.cell? (a.add (i * 6 + j)) = cs'[j]?) ∧ DataW.trod enc Tryd.prog W 0 (fun _ => true) true k 49 cs' = some (D i, Pl i) := fun i hi => by
        obtain ⟨cs', h1, h2⟩ := hall i (by omega)
        rw [fnode_cells] at h1
        obtain ⟨_, hlen, hcell⟩ := World.cells?_some h1
        exact ⟨cs', fun j hj => by have := hcell j hj; rw [fadd_addr] at this; exact this, h2⟩
      obtain ⟨b, o, spot⟩ := a
      have hspot : spot = none := by
        obtain ⟨cs', h1, h2⟩ := each 0 (by omega)
        obtain ⟨xs, k', _, _, hl', _, _⟩ := DataW.trod_struct Tryd.underlying49 h2
        rw [fnode_cells] at hl'
        have h3 := h1 0 (by omega)
        rw [List.getElem?_eq_getElem (by omega)] at h3
        simpa [Addr.add] using World.cell?_spot h3
      subst hspot
      have hnode : ∀ i, i < len → NodeAt b (o + i * 6) W := fun i hi => by
        obtain ⟨cs', h1, h2⟩ := each i hi
        have hszi := hsz i hi
        generalize D i = di at *
        generalize Pl i = pi at *
        obtain ⟨xs, k', _, hxe, hl', hxl, hf⟩ := DataW.trod_struct Tryd.underlying49 h2
        rw [fnode_cells] at hl'
        match cs', hl', xs, hxl with
        | [c0, c1, c2, c3, c4, c5], _, [y0, y1, y2, y3, y4, y5], _ =>
          have g0 := hf 0 _ rfl
          have g1 := hf 1 _ rfl
          have g2 := hf 2 _ rfl
          have g3 := hf 3 _ rfl
          have g4 := hf 4 _ rfl
          have g5 := hf 5 _ rfl
          simp [fint_cells, fstr_cells, fattrs_cells, fnodes_cells] at g0 g1 g2 g3 g4 g5
          obtain ⟨ki, e0', _⟩ := DataW.trod_int Tryd.underlying3 g0
          obtain ⟨spi, e1', _⟩ := DataW.trod_int Tryd.underlying3 g1
          obtain ⟨ni, e2', _⟩ := DataW.trod_string Tryd.underlying9 g2
          obtain ⟨ats, qa, ca, e3', hsl⟩ := open_fattrs g3
          obtain ⟨ti, e4', _⟩ := DataW.trod_string Tryd.underlying9 g4
          obtain ⟨y5d, y5p⟩ := y5
          have hdi : di = .agg [y0.1, y1.1, y2.1, y3.1, y4.1, y5d] := by have := congrArg Prod.fst hxe; simpa using this
          have hs5 : SizeOf.sizeOf y5d ≤ sz := by
            rw [hdi] at hszi
            simp only [DataW.agg.sizeOf_spec, List.cons.sizeOf_spec] at hszi
            omega
          obtain ⟨kf, qk, ck, e5', hck, hkf⟩ := open_forest sz k' c5 y5d y5p hs5 g5
          simp at e0' e1' e2' e4'
          have z := fun j hj => h1 j hj
          have z0 := z 0 (by omega)
          have z1 := z 1 (by omega)
          have z2 := z 2 (by omega)
          have z3 := z 3 (by omega)
          have z4 := z 4 (by omega)
          have z5 := z 5 (by omega)
          rw [Addr.add_lit] at z0 z1 z2 z3 z4 z5
          simp only [List.getElem?_cons_zero, List.getElem?_cons_succ] at z0 z1 z2 z3 z4 z5
          refine ⟨ki, spi, ni, ats, ti, kf, ?_, ?_, ?_, ⟨qa, ca, ?_, hsl⟩, ?_, qk, ck, ?_, hck, hkf⟩
          · rw [← e0']; exact z0
          · rw [Nat.add_assoc, ← e1']; exact z1
          · rw [Nat.add_assoc, ← e2']; exact z2
          · rw [Nat.add_assoc, ← e3']; exact z3
          · rw [Nat.add_assoc, ← e4']; exact z4
          · rw [Nat.add_assoc, ← e5']; exact z5
      obtain ⟨f, hf, hlf⟩ := forest_of len o hnode
      exact ⟨f, some ⟨b, o, none⟩, m, by rw [hf]; exact hc, by omega, Or.inr ⟨b, o, rfl, hlf⟩⟩
theorem open_nodes {H : Type} {enc : TypeId × Value → H} {W : World} {qa : Option Addr} {len cap : Nat} {d : DataW H} {ps : List MemPlace}
    (h : DataW.Trod enc Tryd.prog W 0 (fun _ => true) true 22 (.slice qa len cap) d ps) : ∃ f : Forest, f.len = len ∧ len ≤ cap ∧ Fo qa f W := by
  obtain ⟨n, t0⟩ := h
  have t1 : DataW.trod enc Tryd.prog W 0 (fun _ => true) true n 22 [.slice qa len cap] = some (d, ps) := by simpa [Value.cells] using t0
  obtain ⟨f, q, c, e, hc, hf⟩ := open_forest _ n _ d ps (Nat.le_refl _) t1
  injection e with e1 e2 e3
  subst e1 e2 e3
  exact ⟨f, rfl, hc, hf⟩
end Go.Proofs.YtmlmpongcpojjaaDoor

namespace Go.Proofs.YtmlmpongcpojjaaDoor.treeBackF
open Go.ChangeShapes Go.WideShapes Go.ChangeAt Go.RowKit
open Go.ChangeMaps (open_string shut_string)
set_option linter.unusedVariables false

theorem own : ownKnob Tryd.prog.godebug = none := by kernel_rfl
theorem gHeads : Tryd.prog.globalNamed "recto/utf.heads" = some 0 := by kernel_rfl
theorem gEnds : Tryd.prog.globalNamed "recto/utf.ends" = some 1 := by kernel_rfl
theorem gHeadsType : (Tryd.prog.globals[0]?).map (·.type) = some 126 := by kernel_rfl
theorem gEndsType : (Tryd.prog.globals[1]?).map (·.type) = some 126 := by kernel_rfl
theorem cellsArr : Tryd.prog.cellsOf 126 = 5 := by kernel_rfl
theorem cellsInt : Tryd.prog.cellsOf 3 = 1 := by kernel_rfl

/-- What the row's list gives: the two tables' cells. -/
theorem heads {W : World} (h : laidMetH Tryd.prog Rows.treeBackRow.laid W) : Lib.TabIs Tryd.prog W "recto/utf.heads" .i64 [0, 0, 192, 224, 240] :=
  Lib.tabIs_of_head (rest := [("recto/utf.ends", Rows.laid_recto_utf_ends)]) gHeads gHeadsType Tryd.underlying126 Tryd.underlying3 cellsInt cellsArr h
theorem ends {W : World} (h : laidMetH Tryd.prog Rows.treeBackRow.laid W) : Lib.TabIs Tryd.prog W "recto/utf.ends" .i64 [0, 128, 2048, 65536, 1114112] := by
  have h0 : laidMet Tryd.prog [("recto/utf.heads", Rows.laid_recto_utf_heads), ("recto/utf.ends", Rows.laid_recto_utf_ends)] W := h
  obtain ⟨ps, ⟨g1, t1, cs1, f1, p1, q1, _, _, _, _, hrest, rfl⟩, hnd, hcell⟩ := h0
  have h1 : laidMet Tryd.prog [("recto/utf.ends", Rows.laid_recto_utf_ends)] W :=
    ⟨q1, hrest, (List.nodup_append.1 hnd).2.1, fun b off hm => hcell b off (List.mem_append_right _ hm)⟩
  exact Lib.tabIs_of_head (rest := []) gEnds gEndsType Tryd.underlying126 Tryd.underlying3 cellsInt cellsArr h1
theorem tabs {W : World} (h : laidMetH Tryd.prog Rows.treeBackRow.laid W) : Tabs W :=
  ⟨(heads h).cell gHeads 1 (by decide), (heads h).cell gHeads 2 (by decide), (heads h).cell gHeads 3 (by decide), (heads h).cell gHeads 4 (by decide),
   (ends h).cell gEnds 1 (by decide), (ends h).cell gEnds 2 (by decide), (ends h).cell gEnds 3 (by decide), (ends h).cell gEnds 4 (by decide)⟩

theorem laidOut : laidOutB Tryd.prog = true := by kernel_rfl

set_option maxRecDepth 100000 in
theorem contract (H : Type) (enc : TypeId × Value → H) (W : World) (base : Nat) (args : Array Value) (ds gs : List (DataW H)) (before : List MemPlace)
    (hval : ∀ (j : Nat) t v, Tryd.f6.params[j]? = some t → args[j]? = some v → Value.okWide Tryd.prog W .any base t v)
    (hW : DataW.Whole enc Tryd.prog Tryd.f6.params.toList Rows.treeBackSpec.vars false W args.toList ds gs before) (hL : laidMetH Tryd.prog Rows.treeBackRow.laid W) :
    Calls Tryd.prog 6 args W fun e W' => ∃ v, e = .returned v ∧ Rows.treeBackSpec.post enc Tryd.prog Tryd.f6 false true false false W args v W' := by
  have hW' := hW
  obtain ⟨p, q, hA0, hV, rfl, hfz, hnd⟩ := hW
  have hA : DataW.TrodAll enc Tryd.prog W 0 (fun _ => true) true Tryd.f6.params.toList args.toList ds p := hA0
  rw [Tryd.params6] at hA hval
  obtain ⟨v0, vs0, d0, ds0, p0, q0, hargs, rfl, rfl, h0, r0⟩ := trodAll_cons hA
  obtain ⟨v1, vs1, d1, ds1, p1, q1, rfl, rfl, rfl, h1, r1⟩ := trodAll_cons r0
  obtain ⟨rfl, rfl, rfl⟩ := trodAll_nil r1
  obtain rfl : args = #[v0, v1] := by cases args; simp_all
  obtain ⟨rfl, rfl⟩ := trodVars_none hV
  have hlt0 : ∀ x ∈ p0, x.block < W.heap.size := fun x hx => hW'.lt x (by simp [hx])
  obtain ⟨q0', len0, cap0, rfl⟩ := okWide_slice Tryd.underlying22 (hval 0 22 v0 rfl rfl)
  obtain ⟨f0, rfl, hcap0, hfo0⟩ := open_nodes h0
  obtain ⟨a1, rfl, rfl, rfl, w1⟩ := open_string Tryd.underlying9 (hval 1 9 v1 rfl rfl) h1
  clear hA0
  refine (back_walk f0 q0' cap0 a1 W (tabs hL) hfo0 hcap0).mono fun e W' ⟨he, bel⟩ => ?_
  subst he
  exact ⟨_, rfl, _, _, _, [], _, [], hW', trodAll_mk1 (shut_bool Tryd.underlying4 _), (trodAll_cons_mk (Below.trod laidOut (by kernel_rfl) (of_decide_eq_true (by kernel_rfl)) h0 bel hlt0) (trodAll_cons_mk (shut_string Tryd.underlying9 w1) trodAll_mk0)), rfl, bel.frame _, fun h => by cases h⟩

/-- What the tables' initialisers lay. -/
def lay0 : Obj → Obj
  | .cells _ t frozen => .cells #[.int .i64 0, .int .i64 0, .int .i64 192, .int .i64 224, .int .i64 240] t frozen
  | o => o
def lay1 : Obj → Obj
  | .cells _ t frozen => .cells #[.int .i64 0, .int .i64 128, .int .i64 2048, .int .i64 65536, .int .i64 1114112] t frozen
  | o => o
theorem laid_met (os : Os) : laidMet Tryd.prog Rows.treeBackRow.laid (({ World.holding Tryd.prog os ⟨#[], #[], []⟩ with heap := ((World.holding Tryd.prog os ⟨#[], #[], []⟩).heap.modify 0 lay0).modify 1 lay1 } : World).forCall (fun _ _ => 0) ⟨#[], #[.slice none 0 0, .string ⟨#[]⟩], []⟩).memory :=
  laidMet_of_run' 8 (by kernel_rfl) (by kernel_rfl)
theorem reads (os : Os) {H : Type} (enc : TypeId × Value → H) : ∃ places, DataW.whole enc Tryd.prog (({ World.holding Tryd.prog os ⟨#[], #[], []⟩ with heap := ((World.holding Tryd.prog os ⟨#[], #[], []⟩).heap.modify 0 lay0).modify 1 lay1 } : World).forCall (fun _ _ => 0) ⟨#[], #[.slice none 0 0, .string ⟨#[]⟩], []⟩).memory Tryd.f6.params.toList Rows.treeBackSpec.vars false #[Value.slice none 0 0, Value.string ⟨#[]⟩].toList 8 = some ([.nil, .lit (.string [])], [], places) :=
  ⟨[], by kernel_rfl⟩

set_option maxRecDepth 100000 in
theorem lifted (os : Os) (started : os.Started) (H : Type) (enc : TypeId × Value → H) (F : Stop.Interp) :
    ReturnsInHanded {} Tryd.checked os 6 .any ((OpenSpec.ofChange Rows.treeBackSpec).preRow enc Tryd.prog Tryd.f6 Rows.treeBackRow.domain false Rows.treeBackRow.laid) (((OpenSpec.ofChange Rows.treeBackSpec).at F).post enc Tryd.prog Tryd.f6 false true false false) := by
  obtain ⟨places, hx⟩ := reads os enc
  refine returnsInHanded_of_row (C := Tryd.checked) (s := OpenSpec.ofChange Rows.treeBackSpec) own started (by kernel_rfl) Tryd.func6
    (witness_row_at (enc := enc) (C := Tryd.checked) false ({ World.holding Tryd.prog os ⟨#[], #[], []⟩ with heap := ((World.holding Tryd.prog os ⟨#[], #[], []⟩).heap.modify 0 lay0).modify 1 lay1 } : World) #[.slice none 0 0, .string ⟨#[]⟩] rfl (by kernel_rfl) (by kernel_rfl) (by kernel_rfl)
      (OpenSpec.preRow_of_cond 8 hx (by kernel_rfl) (fun k hk => by cases hk) (by kernel_rfl) (laid_met os))) ?_
  intro W base args ds gs before hval hW _ _ _ hL _ _
  exact contract H enc W base args ds gs before hval hW hL

theorem said : Rows.TreeBackSaid :=
  OpenClaim.holds_of_cond 6 Tryd.f6 rfl rfl rfl rfl rfl rfl rfl ⟨rfl, rfl, rfl, rfl, rfl⟩ rfl rfl rfl rfl rfl (by kernel_rfl) Tryd.func6 (by kernel_rfl)
    (of_decide_eq_true (by kernel_rfl)) (by unfold Func.isWrapper; first | (rw [if_pos (by decide +kernel)]; kernel_rfl) | (rw [if_neg (by decide +kernel)]; exact ⟨rfl, rfl⟩))
    (fun os started H enc _ F => by rw [OpenClaim.pre_eq_preRow]; exact lifted os started H enc F)

theorem plain (f : FuncId) (fn : Func) (hf : Tryd.pinned.checked.prog.funcNamed "recto/rectolaw08.TreeBack" = some f) (hfn : Tryd.pinned.checked.prog.funcs[f]? = some fn) :
    false = Tryd.pinned.checked.prog.looks [] ∧ ∀ (j : Nat) t, fn.params[j]? = some t → Tryd.pinned.checked.prog.wantsStandIn t = false := by
  obtain rfl : f = 6 := Option.some.inj ((show Tryd.prog.funcNamed "recto/rectolaw08.TreeBack" = some 6 by kernel_rfl).symm.trans hf) |>.symm
  obtain rfl : fn = Tryd.f6 := (Option.some.inj (Tryd.func6.symm.trans hfn)).symm
  refine ⟨by kernel_rfl, fun j t ht => ?_⟩
  rw [Tryd.params6] at ht
  have hm := Array.mem_of_getElem? ht
  simp at hm
  rcases hm with rfl | rfl
  · exact (show Tryd.prog.wantsStandIn 22 = false by kernel_rfl)
  · exact (show Tryd.prog.wantsStandIn 9 = false by kernel_rfl)

theorem card : Rows.TreeBackCardSaid :=
  Claim7.holds_tied_plain_at .later [] _ _ _ _ said (fun _ h => by cases h) (by kernel_rfl) (fun _ h => by cases h) treeBack_row_tie rfl ⟨rfl, rfl⟩ (by kernel_rfl) rfl plain (by kernel_rfl)
end Go.Proofs.YtmlmpongcpojjaaDoor.treeBackF

namespace Go.Proofs.YtmlmpongcpojjaaDoor
theorem treeBack_card : Rows.TreeBackCardSaid := treeBackF.card
end Go.Proofs.YtmlmpongcpojjaaDoor
