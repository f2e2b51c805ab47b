/-
  For every two lists of nodes the law TreeApart answers true: unlike nodes have unlike bytes, no one's bytes begin with another one's, and which are the same is told as they are; the two tables of the package utf start as the program's text lays them (the card ties them); and each argument reads as it did.
-/
import Derived.Test.YtmlmpongcpojjaaDoorYTx
import Derived.Test.YtmlmpongcpojjaaDoorYUn
import Derived.Test.YtmlmpongcpojjaaDoorMgA
import Derived.Deep.SlicePairs
import Derived.Deep.Strs
import Derived.Carry
import Derived.OpenShut
import Derived.Test.YtmlmpongcpojjaaDoorCards
import Derived.Test.YtmlmpongcpojjaaDoorTie
import Derived.ProofKit
import Derived.ShutString
import Derived.ChangeOld
import Derived.Below
import Derived.Deep.DeepHandedRow
import Derived.Lib.LaidTab

/-
  The law TreeApart (made by mk_lya.py).
-/
namespace Go.Proofs.YtmlmpongcpojjaaDoor
open Go.RowKit
set_option linter.unusedVariables false
set_option linter.unusedSimpArgs false

theorem begins_any (x y : ByteArray) (w : World) (hx : x.size ≤ 9223372036854775807) (hy : y.size ≤ 9223372036854775807) :
    Calls Tryd.prog 25 #[.string x, .string y] w fun e w' => e = .returned (.bool (begB x.data.toList y.data.toList)) ∧ Below w.heap.size w w' := by
  have ex : x.data.toList.length = x.size := by rw [Array.length_toList]; rfl
  have ey : y.data.toList.length = y.size := by rw [Array.length_toList]; rfl
  by_cases hl : y.size ≤ x.size
  · have hli : (y.size : Int) ≤ (x.size : Int) := by omega
    have hlg : decide ((y.size : Int) ≤ (x.size : Int)) = true := by simp; exact hl
    by_cases he : x.extract 0 y.size = y
    · have f1 := beq_yes he
      have HE : Hid (begB x.data.toList y.data.toList = true) := hide (decide_eq_true ⟨by omega, by
        have := congrArg (fun z : ByteArray => z.data.toList) he
        simp at this
        rw [ey]; exact this⟩)
      clear he
      go_enter Tryd.func25, Tryd.ntmps25
      go_wp2
      go_ret
      exact ⟨by rw [unhide HE]; rfl, Below.refl _ _⟩
    · have f1 := beq_no he
      have HE : Hid (begB x.data.toList y.data.toList = false) := hide (decide_eq_false fun h => he (by
        have h2 : (x.extract 0 y.size).data.toList = y.data.toList := by
          simp
          rw [← ey]; exact h.2
        rw [← bs_self (x.extract 0 y.size), h2, bs_self]))
      clear he
      go_enter Tryd.func25, Tryd.ntmps25
      go_wp2
      go_ret
      exact ⟨by rw [unhide HE]; rfl, Below.refl _ _⟩
  · have hli : ¬ (y.size : Int) ≤ (x.size : Int) := by omega
    have hlg : decide ((y.size : Int) ≤ (x.size : Int)) = false := by simp; omega
    have HE : Hid (begB x.data.toList y.data.toList = false) := hide (decide_eq_false fun h => hl (by omega))
    go_enter Tryd.func25, Tryd.ntmps25
    go_wp2
    go_ret
    exact ⟨by rw [unhide HE]; rfl, Below.refl _ _⟩
set_option maxHeartbeats 4000000 in
set_option maxRecDepth 100000 in
theorem apart_walk (f g : Forest) (qa qb : Option Addr) (ca cb : Nat) (w : World) (ht : Tabs w) (hf : Fo qa f w) (hg : Fo qb g w) (hca : f.len ≤ ca) (hcb : g.len ≤ cb) :
    Calls Tryd.prog 7 #[.slice qa f.len ca, .slice qb g.len cb] w fun e w' => e = .returned (.bool true) ∧ Below w.heap.size w w' := by
  have CL := hide (large08_any f qa ca w hf)
  have CM := hide (fun (W : World) (hW : Below w.heap.size w W) => large08_any g qb cb W (hg.below hW))
  have CT := hide (fun (W : World) (hW : Below w.heap.size w W) => text_any W (ht.below hW))
  obtain ⟨lb, lN, hlg⟩ : ∃ lb lN, lgT 1 f 1200 = (lb, lN) := ⟨_, _, rfl⟩
  obtain ⟨mb, mN, hmg⟩ : ∃ lb lN, lgT 1 g 1200 = (lb, lN) := ⟨_, _, rfl⟩
  rw [hlg] at CL
  rw [hmg] at CM
  dsimp only at CL CM
  cases lb with
  | true =>
    generalize f.len = fl at *
    generalize g.len = gl at *
    clear hf hg ht hlg hmg hca hcb CM
    go_enter Tryd.func7, Tryd.ntmps7
    go_wp2_with fail
    refine (unhide CL).mono ?_
    rintro e w1 ⟨rfl, hb⟩
    have hb' := hb
    clear CL hb
    have CT' := hide (unhide CT w1 hb')
    clear CT
    have HB := hide hb'
    clear hb'
    go_wp2_with fail
    refine (unhide CT').mono ?_
    rintro e w2 ⟨rfl, hb⟩
    have hb' := tr2 (unhide HB) hb
    clear HB CT' hb
    have HB := hide hb'
    clear hb'
    go_wp2
    go_ret
    exact ⟨rfl, unhide HB⟩
  | false =>
    cases mb with
    | true =>
      generalize f.len = fl at *
      generalize g.len = gl at *
      clear hf hg ht hlg hmg hca hcb
      go_enter Tryd.func7, Tryd.ntmps7
      go_wp2_with fail
      refine (unhide CL).mono ?_
      rintro e w1 ⟨rfl, hb⟩
      have hb' := hb
      clear CL hb
      have CM' := hide (unhide CM w1 hb')
      clear CM
      have HB := hide hb'
      clear hb'
      go_wp2_with fail
      refine (unhide CM').mono ?_
      rintro e w2 ⟨rfl, hb⟩
      have hb' := tr2 (unhide HB) hb
      clear HB CM' hb
      have CT' := hide (unhide CT w2 hb')
      clear CT
      have HB := hide hb'
      clear hb'
      go_wp2_with fail
      refine (unhide CT').mono ?_
      rintro e w3 ⟨rfl, hb⟩
      have hb' := tr2 (unhide HB) hb
      clear HB CT' hb
      have HB := hide hb'
      clear hb'
      go_wp2
      go_ret
      exact ⟨rfl, unhide HB⟩
    | false =>
      obtain ⟨hs, hn⟩ := lgT_small (by omega) hlg
      have hr := lgT_room 1 f 1200 lN hlg
      obtain ⟨hs', hn'⟩ := lgT_small (by omega) hmg
      have hr' := lgT_room 1 g 1200 mN hmg
      have hc : f.count ≤ 1200 := by omega
      have hc' : g.count ≤ 1200 := by omega
      have hgl := g.len_count
      have C1 := hide (fun (W : World) (hW : Below w.heap.size w W) => nodes_any f.count f (Nat.le_refl _) (by omega) hs g qa qb ca cb W (hf.below hW) (hg.below hW) hs' (by omega))
      have C2 := hide (fun (W : World) (hW : Below w.heap.size w W) => same_any f g qa qb ca cb W (hf.below hW) (hg.below hW) hs (by omega) (by omega))
      have C3 := hide (fun (W : World) (hW : Below w.heap.size w W) => tbytes_any f qa ca W (ht.below hW) (hf.below hW) hs hca (by omega))
      have C4 := hide (fun (W : World) (hW : Below w.heap.size w W) => tbytes_any g qb cb W (ht.below hW) (hg.below hW) hs' hcb (by omega))
      have l1 := by_len f hs
      have l2 := by_len g hs'
      have hfl := f.len_count
      have n1 := numW_len f.len
      have n2 := numW_len g.len
      have z1 : (bs (bytesL f)).size ≤ 9223372036854775807 := by rw [bs_size]; unfold bytesL; rw [List.length_append]; omega
      have z2 : (bs (bytesL g)).size ≤ 9223372036854775807 := by rw [bs_size]; unfold bytesL; rw [List.length_append]; omega
      have hap := fun (h0 : checkN f = 0) (h0' : checkN g = 0) => apart_is hs hs' h0 h0'
      unfold bytesV at C3 C4
      generalize sameF f g = S at *
      have eS : (S == S) = true := by simp
      by_cases h0 : checkN f = 0
      · by_cases h0' : checkN g = 0
        · have HAP := hide (hap h0 h0')
          rw [if_pos h0, h0] at C3
          rw [if_pos h0', h0'] at C4
          have C5 := hide (fun (W : World) (hW : Below w.heap.size w W) => begins_any (bs (bytesL f)) (bs (bytesL g)) W z1 z2)
          have C6 := hide (fun (W : World) (hW : Below w.heap.size w W) => begins_any (bs (bytesL g)) (bs (bytesL f)) W z2 z1)
          rw [bs_toList, bs_toList] at C5 C6
          generalize begB (bytesL f) (bytesL g) = b1 at *
          generalize begB (bytesL g) (bytesL f) = b2 at *
          generalize bs (bytesL f) = x at *
          generalize bs (bytesL g) = y at *
          generalize f.len = fl at *
          generalize g.len = gl at *
          clear hf hg ht hlg hmg hca hcb hs hs' hn hn' hr hr' hc hc' hgl l1 l2 hfl n1 n2 hap h0 h0'
          cases b1 with
          | true =>
            have hS : S = true := by rw [← unhide HAP]; rfl
            subst hS
            go_enter Tryd.func7, Tryd.ntmps7
            go_wp2_with fail
            refine (unhide CL).mono ?_
            rintro e w1 ⟨rfl, hb⟩
            have hb' := hb
            clear CL hb
            have CM' := hide (unhide CM w1 hb')
            clear CM
            have HB := hide hb'
            clear hb'
            go_wp2_with fail
            refine (unhide CM').mono ?_
            rintro e w2 ⟨rfl, hb⟩
            have hb' := tr2 (unhide HB) hb
            clear HB CM' hb
            have C1' := hide (unhide C1 w2 hb')
            clear C1
            have HB := hide hb'
            clear hb'
            go_wp2_with fail
            refine (unhide C1').mono ?_
            rintro e w3 ⟨rfl, hb⟩
            have hb' := tr2 (unhide HB) hb
            clear HB C1' hb
            have C2' := hide (unhide C2 w3 hb')
            clear C2
            have HB := hide hb'
            clear hb'
            go_wp2_with fail
            refine (unhide C2').mono ?_
            rintro e w4 ⟨rfl, hb⟩
            have hb' := tr2 (unhide HB) hb
            clear HB C2' hb
            have C3' := hide (unhide C3 w4 hb')
            clear C3
            have HB := hide hb'
            clear hb'
            go_wp2_with fail
            refine (unhide C3').mono ?_
            rintro e w5 ⟨rfl, hb⟩
            have hb' := tr2 (unhide HB) hb
            clear HB C3' hb
            have C4' := hide (unhide C4 w5 hb')
            clear C4
            have HB := hide hb'
            clear hb'
            go_wp2_with fail
            refine (unhide C4').mono ?_
            rintro e w6 ⟨rfl, hb⟩
            have hb' := tr2 (unhide HB) hb
            clear HB C4' hb
            have C5' := hide (unhide C5 w6 hb')
            clear C5
            have HB := hide hb'
            clear hb'
            go_wp2_with fail
            refine (unhide C5').mono ?_
            rintro e w7 ⟨rfl, hb⟩
            have hb' := tr2 (unhide HB) hb
            clear HB C5' hb
            have CT' := hide (unhide CT w7 hb')
            clear CT
            have HB := hide hb'
            clear hb'
            go_wp2_with fail
            refine (unhide CT').mono ?_
            rintro e w8 ⟨rfl, hb⟩
            have hb' := tr2 (unhide HB) hb
            clear HB CT' hb
            have HB := hide hb'
            clear hb'
            go_wp2
            go_ret
            exact ⟨rfl, unhide HB⟩
          | false =>
            have hS : S = b2 := by rw [← unhide HAP]; rfl
            subst hS
            go_enter Tryd.func7, Tryd.ntmps7
            go_wp2_with fail
            refine (unhide CL).mono ?_
            rintro e w1 ⟨rfl, hb⟩
            have hb' := hb
            clear CL hb
            have CM' := hide (unhide CM w1 hb')
            clear CM
            have HB := hide hb'
            clear hb'
            go_wp2_with fail
            refine (unhide CM').mono ?_
            rintro e w2 ⟨rfl, hb⟩
            have hb' := tr2 (unhide HB) hb
            clear HB CM' hb
            have C1' := hide (unhide C1 w2 hb')
            clear C1
            have HB := hide hb'
            clear hb'
            go_wp2_with fail
            refine (unhide C1').mono ?_
            rintro e w3 ⟨rfl, hb⟩
            have hb' := tr2 (unhide HB) hb
            clear HB C1' hb
            have C2' := hide (unhide C2 w3 hb')
            clear C2
            have HB := hide hb'
            clear hb'
            go_wp2_with fail
            refine (unhide C2').mono ?_
            rintro e w4 ⟨rfl, hb⟩
            have hb' := tr2 (unhide HB) hb
            clear HB C2' hb
            have C3' := hide (unhide C3 w4 hb')
            clear C3
            have HB := hide hb'
            clear hb'
            go_wp2_with fail
            refine (unhide C3').mono ?_
            rintro e w5 ⟨rfl, hb⟩
            have hb' := tr2 (unhide HB) hb
            clear HB C3' hb
            have C4' := hide (unhide C4 w5 hb')
            clear C4
            have HB := hide hb'
            clear hb'
            go_wp2_with fail
            refine (unhide C4').mono ?_
            rintro e w6 ⟨rfl, hb⟩
            have hb' := tr2 (unhide HB) hb
            clear HB C4' hb
            have C5' := hide (unhide C5 w6 hb')
            clear C5
            have HB := hide hb'
            clear hb'
            go_wp2_with fail
            refine (unhide C5').mono ?_
            rintro e w7 ⟨rfl, hb⟩
            have hb' := tr2 (unhide HB) hb
            clear HB C5' hb
            have C6' := hide (unhide C6 w7 hb')
            clear C6
            have HB := hide hb'
            clear hb'
            go_wp2_with fail
            refine (unhide C6').mono ?_
            rintro e w8 ⟨rfl, hb⟩
            have hb' := tr2 (unhide HB) hb
            clear HB C6' hb
            have CT' := hide (unhide CT w8 hb')
            clear CT
            have HB := hide hb'
            clear hb'
            go_wp2_with fail
            refine (unhide CT').mono ?_
            rintro e w9 ⟨rfl, hb⟩
            have hb' := tr2 (unhide HB) hb
            clear HB CT' hb
            have HB := hide hb'
            clear hb'
            go_wp2
            go_ret
            exact ⟨rfl, unhide HB⟩
        · have e4 : (checkN g == 0) = false := beq_eq_false_iff_ne.2 h0'
          rw [if_pos h0, h0] at C3
          generalize bs (if checkN g = 0 then bytesL g else []) = y at *
          generalize bs (bytesL f) = x at *
          generalize checkN g = cg at *
          generalize f.len = fl at *
          generalize g.len = gl at *
          clear hf hg ht hlg hmg hca hcb hs hs' hn hn' hr hr' hc hc' hgl l1 l2 hfl n1 n2 hap h0 h0'
          go_enter Tryd.func7, Tryd.ntmps7
          go_wp2_with fail
          refine (unhide CL).mono ?_
          rintro e w1 ⟨rfl, hb⟩
          have hb' := hb
          clear CL hb
          have CM' := hide (unhide CM w1 hb')
          clear CM
          have HB := hide hb'
          clear hb'
          go_wp2_with fail
          refine (unhide CM').mono ?_
          rintro e w2 ⟨rfl, hb⟩
          have hb' := tr2 (unhide HB) hb
          clear HB CM' hb
          have C1' := hide (unhide C1 w2 hb')
          clear C1
          have HB := hide hb'
          clear hb'
          go_wp2_with fail
          refine (unhide C1').mono ?_
          rintro e w3 ⟨rfl, hb⟩
          have hb' := tr2 (unhide HB) hb
          clear HB C1' hb
          have C2' := hide (unhide C2 w3 hb')
          clear C2
          have HB := hide hb'
          clear hb'
          go_wp2_with fail
          refine (unhide C2').mono ?_
          rintro e w4 ⟨rfl, hb⟩
          have hb' := tr2 (unhide HB) hb
          clear HB C2' hb
          have C3' := hide (unhide C3 w4 hb')
          clear C3
          have HB := hide hb'
          clear hb'
          go_wp2_with fail
          refine (unhide C3').mono ?_
          rintro e w5 ⟨rfl, hb⟩
          have hb' := tr2 (unhide HB) hb
          clear HB C3' hb
          have C4' := hide (unhide C4 w5 hb')
          clear C4
          have HB := hide hb'
          clear hb'
          go_wp2_with fail
          refine (unhide C4').mono ?_
          rintro e w6 ⟨rfl, hb⟩
          have hb' := tr2 (unhide HB) hb
          clear HB C4' hb
          have CT' := hide (unhide CT w6 hb')
          clear CT
          have HB := hide hb'
          clear hb'
          go_wp2_with fail
          refine (unhide CT').mono ?_
          rintro e w7 ⟨rfl, hb⟩
          have hb' := tr2 (unhide HB) hb
          clear HB CT' hb
          have HB := hide hb'
          clear hb'
          go_wp2
          go_ret
          exact ⟨rfl, unhide HB⟩
      · have e3 : (checkN f == 0) = false := beq_eq_false_iff_ne.2 h0
        generalize bs (if checkN g = 0 then bytesL g else []) = y at *
        generalize bs (if checkN f = 0 then bytesL f else []) = x at *
        generalize checkN g = cg at *
        generalize checkN f = cf at *
        generalize f.len = fl at *
        generalize g.len = gl at *
        clear hf hg ht hlg hmg hca hcb hs hs' hn hn' hr hr' hc hc' hgl l1 l2 hfl n1 n2 hap h0
        go_enter Tryd.func7, Tryd.ntmps7
        go_wp2_with fail
        refine (unhide CL).mono ?_
        rintro e w1 ⟨rfl, hb⟩
        have hb' := hb
        clear CL hb
        have CM' := hide (unhide CM w1 hb')
        clear CM
        have HB := hide hb'
        clear hb'
        go_wp2_with fail
        refine (unhide CM').mono ?_
        rintro e w2 ⟨rfl, hb⟩
        have hb' := tr2 (unhide HB) hb
        clear HB CM' hb
        have C1' := hide (unhide C1 w2 hb')
        clear C1
        have HB := hide hb'
        clear hb'
        go_wp2_with fail
        refine (unhide C1').mono ?_
        rintro e w3 ⟨rfl, hb⟩
        have hb' := tr2 (unhide HB) hb
        clear HB C1' hb
        have C2' := hide (unhide C2 w3 hb')
        clear C2
        have HB := hide hb'
        clear hb'
        go_wp2_with fail
        refine (unhide C2').mono ?_
        rintro e w4 ⟨rfl, hb⟩
        have hb' := tr2 (unhide HB) hb
        clear HB C2' hb
        have C3' := hide (unhide C3 w4 hb')
        clear C3
        have HB := hide hb'
        clear hb'
        go_wp2_with fail
        refine (unhide C3').mono ?_
        rintro e w5 ⟨rfl, hb⟩
        have hb' := tr2 (unhide HB) hb
        clear HB C3' hb
        have C4' := hide (unhide C4 w5 hb')
        clear C4
        have HB := hide hb'
        clear hb'
        go_wp2_with fail
        refine (unhide C4').mono ?_
        rintro e w6 ⟨rfl, hb⟩
        have hb' := tr2 (unhide HB) hb
        clear HB C4' hb
        have CT' := hide (unhide CT w6 hb')
        clear CT
        have HB := hide hb'
        clear hb'
        go_wp2_with fail
        refine (unhide CT').mono ?_
        rintro e w7 ⟨rfl, hb⟩
        have hb' := tr2 (unhide HB) hb
        clear HB CT' hb
        have HB := hide hb'
        clear hb'
        go_wp2
        go_ret
        exact ⟨rfl, unhide HB⟩
end Go.Proofs.YtmlmpongcpojjaaDoor

/-
  An argument of type []api.Node opened: the nodes behind it, with all that is below them.
-/
namespace Go.Proofs.YtmlmpongcpojjaaDoor
open Go.RowKit Go.Deep Go.WideShapes Go.ChangeShapes
set_option linter.unusedVariables false
set_option linter.unusedSimpArgs false

theorem fattr_cells : Tryd.prog.cellsOf 81 = 2 := by kernel_rfl
theorem fstr_cells : Tryd.prog.cellsOf 9 = 1 := by kernel_rfl
theorem fint_cells : Tryd.prog.cellsOf 3 = 1 := by kernel_rfl
theorem fattrs_cells : Tryd.prog.cellsOf 47 = 1 := by kernel_rfl
theorem fnodes_cells : Tryd.prog.cellsOf 22 = 1 := by kernel_rfl
theorem fnode_cells : Tryd.prog.cellsOf 49 = 6 := by kernel_rfl
theorem fadd_addr (a : Addr) (x y : Nat) : (a.add x).add y = a.add (x + y) := by
  unfold Addr.add
  by_cases h1 : x = 0
  · subst h1; simp
  · by_cases h2 : y = 0
    · subst h2; simp [h1]
    · simp [h1, h2, Nat.add_assoc]
def fstrOf : Value → ByteArray
  | .string s => s
  | _ => ByteArray.empty
def fmkAts (V0 V1 : Nat → Value) (len : Nat) : List (ByteArray × ByteArray) := (List.range len).map fun i => (fstrOf (V0 i), fstrOf (V1 i))
theorem fmkAts_len (V0 V1 : Nat → Value) (len : Nat) : (fmkAts V0 V1 len).length = len := by simp [fmkAts]
theorem fmkAts_an {V0 V1 : Nat → Value} {len k : Nat} (h : k < len) : an (fmkAts V0 V1 len) k = fstrOf (V0 k) := by simp [an, fmkAts, List.getD, h]
theorem fmkAts_av {V0 V1 : Nat → Value} {len k : Nat} (h : k < len) : av (fmkAts V0 V1 len) k = fstrOf (V1 k) := by simp [av, fmkAts, List.getD, h]
theorem open_fattrs {H : Type} {enc : TypeId × Value → H} {W : World} {fuel : Nat} {v : Value} {x : DataW H × List MemPlace}
    (h : DataW.trod enc Tryd.prog W 0 (fun _ => true) true fuel 47 [v] = some x) :
    ∃ (ats : List (ByteArray × ByteArray)) (q : Option Addr) (c : Nat), v = .slice q ats.length c ∧ Sl q ats W := by
  rcases open_slice_pairs Tryd.underlying47 Tryd.underlying81 fattr_cells rfl rfl fstr_cells fstr_cells h with ⟨hc, hx⟩ | ⟨a, len, cap, m, k, V0, V1, D0, D1, P0, P1, hc, _, hl, hm, hmm, hx, hall⟩
  · simp only [List.cons.injEq, and_true] at hc
    exact ⟨[], none, 0, hc, Or.inl rfl⟩
  · simp only [List.cons.injEq, and_true] at hc
    simp only [if_true] at hmm
    subst hmm
    have hs0 : ∀ i, i < m → V0 i = .string (fstrOf (V0 i)) := fun i hi => by
      obtain ⟨s, h1, h2, h3⟩ := DataW.trod_string Tryd.underlying9 (hall i hi).2.2.1
      simp only [List.cons.injEq, and_true] at h1
      rw [h1]; rfl
    have hs1 : ∀ i, i < m → V1 i = .string (fstrOf (V1 i)) := fun i hi => by
      obtain ⟨s, h1, h2, h3⟩ := DataW.trod_string Tryd.underlying9 (hall i hi).2.2.2
      simp only [List.cons.injEq, and_true] at h1
      rw [h1]; rfl
    refine ⟨fmkAts V0 V1 len, some a, m, by rw [fmkAts_len]; exact hc, ?_⟩
    by_cases h0 : len = 0
    · subst h0; exact Or.inl rfl
    · obtain ⟨sb, so, spot⟩ := a
      have hspot : spot = none := by simpa [Addr.add] using World.cell?_spot (hall 0 (by omega)).1
      subst hspot
      refine Or.inr ⟨sb, so, rfl, fun k hk => ?_⟩
      rw [fmkAts_len] at hk
      rw [fmkAts_an hk, fmkAts_av hk]
      have e0 := (hall k (by omega)).1
      have e1 := (hall k (by omega)).2.1
      rw [hs0 k (by omega)] at e0
      rw [hs1 k (by omega)] at e1
      rw [Addr.add_lit] at e0 e1
      exact ⟨e0, by rw [Nat.add_assoc]; exact e1⟩
/-- One node at a place. -/
def NodeAt (g o : Nat) (w : World) : Prop := ∃ k sp n ats tx kids,
  w.cell? ⟨g, o, none⟩ = some (.int .i64 k) ∧ w.cell? ⟨g, o + 1, none⟩ = some (.int .i64 sp) ∧ w.cell? ⟨g, o + 2, none⟩ = some (.string n) ∧
      (∃ qa ca, w.cell? ⟨g, o + 3, none⟩ = some (.slice qa (ats : List (ByteArray × ByteArray)).length ca) ∧ Sl qa ats w) ∧ w.cell? ⟨g, o + 4, none⟩ = some (.string tx) ∧
      ∃ qk ck, w.cell? ⟨g, o + 5, none⟩ = some (.slice qk (kids : Forest).len ck) ∧ kids.len ≤ ck ∧ (kids = .nil ∨ ∃ g' o', qk = some ⟨g', o', none⟩ ∧ Lies kids g' o' w)
theorem forest_of {g : Nat} {w : World} : ∀ (len o : Nat), (∀ i, i < len → NodeAt g (o + i * 6) w) → ∃ f : Forest, f.len = len ∧ Lies f g o w
  | 0, o, h => ⟨.nil, rfl, trivial⟩
  | len + 1, o, h => by
    obtain ⟨k, sp, n, ats, tx, kids, hn⟩ := h 0 (by omega)
    obtain ⟨f, hf, hl⟩ := forest_of len (o + 6) (fun i hi => by have := h (i + 1) (by omega); rw [show o + (i + 1) * 6 = o + 6 + i * 6 by omega] at this; exact this)
    rw [Nat.zero_mul, Nat.add_zero] at hn
    exact ⟨.cons k sp n ats tx kids f, by simp [Forest.len, hf], hn, hl⟩
theorem size_mem {H : Type} {d : DataW H} {l : List (DataW H)} (h : d ∈ l) : SizeOf.sizeOf d < SizeOf.sizeOf l := List.sizeOf_lt_of_mem h
set_option maxRecDepth 100000 in
theorem open_forest {H : Type} {enc : TypeId × Value → H} {W : World} : ∀ (sz : Nat) (fuel : Nat) (v : Value) (d : DataW H) (ps : List MemPlace), SizeOf.sizeOf d ≤ sz →
    DataW.trod enc Tryd.prog W 0 (fun _ => true) true fuel 22 [v] = some (d, ps) → ∃ (f : Forest) (q : Option Addr) (cap : Nat), v = .slice q f.len cap ∧ f.len ≤ cap ∧ Fo q f W
  | 0, fuel, v, d, ps, hs, h => by cases d <;> simp at hs
  | sz + 1, fuel, v, d, ps, hs, h => by
    rcases open_slice Tryd.underlying22 h with ⟨hc, hx⟩ | ⟨a, len, cap, m, k, D, Pl, hc, _, hl, hm, hmm, hx, hall⟩
    · simp only [List.cons.injEq, and_true] at hc
      exact ⟨.nil, none, 0, hc, Nat.le_refl _, Or.inl rfl⟩
    · simp only [List.cons.injEq, and_true] at hc
      simp only [if_true] at hmm
      subst hmm
      have hd : d = .slice ((List.range len).map D) ((List.range (m - len)).map fun j => D (len + j)) := congrArg Prod.fst hx
      have hsz : ∀ i, i < len → SizeOf.sizeOf (D i) < SizeOf.sizeOf d := fun i hi => by
        have h1 : D i ∈ (List.range len).map D := List.mem_map.2 ⟨i, List.mem_range.2 hi, rfl⟩
        have h2 := size_mem h1
        rw [hd]
        simp only [DataW.slice.sizeOf_spec]
        omega
      by_cases h0 : len = 0
      · subst h0
        exact ⟨.nil, some a, m, hc, Nat.zero_le _, Or.inl rfl⟩
      have each : ∀ i, i < len → ∃ cs', (∀ j, j < 6 → W.cell? (a.add (i * 6 + j)) = cs'[j]?) ∧ DataW.trod enc Tryd.prog W 0 (fun _ => true) true k 49 cs' = some (D i, Pl i) := fun i hi => by
        obtain ⟨cs', h1, h2⟩ := hall i (by omega)
        rw [fnode_cells] at h1
        obtain ⟨_, hlen, hcell⟩ := World.cells?_some h1
        exact ⟨cs', fun j hj => by have := hcell j hj; rw [fadd_addr] at this; exact this, h2⟩
      obtain ⟨b, o, spot⟩ := a
      have hspot : spot = none := by
        obtain ⟨cs', h1, h2⟩ := each 0 (by omega)
        obtain ⟨xs, k', _, _, hl', _, _⟩ := DataW.trod_struct Tryd.underlying49 h2
        rw [fnode_cells] at hl'
        have h3 := h1 0 (by omega)
        rw [List.getElem?_eq_getElem (by omega)] at h3
        simpa [Addr.add] using World.cell?_spot h3
      subst hspot
      have hnode : ∀ i, i < len → NodeAt b (o + i * 6) W := fun i hi => by
        obtain ⟨cs', h1, h2⟩ := each i hi
        have hszi := hsz i hi
        generalize D i = di at *
        generalize Pl i = pi at *
        obtain ⟨xs, k', _, hxe, hl', hxl, hf⟩ := DataW.trod_struct Tryd.underlying49 h2
        rw [fnode_cells] at hl'
        match cs', hl', xs, hxl with
        | [c0, c1, c2, c3, c4, c5], _, [y0, y1, y2, y3, y4, y5], _ =>
          have g0 := hf 0 _ rfl
          have g1 := hf 1 _ rfl
          have g2 := hf 2 _ rfl
          have g3 := hf 3 _ rfl
          have g4 := hf 4 _ rfl
          have g5 := hf 5 _ rfl
          simp [fint_cells, fstr_cells, fattrs_cells, fnodes_cells] at g0 g1 g2 g3 g4 g5
          obtain ⟨ki, e0', _⟩ := DataW.trod_int Tryd.underlying3 g0
          obtain ⟨spi, e1', _⟩ := DataW.trod_int Tryd.underlying3 g1
          obtain ⟨ni, e2', _⟩ := DataW.trod_string Tryd.underlying9 g2
          obtain ⟨ats, qa, ca, e3', hsl⟩ := open_fattrs g3
          obtain ⟨ti, e4', _⟩ := DataW.trod_string Tryd.underlying9 g4
          obtain ⟨y5d, y5p⟩ := y5
          have hdi : di = .agg [y0.1, y1.1, y2.1, y3.1, y4.1, y5d] := by have := congrArg Prod.fst hxe; simpa using this
          have hs5 : SizeOf.sizeOf y5d ≤ sz := by
            rw [hdi] at hszi
            simp only [DataW.agg.sizeOf_spec, List.cons.sizeOf_spec] at hszi
            omega
          obtain ⟨kf, qk, ck, e5', hck, hkf⟩ := open_forest sz k' c5 y5d y5p hs5 g5
          simp at e0' e1' e2' e4'
          have z := fun j hj => h1 j hj
          have z0 := z 0 (by omega)
          have z1 := z 1 (by omega)
          have z2 := z 2 (by omega)
          have z3 := z 3 (by omega)
          have z4 := z 4 (by omega)
          have z5 := z 5 (by omega)
          rw [Addr.add_lit] at z0 z1 z2 z3 z4 z5
          simp only [List.getElem?_cons_zero, List.getElem?_cons_succ] at z0 z1 z2 z3 z4 z5
          refine ⟨ki, spi, ni, ats, ti, kf, ?_, ?_, ?_, ⟨qa, ca, ?_, hsl⟩, ?_, qk, ck, ?_, hck, hkf⟩
          · rw [← e0']; exact z0
          · rw [Nat.add_assoc, ← e1']; exact z1
          · rw [Nat.add_assoc, ← e2']; exact z2
          · rw [Nat.add_assoc, ← e3']; exact z3
          · rw [Nat.add_assoc, ← e4']; exact z4
          · rw [Nat.add_assoc, ← e5']; exact z5
      obtain ⟨f, hf, hlf⟩ := forest_of len o hnode
      exact ⟨f, some ⟨b, o, none⟩, m, by rw [hf]; exact hc, by omega, Or.inr ⟨b, o, rfl, hlf⟩⟩
theorem open_nodes {H : Type} {enc : TypeId × Value → H} {W : World} {qa : Option Addr} {len cap : Nat} {d : DataW H} {ps : List MemPlace}
    (h : DataW.Trod enc Tryd.prog W 0 (fun _ => true) true 22 (.slice qa len cap) d ps) : ∃ f : Forest, f.len = len ∧ len ≤ cap ∧ Fo qa f W := by
  obtain ⟨n, t0⟩ := h
  have t1 : DataW.trod enc Tryd.prog W 0 (fun _ => true) true n 22 [.slice qa len cap] = some (d, ps) := by simpa [Value.cells] using t0
  obtain ⟨f, q, c, e, hc, hf⟩ := open_forest _ n _ d ps (Nat.le_refl _) t1
  injection e with e1 e2 e3
  subst e1 e2 e3
  exact ⟨f, rfl, hc, hf⟩
end Go.Proofs.YtmlmpongcpojjaaDoor

namespace Go.Proofs.YtmlmpongcpojjaaDoor.treeApartF
open Go.ChangeShapes Go.WideShapes Go.ChangeAt Go.RowKit
open Go.ChangeMaps (open_string shut_string)
set_option linter.unusedVariables false

theorem own : ownKnob Tryd.prog.godebug = none := by kernel_rfl
theorem gHeads : Tryd.prog.globalNamed "recto/utf.heads" = some 0 := by kernel_rfl
theorem gEnds : Tryd.prog.globalNamed "recto/utf.ends" = some 1 := by kernel_rfl
theorem gHeadsType : (Tryd.prog.globals[0]?).map (·.type) = some 126 := by kernel_rfl
theorem gEndsType : (Tryd.prog.globals[1]?).map (·.type) = some 126 := by kernel_rfl
theorem cellsArr : Tryd.prog.cellsOf 126 = 5 := by kernel_rfl
theorem cellsInt : Tryd.prog.cellsOf 3 = 1 := by kernel_rfl

/-- What the row's list gives: the two tables' cells. -/
theorem heads {W : World} (h : laidMetH Tryd.prog Rows.treeApartRow.laid W) : Lib.TabIs Tryd.prog W "recto/utf.heads" .i64 [0, 0, 192, 224, 240] :=
  Lib.tabIs_of_head (rest := [("recto/utf.ends", Rows.laid_recto_utf_ends)]) gHeads gHeadsType Tryd.underlying126 Tryd.underlying3 cellsInt cellsArr h
theorem ends {W : World} (h : laidMetH Tryd.prog Rows.treeApartRow.laid W) : Lib.TabIs Tryd.prog W "recto/utf.ends" .i64 [0, 128, 2048, 65536, 1114112] := by
  have h0 : laidMet Tryd.prog [("recto/utf.heads", Rows.laid_recto_utf_heads), ("recto/utf.ends", Rows.laid_recto_utf_ends)] W := h
  obtain ⟨ps, ⟨g1, t1, cs1, f1, p1, q1, _, _, _, _, hrest, rfl⟩, hnd, hcell⟩ := h0
  have h1 : laidMet Tryd.prog [("recto/utf.ends", Rows.laid_recto_utf_ends)] W :=
    ⟨q1, hrest, (List.nodup_append.1 hnd).2.1, fun b off hm => hcell b off (List.mem_append_right _ hm)⟩
  exact Lib.tabIs_of_head (rest := []) gEnds gEndsType Tryd.underlying126 Tryd.underlying3 cellsInt cellsArr h1
theorem tabs {W : World} (h : laidMetH Tryd.prog Rows.treeApartRow.laid W) : Tabs W :=
  ⟨(heads h).cell gHeads 1 (by decide), (heads h).cell gHeads 2 (by decide), (heads h).cell gHeads 3 (by decide), (heads h).cell gHeads 4 (by decide),
   (ends h).cell gEnds 1 (by decide), (ends h).cell gEnds 2 (by decide), (ends h).cell gEnds 3 (by decide), (ends h).cell gEnds 4 (by decide)⟩

theorem laidOut : laidOutB Tryd.prog = true := by kernel_rfl

set_option maxRecDepth 100000 in
theorem contract (H : Type) (enc : TypeId × Value → H) (W : World) (base : Nat) (args : Array Value) (ds gs : List (DataW H)) (before : List MemPlace)
    (hval : ∀ (j : Nat) t v, Tryd.f7.params[j]? = some t → args[j]? = some v → Value.okWide Tryd.prog W .any base t v)
    (hW : DataW.Whole enc Tryd.prog Tryd.f7.params.toList Rows.treeApartSpec.vars false W args.toList ds gs before) (hL : laidMetH Tryd.prog Rows.treeApartRow.laid W) :
    Calls Tryd.prog 7 args W fun e W' => ∃ v, e = .returned v ∧ Rows.treeApartSpec.post enc Tryd.prog Tryd.f7 false true false false W args v W' := by
  have hW' := hW
  obtain ⟨p, q, hA0, hV, rfl, hfz, hnd⟩ := hW
  have hA : DataW.TrodAll enc Tryd.prog W 0 (fun _ => true) true Tryd.f7.params.toList args.toList ds p := hA0
  rw [Tryd.params7] at hA hval
  obtain ⟨v0, vs0, d0, ds0, p0, q0, hargs, rfl, rfl, h0, r0⟩ := trodAll_cons hA
  obtain ⟨v1, vs1, d1, ds1, p1, q1, rfl, rfl, rfl, h1, r1⟩ := trodAll_cons r0
  obtain ⟨rfl, rfl, rfl⟩ := trodAll_nil r1
  obtain rfl : args = #[v0, v1] := by cases args; simp_all
  obtain ⟨rfl, rfl⟩ := trodVars_none hV
  have hlt0 : ∀ x ∈ p0, x.block < W.heap.size := fun x hx => hW'.lt x (by simp [hx])
  obtain ⟨q0', len0, cap0, rfl⟩ := okWide_slice Tryd.underlying22 (hval 0 22 v0 rfl rfl)
  obtain ⟨f0, rfl, hcap0, hfo0⟩ := open_nodes h0
  have hlt1 : ∀ x ∈ p1, x.block < W.heap.size := fun x hx => hW'.lt x (by simp [hx])
  obtain ⟨q1', len1, cap1, rfl⟩ := okWide_slice Tryd.underlying22 (hval 1 22 v1 rfl rfl)
  obtain ⟨f1, rfl, hcap1, hfo1⟩ := open_nodes h1
  clear hA0
  refine (apart_walk f0 f1 q0' q1' cap0 cap1 W (tabs hL) hfo0 hfo1 hcap0 hcap1).mono fun e W' ⟨he, bel⟩ => ?_
  subst he
  exact ⟨_, rfl, _, _, _, [], _, [], hW', trodAll_mk1 (shut_bool Tryd.underlying4 _), (trodAll_cons_mk (Below.trod laidOut (by kernel_rfl) (of_decide_eq_true (by kernel_rfl)) h0 bel hlt0) (trodAll_cons_mk (Below.trod laidOut (by kernel_rfl) (of_decide_eq_true (by kernel_rfl)) h1 bel hlt1) trodAll_mk0)), rfl, bel.frame _, fun h => by cases h⟩

/-- What the tables' initialisers lay. -/
def lay0 : Obj → Obj
  | .cells _ t frozen => .cells #[.int .i64 0, .int .i64 0, .int .i64 192, .int .i64 224, .int .i64 240] t frozen
  | o => o
def lay1 : Obj → Obj
  | .cells _ t frozen => .cells #[.int .i64 0, .int .i64 128, .int .i64 2048, .int .i64 65536, .int .i64 1114112] t frozen
  | o => o
theorem laid_met (os : Os) : laidMet Tryd.prog Rows.treeApartRow.laid (({ World.holding Tryd.prog os ⟨#[], #[], []⟩ with heap := ((World.holding Tryd.prog os ⟨#[], #[], []⟩).heap.modify 0 lay0).modify 1 lay1 } : World).forCall (fun _ _ => 0) ⟨#[], #[.slice none 0 0, .slice none 0 0], []⟩).memory :=
  laidMet_of_run' 8 (by kernel_rfl) (by kernel_rfl)
theorem reads (os : Os) {H : Type} (enc : TypeId × Value → H) : ∃ places, DataW.whole enc Tryd.prog (({ World.holding Tryd.prog os ⟨#[], #[], []⟩ with heap := ((World.holding Tryd.prog os ⟨#[], #[], []⟩).heap.modify 0 lay0).modify 1 lay1 } : World).forCall (fun _ _ => 0) ⟨#[], #[.slice none 0 0, .slice none 0 0], []⟩).memory Tryd.f7.params.toList Rows.treeApartSpec.vars false #[Value.slice none 0 0, Value.slice none 0 0].toList 8 = some ([.nil, .nil], [], places) :=
  ⟨[], by kernel_rfl⟩

set_option maxRecDepth 100000 in
theorem lifted (os : Os) (started : os.Started) (H : Type) (enc : TypeId × Value → H) (F : Stop.Interp) :
    ReturnsInHanded {} Tryd.checked os 7 .any ((OpenSpec.ofChange Rows.treeApartSpec).preRow enc Tryd.prog Tryd.f7 Rows.treeApartRow.domain false Rows.treeApartRow.laid) (((OpenSpec.ofChange Rows.treeApartSpec).at F).post enc Tryd.prog Tryd.f7 false true false false) := by
  obtain ⟨places, hx⟩ := reads os enc
  refine returnsInHanded_of_row (C := Tryd.checked) (s := OpenSpec.ofChange Rows.treeApartSpec) own started (by kernel_rfl) Tryd.func7
    (witness_row_at (enc := enc) (C := Tryd.checked) false ({ World.holding Tryd.prog os ⟨#[], #[], []⟩ with heap := ((World.holding Tryd.prog os ⟨#[], #[], []⟩).heap.modify 0 lay0).modify 1 lay1 } : World) #[.slice none 0 0, .slice none 0 0] rfl (by kernel_rfl) (by kernel_rfl) (by kernel_rfl)
      (OpenSpec.preRow_of_cond 8 hx (by kernel_rfl) (fun k hk => by cases hk) (by kernel_rfl) (laid_met os))) ?_
  intro W base args ds gs before hval hW _ _ _ hL _ _
  exact contract H enc W base args ds gs before hval hW hL

theorem said : Rows.TreeApartSaid :=
  OpenClaim.holds_of_cond 7 Tryd.f7 rfl rfl rfl rfl rfl rfl rfl ⟨rfl, rfl, rfl, rfl, rfl⟩ rfl rfl rfl rfl rfl (by kernel_rfl) Tryd.func7 (by kernel_rfl)
    (of_decide_eq_true (by kernel_rfl)) (by unfold Func.isWrapper; first | (rw [if_pos (by decide +kernel)]; kernel_rfl) | (rw [if_neg (by decide +kernel)]; exact ⟨rfl, rfl⟩))
    (fun os started H enc _ F => by rw [OpenClaim.pre_eq_preRow]; exact lifted os started H enc F)

theorem plain (f : FuncId) (fn : Func) (hf : Tryd.pinned.checked.prog.funcNamed "recto/rectolaw08.TreeApart" = some f) (hfn : Tryd.pinned.checked.prog.funcs[f]? = some fn) :
    false = Tryd.pinned.checked.prog.looks [] ∧ ∀ (j : Nat) t, fn.params[j]? = some t → Tryd.pinned.checked.prog.wantsStandIn t = false := by
  obtain rfl : f = 7 := Option.some.inj ((show Tryd.prog.funcNamed "recto/rectolaw08.TreeApart" = some 7 by kernel_rfl).symm.trans hf) |>.symm
  obtain rfl : fn = Tryd.f7 := (Option.some.inj (Tryd.func7.symm.trans hfn)).symm
  refine ⟨by kernel_rfl, fun j t ht => ?_⟩
  rw [Tryd.params7] at ht
  obtain rfl : t = 22 := by simpa using Array.mem_of_getElem? ht
  exact (show Tryd.prog.wantsStandIn 22 = false by kernel_rfl)

theorem card : Rows.TreeApartCardSaid :=
  Claim7.holds_tied_plain_at .later [] _ _ _ _ said (fun _ h => by cases h) (by kernel_rfl) (fun _ h => by cases h) treeApart_row_tie rfl ⟨rfl, rfl⟩ (by kernel_rfl) rfl plain (by kernel_rfl)
end Go.Proofs.YtmlmpongcpojjaaDoor.treeApartF

namespace Go.Proofs.YtmlmpongcpojjaaDoor
theorem treeApart_card : Rows.TreeApartCardSaid := treeApartF.card
end Go.Proofs.YtmlmpongcpojjaaDoor
