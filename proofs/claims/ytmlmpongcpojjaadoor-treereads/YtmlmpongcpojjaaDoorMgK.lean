/-
  Several texts in one: what the functions of the program and of the document's answer do.
-/
import Derived.Test.YtmlmpongcpojjaaDoorYTx
import Derived.Test.YtmlmpongcpojjaaDoorMgE
import Derived.Test.YtmlmpongcpojjaaDoorMgL

/-
  The law TreeBack (made by mk_lyb.py).
-/
namespace Go.Proofs.YtmlmpongcpojjaaDoor
open Go.RowKit
set_option linter.unusedVariables false
set_option linter.unusedSimpArgs false

theorem check0d {f : Forest} (h : checkN f = 0) : f.depth ≤ 40 := by
  rw [check_is] at h
  unfold rcheckN at h
  by_cases h2 : 300 < f.count ∨ 40 < f.depth
  · rw [if_pos h2] at h; omega
  · omega
theorem read_written {f : Forest} (hs : SmF f) (h0 : checkN f = 0) : readZ (bytesL f) = (f, [], 0 + f.count, false) ∧ readB (bytesL f) = true := by
  obtain ⟨ha, hc⟩ := check0 h0
  have h := lsF_there 40 f [] 0 ha hs (check0d h0) (by omega)
  rw [List.append_nil] at h
  have hz : readZ (bytesL f) = (f, [], 0 + f.count, false) := h
  refine ⟨hz, ?_⟩
  unfold readB
  rw [hz]
  simp [h0]
theorem tread_written (f : Forest) (w : World) (ht : Tabs w) (hs : SmF f) (h0 : checkN f = 0) (hl : (bytesL f).length ≤ 1000000000000) :
    Calls Tryd.prog 21 #[.string (bs (bytesL f))] w fun e w' => ∃ q cap, e = .returned (.tuple #[.slice q f.len cap, .int .i64 0]) ∧ f.len ≤ cap ∧ Fo q f w' ∧ Below w.heap.size w w' := by
  obtain ⟨h1, h2⟩ := read_written hs h0
  have := tread_any (bs (bytesL f)) w ht (by rw [bs_size]; exact hl) (by rw [bs_toList, h1]; exact hs)
  rw [bs_toList, h1, h2] at this
  refine this.mono fun e w' h => ?_
  unfold RdSaid at h
  rw [if_pos rfl] at h
  obtain ⟨⟨q, cap, a, b, c⟩, d⟩ := h
  exact ⟨q, cap, a, b, c, d⟩
theorem tread_bad (x : ByteArray) (w : World) (ht : Tabs w) (hs : x.size ≤ 1000000000000) (hsm : SmF (readZ x.data.toList).1) (hb : readB x.data.toList = false) :
    Calls Tryd.prog 21 #[.string x] w fun e w' => e = .returned (.tuple #[.slice none 0 0, .int .i64 4]) ∧ Below w.heap.size w w' := by
  have := tread_any x w ht hs hsm
  rw [hb] at this
  exact this
theorem tread_good (x : ByteArray) (w : World) (ht : Tabs w) (hs : x.size ≤ 1000000000000) (hsm : SmF (readZ x.data.toList).1) (hb : readB x.data.toList = true) :
    Calls Tryd.prog 21 #[.string x] w fun e w' => ∃ q cap, e = .returned (.tuple #[.slice q (readZ x.data.toList).1.len cap, .int .i64 0]) ∧ (readZ x.data.toList).1.len ≤ cap ∧ Fo q (readZ x.data.toList).1 w' ∧ Below w.heap.size w w' := by
  have := tread_any x w ht hs hsm
  rw [hb] at this
  refine this.mono fun e w' h => ?_
  unfold RdSaid at h
  rw [if_pos rfl] at h
  obtain ⟨⟨q, cap, a, b, c⟩, d⟩ := h
  exact ⟨q, cap, a, b, c, d⟩
theorem readB_is {l : List UInt8} (h : readB l = true) : l = bytesL (readZ l).1 ∧ checkN (readZ l).1 = 0 := by
  unfold readB at h
  simp only [Bool.and_eq_true, decide_eq_true_eq, Bool.not_eq_true'] at h
  obtain ⟨h1, h2, h3⟩ := h
  have hb := (lsF_back 40 (l, 0, false) (show (lsF 40 (l, 0, false)).2.2.2 = false from h1)).1
  have h4 : (readZ l).2.1 = [] := by simpa using h2
  refine ⟨?_, h3⟩
  have hb' : l = bytesL (readZ l).1 ++ (readZ l).2.1 := hb
  rw [h4, List.append_nil] at hb'
  exact hb'
set_option maxHeartbeats 4000000 in
set_option maxRecDepth 100000 in
theorem back_walk (f : Forest) (q : Option Addr) (cap : Nat) (x : ByteArray) (w : World) (ht : Tabs w) (hf : Fo q f w) (hcap : f.len ≤ cap) :
    Calls Tryd.prog 6 #[.slice q f.len cap, .string x] w fun e w' => e = .returned (.bool true) ∧ Below w.heap.size w w' := by
  have CL := hide (large08_any f q cap w hf)
  have CT := hide (fun (W : World) (hW : Below w.heap.size w W) => text_any W (ht.below hW))
  obtain ⟨lb, lN, hlg⟩ : ∃ lb lN, lgT 1 f 1200 = (lb, lN) := ⟨_, _, rfl⟩
  rw [hlg] at CL
  dsimp only at CL
  cases lb with
  | true =>
    generalize f.len = fl at *
    clear hf ht hlg hcap
    go_enter Tryd.func6, Tryd.ntmps6
    go_wp2_with fail
    refine (unhide CL).mono ?_
    rintro e w1 ⟨rfl, hb⟩
    have hb' := hb
    clear CL hb
    have CT' := hide (unhide CT w1 hb')
    clear CT
    have HB := hide hb'
    clear hb'
    go_wp2_with fail
    refine (unhide CT').mono ?_
    rintro e w2 ⟨rfl, hb⟩
    have hb' := tr2 (unhide HB) hb
    clear HB CT' hb
    have HB := hide hb'
    clear hb'
    go_wp2
    go_ret
    exact ⟨rfl, unhide HB⟩
  | false =>
    by_cases hx : 3000 < x.size
    · have hxi : (3000 : Int) < (x.size : Int) := by omega
      generalize f.len = fl at *
      clear hf ht hlg hcap
      go_enter Tryd.func6, Tryd.ntmps6
      go_wp2_with fail
      refine (unhide CL).mono ?_
      rintro e w1 ⟨rfl, hb⟩
      have hb' := hb
      clear CL hb
      have CT' := hide (unhide CT w1 hb')
      clear CT
      have HB := hide hb'
      clear hb'
      go_wp2_with fail
      refine (unhide CT').mono ?_
      rintro e w2 ⟨rfl, hb⟩
      have hb' := tr2 (unhide HB) hb
      clear HB CT' hb
      have HB := hide hb'
      clear hb'
      go_wp2
      go_ret
      exact ⟨rfl, unhide HB⟩
    have hxi : ¬ (3000 : Int) < (x.size : Int) := by omega
    obtain ⟨hs, hn⟩ := lgT_small (by omega) hlg
    have hr := lgT_room 1 f 1200 lN hlg
    have hc : f.count ≤ 1200 := by omega
    have hxl : x.data.toList.length ≤ 5000 := by rw [Array.length_toList]; have : x.data.size = x.size := rfl; omega
    have hok := lsF_ok 40 (by omega) (x.data.toList, 0, false) (fun h => by cases h) (by show 0 ≤ 300; omega) (by show x.data.toList.length ≤ _; omega)
    have hsm2 : SmF (readZ x.data.toList).1 := hok.sm hxl
    have hcn2 : (readZ x.data.toList).1.count ≤ 1000 := by
      have h1 : (lsF 40 (x.data.toList, 0, false)).1.count + 0 ≤ (lsF 40 (x.data.toList, 0, false)).2.2.1 := hok.cnt
      have h2 := hok.rs.most
      show (lsF 40 (x.data.toList, 0, false)).1.count ≤ 1000
      omega
    have C1 := hide (fun (W : World) (hW : Below w.heap.size w W) => tbytes_any f q cap W (ht.below hW) (hf.below hW) hs hcap (by omega))
    have l1 := by_len f hs
    have n1 := numW_len f.len
    have hfl := f.len_count
    have hlen : (bytesL f).length ≤ 1000000000000 := by unfold bytesL; rw [List.length_append]; omega
    have C2 := hide (fun (h0 : checkN f = 0) (W : World) (hW : Below w.heap.size w W) => tread_written f W (ht.below hW) hs h0 hlen)
    have C3 := hide (fun (W : World) (hW : Below w.heap.size w W) (q2 : Option Addr) (cap2 : Nat) (h2 : Fo q2 f W) => nodes_any f.count f (Nat.le_refl _) (by omega) hs f q q2 cap cap2 W (hf.below hW) h2 hs (by omega))
    rw [(sameF_eq f f).2 rfl] at C3
    have C4B := hide (fun (hB : readB x.data.toList = false) (W : World) (hW : Below w.heap.size w W) => tread_bad x W (ht.below hW) (by omega) hsm2 hB)
    have C4G := hide (fun (hB : readB x.data.toList = true) (W : World) (hW : Below w.heap.size w W) => tread_good x W (ht.below hW) (by omega) hsm2 hB)
    have C5 := hide (fun (W : World) (hW : Below w.heap.size w W) (q3 : Option Addr) (cap3 : Nat) (hc3 : (readZ x.data.toList).1.len ≤ cap3) (hf3 : Fo q3 (readZ x.data.toList).1 W) => tbytes_any (readZ x.data.toList).1 q3 cap3 W (ht.below hW) hf3 hsm2 hc3 (by omega))
    have HRB := hide (fun (hB : readB x.data.toList = true) => readB_is hB)
    have HXS : Hid (bs x.data.toList = x) := hide (bs_self x)
    unfold bytesV at C1 C5
    have ex := beq_yes (rfl : x = x)
    clear hok hsm2 hcn2 l1 n1 hlen hlg hn hr hxl
    by_cases h0 : checkN f = 0
    · cases hB : readB x.data.toList with
      | true =>
        obtain ⟨hxb, hz⟩ := unhide HRB hB
        have C4 := hide (unhide C4G hB)
        rw [if_pos hz, hz, ← hxb, unhide HXS] at C5
        generalize (readZ x.data.toList).1.len = zl at *
        have C2' := hide (unhide C2 h0)
        rw [if_pos h0, h0] at C1
        generalize bs (bytesL f) = y at *
        generalize f.len = fl at *
        clear hf ht hcap hs hc hfl C4B C4G C2 HRB HXS hxb hz
        have C2 := C2'
        clear C2'
        go_enter Tryd.func6, Tryd.ntmps6
        go_wp2_with fail
        refine (unhide CL).mono ?_
        rintro e w1 ⟨rfl, hb⟩
        have hb' := hb
        clear CL hb
        have C1' := hide (unhide C1 w1 hb')
        clear C1
        have HB := hide hb'
        clear hb'
        go_wp2_with fail
        refine (unhide C1').mono ?_
        rintro e w2 ⟨rfl, hb⟩
        have hb' := tr2 (unhide HB) hb
        clear HB C1' hb
        have C2' := hide (unhide C2 w2 hb')
        clear C2
        have HB := hide hb'
        clear hb'
        go_wp2_with fail
        refine (unhide C2').mono ?_
        rintro e w3 ⟨q2, cap2, rfl, hc2, hf2, hb⟩
        have hb' := tr2 (unhide HB) hb
        have C3' := hide (unhide C3 w3 hb' q2 cap2 hf2)
        have HB := hide hb'
        clear hb hb' hc2 hf2 C3 C2'
        go_wp2_with fail
        refine (unhide C3').mono ?_
        rintro e w4 ⟨rfl, hb⟩
        have hb' := tr2 (unhide HB) hb
        clear HB C3' hb
        have C4' := hide (unhide C4 w4 hb')
        clear C4
        have HB := hide hb'
        clear hb'
        go_wp2_with fail
        refine (unhide C4').mono ?_
        rintro e w5a ⟨q3, cap3, rfl, hc3, hf3, hb⟩
        have hb' := tr2 (unhide HB) hb
        have C5' := hide (unhide C5 w5a hb' q3 cap3 hc3 hf3)
        have HB := hide hb'
        clear hb hb' hc3 hf3 C5 C4'
        go_wp2_with fail
        refine (unhide C5').mono ?_
        rintro e w5b ⟨rfl, hb⟩
        have hb' := tr2 (unhide HB) hb
        clear HB C5' hb
        have CT' := hide (unhide CT w5b hb')
        clear CT
        have HB := hide hb'
        clear hb'
        go_wp2_with fail
        refine (unhide CT').mono ?_
        rintro e w5c ⟨rfl, hb⟩
        have hb' := tr2 (unhide HB) hb
        clear HB CT' hb
        have HB := hide hb'
        clear hb'
        go_wp2
        go_ret
        exact ⟨rfl, unhide HB⟩
      | false =>
        have C4 := hide (unhide C4B hB)
        have C2' := hide (unhide C2 h0)
        rw [if_pos h0, h0] at C1
        generalize bs (bytesL f) = y at *
        generalize f.len = fl at *
        clear hf ht hcap hs hc hfl C4B C4G C2 HRB HXS 
        have C2 := C2'
        clear C2'
        go_enter Tryd.func6, Tryd.ntmps6
        go_wp2_with fail
        refine (unhide CL).mono ?_
        rintro e w1 ⟨rfl, hb⟩
        have hb' := hb
        clear CL hb
        have C1' := hide (unhide C1 w1 hb')
        clear C1
        have HB := hide hb'
        clear hb'
        go_wp2_with fail
        refine (unhide C1').mono ?_
        rintro e w2 ⟨rfl, hb⟩
        have hb' := tr2 (unhide HB) hb
        clear HB C1' hb
        have C2' := hide (unhide C2 w2 hb')
        clear C2
        have HB := hide hb'
        clear hb'
        go_wp2_with fail
        refine (unhide C2').mono ?_
        rintro e w3 ⟨q2, cap2, rfl, hc2, hf2, hb⟩
        have hb' := tr2 (unhide HB) hb
        have C3' := hide (unhide C3 w3 hb' q2 cap2 hf2)
        have HB := hide hb'
        clear hb hb' hc2 hf2 C3 C2'
        go_wp2_with fail
        refine (unhide C3').mono ?_
        rintro e w4 ⟨rfl, hb⟩
        have hb' := tr2 (unhide HB) hb
        clear HB C3' hb
        have C4' := hide (unhide C4 w4 hb')
        clear C4
        have HB := hide hb'
        clear hb'
        go_wp2_with fail
        refine (unhide C4').mono ?_
        rintro e w5a ⟨rfl, hb⟩
        have hb' := tr2 (unhide HB) hb
        clear HB C4' hb
        have CT' := hide (unhide CT w5a hb')
        clear CT
        have HB := hide hb'
        clear hb'
        go_wp2_with fail
        refine (unhide CT').mono ?_
        rintro e w5b ⟨rfl, hb⟩
        have hb' := tr2 (unhide HB) hb
        clear HB CT' hb
        have HB := hide hb'
        clear hb'
        go_wp2
        go_ret
        exact ⟨rfl, unhide HB⟩
    · cases hB : readB x.data.toList with
      | true =>
        obtain ⟨hxb, hz⟩ := unhide HRB hB
        have C4 := hide (unhide C4G hB)
        rw [if_pos hz, hz, ← hxb, unhide HXS] at C5
        generalize (readZ x.data.toList).1.len = zl at *
        have e0 : (checkN f == 0) = false := beq_eq_false_iff_ne.2 h0
        generalize bs (if checkN f = 0 then bytesL f else []) = y at *
        generalize f.len = fl at *
        clear hf ht hcap hs hc hfl C4B C4G C2 C3 HRB HXS hxb hz
        generalize checkN f = cf at *
        clear h0
        go_enter Tryd.func6, Tryd.ntmps6
        go_wp2_with fail
        refine (unhide CL).mono ?_
        rintro e w1 ⟨rfl, hb⟩
        have hb' := hb
        clear CL hb
        have C1' := hide (unhide C1 w1 hb')
        clear C1
        have HB := hide hb'
        clear hb'
        go_wp2_with fail
        refine (unhide C1').mono ?_
        rintro e w2 ⟨rfl, hb⟩
        have hb' := tr2 (unhide HB) hb
        clear HB C1' hb
        have C4' := hide (unhide C4 w2 hb')
        clear C4
        have HB := hide hb'
        clear hb'
        go_wp2_with fail
        refine (unhide C4').mono ?_
        rintro e w5a ⟨q3, cap3, rfl, hc3, hf3, hb⟩
        have hb' := tr2 (unhide HB) hb
        have C5' := hide (unhide C5 w5a hb' q3 cap3 hc3 hf3)
        have HB := hide hb'
        clear hb hb' hc3 hf3 C5 C4'
        go_wp2_with fail
        refine (unhide C5').mono ?_
        rintro e w5b ⟨rfl, hb⟩
        have hb' := tr2 (unhide HB) hb
        clear HB C5' hb
        have CT' := hide (unhide CT w5b hb')
        clear CT
        have HB := hide hb'
        clear hb'
        go_wp2_with fail
        refine (unhide CT').mono ?_
        rintro e w5c ⟨rfl, hb⟩
        have hb' := tr2 (unhide HB) hb
        clear HB CT' hb
        have HB := hide hb'
        clear hb'
        go_wp2
        go_ret
        exact ⟨rfl, unhide HB⟩
      | false =>
        have C4 := hide (unhide C4B hB)
        have e0 : (checkN f == 0) = false := beq_eq_false_iff_ne.2 h0
        generalize bs (if checkN f = 0 then bytesL f else []) = y at *
        generalize f.len = fl at *
        clear hf ht hcap hs hc hfl C4B C4G C2 C3 HRB HXS 
        generalize checkN f = cf at *
        clear h0
        go_enter Tryd.func6, Tryd.ntmps6
        go_wp2_with fail
        refine (unhide CL).mono ?_
        rintro e w1 ⟨rfl, hb⟩
        have hb' := hb
        clear CL hb
        have C1' := hide (unhide C1 w1 hb')
        clear C1
        have HB := hide hb'
        clear hb'
        go_wp2_with fail
        refine (unhide C1').mono ?_
        rintro e w2 ⟨rfl, hb⟩
        have hb' := tr2 (unhide HB) hb
        clear HB C1' hb
        have C4' := hide (unhide C4 w2 hb')
        clear C4
        have HB := hide hb'
        clear hb'
        go_wp2_with fail
        refine (unhide C4').mono ?_
        rintro e w5a ⟨rfl, hb⟩
        have hb' := tr2 (unhide HB) hb
        clear HB C4' hb
        have CT' := hide (unhide CT w5a hb')
        clear CT
        have HB := hide hb'
        clear hb'
        go_wp2_with fail
        refine (unhide CT').mono ?_
        rintro e w5b ⟨rfl, hb⟩
        have hb' := tr2 (unhide HB) hb
        clear HB CT' hb
        have HB := hide hb'
        clear hb'
        go_wp2
        go_ret
        exact ⟨rfl, unhide HB⟩
end Go.Proofs.YtmlmpongcpojjaaDoor

/-
  The reference's reader of nodes, plainly, and that it reads what the program reads.
-/
namespace Go.Proofs.YtmlmpongcpojjaaDoor
set_option linter.unusedVariables false
set_option linter.unusedSimpArgs false

def pN (most : Int) (l : List UInt8) : Option (Int × List UInt8) :=
  match takeN l with
  | some (v, k) => if most < v then none else some (v, l.drop k)
  | none => none
def pT (l : List UInt8) : Option (ByteArray × List UInt8) :=
  match takeT l with
  | some (k, n) => some (bs ((l.drop k).take n), (l.drop k).drop n)
  | none => none
def pAts : Nat → List UInt8 → Option (List (ByteArray × ByteArray) × List UInt8)
  | 0, l => some ([], l)
  | c + 1, l => (pT l).bind fun x => (pT x.2).bind fun y => (pAts c y.2).map fun z => ((x.1, y.1) :: z.1, z.2)
def pElem (kp : List UInt8 → Option (Forest × List UInt8)) (k : Int) (l : List UInt8) : Option (Nd × List UInt8) :=
  (pN 2 l).bind fun sp => (pT sp.2).bind fun n => (pN 12 n.2).bind fun c => (pAts c.1.toNat c.2).bind fun a => (kp a.2).map fun ks => (⟨k, sp.1, n.1, a.1, ⟨#[]⟩, ks.1⟩, ks.2)
def pOne (kp : List UInt8 → Option (Forest × List UInt8)) (l : List UInt8) : Option (Nd × List UInt8) :=
  (pN 3 l).bind fun k => if k.1 = 2 ∨ k.1 = 3 then (pT k.2).map fun t => (⟨k.1, 0, ⟨#[]⟩, [], t.1, .nil⟩, t.2) else pElem kp k.1 k.2
def pMany (kp : List UInt8 → Option (Forest × List UInt8)) : Nat → List UInt8 → Option (Forest × List UInt8)
  | 0, l => some (.nil, l)
  | c + 1, l => (pOne kp l).bind fun x => (pMany kp c x.2).map fun z => (x.1.cons z.1, z.2)
def pTop (kp : List UInt8 → Option (Forest × List UInt8)) (l : List UInt8) : Option (Forest × List UInt8) := (pN 300 l).bind fun c => pMany kp c.1.toNat c.2
def pL : Nat → List UInt8 → Option (Forest × List UInt8)
  | 0 => pTop (fun _ => none)
  | d + 1 => pTop (pL d)

/-! ### back, and how great -/
theorem pN_some {most : Int} {l : List UInt8} {x : Int × List UInt8} (h : pN most l = some x) : l = nb x.1 ++ x.2 ∧ 0 ≤ x.1 ∧ x.1 ≤ most ∧ x.2.length + 1 ≤ l.length := by
  unfold pN at h
  cases ht : takeN l with
  | none => rw [ht] at h; cases h
  | some y =>
    obtain ⟨v, k⟩ := y
    rw [ht] at h
    dsimp only at h
    by_cases hm : most < v
    · rw [if_pos hm] at h; cases h
    · rw [if_neg hm] at h
      have hx : (v, l.drop k) = x := by simpa using h
      subst hx
      have hs := takeN_some ht
      exact ⟨takeN_back ht, hs.1, by show v ≤ most; omega, by show (l.drop k).length + 1 ≤ _; rw [List.length_drop]; omega⟩
theorem pT_some {l : List UInt8} {x : ByteArray × List UInt8} (h : pT l = some x) : l = tb x.1 ++ x.2 ∧ x.1.size ≤ 65536 ∧ x.2.length + x.1.size + 1 ≤ l.length := by
  unfold pT at h
  cases ht : takeT l with
  | none => rw [ht] at h; cases h
  | some y =>
    obtain ⟨k, n⟩ := y
    rw [ht] at h
    have hx : (bs ((l.drop k).take n), (l.drop k).drop n) = x := by simpa using h
    subst hx
    have hs := takeT_some ht
    refine ⟨(takeT_back ht).1, (takeT_back ht).2, ?_⟩
    dsimp only
    rw [bs_size]
    simp
    omega
theorem pAts_some : ∀ (c : Nat) (l : List UInt8) (x : List (ByteArray × ByteArray) × List UInt8), pAts c l = some x → l = atW x.1 ++ x.2 ∧ x.1.length = c ∧ x.2.length ≤ l.length ∧ ∀ a ∈ x.1, a.1.size ≤ l.length ∧ a.2.size ≤ l.length
  | 0, l, x, h => by
    have hx : (([] : List (ByteArray × ByteArray)), l) = x := by simpa [pAts] using h
    subst hx
    exact ⟨rfl, rfl, Nat.le_refl _, fun a ha => by cases ha⟩
  | c + 1, l, x, h => by
    rw [pAts, Option.bind_eq_some_iff] at h
    obtain ⟨y, hy, h⟩ := h
    rw [Option.bind_eq_some_iff] at h
    obtain ⟨z, hz, h⟩ := h
    rw [Option.map_eq_some_iff] at h
    obtain ⟨u, hu, rfl⟩ := h
    obtain ⟨y1, y2, y3⟩ := pT_some hy
    obtain ⟨z1, z2, z3⟩ := pT_some hz
    obtain ⟨u1, u2, u3, u4⟩ := pAts_some c _ u hu
    refine ⟨?_, by show (_ :: u.1).length = _; rw [List.length_cons, u2], by dsimp only; omega, fun a ha => ?_⟩
    · show l = (tb y.1 ++ (tb z.1 ++ atW u.1)) ++ u.2
      rw [List.append_assoc, List.append_assoc, ← u1, ← z1]; exact y1
    · rcases List.mem_cons.1 ha with rfl | ha
      · dsimp only; omega
      · have := u4 a ha; omega
structure POk (l : List UInt8) (f : Forest) (r : List UInt8) : Prop where
  sm : l.length ≤ 5000 → SmF f
  cnt : f.count + r.length ≤ l.length
  back : allB f = true → l = bytesL f ++ r
structure PNk (l : List UInt8) (x : Nd) (r : List UInt8) : Prop where
  tx : l.length ≤ 5000 → x.tx.size ≤ 5000
  n : l.length ≤ 5000 → x.n.size ≤ 5000
  ats : l.length ≤ 5000 → Fits x.ats
  sm : l.length ≤ 5000 → SmF x.kids
  cnt : 1 + x.kids.count + r.length ≤ l.length
  back : raB x.k x.sp x.n x.ats x.tx x.kids.len = true → (leafB x.k || (apartB x.kids && allB x.kids)) = true → l = (nodeL x.k x.sp x.n x.ats x.tx x.kids.len ++ byF x.kids) ++ r
theorem pOne_ok (kp : List UInt8 → Option (Forest × List UInt8)) (hk : ∀ l f r, kp l = some (f, r) → POk l f r) (l : List UInt8) (x : Nd) (r : List UInt8) (h : pOne kp l = some (x, r)) : PNk l x r := by
  unfold pOne at h
  rw [Option.bind_eq_some_iff] at h
  obtain ⟨k, hkk, h⟩ := h
  obtain ⟨k1, k2, k3, k4⟩ := pN_some hkk
  by_cases c1 : k.1 = 2 ∨ k.1 = 3
  · rw [if_pos c1, Option.map_eq_some_iff] at h
    obtain ⟨t, ht, hx⟩ := h
    obtain ⟨t1, t2, t3⟩ := pT_some ht
    injection hx with hx1 hx2
    subst hx1 hx2
    refine ⟨fun h => by dsimp only; omega, fun _ => by dsimp only; decide, fun _ => fits_nil, fun _ => trivial, by show 1 + 0 + t.2.length ≤ _; omega, fun _ _ => ?_⟩
    have hk1 : ¬ k.1 = 1 := by omega
    show l = (nodeL k.1 0 ⟨#[]⟩ [] t.1 0 ++ []) ++ t.2
    unfold nodeL
    rw [if_neg hk1, numW_nb k2 (by omega), List.append_nil, List.append_assoc, ← t1]
    exact k1
  · rw [if_neg c1] at h
    unfold pElem at h
    rw [Option.bind_eq_some_iff] at h
    obtain ⟨sp, hsp, h⟩ := h
    rw [Option.bind_eq_some_iff] at h
    obtain ⟨n, hn, h⟩ := h
    rw [Option.bind_eq_some_iff] at h
    obtain ⟨c, hc, h⟩ := h
    rw [Option.bind_eq_some_iff] at h
    obtain ⟨a, ha, h⟩ := h
    rw [Option.map_eq_some_iff] at h
    obtain ⟨ks, hks, hx⟩ := h
    injection hx with hx1 hx2
    subst hx1 hx2
    obtain ⟨s1, s2, s3, s4⟩ := pN_some hsp
    obtain ⟨n1, n2, n3⟩ := pT_some hn
    obtain ⟨c1', c2, c3, c4⟩ := pN_some hc
    obtain ⟨a1, a2, a3, a4⟩ := pAts_some _ _ a ha
    have hkk' := hk a.2 ks.1 ks.2 hks
    have hcn := hkk'.cnt
    refine ⟨fun _ => by dsimp only; decide, fun h => by dsimp only; omega, fun h => fits_of (L := c.2.length) (by dsimp only; omega) (by omega) a4, fun h => hkk'.sm (by omega), by show 1 + ks.1.count + ks.2.length ≤ _; omega, fun hra hlf => ?_⟩
    dsimp only at hra hlf ⊢
    rcases ra_is hra with ⟨h1, _⟩ | ⟨h1, _⟩
    · have hleaf : leafB k.1 = false := by rw [h1]; rfl
      rw [hleaf, Bool.false_or, Bool.and_eq_true] at hlf
      have hb := hkk'.back hlf.2
      unfold nodeL
      rw [if_pos h1, numW_nb k2 (by omega), numW_nb s2 (by omega), numW_nb (n := (a.1.length : Int)) (by omega) (by omega)]
      simp only [List.append_assoc]
      unfold bytesL at hb
      rw [List.append_assoc] at hb
      rw [← hb, ← a1, a2, Int.toNat_of_nonneg c2, ← c1', ← n1, ← s1]
      exact k1
    · exact absurd h1 c1
theorem pMany_ok (kp : List UInt8 → Option (Forest × List UInt8)) (hk : ∀ l f r, kp l = some (f, r) → POk l f r) : ∀ (c : Nat) (l : List UInt8) (f : Forest) (r : List UInt8), pMany kp c l = some (f, r) → (l.length ≤ 5000 → SmF f) ∧ f.count + r.length ≤ l.length ∧ f.len = c ∧ (allB f = true → l = byF f ++ r)
  | 0, l, f, r, h => by
    have hx : (Forest.nil, l) = (f, r) := by simpa [pMany] using h
    injection hx with h1 h2
    subst h1 h2
    exact ⟨fun _ => trivial, by show 0 + l.length ≤ _; omega, rfl, fun _ => rfl⟩
  | c + 1, l, f, r, h => by
    rw [pMany, Option.bind_eq_some_iff] at h
    obtain ⟨x, hx, h⟩ := h
    rw [Option.map_eq_some_iff] at h
    obtain ⟨z, hz, he⟩ := h
    injection he with h1 h2
    subst h1 h2
    have ho := pOne_ok kp hk l x.1 x.2 hx
    obtain ⟨m1, m2, m3, m4⟩ := pMany_ok kp hk c x.2 z.1 z.2 hz
    have hcn := ho.cnt
    refine ⟨fun h => ⟨⟨ho.tx h, ho.n h, ho.ats h, by omega⟩, ho.sm h, m1 (by omega)⟩, by show 1 + x.1.kids.count + z.1.count + z.2.length ≤ _; omega, by show z.1.len + 1 = _; rw [m3], fun ha => ?_⟩
    have ha1 : (raB x.1.k x.1.sp x.1.n x.1.ats x.1.tx x.1.kids.len && ((leafB x.1.k || (apartB x.1.kids && allB x.1.kids)) && allB z.1)) = true := ha
    rw [Bool.and_eq_true, Bool.and_eq_true] at ha1
    have hb := ho.back ha1.1 ha1.2.1
    show l = (nodeL x.1.k x.1.sp x.1.n x.1.ats x.1.tx x.1.kids.len ++ (byF x.1.kids ++ byF z.1)) ++ z.2
    rw [hb, m4 ha1.2.2]
    simp only [List.append_assoc]
theorem pTop_ok (kp : List UInt8 → Option (Forest × List UInt8)) (hk : ∀ l f r, kp l = some (f, r) → POk l f r) (l : List UInt8) (f : Forest) (r : List UInt8) (h : pTop kp l = some (f, r)) : POk l f r := by
  unfold pTop at h
  rw [Option.bind_eq_some_iff] at h
  obtain ⟨c, hc, h⟩ := h
  obtain ⟨c1, c2, c3, c4⟩ := pN_some hc
  obtain ⟨m1, m2, m3, m4⟩ := pMany_ok kp hk _ _ f r h
  refine ⟨fun h => m1 (by omega), by omega, fun ha => ?_⟩
  unfold bytesL
  rw [m3, Int.toNat_of_nonneg c2, numW_nb c2 (by omega), List.append_assoc, ← m4 ha]
  exact c1
theorem pL_ok : ∀ (d : Nat) (l : List UInt8) (f : Forest) (r : List UInt8), pL d l = some (f, r) → POk l f r
  | 0, l, f, r, h => pTop_ok _ (fun _ _ _ h => by cases h) l f r h
  | d + 1, l, f, r, h => pTop_ok _ (pL_ok d) l f r h

/-! ### there -/
theorem pN_there {most v : Int} (r : List UInt8) (h0 : 0 ≤ v) (h1 : v ≤ most) (h2 : v ≤ 1099511627776) : pN most (nb v ++ r) = some (v, r) := by
  unfold pN
  rw [takeN_nb v r h0 h2]
  dsimp only
  rw [if_neg (by omega), List.drop_left]
theorem pT_there (s : ByteArray) (r : List UInt8) (h : s.size ≤ 65536) : pT (tb s ++ r) = some (s, r) := by
  have hl : s.data.toList.length = s.size := by rw [Array.length_toList]; rfl
  unfold pT
  rw [takeT_tb s r h]
  dsimp only
  have h1 : (tb s ++ r).drop (nb (s.size : Int)).length = s.data.toList ++ r := by unfold tb; rw [List.append_assoc, List.drop_left]
  rw [h1, List.take_left' hl, List.drop_left' hl, bs_self]
theorem pAts_there : ∀ (ats : List (ByteArray × ByteArray)) (r : List UInt8), AtF ats → pAts ats.length (atW ats ++ r) = some (ats, r)
  | [], r, _ => rfl
  | (x, y) :: ats, r, h => by
    have h0 := h _ (List.mem_cons_self ..)
    dsimp only at h0
    rw [List.length_cons, pAts, show atW ((x, y) :: ats) ++ r = tb x ++ (tb y ++ (atW ats ++ r)) by simp only [atW, List.append_assoc], pT_there x _ h0.1]
    show (pT (tb y ++ (atW ats ++ r))).bind _ = _
    rw [pT_there y _ h0.2]
    show (pAts ats.length (atW ats ++ r)).map _ = _
    rw [pAts_there ats r (fun z hz => h z (List.mem_cons_of_mem _ hz))]
    rfl
theorem pMany_there (kp : List UInt8 → Option (Forest × List UInt8)) (d : Nat) (hk : ∀ (g : Forest) (r : List UInt8), allB g = true → SmF g → g.depth + 1 ≤ d → g.count ≤ 300 → kp (bytesL g ++ r) = some (g, r)) :
    ∀ (f : Forest), allB f = true → SmF f → f.depth ≤ d → f.count ≤ 300 → ∀ (r : List UInt8), pMany kp f.len (byF f ++ r) = some (f, r)
  | .nil, _, _, _, _, r => rfl
  | .cons k sp n ats tx kids rest, ha, hs, hdp, hc, r => by
    obtain ⟨⟨htx, hn, hfit, hkc⟩, hsk, hsr⟩ := hs
    have ha1 : (raB k sp n ats tx kids.len && ((leafB k || (apartB kids && allB kids)) && allB rest)) = true := ha
    rw [Bool.and_eq_true, Bool.and_eq_true] at ha1
    obtain ⟨hra, hlf, hrest⟩ := ha1
    have hc' : 1 + kids.count + rest.count ≤ 300 := hc
    have hdp' : max (if 0 < kids.depth ∨ leafB k = false then kids.depth + 1 else kids.depth) rest.depth ≤ d := hdp
    have hone : pOne kp ((nodeL k sp n ats tx kids.len ++ byF kids) ++ (byF rest ++ r)) = some (⟨k, sp, n, ats, tx, kids⟩, byF rest ++ r) := by
      unfold pOne
      rcases ra_is hra with ⟨h1, hsp, hsp2, htx0⟩ | ⟨h1, hsp0, hn0, hat0, hkl0⟩
      · subst h1
        have hleaf : leafB 1 = false := rfl
        rw [hleaf, Bool.false_or, Bool.and_eq_true] at hlf
        have hd1 : kids.depth + 1 ≤ d := by
          rw [if_pos (Or.inr hleaf)] at hdp'
          omega
        have i1 := hfit.1
        rw [show (nodeL 1 sp n ats tx kids.len ++ byF kids) ++ (byF rest ++ r) = nb 1 ++ (nb sp ++ (tb n ++ (nb (ats.length : Int) ++ (atW ats ++ (bytesL kids ++ (byF rest ++ r)))))) by
          unfold nodeL bytesL
          rw [if_pos rfl, numW_nb (n := 1) (by omega) (by omega), numW_nb hsp (by omega), numW_nb (n := (ats.length : Int)) (by omega) (by omega)]
          simp only [List.append_assoc], pN_there _ (by omega) (by omega) (by omega)]
        simp only [Option.bind_some]
        rw [if_neg (by omega)]
        unfold pElem
        rw [pN_there _ hsp hsp2 (by omega)]
        show (pT (tb n ++ (nb (ats.length : Int) ++ (atW ats ++ (bytesL kids ++ (byF rest ++ r)))))).bind _ = _
        rw [pT_there n _ (by omega)]
        show (pN 12 (nb (ats.length : Int) ++ (atW ats ++ (bytesL kids ++ (byF rest ++ r))))).bind _ = _
        have i2 := ra_ats hra
        rw [pN_there _ (by omega) (by omega) (by omega)]
        show (pAts (Int.toNat (ats.length : Int)) (atW ats ++ (bytesL kids ++ (byF rest ++ r)))).bind _ = _
        rw [Int.toNat_natCast, pAts_there ats _ (at_fits hfit)]
        show (kp (bytesL kids ++ (byF rest ++ r))).map _ = _
        rw [hk kids _ hlf.2 hsk hd1 (by omega), htx0]
        rfl
      · have hk1 : ¬ k = 1 := by omega
        have q := len_nil hkl0
        subst q
        rw [show (nodeL k sp n ats tx Forest.nil.len ++ byF .nil) ++ (byF rest ++ r) = nb k ++ (tb tx ++ (byF rest ++ r)) by
          unfold nodeL
          rw [if_neg hk1, numW_nb (n := k) (by omega) (by omega), show byF .nil = [] from rfl]
          simp only [List.append_assoc, List.nil_append], pN_there _ (by omega) (by omega) (by omega)]
        simp only [Option.bind_some]
        rw [if_pos h1, pT_there tx _ (by omega), hsp0, hn0, hat0]
        rfl
    have ih := pMany_there kp d hk rest hrest hsr (by omega) (by omega) r
    show pMany kp (rest.len + 1) _ = _
    rw [pMany, show byF (.cons k sp n ats tx kids rest) ++ r = (nodeL k sp n ats tx kids.len ++ byF kids) ++ (byF rest ++ r) by
      show (nodeL k sp n ats tx kids.len ++ (byF kids ++ byF rest)) ++ r = _
      simp only [List.append_assoc], hone]
    show (pMany kp rest.len (byF rest ++ r)).map _ = _
    rw [ih]
    rfl
theorem pTop_there (kp : List UInt8 → Option (Forest × List UInt8)) (f : Forest) (r : List UInt8) (hc : f.count ≤ 300) (h : pMany kp f.len (byF f ++ r) = some (f, r)) : pTop kp (bytesL f ++ r) = some (f, r) := by
  have hl := f.len_count
  unfold pTop bytesL
  rw [numW_nb (n := (f.len : Int)) (by omega) (by omega), List.append_assoc, pN_there _ (by omega) (by omega) (by omega)]
  show pMany kp (Int.toNat (f.len : Int)) (byF f ++ r) = _
  rw [Int.toNat_natCast]; exact h
theorem pL_there : ∀ (d : Nat) (f : Forest) (r : List UInt8), allB f = true → SmF f → f.depth ≤ d → f.count ≤ 300 → pL d (bytesL f ++ r) = some (f, r)
  | 0, f, r, ha, hs, hd, hc => pTop_there _ f r hc (pMany_there _ 0 (fun g r a b c e => by omega) f ha hs hd hc r)
  | d + 1, f, r, ha, hs, hd, hc => pTop_there _ f r hc (pMany_there _ (d + 1) (fun g r a b c e => pL_there d g r a b (by omega) e) f ha hs hd hc r)
/-- What the reference reads: the nodes, if there are such. -/
def refV (l : List UInt8) : Option Forest :=
  match pL 40 l with
  | some (f, []) => if checkN f = 0 then some f else none
  | _ => none
theorem ref_is {l : List UInt8} (hl : l.length ≤ 5000) : refV l = if readB l = true then some (readZ l).1 else none := by
  unfold refV
  cases hB : readB l with
  | true =>
    obtain ⟨h1, h2⟩ := readB_is hB
    have hok := lsF_ok 40 (by omega) (l, 0, false) (fun h => by cases h) (by show 0 ≤ 300; omega) (by show l.length ≤ _; omega)
    have hs : SmF (readZ l).1 := hok.sm hl
    obtain ⟨ha, hc⟩ := check0 h2
    have := pL_there 40 (readZ l).1 [] ha hs (check0d h2) hc
    rw [List.append_nil, ← h1] at this
    rw [this]
    dsimp only
    rw [if_pos h2, if_pos rfl]
  | false =>
    rw [if_neg (by simp)]
    cases hp : pL 40 l with
    | none => rfl
    | some x =>
      obtain ⟨f, r⟩ := x
      cases r with
      | cons a b => rfl
      | nil =>
        dsimp only
        by_cases h0 : checkN f = 0
        · have hk := pL_ok 40 l f [] hp
          have hb := hk.back (check0 h0).1
          rw [List.append_nil] at hb
          have := (read_written (hk.sm hl) h0).2
          rw [← hb, hB] at this
          cases this
        · rw [if_neg h0]
end Go.Proofs.YtmlmpongcpojjaaDoor

/-
  The reference's TakeNum and TakeText, in one form.
-/
namespace Go.Proofs.YtmlmpongcpojjaaDoor
open Go.RowKit
set_option linter.unusedVariables false
set_option linter.unusedSimpArgs false

def tnV (l : List UInt8) : Int × List UInt8 × Int :=
  match takeN l with
  | some (v, k) => (v, l.drop k, 0)
  | none => (0, [], 4)
def ttV (l : List UInt8) : ByteArray × List UInt8 × Int :=
  match takeT l with
  | some (k, n) => (bs ((l.drop k).take n), (l.drop k).drop n, 0)
  | none => (⟨#[]⟩, [], 4)
theorem tkN_any (l : List UInt8) (w : World) (hl : l.length ≤ 1000000) :
    Calls Tryd.prog 68 #[.string (bs l)] w fun e w' => e = .returned (.agg #[.int .i64 (tnV l).1, .string ⟨#[]⟩, .slice none 0 0, .string (bs (tnV l).2.1), .int .i64 (tnV l).2.2]) ∧ Below w.heap.size w w' := by
  have hz : (bs l).size ≤ 9223372036854775807 := by rw [bs_size]; omega
  have hc := fun w => rnum_any (bs l) w hz
  unfold tnV
  cases ht : takeN l with
  | none =>
    exact rtake_none (bs l) w (hide fun w => by
      have := hc w
      rw [bs_toList, show gotOf l = .agg #[.int .i64 0, .int .i64 (-1)] by simp only [gotOf, ht]; rfl] at this
      exact this)
  | some x =>
    obtain ⟨v, k⟩ := x
    have hs := takeN_some ht
    have := rtake_some (bs l) w v k hz (by rw [bs_size]; exact hs.2.2.1) (hide fun w => by
      have := hc w
      rw [bs_toList, show gotOf l = .agg #[.int .i64 v, .int .i64 k] by simp only [gotOf, ht]; rfl] at this
      exact this)
    dsimp only
    rw [show bs (l.drop k) = (bs l).extract k (bs l).size by
      rw [← bs_self ((bs l).extract k (bs l).size)]
      congr 1
      simp [bs_toList, bs_size]
      exact (List.take_of_length_le (by simp)).symm]
    exact this
theorem tkT_any (l : List UInt8) (w : World) (hl : l.length ≤ 1000000) :
    Calls Tryd.prog 88 #[.string (bs l)] w fun e w' => e = .returned (.agg #[.int .i64 0, .string (ttV l).1, .slice none 0 0, .string (bs (ttV l).2.1), .int .i64 (ttV l).2.2]) ∧ Below w.heap.size w w' := by
  have := rtext_any (bs l) w (by rw [bs_size]; omega)
  rw [bs_toList] at this
  unfold rtextV at this
  unfold ttV
  cases ht : takeT l with
  | none => rw [ht] at this; exact this
  | some x => obtain ⟨k, n⟩ := x; rw [ht] at this; exact this
theorem tnV_ok (l : List UInt8) : 0 ≤ (tnV l).1 ∧ (tnV l).2.1.length ≤ l.length ∧ ((tnV l).2.2 = 0 ∨ ((tnV l).2.2 = 4 ∧ (tnV l).2.1 = [])) := by
  unfold tnV
  cases ht : takeN l with
  | none => exact ⟨Int.le_refl _, Nat.zero_le _, Or.inr ⟨rfl, rfl⟩⟩
  | some x =>
    obtain ⟨v, k⟩ := x
    have hs := takeN_some ht
    exact ⟨hs.1, by simp, Or.inl rfl⟩
theorem ttV_ok (l : List UInt8) : (ttV l).2.1.length ≤ l.length ∧ ((ttV l).2.2 = 0 ∨ ((ttV l).2.2 = 4 ∧ (ttV l).2.1 = [])) := by
  unfold ttV
  cases ht : takeT l with
  | none => exact ⟨Nat.zero_le _, Or.inr ⟨rfl, rfl⟩⟩
  | some x =>
    obtain ⟨k, n⟩ := x
    exact ⟨by simp, Or.inl rfl⟩
theorem pN_tn (most : Int) (l : List UInt8) : pN most l = if (tnV l).2.2 = 0 ∧ (tnV l).1 ≤ most then some ((tnV l).1, (tnV l).2.1) else none := by
  unfold pN tnV
  cases ht : takeN l with
  | none => simp
  | some x =>
    obtain ⟨v, k⟩ := x
    dsimp only
    by_cases h : most < v
    · rw [if_pos h, if_neg (by omega)]
    · rw [if_neg h, if_pos ⟨rfl, by omega⟩]
theorem pT_tt (l : List UInt8) : pT l = if (ttV l).2.2 = 0 then some ((ttV l).1, (ttV l).2.1) else none := by
  unfold pT ttV
  cases ht : takeT l with
  | none => simp
  | some x => obtain ⟨k, n⟩ := x; simp
end Go.Proofs.YtmlmpongcpojjaaDoor
