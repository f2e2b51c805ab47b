/-
  For all bytes the law TreeReads answers true: the nodes that any bytes are, or that they are none's, are the document's; the two tables of the package utf start as the program's text lays them (the card ties them); and each argument reads as it did.
-/
import Derived.Test.YtmlmpongcpojjaaDoorYQm
import Derived.Test.YtmlmpongcpojjaaDoorMgA
import Derived.Deep.SlicePairs
import Derived.Deep.Strs
import Derived.Carry
import Derived.OpenShut
import Derived.Test.YtmlmpongcpojjaaDoorCards
import Derived.Test.YtmlmpongcpojjaaDoorTie
import Derived.ProofKit
import Derived.ShutString
import Derived.ChangeOld
import Derived.Below
import Derived.Deep.DeepHandedRow
import Derived.Lib.LaidTab

/-
  The reference's one, many and Read of the tree, on the whole.
-/
namespace Go.Proofs.YtmlmpongcpojjaaDoor
open Go.RowKit
set_option linter.unusedVariables false
set_option linter.unusedSimpArgs false

theorem one_all (kp : List UInt8 → Option (Forest × List UInt8)) (dd : Int) (hdd : -10 ≤ dd) (hdd2 : dd ≤ 100)
    (CK : Hid (∀ (l : List UInt8) (W : World), l.length ≤ 5000 → Calls Tryd.prog 48 #[.string (bs l), .int .i64 (dd - 1)] W (ManySaid W (kp l))))
    (l : List UInt8) (w : World) (hl : l.length ≤ 5000) : Calls Tryd.prog 69 #[.string (bs l), .int .i64 dd] w (OneSaid w (pOne kp l)) := by
  obtain ⟨k0, k1, k2⟩ := tnV_ok l
  have CN := hide (tkN_any l (w.alloc (Obj.cells #[.int .i64 0, .int .i64 0, .string ⟨#[]⟩, .slice none 0 0, .string ⟨#[]⟩, .slice none 0 0, .slice none 0 0, .string ⟨#[]⟩, .bool false] 72)) (by omega))
  have hpn := pN_tn 3 l
  unfold pOne
  rw [hpn]
  generalize tnV l = K at *
  obtain ⟨k, l1, e1⟩ := K
  dsimp only at k0 k1 k2 CN ⊢
  clear hpn
  by_cases c1 : e1 = 0 ∧ k ≤ 3
  · obtain ⟨he, hk⟩ := c1
    subst he
    rw [if_pos ⟨rfl, hk⟩]
    simp only [Option.bind_some]
    by_cases c2 : k = 2 ∨ k = 3
    · rw [if_pos c2, pT_tt]
      obtain ⟨t0, t1⟩ := ttV_ok l1
      have CT := hide (fun W => tkT_any l1 W (by omega))
      generalize ttV l1 = T at *
      obtain ⟨tx, l2, e2⟩ := T
      dsimp only at t0 t1 CT ⊢
      rcases t1 with rfl | ⟨rfl, _⟩
      · rw [if_pos rfl]
        exact one_leaf (bs l) dd w k l1 l2 tx c2 CN CT
      · rw [if_neg (by omega)]
        exact one_leafB (bs l) dd w k l1 l2 tx c2 CN CT
    · rw [if_neg c2]
      obtain ⟨s0, s1, s2⟩ := tnV_ok l1
      have CS := hide (fun W => tkN_any l1 W (by omega))
      have hp1 := pN_tn 2 l1
      have hpe : pElem kp k l1 = (pN 2 l1).bind fun sp => (pT sp.2).bind fun n => (pN 12 n.2).bind fun c => (pAts c.1.toNat c.2).bind fun a => (kp a.2).map fun ks => (⟨k, sp.1, n.1, a.1, ⟨#[]⟩, ks.1⟩, ks.2) := rfl
      rw [hpe]
      clear hpe
      generalize tnV l1 = S at *
      obtain ⟨sp, l2, e2⟩ := S
      dsimp only at s0 s1 s2 CS hp1
      obtain ⟨t0, t1⟩ := ttV_ok l2
      have CT := hide (fun W => tkT_any l2 W (by omega))
      have hp2 := pT_tt l2
      generalize ttV l2 = T at *
      obtain ⟨tx, l3, e3⟩ := T
      dsimp only at t0 t1 CT hp2
      obtain ⟨n0, n1, n2⟩ := tnV_ok l3
      have CC := hide (fun W => tkN_any l3 W (by omega))
      have hp3 := pN_tn 12 l3
      generalize tnV l3 = C at *
      obtain ⟨c, l4, e4⟩ := C
      dsimp only at n0 n1 n2 CC hp3
      obtain ⟨cn, hcn⟩ : ∃ n : Nat, c = (n : Int) := ⟨c.toNat, by omega⟩
      subst hcn
      refine one_elem kp (bs l) dd w k sp e2 e3 e4 cn l1 l2 l3 l4 tx _ (by omega) (by omega) (by omega) (by omega) (by omega) (by omega) (by omega) hdd hdd2 (hide fun h => ?_) (hide fun h => ?_) CN CS CT CC CK
      · rw [hp1]
        by_cases a1 : e2 = 0 ∧ sp ≤ 2
        · rw [if_pos a1]
          simp only [Option.bind_some]
          rw [hp2]
          by_cases a2 : e3 = 0
          · rw [if_pos a2]
            simp only [Option.bind_some]
            rw [hp3, if_neg (by omega)]
            rfl
          · rw [if_neg a2]; rfl
        · rw [if_neg a1]; rfl
      · rw [hp1, if_pos (by omega)]
        simp only [Option.bind_some]
        rw [hp2, if_pos (by omega)]
        simp only [Option.bind_some]
        rw [hp3, if_pos (by omega)]
        simp only [Option.bind_some, Int.toNat_natCast]
  · rw [if_neg c1]
    refine one_early (bs l) dd w k e1 l1 ?_ CN
    rcases k2 with rfl | ⟨rfl, _⟩
    · right; exact ⟨rfl, by omega⟩
    · left; rfl
theorem many_neg (dd : Int) (hd : dd < 0) (l : List UInt8) (w : World) (hl : l.length ≤ 5000) : Calls Tryd.prog 48 #[.string (bs l), .int .i64 dd] w (ManySaid w none) := by
  obtain ⟨k0, k1, k2⟩ := tnV_ok l
  have CN := hide (tkN_any l (w.alloc (Obj.cells #[.int .i64 0, .int .i64 0, .string ⟨#[]⟩, .slice none 0 0, .string ⟨#[]⟩, .slice none 0 0, .slice none 0 0, .string ⟨#[]⟩, .bool false] 72)) (by omega))
  generalize tnV l = K at *
  obtain ⟨k, l1, e1⟩ := K
  dsimp only at k0 k1 k2 CN ⊢
  refine many_bad (bs l) dd w k e1 l1 ?_ CN
  rcases k2 with rfl | ⟨rfl, _⟩
  · right; exact ⟨rfl, by omega⟩
  · left; rfl
theorem many_all (kp : List UInt8 → Option (Forest × List UInt8)) (hkp : ∀ l f r, kp l = some (f, r) → POk l f r) (dd : Int) (hdd : 0 ≤ dd) (hdd2 : dd ≤ 100)
    (CK : Hid (∀ (l : List UInt8) (W : World), l.length ≤ 5000 → Calls Tryd.prog 48 #[.string (bs l), .int .i64 (dd - 1)] W (ManySaid W (kp l))))
    (l : List UInt8) (w : World) (hl : l.length ≤ 5000) : Calls Tryd.prog 48 #[.string (bs l), .int .i64 dd] w (ManySaid w (pTop kp l)) := by
  obtain ⟨k0, k1, k2⟩ := tnV_ok l
  have CN := hide (tkN_any l (w.alloc (Obj.cells #[.int .i64 0, .int .i64 0, .string ⟨#[]⟩, .slice none 0 0, .string ⟨#[]⟩, .slice none 0 0, .slice none 0 0, .string ⟨#[]⟩, .bool false] 72)) (by omega))
  unfold pTop
  rw [pN_tn 300 l]
  generalize tnV l = K at *
  obtain ⟨k, l1, e1⟩ := K
  dsimp only at k0 k1 k2 CN ⊢
  by_cases c1 : e1 = 0 ∧ k ≤ 300
  · obtain ⟨he, hk⟩ := c1
    subst he
    rw [if_pos ⟨rfl, hk⟩]
    simp only [Option.bind_some]
    obtain ⟨c, hc⟩ : ∃ n : Nat, k = (n : Int) := ⟨k.toNat, by omega⟩
    subst hc
    rw [Int.toNat_natCast]
    exact many_ok kp (bs l) dd w c l1 _ rfl (by omega) (by omega) (by omega) (hide fun l x r h => pOne_ok kp hkp l x r h) CN (hide fun l W h => one_all kp dd (by omega) hdd2 CK l W h)
  · rw [if_neg c1]
    refine many_bad (bs l) dd w k e1 l1 ?_ CN
    rcases k2 with rfl | ⟨rfl, _⟩
    · right; exact ⟨rfl, by omega⟩
    · left; rfl
theorem many_pL : ∀ (d : Nat), d ≤ 40 → ∀ (l : List UInt8) (w : World), l.length ≤ 5000 → Calls Tryd.prog 48 #[.string (bs l), .int .i64 (d : Nat)] w (ManySaid w (pL d l))
  | 0, _, l, w, hl => many_all (fun _ => none) (fun _ _ _ h => by cases h) ((0 : Nat) : Int) (by omega) (by omega) (hide fun l W h => many_neg _ (by omega) l W h) l w hl
  | d + 1, hd, l, w, hl => many_all (pL d) (pL_ok d) ((d + 1 : Nat) : Int) (by omega) (by omega) (hide fun l W h => by rw [show ((d + 1 : Nat) : Int) - 1 = (d : Int) by omega]; exact many_pL d (by omega) l W h) l w hl
def RrSaid (w : World) (o : Option Forest) (e : Ending) (w' : World) : Prop :=
  (match o with
  | some f => ∃ q cap, e = .returned (.tuple #[.slice q f.len cap, .int .i64 0]) ∧ f.len ≤ cap ∧ Fo q f w'
  | none => e = .returned (.tuple #[.slice none 0 0, .int .i64 4])) ∧ Below w.heap.size w w'
set_option maxHeartbeats 4000000 in
set_option maxRecDepth 100000 in
theorem rread_any (x : ByteArray) (w : World) (hx : x.size ≤ 5000) : Calls Tryd.prog 22 #[.string x] w (RrSaid w (refV x.data.toList)) := by
  have hxl : x.data.toList.length ≤ 5000 := by rw [Array.length_toList]; exact hx
  have CM := hide (many_pL 40 (by omega) x.data.toList w hxl)
  rw [bs_self, show ((40 : Nat) : Int) = 40 from rfl] at CM
  have hpo := fun f r => pL_ok 40 x.data.toList f r
  obtain ⟨o, ho⟩ : ∃ o, refV x.data.toList = o := ⟨_, rfl⟩
  have hrf := ho
  unfold refV at hrf
  rw [ho]
  clear ho
  generalize pL 40 x.data.toList = p at *
  have HRF := hide hrf
  have HPO := hide hpo
  clear hrf hpo
  go_enter Tryd.func22, Tryd.ntmps22
  go_wp2_with fail
  refine (unhide CM).mono ?_
  rintro e w1 ⟨q, n, cap, rest, bad, rfl, hb1, hmi⟩
  have hbA := (Below.refl w1.heap.size w1).alloc (Nat.le_refl _) (Obj.cells #[.int .i64 0, .int .i64 0, .string ⟨#[]⟩, .slice none 0 0, .string ⟨#[]⟩, .slice none 0 0, .slice q n cap, .string rest, .bool bad] 72)
  have HB := hide (tr2 hb1 hbA)
  cases p with
  | none =>
    have hbad : bad = true := hmi
    subst hbad
    have HE : Hid (RrSaid w o (.returned (.tuple #[.slice none 0 0, .int .i64 4])) (w1.alloc (Obj.cells #[.int .i64 0, .int .i64 0, .string ⟨#[]⟩, .slice none 0 0, .string ⟨#[]⟩, .slice none 0 0, .slice q n cap, .string rest, .bool true] 72))) := hide (by rw [← unhide HRF]; exact ⟨rfl, unhide HB⟩)
    clear CM hmi hb1 hbA HB
    go_wp2
    go_ret2
    exact unhide HE
  | some fr =>
    obtain ⟨f, r⟩ := fr
    obtain ⟨i1, i2, i3, i4, i5⟩ := hmi
    subst i1 i2 i4
    have hpk := unhide HPO f r rfl
    have hsm := hpk.sm hxl
    have hcn := hpk.cnt
    have hfo1 : Fo q f w1 := i5.le (mask_out _ _)
    have CC := hide (rcheck_any f q cap _ (hfo1.below hbA) hsm (by omega))
    rw [← check_is] at CC
    have HX := hide (And.intro i3 (hfo1.below hbA))
    cases r with
    | cons a t =>
      have e1 := beq_no (x := bs (a :: t)) (y := ⟨#[]⟩) (fun e => by have := congrArg ByteArray.size e; rw [bs_size] at this; simp [ByteArray.size] at this)
      have e1' : (bs (a :: t)).toList.isEmpty = false := by rw [Lib.toList_data, bs_toList]; rfl
      generalize bs (a :: t) = sr at *
      have HE : Hid (RrSaid w o (.returned (.tuple #[.slice none 0 0, .int .i64 4])) (w1.alloc (Obj.cells #[.int .i64 0, .int .i64 0, .string ⟨#[]⟩, .slice none 0 0, .string ⟨#[]⟩, .slice none 0 0, .slice q f.len cap, .string sr, .bool false] 72))) := hide (by rw [← unhide HRF]; exact ⟨rfl, unhide HB⟩)
      clear CM hb1 hbA HB hfo1 i5 CC HX hpk hsm hcn HPO
      go_wp2
      go_ret2
      exact unhide HE
    | nil =>
      have e1 := beq_yes (rfl : (⟨#[]⟩ : ByteArray) = ⟨#[]⟩)
      rw [show bs [] = ⟨#[]⟩ from rfl] at CC HX HB ⊢
      have hw1 : w1.heap.size < w1.heap.size + 1 := by omega
      have hG : Blk (w1.alloc (Obj.cells #[.int .i64 0, .int .i64 0, .string ⟨#[]⟩, .slice none 0 0, .string ⟨#[]⟩, .slice none 0 0, .slice q f.len cap, .string ⟨#[]⟩, .bool false] 72)) w1.heap.size #[.int .i64 0, .int .i64 0, .string ⟨#[]⟩, .slice none 0 0, .string ⟨#[]⟩, .slice none 0 0, .slice q f.len cap, .string ⟨#[]⟩, .bool false] 72 := Blk.new _ _ _
      have HG := hide hG
      have HRF' : Hid ((if checkN f = 0 then some f else none) = o) := hide (unhide HRF)
      clear CM hb1 hbA hfo1 i5 hpk hsm hcn HPO HRF hG
      by_cases h0 : checkN f = 0
      · rw [h0] at CC
        have HFL : Hid (f.len = f.len) := hide rfl
        obtain ⟨fl, hfl⟩ : ∃ z, f.len = z := ⟨_, rfl⟩
        have HOF : Hid (o = some f) := hide (by rw [← unhide HRF', if_pos h0])
        rw [hfl] at CC HX HB HG ⊢
        have HQL := hide hfl
        clear hfl HFL HRF' h0 i3
        go_wp2_with fail
        refine (unhide CC).mono ?_
        rintro e w2 ⟨rfl, hb2⟩
        have d6 : w2.cell? ⟨w1.heap.size, 6, none⟩ = some (.slice q fl cap) := (Blk.later (unhide HG) hb2).cell 6
        have HE : Hid (RrSaid w o (.returned (.tuple #[.slice q fl cap, .int .i64 0])) w2) := hide (by
          rw [unhide HOF]
          exact ⟨⟨q, cap, by rw [unhide HQL], by rw [unhide HQL]; exact (unhide HX).1, (unhide HX).2.below hb2⟩, tr2 (unhide HB) hb2⟩)
        clear HX hb2 CC HB HG
        go_wp2
        go_ret2
        exact unhide HE
      · have e2 : (checkN f == 0) = false := beq_eq_false_iff_ne.2 h0
        have HOF : Hid (o = none) := hide (by rw [← unhide HRF', if_neg h0])
        generalize checkN f = cc at *
        clear HRF' h0 i3 HG
        go_wp2_with fail
        refine (unhide CC).mono ?_
        rintro e w2 ⟨rfl, hb2⟩
        have HE : Hid (RrSaid w o (.returned (.tuple #[.slice none 0 0, .int .i64 4])) w2) := hide (by
          rw [unhide HOF]
          exact ⟨rfl, tr2 (unhide HB) hb2⟩)
        clear HX hb2 CC HB
        go_wp2
        go_ret2
        exact unhide HE
end Go.Proofs.YtmlmpongcpojjaaDoor

/-
  The law TreeReads (made by mk_lyr.py).
-/
namespace Go.Proofs.YtmlmpongcpojjaaDoor
open Go.RowKit
set_option linter.unusedVariables false
set_option linter.unusedSimpArgs false

theorem rread_good (x : ByteArray) (w : World) (hx : x.size ≤ 5000) (f : Forest) (h : refV x.data.toList = some f) :
    Calls Tryd.prog 22 #[.string x] w fun e w' => ∃ q cap, e = .returned (.tuple #[.slice q f.len cap, .int .i64 0]) ∧ f.len ≤ cap ∧ Fo q f w' ∧ Below w.heap.size w w' := by
  have := rread_any x w hx
  rw [h] at this
  refine this.mono fun e w' h => ?_
  obtain ⟨⟨q, cap, a, b, c⟩, d⟩ := h
  exact ⟨q, cap, a, b, c, d⟩
theorem rread_bad (x : ByteArray) (w : World) (hx : x.size ≤ 5000) (h : refV x.data.toList = none) :
    Calls Tryd.prog 22 #[.string x] w fun e w' => e = .returned (.tuple #[.slice none 0 0, .int .i64 4]) ∧ Below w.heap.size w w' := by
  have := rread_any x w hx
  rw [h] at this
  exact this
set_option maxHeartbeats 4000000 in
set_option maxRecDepth 100000 in
theorem reads_walk (x : ByteArray) (w : World) (ht : Tabs w) :
    Calls Tryd.prog 5 #[.string x] w fun e w' => e = .returned (.bool true) ∧ Below w.heap.size w w' := by
  have CT := hide (fun (W : World) (hW : Below w.heap.size w W) => text_any W (ht.below hW))
  by_cases hx : 3000 < x.size
  · have hxi : (3000 : Int) < (x.size : Int) := by omega
    have CT' := hide (unhide CT w (Below.refl _ _))
    clear CT
    go_enter Tryd.func5, Tryd.ntmps5
    go_wp2_with fail
    refine (unhide CT').mono ?_
    rintro e w1 ⟨rfl, hb⟩
    have hb' := hb
    clear CT' hb
    have HB := hide hb'
    clear hb'
    go_wp2
    go_ret
    exact ⟨rfl, unhide HB⟩
  have hxi : ¬ (3000 : Int) < (x.size : Int) := by omega
  have hxl : x.data.toList.length ≤ 5000 := by rw [Array.length_toList]; have : x.data.size = x.size := rfl; omega
  have hok := lsF_ok 40 (by omega) (x.data.toList, 0, false) (fun h => by cases h) (by show 0 ≤ 300; omega) (by show x.data.toList.length ≤ _; omega)
  have hsm : SmF (readZ x.data.toList).1 := hok.sm hxl
  have hcn : (readZ x.data.toList).1.count ≤ 1000 := by
    have h1 : (lsF 40 (x.data.toList, 0, false)).1.count + 0 ≤ (lsF 40 (x.data.toList, 0, false)).2.2.1 := hok.cnt
    have h2 := hok.rs.most
    show (lsF 40 (x.data.toList, 0, false)).1.count ≤ 1000
    omega
  have href := ref_is hxl
  have hnn : ∀ (f : Forest), f = f := fun _ => rfl
  cases hB : readB x.data.toList with
  | true =>
    rw [hB, if_pos rfl] at href
    have C1 := hide (tread_good x w ht (by omega) hsm hB)
    have C2 := hide (fun (W : World) => rread_good x W (by omega) _ href)
    generalize (readZ x.data.toList).1 = f at *
    have hfl := f.len_count
    have C3 := hide (fun (W : World) (q1 q2 : Option Addr) (c1 c2 : Nat) (h1 : Fo q1 f W) (h2 : Fo q2 f W) => nodes_any f.count f (Nat.le_refl _) (by omega) hsm f q1 q2 c1 c2 W h1 h2 hsm (by omega))
    rw [(sameF_eq f f).2 rfl] at C3
    generalize f.len = fl at *
    clear hok hsm hcn href hnn hB hxl ht hfl
    go_enter Tryd.func5, Tryd.ntmps5
    go_wp2_with fail
    refine (unhide C1).mono ?_
    rintro e w1 ⟨q1, cap1, rfl, _, hf1, hb⟩
    have C2' := hide (unhide C2 w1)
    have HB := hide hb
    have HF1 := hide hf1
    clear C1 C2 hb hf1
    go_wp2_with fail
    refine (unhide C2').mono ?_
    rintro e w2 ⟨q2, cap2, rfl, _, hf2, hb⟩
    have C3' := hide (unhide C3 w2 q1 q2 cap1 cap2 ((unhide HF1).below hb) hf2)
    have hb' := tr2 (unhide HB) hb
    clear HB C2' C3 hb hf2 HF1
    have HB := hide hb'
    clear hb'
    go_wp2_with fail
    refine (unhide C3').mono ?_
    rintro e w3 ⟨rfl, hb⟩
    have hb' := tr2 (unhide HB) hb
    clear HB C3' hb
    have CT' := hide (unhide CT w3 hb')
    clear CT
    have HB := hide hb'
    clear hb'
    go_wp2_with fail
    refine (unhide CT').mono ?_
    rintro e w4 ⟨rfl, hb⟩
    have hb' := tr2 (unhide HB) hb
    clear HB CT' hb
    have HB := hide hb'
    clear hb'
    go_wp2
    go_ret
    exact ⟨rfl, unhide HB⟩
  | false =>
    rw [hB, if_neg (by simp)] at href
    have C1 := hide (tread_bad x w ht (by omega) hsm hB)
    have C2 := hide (fun (W : World) (hW : Below w.heap.size w W) => rread_bad x W (by omega) href)
    have C3 := hide (fun (W : World) (hW : Below w.heap.size w W) => nodes_any 0 .nil (Nat.le_refl _) (by omega) trivial .nil none none 0 0 W (.inl rfl) (.inl rfl) trivial (by show 0 ≤ _; omega))
    rw [(sameF_eq .nil .nil).2 rfl, show Forest.nil.len = 0 from rfl] at C3
    clear hok hsm hcn href hnn hB hxl ht
    go_enter Tryd.func5, Tryd.ntmps5
    go_wp2_with fail
    refine (unhide C1).mono ?_
    rintro e w1 ⟨rfl, hb⟩
    have hb' := hb
    clear C1 hb
    have C2' := hide (unhide C2 w1 hb')
    clear C2
    have HB := hide hb'
    clear hb'
    go_wp2_with fail
    refine (unhide C2').mono ?_
    rintro e w2 ⟨rfl, hb⟩
    have hb' := tr2 (unhide HB) hb
    clear HB C2' hb
    have C3' := hide (unhide C3 w2 hb')
    clear C3
    have HB := hide hb'
    clear hb'
    go_wp2_with fail
    refine (unhide C3').mono ?_
    rintro e w3 ⟨rfl, hb⟩
    have hb' := tr2 (unhide HB) hb
    clear HB C3' hb
    have CT' := hide (unhide CT w3 hb')
    clear CT
    have HB := hide hb'
    clear hb'
    go_wp2_with fail
    refine (unhide CT').mono ?_
    rintro e w4 ⟨rfl, hb⟩
    have hb' := tr2 (unhide HB) hb
    clear HB CT' hb
    have HB := hide hb'
    clear hb'
    go_wp2
    go_ret
    exact ⟨rfl, unhide HB⟩
end Go.Proofs.YtmlmpongcpojjaaDoor

/-
  An argument of type []api.Node opened: the nodes behind it, with all that is below them.
-/
namespace Go.Proofs.YtmlmpongcpojjaaDoor
open Go.RowKit Go.Deep Go.WideShapes Go.ChangeShapes
set_option linter.unusedVariables false
set_option linter.unusedSimpArgs false

theorem fattr_cells : Tryd.prog.cellsOf 81 = 2 := by kernel_rfl
theorem fstr_cells : Tryd.prog.cellsOf 9 = 1 := by kernel_rfl
theorem fint_cells : Tryd.prog.cellsOf 3 = 1 := by kernel_rfl
theorem fattrs_cells : Tryd.prog.cellsOf 47 = 1 := by kernel_rfl
theorem fnodes_cells : Tryd.prog.cellsOf 22 = 1 := by kernel_rfl
theorem fnode_cells : Tryd.prog.cellsOf 49 = 6 := by kernel_rfl
theorem fadd_addr (a : Addr) (x y : Nat) : (a.add x).add y = a.add (x + y) := by
  unfold Addr.add
  by_cases h1 : x = 0
  · subst h1; simp
  · by_cases h2 : y = 0
    · subst h2; simp [h1]
    · simp [h1, h2, Nat.add_assoc]
def fstrOf : Value → ByteArray
  | .string s => s
  | _ => ByteArray.empty
def fmkAts (V0 V1 : Nat → Value) (len : Nat) : List (ByteArray × ByteArray) := (List.range len).map fun i => (fstrOf (V0 i), fstrOf (V1 i))
theorem fmkAts_len (V0 V1 : Nat → Value) (len : Nat) : (fmkAts V0 V1 len).length = len := by simp [fmkAts]
theorem fmkAts_an {V0 V1 : Nat → Value} {len k : Nat} (h : k < len) : an (fmkAts V0 V1 len) k = fstrOf (V0 k) := by simp [an, fmkAts, List.getD, h]
theorem fmkAts_av {V0 V1 : Nat → Value} {len k : Nat} (h : k < len) : av (fmkAts V0 V1 len) k = fstrOf (V1 k) := by simp [av, fmkAts, List.getD, h]
theorem open_fattrs {H : Type} {enc : TypeId × Value → H} {W : World} {fuel : Nat} {v : Value} {x : DataW H × List MemPlace}
    (h : DataW.trod enc Tryd.prog W 0 (fun _ => true) true fuel 47 [v] = some x) :
    ∃ (ats : List (ByteArray × ByteArray)) (q : Option Addr) (c : Nat), v = .slice q ats.length c ∧ Sl q ats W := by
  rcases open_slice_pairs Tryd.underlying47 Tryd.underlying81 fattr_cells rfl rfl fstr_cells fstr_cells h with ⟨hc, hx⟩ | ⟨a, len, cap, m, k, V0, V1, D0, D1, P0, P1, hc, _, hl, hm, hmm, hx, hall⟩
  · simp only [List.cons.injEq, and_true] at hc
    exact ⟨[], none, 0, hc, Or.inl rfl⟩
  · simp only [List.cons.injEq, and_true] at hc
    simp only [if_true] at hmm
    subst hmm
    have hs0 : ∀ i, i < m → V0 i = .string (fstrOf (V0 i)) := fun i hi => by
      obtain ⟨s, h1, h2, h3⟩ := DataW.trod_string Tryd.underlying9 (hall i hi).2.2.1
      simp only [List.cons.injEq, and_true] at h1
      rw [h1]; rfl
    have hs1 : ∀ i, i < m → V1 i = .string (fstrOf (V1 i)) := fun i hi => by
      obtain ⟨s, h1, h2, h3⟩ := DataW.trod_string Tryd.underlying9 (hall i hi).2.2.2
      simp only [List.cons.injEq, and_true] at h1
      rw [h1]; rfl
    refine ⟨fmkAts V0 V1 len, some a, m, by rw [fmkAts_len]; exact hc, ?_⟩
    by_cases h0 : len = 0
    · subst h0; exact Or.inl rfl
    · obtain ⟨sb, so, spot⟩ := a
      have hspot : spot = none := by simpa [Addr.add] using World.cell?_spot (hall 0 (by omega)).1
      subst hspot
      refine Or.inr ⟨sb, so, rfl, fun k hk => ?_⟩
      rw [fmkAts_len] at hk
      rw [fmkAts_an hk, fmkAts_av hk]
      have e0 := (hall k (by omega)).1
      have e1 := (hall k (by omega)).2.1
      rw [hs0 k (by omega)] at e0
      rw [hs1 k (by omega)] at e1
      rw [Addr.add_lit] at e0 e1
      exact ⟨e0, by rw [Nat.add_assoc]; exact e1⟩
/-- One node at a place. -/
def NodeAt (g o : Nat) (w : World) : Prop := ∃ k sp n ats tx kids,
  w.cell? ⟨g, o, none⟩ = some (.int .i64 k) ∧ w.cell? ⟨g, o + 1, none⟩ = some (.int .i64 sp) ∧ w.cell? ⟨g, o + 2, none⟩ = some (.string n) ∧
      (∃ qa ca, w.cell? ⟨g, o + 3, none⟩ = some (.slice qa (ats : List (ByteArray × ByteArray)).length ca) ∧ Sl qa ats w) ∧ w.cell? ⟨g, o + 4, none⟩ = some (.string tx) ∧
      ∃ qk ck, w.cell? ⟨g, o + 5, none⟩ = some (.slice qk (kids : Forest).len ck) ∧ kids.len ≤ ck ∧ (kids = .nil ∨ ∃ g' o', qk = some ⟨g', o', none⟩ ∧ Lies kids g' o' w)
theorem forest_of {g : Nat} {w : World} : ∀ (len o : Nat), (∀ i, i < len → NodeAt g (o + i * 6) w) → ∃ f : Forest, f.len = len ∧ Lies f g o w
  | 0, o, h => ⟨.nil, rfl, trivial⟩
  | len + 1, o, h => by
    obtain ⟨k, sp, n, ats, tx, kids, hn⟩ := h 0 (by omega)
    obtain ⟨f, hf, hl⟩ := forest_of len (o + 6) (fun i hi => by have := h (i + 1) (by omega); rw [show o + (i + 1) * 6 = o + 6 + i * 6 by omega] at this; exact this)
    rw [Nat.zero_mul, Nat.add_zero] at hn
    exact ⟨.cons k sp n ats tx kids f, by simp [Forest.len, hf], hn, hl⟩
theorem size_mem {H : Type} {d : DataW H} {l : List (DataW H)} (h : d ∈ l) : SizeOf.sizeOf d < SizeOf.sizeOf l := List.sizeOf_lt_of_mem h
set_option maxRecDepth 100000 in
theorem open_forest {H : Type} {enc : TypeId × Value → H} {W : World} : ∀ (sz : Nat) (fuel : Nat) (v : Value) (d : DataW H) (ps : List MemPlace), SizeOf.sizeOf d ≤ sz →
    DataW.trod enc Tryd.prog W 0 (fun _ => true) true fuel 22 [v] = some (d, ps) → ∃ (f : Forest) (q : Option Addr) (cap : Nat), v = .slice q f.len cap ∧ f.len ≤ cap ∧ Fo q f W
  | 0, fuel, v, d, ps, hs, h => by cases d <;> simp at hs
  | sz + 1, fuel, v, d, ps, hs, h => by
    rcases open_slice Tryd.underlying22 h with ⟨hc, hx⟩ | ⟨a, len, cap, m, k, D, Pl, hc, _, hl, hm, hmm, hx, hall⟩
    · simp only [List.cons.injEq, and_true] at hc
      exact ⟨.nil, none, 0, hc, Nat.le_refl _, Or.inl rfl⟩
    · simp only [List.cons.injEq, and_true] at hc
      simp only [if_true] at hmm
      subst hmm
      have hd : d = .slice ((List.range len).map D) ((List.range (m - len)).map fun j => D (len + j)) := congrArg Prod.fst hx
      have hsz : ∀ i, i < len → SizeOf.sizeOf (D i) < SizeOf.sizeOf d := fun i hi => by
        have h1 : D i ∈ (List.range len).map D := List.mem_map.2 ⟨i, List.mem_range.2 hi, rfl⟩
        have h2 := size_mem h1
        rw [hd]
        simp only [DataW.slice.sizeOf_spec]
        omega
      by_cases h0 : len = 0
      · subst h0
        exact ⟨.nil, some a, m, hc, Nat.zero_le _, Or.inl rfl⟩
      have each : ∀ i, i < len → ∃ cs', (∀ j, j < 6 → W.cell? (a.add (i * 6 + j)) = cs'[j]?) ∧ DataW.trod enc Tryd.prog W 0 (fun _ => true) true k 49 cs' = some (D i, Pl i) := fun i hi => by
        obtain ⟨cs', h1, h2⟩ := hall i (by omega)
        rw [fnode_cells] at h1
        obtain ⟨_, hlen, hcell⟩ := World.cells?_some h1
        exact ⟨cs', fun j hj => by have := hcell j hj; rw [fadd_addr] at this; exact this, h2⟩
      obtain ⟨b, o, spot⟩ := a
      have hspot : spot = none := by
        obtain ⟨cs', h1, h2⟩ := each 0 (by omega)
        obtain ⟨xs, k', _, _, hl', _, _⟩ := DataW.trod_struct Tryd.underlying49 h2
        rw [fnode_cells] at hl'
        have h3 := h1 0 (by omega)
        rw [List.getElem?_eq_getElem (by omega)] at h3
        simpa [Addr.add] using World.cell?_spot h3
      subst hspot
      have hnode : ∀ i, i < len → NodeAt b (o + i * 6) W := fun i hi => by
        obtain ⟨cs', h1, h2⟩ := each i hi
        have hszi := hsz i hi
        generalize D i = di at *
        generalize Pl i = pi at *
        obtain ⟨xs, k', _, hxe, hl', hxl, hf⟩ := DataW.trod_struct Tryd.underlying49 h2
        rw [fnode_cells] at hl'
        match cs', hl', xs, hxl with
        | [c0, c1, c2, c3, c4, c5], _, [y0, y1, y2, y3, y4, y5], _ =>
          have g0 := hf 0 _ rfl
          have g1 := hf 1 _ rfl
          have g2 := hf 2 _ rfl
          have g3 := hf 3 _ rfl
          have g4 := hf 4 _ rfl
          have g5 := hf 5 _ rfl
          simp [fint_cells, fstr_cells, fattrs_cells, fnodes_cells] at g0 g1 g2 g3 g4 g5
          obtain ⟨ki, e0', _⟩ := DataW.trod_int Tryd.underlying3 g0
          obtain ⟨spi, e1', _⟩ := DataW.trod_int Tryd.underlying3 g1
          obtain ⟨ni, e2', _⟩ := DataW.trod_string Tryd.underlying9 g2
          obtain ⟨ats, qa, ca, e3', hsl⟩ := open_fattrs g3
          obtain ⟨ti, e4', _⟩ := DataW.trod_string Tryd.underlying9 g4
          obtain ⟨y5d, y5p⟩ := y5
          have hdi : di = .agg [y0.1, y1.1, y2.1, y3.1, y4.1, y5d] := by have := congrArg Prod.fst hxe; simpa using this
          have hs5 : SizeOf.sizeOf y5d ≤ sz := by
            rw [hdi] at hszi
            simp only [DataW.agg.sizeOf_spec, List.cons.sizeOf_spec] at hszi
            omega
          obtain ⟨kf, qk, ck, e5', hck, hkf⟩ := open_forest sz k' c5 y5d y5p hs5 g5
          simp at e0' e1' e2' e4'
          have z := fun j hj => h1 j hj
          have z0 := z 0 (by omega)
          have z1 := z 1 (by omega)
          have z2 := z 2 (by omega)
          have z3 := z 3 (by omega)
          have z4 := z 4 (by omega)
          have z5 := z 5 (by omega)
          rw [Addr.add_lit] at z0 z1 z2 z3 z4 z5
          simp only [List.getElem?_cons_zero, List.getElem?_cons_succ] at z0 z1 z2 z3 z4 z5
          refine ⟨ki, spi, ni, ats, ti, kf, ?_, ?_, ?_, ⟨qa, ca, ?_, hsl⟩, ?_, qk, ck, ?_, hck, hkf⟩
          · rw [← e0']; exact z0
          · rw [Nat.add_assoc, ← e1']; exact z1
          · rw [Nat.add_assoc, ← e2']; exact z2
          · rw [Nat.add_assoc, ← e3']; exact z3
          · rw [Nat.add_assoc, ← e4']; exact z4
          · rw [Nat.add_assoc, ← e5']; exact z5
      obtain ⟨f, hf, hlf⟩ := forest_of len o hnode
      exact ⟨f, some ⟨b, o, none⟩, m, by rw [hf]; exact hc, by omega, Or.inr ⟨b, o, rfl, hlf⟩⟩
theorem open_nodes {H : Type} {enc : TypeId × Value → H} {W : World} {qa : Option Addr} {len cap : Nat} {d : DataW H} {ps : List MemPlace}
    (h : DataW.Trod enc Tryd.prog W 0 (fun _ => true) true 22 (.slice qa len cap) d ps) : ∃ f : Forest, f.len = len ∧ len ≤ cap ∧ Fo qa f W := by
  obtain ⟨n, t0⟩ := h
  have t1 : DataW.trod enc Tryd.prog W 0 (fun _ => true) true n 22 [.slice qa len cap] = some (d, ps) := by simpa [Value.cells] using t0
  obtain ⟨f, q, c, e, hc, hf⟩ := open_forest _ n _ d ps (Nat.le_refl _) t1
  injection e with e1 e2 e3
  subst e1 e2 e3
  exact ⟨f, rfl, hc, hf⟩
end Go.Proofs.YtmlmpongcpojjaaDoor

namespace Go.Proofs.YtmlmpongcpojjaaDoor.treeReadsF
open Go.ChangeShapes Go.WideShapes Go.ChangeAt Go.RowKit
open Go.ChangeMaps (open_string shut_string)
set_option linter.unusedVariables false

theorem own : ownKnob Tryd.prog.godebug = none := by kernel_rfl
theorem gHeads : Tryd.prog.globalNamed "recto/utf.heads" = some 0 := by kernel_rfl
theorem gEnds : Tryd.prog.globalNamed "recto/utf.ends" = some 1 := by kernel_rfl
theorem gHeadsType : (Tryd.prog.globals[0]?).map (·.type) = some 126 := by kernel_rfl
theorem gEndsType : (Tryd.prog.globals[1]?).map (·.type) = some 126 := by kernel_rfl
theorem cellsArr : Tryd.prog.cellsOf 126 = 5 := by kernel_rfl
theorem cellsInt : Tryd.prog.cellsOf 3 = 1 := by kernel_rfl

/-- What the row's list gives: the two tables' cells. -/
theorem heads {W : World} (h : laidMetH Tryd.prog Rows.treeReadsRow.laid W) : Lib.TabIs Tryd.prog W "recto/utf.heads" .i64 [0, 0, 192, 224, 240] :=
  Lib.tabIs_of_head (rest := [("recto/utf.ends", Rows.laid_recto_utf_ends)]) gHeads gHeadsType Tryd.underlying126 Tryd.underlying3 cellsInt cellsArr h
theorem ends {W : World} (h : laidMetH Tryd.prog Rows.treeReadsRow.laid W) : Lib.TabIs Tryd.prog W "recto/utf.ends" .i64 [0, 128, 2048, 65536, 1114112] := by
  have h0 : laidMet Tryd.prog [("recto/utf.heads", Rows.laid_recto_utf_heads), ("recto/utf.ends", Rows.laid_recto_utf_ends)] W := h
  obtain ⟨ps, ⟨g1, t1, cs1, f1, p1, q1, _, _, _, _, hrest, rfl⟩, hnd, hcell⟩ := h0
  have h1 : laidMet Tryd.prog [("recto/utf.ends", Rows.laid_recto_utf_ends)] W :=
    ⟨q1, hrest, (List.nodup_append.1 hnd).2.1, fun b off hm => hcell b off (List.mem_append_right _ hm)⟩
  exact Lib.tabIs_of_head (rest := []) gEnds gEndsType Tryd.underlying126 Tryd.underlying3 cellsInt cellsArr h1
theorem tabs {W : World} (h : laidMetH Tryd.prog Rows.treeReadsRow.laid W) : Tabs W :=
  ⟨(heads h).cell gHeads 1 (by decide), (heads h).cell gHeads 2 (by decide), (heads h).cell gHeads 3 (by decide), (heads h).cell gHeads 4 (by decide),
   (ends h).cell gEnds 1 (by decide), (ends h).cell gEnds 2 (by decide), (ends h).cell gEnds 3 (by decide), (ends h).cell gEnds 4 (by decide)⟩

theorem laidOut : laidOutB Tryd.prog = true := by kernel_rfl

set_option maxRecDepth 100000 in
theorem contract (H : Type) (enc : TypeId × Value → H) (W : World) (base : Nat) (args : Array Value) (ds gs : List (DataW H)) (before : List MemPlace)
    (hval : ∀ (j : Nat) t v, Tryd.f5.params[j]? = some t → args[j]? = some v → Value.okWide Tryd.prog W .any base t v)
    (hW : DataW.Whole enc Tryd.prog Tryd.f5.params.toList Rows.treeReadsSpec.vars false W args.toList ds gs before) (hL : laidMetH Tryd.prog Rows.treeReadsRow.laid W) :
    Calls Tryd.prog 5 args W fun e W' => ∃ v, e = .returned v ∧ Rows.treeReadsSpec.post enc Tryd.prog Tryd.f5 false true false false W args v W' := by
  have hW' := hW
  obtain ⟨p, q, hA0, hV, rfl, hfz, hnd⟩ := hW
  have hA : DataW.TrodAll enc Tryd.prog W 0 (fun _ => true) true Tryd.f5.params.toList args.toList ds p := hA0
  rw [Tryd.params5] at hA hval
  obtain ⟨v0, vs0, d0, ds0, p0, q0, hargs, rfl, rfl, h0, r0⟩ := trodAll_cons hA
  obtain ⟨rfl, rfl, rfl⟩ := trodAll_nil r0
  obtain rfl : args = #[v0] := by cases args; simp_all
  obtain ⟨rfl, rfl⟩ := trodVars_none hV
  obtain ⟨a0, rfl, rfl, rfl, w0⟩ := open_string Tryd.underlying9 (hval 0 9 v0 rfl rfl) h0
  clear hA0
  refine (reads_walk a0 W (tabs hL)).mono fun e W' ⟨he, bel⟩ => ?_
  subst he
  exact ⟨_, rfl, _, _, _, [], _, [], hW', trodAll_mk1 (shut_bool Tryd.underlying4 _), (trodAll_cons_mk (shut_string Tryd.underlying9 w0) trodAll_mk0), rfl, bel.frame _, fun h => by cases h⟩

/-- What the tables' initialisers lay. -/
def lay0 : Obj → Obj
  | .cells _ t frozen => .cells #[.int .i64 0, .int .i64 0, .int .i64 192, .int .i64 224, .int .i64 240] t frozen
  | o => o
def lay1 : Obj → Obj
  | .cells _ t frozen => .cells #[.int .i64 0, .int .i64 128, .int .i64 2048, .int .i64 65536, .int .i64 1114112] t frozen
  | o => o
theorem laid_met (os : Os) : laidMet Tryd.prog Rows.treeReadsRow.laid (({ World.holding Tryd.prog os ⟨#[], #[], []⟩ with heap := ((World.holding Tryd.prog os ⟨#[], #[], []⟩).heap.modify 0 lay0).modify 1 lay1 } : World).forCall (fun _ _ => 0) ⟨#[], #[.string ⟨#[]⟩], []⟩).memory :=
  laidMet_of_run' 8 (by kernel_rfl) (by kernel_rfl)
theorem reads (os : Os) {H : Type} (enc : TypeId × Value → H) : ∃ places, DataW.whole enc Tryd.prog (({ World.holding Tryd.prog os ⟨#[], #[], []⟩ with heap := ((World.holding Tryd.prog os ⟨#[], #[], []⟩).heap.modify 0 lay0).modify 1 lay1 } : World).forCall (fun _ _ => 0) ⟨#[], #[.string ⟨#[]⟩], []⟩).memory Tryd.f5.params.toList Rows.treeReadsSpec.vars false #[Value.string ⟨#[]⟩].toList 8 = some ([.lit (.string [])], [], places) :=
  ⟨[], by kernel_rfl⟩

set_option maxRecDepth 100000 in
theorem lifted (os : Os) (started : os.Started) (H : Type) (enc : TypeId × Value → H) (F : Stop.Interp) :
    ReturnsInHanded {} Tryd.checked os 5 .any ((OpenSpec.ofChange Rows.treeReadsSpec).preRow enc Tryd.prog Tryd.f5 Rows.treeReadsRow.domain false Rows.treeReadsRow.laid) (((OpenSpec.ofChange Rows.treeReadsSpec).at F).post enc Tryd.prog Tryd.f5 false true false false) := by
  obtain ⟨places, hx⟩ := reads os enc
  refine returnsInHanded_of_row (C := Tryd.checked) (s := OpenSpec.ofChange Rows.treeReadsSpec) own started (by kernel_rfl) Tryd.func5
    (witness_row_at (enc := enc) (C := Tryd.checked) false ({ World.holding Tryd.prog os ⟨#[], #[], []⟩ with heap := ((World.holding Tryd.prog os ⟨#[], #[], []⟩).heap.modify 0 lay0).modify 1 lay1 } : World) #[.string ⟨#[]⟩] rfl (by kernel_rfl) (by kernel_rfl) (by kernel_rfl)
      (OpenSpec.preRow_of_cond 8 hx (by kernel_rfl) (fun k hk => by cases hk) (by kernel_rfl) (laid_met os))) ?_
  intro W base args ds gs before hval hW _ _ _ hL _ _
  exact contract H enc W base args ds gs before hval hW hL

theorem said : Rows.TreeReadsSaid :=
  OpenClaim.holds_of_cond 5 Tryd.f5 rfl rfl rfl rfl rfl rfl rfl ⟨rfl, rfl, rfl, rfl, rfl⟩ rfl rfl rfl rfl rfl (by kernel_rfl) Tryd.func5 (by kernel_rfl)
    (of_decide_eq_true (by kernel_rfl)) (by unfold Func.isWrapper; first | (rw [if_pos (by decide +kernel)]; kernel_rfl) | (rw [if_neg (by decide +kernel)]; exact ⟨rfl, rfl⟩))
    (fun os started H enc _ F => by rw [OpenClaim.pre_eq_preRow]; exact lifted os started H enc F)

theorem plain (f : FuncId) (fn : Func) (hf : Tryd.pinned.checked.prog.funcNamed "recto/rectolaw08.TreeReads" = some f) (hfn : Tryd.pinned.checked.prog.funcs[f]? = some fn) :
    false = Tryd.pinned.checked.prog.looks [] ∧ ∀ (j : Nat) t, fn.params[j]? = some t → Tryd.pinned.checked.prog.wantsStandIn t = false := by
  obtain rfl : f = 5 := Option.some.inj ((show Tryd.prog.funcNamed "recto/rectolaw08.TreeReads" = some 5 by kernel_rfl).symm.trans hf) |>.symm
  obtain rfl : fn = Tryd.f5 := (Option.some.inj (Tryd.func5.symm.trans hfn)).symm
  refine ⟨by kernel_rfl, fun j t ht => ?_⟩
  rw [Tryd.params5] at ht
  obtain rfl : t = 9 := by simpa using Array.mem_of_getElem? ht
  exact (show Tryd.prog.wantsStandIn 9 = false by kernel_rfl)

theorem card : Rows.TreeReadsCardSaid :=
  Claim7.holds_tied_plain_at .later [] _ _ _ _ said (fun _ h => by cases h) (by kernel_rfl) (fun _ h => by cases h) treeReads_row_tie rfl ⟨rfl, rfl⟩ (by kernel_rfl) rfl plain (by kernel_rfl)
end Go.Proofs.YtmlmpongcpojjaaDoor.treeReadsF

namespace Go.Proofs.YtmlmpongcpojjaaDoor
theorem treeReads_card : Rows.TreeReadsCardSaid := treeReadsF.card
end Go.Proofs.YtmlmpongcpojjaaDoor
