/-
  Several texts in one: what the functions of the program and of the document's answer do.
-/
import Derived.Test.YtmlmpongcpojjaaDoorYCk
import Derived.Test.YtmlmpongcpojjaaDoorYRl
import Derived.Test.YtmlmpongcpojjaaDoorMgC

/-
  What the reference's Right and Check do (made by mk_yrr.py).
-/
namespace Go.Proofs.YtmlmpongcpojjaaDoor
open Go.RowKit
set_option linter.unusedVariables false
set_option linter.unusedSimpArgs false

/-- Are nodes right, but for texts side by side among the first ones? -/
def allB : Forest → Bool
  | .nil => true
  | .cons k sp n ats tx kids rest => raB k sp n ats tx kids.len && ((leafB k || (apartB kids && allB kids)) && allB rest)
def rightN (f : Forest) : Bool := apartB f && allB f
def apartP (pk : Int) (f : Forest) : Bool := !(pk == 2 && f.kind0 == 2) && apartB f
theorem apartP_cons (pk k sp : Int) (n : ByteArray) (ats : List (ByteArray × ByteArray)) (tx : ByteArray) (kids rest : Forest) : apartP pk (.cons k sp n ats tx kids rest) = (!(pk == 2 && k == 2) && apartP k rest) := rfl
theorem apartP_zero (f : Forest) : apartP 0 f = apartB f := by unfold apartP; simp
theorem rwrong_sl (n : ByteArray) (q : Option Addr) (ats : List (ByteArray × ByteArray)) (cap : Nat) (w : World) (hs : Sl q ats w) (hf : Fits ats) (hn : n.size ≤ 10000) :
    Calls Tryd.prog 59 #[.string n, .slice q ats.length cap] w fun e w' => e = .returned (.int .i64 (wrongN n.data.toList ats)) ∧ Below w.heap.size w w' := by
  rcases hs with rfl | ⟨g, o, rfl, hc⟩
  · refine (rwrong_nil n q cap w hn).mono ?_
    rintro e w' ⟨rfl, rfl⟩
    exact ⟨rfl, Below.refl _ _⟩
  · exact rwrong_any n ats g o cap w hc hf hn
theorem rright_none (q : Option Addr) (cap : Nat) (w : World) : Calls Tryd.prog 34 #[.slice q 0 cap] w fun e w' => e = .returned (.bool true) ∧ Below w.heap.size w w' := by
  go_enter Tryd.func34, Tryd.ntmps34
  go_wp2
  refine wp_loop_rounds 1 ?_
  rw [rounds_succ]; go_wp2
  go_ret
  exact ⟨rfl, Below.refl _ _⟩
theorem emp_ne (s : ByteArray) (h : s.toList.isEmpty = false) : (s.toList == ByteArray.toList ⟨#[]⟩) = false := by
  apply beq_eq_false_iff_ne.2
  intro e
  rw [e] at h
  simp at h
theorem emp_eq (s : ByteArray) (h : s.toList.isEmpty = true) : (s.toList == ByteArray.toList ⟨#[]⟩) = true := by
  have : s.toList = [] := List.isEmpty_iff.1 h
  rw [this]; simp
theorem ra_two (sp : Int) (n : ByteArray) (ats : List (ByteArray × ByteArray)) (tx : ByteArray) (kl : Nat) : raB 2 sp n ats tx kl = (!tx.toList.isEmpty && (goodB tx.data.toList && (sp == 0 && (n.toList.isEmpty && (ats.length == 0 && kl == 0))))) := by simp [raB, taB]
theorem ra_three (sp : Int) (n : ByteArray) (ats : List (ByteArray × ByteArray)) (tx : ByteArray) (kl : Nat) : raB 3 sp n ats tx kl = (goodB tx.data.toList && (sp == 0 && (n.toList.isEmpty && (ats.length == 0 && kl == 0)))) := by simp [raB, taB]
theorem ra_one (sp : Int) (n : ByteArray) (ats : List (ByteArray × ByteArray)) (tx : ByteArray) (kl : Nat) : raB 1 sp n ats tx kl = (decide (wrongN n.data.toList ats = 0) && (decide (0 ≤ sp) && (decide (sp ≤ 2) && tx.toList.isEmpty))) := by simp [raB]
theorem ra_other (k sp : Int) (n : ByteArray) (ats : List (ByteArray × ByteArray)) (tx : ByteArray) (kl : Nat) (h1 : k ≠ 1) (h2 : k ≠ 2) (h3 : k ≠ 3) : raB k sp n ats tx kl = false := by simp [raB, h1, h2, h3]
/-- What the loop keeps. -/
def RrAt (f : Forest) (g o : Nat) (w : World) (RR : Bool) (b : Value) (wr : World) : Prop :=
  ∃ (j : Nat) (pk : Int), j ≤ f.len ∧ b = .int .i64 j ∧ RR = (apartP pk (f.drop j) && allB (f.drop j)) ∧ (j = 0 ∧ pk = 0 ∨ 0 < j ∧ w.cell? ⟨g, o + (j - 1) * 6, none⟩ = some (.int .i64 pk)) ∧ SmF (f.drop j) ∧ Below w.heap.size w wr
set_option maxHeartbeats 40000000 in
set_option maxRecDepth 100000 in
theorem rright_some (f : Forest) (g o cap : Nat) (w : World) (RR : Bool) (hRR : RR = rightN f) (hl : Lies f g o w) (hc : f.count ≤ 1000000) (hs : SmF f)
    (ih : Hid (∀ j k sp n ats tx kids, f.drop j = .cons k sp n ats tx kids (f.drop (j + 1)) → ∀ q cap w, Fo q kids w → Calls Tryd.prog 34 #[.slice q kids.len cap] w fun e w' => e = .returned (.bool (rightN kids)) ∧ Below w.heap.size w w')) :
    Calls Tryd.prog 34 #[.slice (some ⟨g, o, none⟩) f.len cap] w fun e w' => e = .returned (.bool RR) ∧ Below w.heap.size w w' := by
  have HL := hide hl
  have HAT : Hid (RrAt f g o w RR (.int .i64 0) w) := hide ⟨0, 0, Nat.zero_le _, rfl, by rw [Forest.drop_zero, apartP_zero]; exact hRR, Or.inl ⟨rfl, rfl⟩, by rw [Forest.drop_zero]; exact hs, Below.refl _ _⟩
  have hlc := f.len_count
  clear hl hRR hs
  go_enter Tryd.func34, Tryd.ntmps34
  go_wp2
  go_loopw [7] (fun b wr => RrAt f g o w RR b wr) (fun b _ => f.len - (intOf b).toNat)
  case atStart => exact unhide HAT
  case round =>
    clear HAT
    obtain ⟨j, pk, hj, rfl, hr, hpk, hsm, hb⟩ := hrel
    by_cases hp : j < f.len
    · have hpi : (j : Int) < (f.len : Int) := by omega
      obtain ⟨k, sp, n, ats, tx, kids, hdr⟩ := f.drop_cons j hp
      have hlj := (unhide HL).drop j
      rw [hdr] at hlj hr hsm
      obtain ⟨⟨e0, e1, e2, ⟨qa, ca, e3, hsl⟩, e4, ⟨qk, ck, e5, hck, hfo⟩⟩, _⟩ := hlj
      have HE0 := hide e0
      have c0 := cell_later hb e0
      have c1 := cell_later hb e1
      have c2 := cell_later hb e2
      have c3 := cell_later hb e3
      have c4 := cell_later hb e4
      have c5 := cell_later hb e5
      obtain ⟨⟨ht5, hn1, hfit, hkc⟩, hsk, hsr⟩ := hsm
      have al : Below wr.heap.size wr (wr.alloc (Obj.cells #[.int .i64 k, .int .i64 sp, .string n, .slice qa ats.length ca, .string tx, .slice qk kids.len ck] 49)) := (Below.refl _ _).alloc (Nat.le_refl _) _
      have kX := Blk.new wr #[.int .i64 k, .int .i64 sp, .string n, .slice qa ats.length ca, .string tx, .slice qk kids.len ck] 49
      have HB := hide (tr2 hb al)
      have HKX := hide kX
      have CLf := hide (fun W => leaf_any k sp n tx (.slice qa ats.length ca) (.slice qk kids.len ck) W)
      have CG := hide (fun W => rgood6_any tx W (by omega))
      have CWr := hide (fun W (hW : Below w.heap.size w W) => rwrong_sl n qa ats ca W (hsl.below hW) hfit (by omega))
      have CK := hide (fun W (hW : Below w.heap.size w W) => unhide ih j k sp n ats tx kids hdr qk ck W ((show Fo qk kids w from hfo).below hW))
      have HSR := hide hsr
      rw [apartP_cons, allB] at hr
      have HR := hide hr
      have HKR : Hid (rightN kids = (apartB kids && allB kids)) := hide rfl
      generalize hrest : f.drop (j + 1) = rest at *
      have HRS := hide hrest
      clear hsl hfo hdr hsr hsk e0 e1 e2 e3 e4 e5 hr al kX hrest
      generalize hkl : kids.len = kl at *
      generalize hal : ats.length = alen at *
      have HLEN := hide (And.intro hkl hal)
      by_cases q2 : k = 2
      · subst q2
        cases j with
        | zero =>
          have hne : (pk == 2) = false := by
            rcases hpk with ⟨_, h⟩ | ⟨h, _⟩
            · rw [h]; rfl
            · omega
          clear hb hpk
          simp only [Nat.zero_mul, Nat.add_zero] at c0 c1 c2 c3 c4 c5
          rw [show ((0 : Nat) : Int) = 0 from rfl] at hpi ⊢
          have hlf : leafB 2 = true := by decide
          rw [hlf] at CLf
          go_wp2_with fail
          refine (unhide CLf _).mono ?_
          rintro e w3 ⟨rfl, hb3⟩
          have HB3 := hide (tr2 (unhide HB) hb3)
          have K3 := hide ((unhide HKX).later hb3)
          clear hb3
          have x0 : w3.cell? ⟨wr.heap.size, 0, none⟩ = some (.int .i64 2) := (unhide K3).cell 0
          have x1 : w3.cell? ⟨wr.heap.size, 1, none⟩ = some (.int .i64 sp) := (unhide K3).cell 1
          have x2 : w3.cell? ⟨wr.heap.size, 2, none⟩ = some (.string n) := (unhide K3).cell 2
          have x3 : w3.cell? ⟨wr.heap.size, 3, none⟩ = some (.slice qa alen ca) := (unhide K3).cell 3
          have x4 : w3.cell? ⟨wr.heap.size, 4, none⟩ = some (.string tx) := (unhide K3).cell 4
          have x5 : w3.cell? ⟨wr.heap.size, 5, none⟩ = some (.slice qk kl ck) := (unhide K3).cell 5
          by_cases z1 : sp = 0
          rotate_left
          · have z1' : (sp == 0) = false := beq_eq_false_iff_ne.2 z1
            have z1n : (sp != 0) = true := by simp [z1]
            have HE : Hid (RR = false) := hide (by rw [unhide HR]; rw [ra_two, z1']; simp)
            clear CLf CG CWr CK HR
            go_wp2
            go_ret
            rw [unhide HE]
            exact ⟨rfl, unhide HB3⟩
          have z1' : (sp == 0) = true := by simp [z1]
          have z1n : (sp != 0) = false := by simp [z1]
          cases z2 : n.toList.isEmpty with
          | false =>
            have z2e := emp_ne n z2
            have z2n : (n.toList != ByteArray.toList ⟨#[]⟩) = true := by simp only [bne, z2e]; rfl
            have HE : Hid (RR = false) := hide (by rw [unhide HR]; rw [ra_two, z2]; simp)
            clear CLf CG CWr CK HR
            go_wp2
            go_ret
            rw [unhide HE]
            exact ⟨rfl, unhide HB3⟩
          | true =>
            have z2e := emp_eq n z2
            have z2n : (n.toList != ByteArray.toList ⟨#[]⟩) = false := by simp only [bne, z2e]; rfl
            by_cases z3 : 0 < alen
            · have z3i : (0 : Int) < (alen : Int) := by omega
              have HE : Hid (RR = false) := hide (by rw [unhide HR]; have hal := (unhide HLEN).2; rw [ra_two, hal, show (alen == 0) = false from beq_eq_false_iff_ne.2 (by omega)]; simp)
              clear CLf CG CWr CK HR
              go_wp2
              go_ret
              rw [unhide HE]
              exact ⟨rfl, unhide HB3⟩
            have z3i : ¬ (0 : Int) < (alen : Int) := by omega
            have z3d : decide ((0 : Int) < (alen : Int)) = false := decide_eq_false z3i
            by_cases z4 : 0 < kl
            · have z4i : (0 : Int) < (kl : Int) := by omega
              have HE : Hid (RR = false) := hide (by rw [unhide HR]; rw [ra_two, show (kl == 0) = false from beq_eq_false_iff_ne.2 (by omega)]; simp)
              clear CLf CG CWr CK HR
              go_wp2
              go_ret
              rw [unhide HE]
              exact ⟨rfl, unhide HB3⟩
            have z4i : ¬ (0 : Int) < (kl : Int) := by omega
            have z4d : decide ((0 : Int) < (kl : Int)) = false := decide_eq_false z4i
            have HRA : Hid (raB 2 sp n ats tx kl = (!tx.toList.isEmpty && goodB tx.data.toList)) := hide (by have hal := (unhide HLEN).2; rw [ra_two, z1', z2, hal, show (alen == 0) = true by simp; omega, show (kl == 0) = true by simp; omega]; simp)
            cases z5 : goodB tx.data.toList with
            | false =>
              rw [z5] at CG HRA
              go_wp2_with fail
              refine (unhide CG _).mono ?_
              rintro e w4 ⟨rfl, hb4⟩
              have HB4 := hide (tr2 (unhide HB3) hb4)
              clear hb4
              have HE : Hid (RR = false) := hide (by rw [unhide HR]; rw [unhide HRA]; simp)
              clear CLf CG CWr CK HR
              go_wp2
              go_ret
              rw [unhide HE]
              exact ⟨rfl, unhide HB4⟩
            | true =>
              rw [z5] at CG HRA
              go_wp2_with fail
              refine (unhide CG _).mono ?_
              rintro e w4 ⟨rfl, hb4⟩
              have HB4 := hide (tr2 (unhide HB3) hb4)
              have K4 := hide ((unhide K3).later hb4)
              clear hb4
              have y0 : w4.cell? ⟨wr.heap.size, 0, none⟩ = some (.int .i64 2) := (unhide K4).cell 0
              have y4 : w4.cell? ⟨wr.heap.size, 4, none⟩ = some (.string tx) := (unhide K4).cell 4
              cases z6 : tx.toList.isEmpty with
              | true =>
                have z6e := emp_eq tx z6
                rw [z6] at HRA
                have HE : Hid (RR = false) := hide (by rw [unhide HR]; rw [unhide HRA]; simp)
                clear CLf CG CWr CK HR
                go_wp2
                go_ret
                rw [unhide HE]
                exact ⟨rfl, unhide HB4⟩
              | false =>
                have z6e := emp_ne tx z6
                rw [z6] at HRA
                have HE : Hid (RR = (apartP 2 (f.drop (0 + 1)) && allB (f.drop (0 + 1)))) := hide (by rw [unhide HRS, unhide HR, unhide HRA, hlf]; simp [hne])
                clear CLf CG CWr CK HR
                go_wp2
                go_roundw
                case rel => exact ⟨0 + 1, 2, by omega, by go_num, unhide HE, Or.inr ⟨by omega, by rw [Nat.add_sub_cancel]; exact unhide HE0⟩, by rw [unhide HRS]; exact unhide HSR, unhide HB4⟩
                case measure => simp [intOf]; omega
        | succ i =>
          have hpc : wr.cell? ⟨g, o + i * 6, none⟩ = some (.int .i64 pk) := by
            rcases hpk with ⟨h, _⟩ | ⟨_, h⟩
            · omega
            · exact cell_later hb h
          have hgl : g < wr.heap.size := World.block_lt_of_cell? wr _ hpc
          have hpa : (wr.alloc (Obj.cells #[.int .i64 2, .int .i64 sp, .string n, .slice qa alen ca, .string tx, .slice qk kl ck] 49)).cell? ⟨g, o + i * 6, none⟩ = some (.int .i64 pk) := cell_later ((Below.refl _ _).alloc (Nat.le_refl _) _) hpc
          clear hpk hb
          have hi1 : ((i + 1 : Nat) : Int) = (i : Int) + 1 := by omega
          rw [hi1]
          rw [hi1] at hpi
          have hi2 : (0 : Int) < (i : Int) + 1 := by omega
          have hi3 : (i : Int) < (f.len : Int) := by omega
          have hi4 : (i : Int) + 1 - 1 = i := by omega
          by_cases q1 : pk = 2
          · subst q1
            have HE : Hid (RR = false) := hide (by rw [unhide HR]; simp)
            clear CLf CG CWr CK HR
            go_wp2
            go_ret
            rw [unhide HE]
            exact ⟨rfl, unhide HB⟩
          have hne : (pk == 2) = false := beq_eq_false_iff_ne.2 q1
          have hlf : leafB 2 = true := by decide
          rw [hlf] at CLf
          go_wp2_with fail
          refine (unhide CLf _).mono ?_
          rintro e w3 ⟨rfl, hb3⟩
          have HB3 := hide (tr2 (unhide HB) hb3)
          have K3 := hide ((unhide HKX).later hb3)
          clear hb3
          have x0 : w3.cell? ⟨wr.heap.size, 0, none⟩ = some (.int .i64 2) := (unhide K3).cell 0
          have x1 : w3.cell? ⟨wr.heap.size, 1, none⟩ = some (.int .i64 sp) := (unhide K3).cell 1
          have x2 : w3.cell? ⟨wr.heap.size, 2, none⟩ = some (.string n) := (unhide K3).cell 2
          have x3 : w3.cell? ⟨wr.heap.size, 3, none⟩ = some (.slice qa alen ca) := (unhide K3).cell 3
          have x4 : w3.cell? ⟨wr.heap.size, 4, none⟩ = some (.string tx) := (unhide K3).cell 4
          have x5 : w3.cell? ⟨wr.heap.size, 5, none⟩ = some (.slice qk kl ck) := (unhide K3).cell 5
          by_cases z1 : sp = 0
          rotate_left
          · have z1' : (sp == 0) = false := beq_eq_false_iff_ne.2 z1
            have z1n : (sp != 0) = true := by simp [z1]
            have HE : Hid (RR = false) := hide (by rw [unhide HR]; rw [ra_two, z1']; simp)
            clear CLf CG CWr CK HR
            go_wp2
            go_ret
            rw [unhide HE]
            exact ⟨rfl, unhide HB3⟩
          have z1' : (sp == 0) = true := by simp [z1]
          have z1n : (sp != 0) = false := by simp [z1]
          cases z2 : n.toList.isEmpty with
          | false =>
            have z2e := emp_ne n z2
            have z2n : (n.toList != ByteArray.toList ⟨#[]⟩) = true := by simp only [bne, z2e]; rfl
            have HE : Hid (RR = false) := hide (by rw [unhide HR]; rw [ra_two, z2]; simp)
            clear CLf CG CWr CK HR
            go_wp2
            go_ret
            rw [unhide HE]
            exact ⟨rfl, unhide HB3⟩
          | true =>
            have z2e := emp_eq n z2
            have z2n : (n.toList != ByteArray.toList ⟨#[]⟩) = false := by simp only [bne, z2e]; rfl
            by_cases z3 : 0 < alen
            · have z3i : (0 : Int) < (alen : Int) := by omega
              have HE : Hid (RR = false) := hide (by rw [unhide HR]; have hal := (unhide HLEN).2; rw [ra_two, hal, show (alen == 0) = false from beq_eq_false_iff_ne.2 (by omega)]; simp)
              clear CLf CG CWr CK HR
              go_wp2
              go_ret
              rw [unhide HE]
              exact ⟨rfl, unhide HB3⟩
            have z3i : ¬ (0 : Int) < (alen : Int) := by omega
            have z3d : decide ((0 : Int) < (alen : Int)) = false := decide_eq_false z3i
            by_cases z4 : 0 < kl
            · have z4i : (0 : Int) < (kl : Int) := by omega
              have HE : Hid (RR = false) := hide (by rw [unhide HR]; rw [ra_two, show (kl == 0) = false from beq_eq_false_iff_ne.2 (by omega)]; simp)
              clear CLf CG CWr CK HR
              go_wp2
              go_ret
              rw [unhide HE]
              exact ⟨rfl, unhide HB3⟩
            have z4i : ¬ (0 : Int) < (kl : Int) := by omega
            have z4d : decide ((0 : Int) < (kl : Int)) = false := decide_eq_false z4i
            have HRA : Hid (raB 2 sp n ats tx kl = (!tx.toList.isEmpty && goodB tx.data.toList)) := hide (by have hal := (unhide HLEN).2; rw [ra_two, z1', z2, hal, show (alen == 0) = true by simp; omega, show (kl == 0) = true by simp; omega]; simp)
            cases z5 : goodB tx.data.toList with
            | false =>
              rw [z5] at CG HRA
              go_wp2_with fail
              refine (unhide CG _).mono ?_
              rintro e w4 ⟨rfl, hb4⟩
              have HB4 := hide (tr2 (unhide HB3) hb4)
              clear hb4
              have HE : Hid (RR = false) := hide (by rw [unhide HR]; rw [unhide HRA]; simp)
              clear CLf CG CWr CK HR
              go_wp2
              go_ret
              rw [unhide HE]
              exact ⟨rfl, unhide HB4⟩
            | true =>
              rw [z5] at CG HRA
              go_wp2_with fail
              refine (unhide CG _).mono ?_
              rintro e w4 ⟨rfl, hb4⟩
              have HB4 := hide (tr2 (unhide HB3) hb4)
              have K4 := hide ((unhide K3).later hb4)
              clear hb4
              have y0 : w4.cell? ⟨wr.heap.size, 0, none⟩ = some (.int .i64 2) := (unhide K4).cell 0
              have y4 : w4.cell? ⟨wr.heap.size, 4, none⟩ = some (.string tx) := (unhide K4).cell 4
              cases z6 : tx.toList.isEmpty with
              | true =>
                have z6e := emp_eq tx z6
                rw [z6] at HRA
                have HE : Hid (RR = false) := hide (by rw [unhide HR]; rw [unhide HRA]; simp)
                clear CLf CG CWr CK HR
                go_wp2
                go_ret
                rw [unhide HE]
                exact ⟨rfl, unhide HB4⟩
              | false =>
                have z6e := emp_ne tx z6
                rw [z6] at HRA
                have HE : Hid (RR = (apartP 2 (f.drop ((i + 1) + 1)) && allB (f.drop ((i + 1) + 1)))) := hide (by rw [unhide HRS, unhide HR, unhide HRA, hlf]; simp [hne])
                clear CLf CG CWr CK HR
                go_wp2
                go_roundw
                case rel => exact ⟨(i + 1) + 1, 2, by omega, by go_num, unhide HE, Or.inr ⟨by omega, by rw [Nat.add_sub_cancel]; exact unhide HE0⟩, by rw [unhide HRS]; exact unhide HSR, unhide HB4⟩
                case measure => simp [intOf]; omega
      have q2e : (k == 2) = false := beq_eq_false_iff_ne.2 q2
      clear hpk hb
      by_cases q3 : k = 3
      · subst q3
        have hlf : leafB 3 = true := by decide
        rw [hlf] at CLf
        go_wp2_with fail
        refine (unhide CLf _).mono ?_
        rintro e w3 ⟨rfl, hb3⟩
        have HB3 := hide (tr2 (unhide HB) hb3)
        have K3 := hide ((unhide HKX).later hb3)
        clear hb3
        have x0 : w3.cell? ⟨wr.heap.size, 0, none⟩ = some (.int .i64 3) := (unhide K3).cell 0
        have x1 : w3.cell? ⟨wr.heap.size, 1, none⟩ = some (.int .i64 sp) := (unhide K3).cell 1
        have x2 : w3.cell? ⟨wr.heap.size, 2, none⟩ = some (.string n) := (unhide K3).cell 2
        have x3 : w3.cell? ⟨wr.heap.size, 3, none⟩ = some (.slice qa alen ca) := (unhide K3).cell 3
        have x4 : w3.cell? ⟨wr.heap.size, 4, none⟩ = some (.string tx) := (unhide K3).cell 4
        have x5 : w3.cell? ⟨wr.heap.size, 5, none⟩ = some (.slice qk kl ck) := (unhide K3).cell 5
        by_cases z1 : sp = 0
        rotate_left
        · have z1' : (sp == 0) = false := beq_eq_false_iff_ne.2 z1
          have z1n : (sp != 0) = true := by simp [z1]
          have HE : Hid (RR = false) := hide (by rw [unhide HR]; rw [ra_three, z1']; simp)
          clear CLf CG CWr CK HR
          go_wp2
          go_ret
          rw [unhide HE]
          exact ⟨rfl, unhide HB3⟩
        have z1' : (sp == 0) = true := by simp [z1]
        have z1n : (sp != 0) = false := by simp [z1]
        cases z2 : n.toList.isEmpty with
        | false =>
          have z2e := emp_ne n z2
          have z2n : (n.toList != ByteArray.toList ⟨#[]⟩) = true := by simp only [bne, z2e]; rfl
          have HE : Hid (RR = false) := hide (by rw [unhide HR]; rw [ra_three, z2]; simp)
          clear CLf CG CWr CK HR
          go_wp2
          go_ret
          rw [unhide HE]
          exact ⟨rfl, unhide HB3⟩
        | true =>
          have z2e := emp_eq n z2
          have z2n : (n.toList != ByteArray.toList ⟨#[]⟩) = false := by simp only [bne, z2e]; rfl
          by_cases z3 : 0 < alen
          · have z3i : (0 : Int) < (alen : Int) := by omega
            have HE : Hid (RR = false) := hide (by rw [unhide HR]; have hal := (unhide HLEN).2; rw [ra_three, hal, show (alen == 0) = false from beq_eq_false_iff_ne.2 (by omega)]; simp)
            clear CLf CG CWr CK HR
            go_wp2
            go_ret
            rw [unhide HE]
            exact ⟨rfl, unhide HB3⟩
          have z3i : ¬ (0 : Int) < (alen : Int) := by omega
          have z3d : decide ((0 : Int) < (alen : Int)) = false := decide_eq_false z3i
          by_cases z4 : 0 < kl
          · have z4i : (0 : Int) < (kl : Int) := by omega
            have HE : Hid (RR = false) := hide (by rw [unhide HR]; rw [ra_three, show (kl == 0) = false from beq_eq_false_iff_ne.2 (by omega)]; simp)
            clear CLf CG CWr CK HR
            go_wp2
            go_ret
            rw [unhide HE]
            exact ⟨rfl, unhide HB3⟩
          have z4i : ¬ (0 : Int) < (kl : Int) := by omega
          have z4d : decide ((0 : Int) < (kl : Int)) = false := decide_eq_false z4i
          have HRA : Hid (raB 3 sp n ats tx kl = goodB tx.data.toList) := hide (by have hal := (unhide HLEN).2; rw [ra_three, z1', z2, hal, show (alen == 0) = true by simp; omega, show (kl == 0) = true by simp; omega]; simp)
          cases z5 : goodB tx.data.toList with
          | false =>
            rw [z5] at CG HRA
            go_wp2_with fail
            refine (unhide CG _).mono ?_
            rintro e w4 ⟨rfl, hb4⟩
            have HB4 := hide (tr2 (unhide HB3) hb4)
            clear hb4
            have HE : Hid (RR = false) := hide (by rw [unhide HR]; rw [unhide HRA]; simp)
            clear CLf CG CWr CK HR
            go_wp2
            go_ret
            rw [unhide HE]
            exact ⟨rfl, unhide HB4⟩
          | true =>
            rw [z5] at CG HRA
            go_wp2_with fail
            refine (unhide CG _).mono ?_
            rintro e w4 ⟨rfl, hb4⟩
            have HB4 := hide (tr2 (unhide HB3) hb4)
            have K4 := hide ((unhide K3).later hb4)
            clear hb4
            have y0 : w4.cell? ⟨wr.heap.size, 0, none⟩ = some (.int .i64 3) := (unhide K4).cell 0
            have y4 : w4.cell? ⟨wr.heap.size, 4, none⟩ = some (.string tx) := (unhide K4).cell 4
            have HE : Hid (RR = (apartP 3 (f.drop (j + 1)) && allB (f.drop (j + 1)))) := hide (by rw [unhide HRS, unhide HR, unhide HRA, hlf]; simp)
            clear CLf CG CWr CK HR
            go_wp2
            go_roundw
            case rel => exact ⟨j + 1, 3, by omega, by go_num, unhide HE, Or.inr ⟨by omega, by rw [Nat.add_sub_cancel]; exact unhide HE0⟩, by rw [unhide HRS]; exact unhide HSR, unhide HB4⟩
            case measure => simp [intOf]; omega
      have hlf : leafB k = false := by simp [leafB, q2, q3]
      rw [hlf] at CLf
      go_wp2_with fail
      refine (unhide CLf _).mono ?_
      rintro e w3 ⟨rfl, hb3⟩
      have HB3 := hide (tr2 (unhide HB) hb3)
      have K3 := hide ((unhide HKX).later hb3)
      clear hb3
      have x0 : w3.cell? ⟨wr.heap.size, 0, none⟩ = some (.int .i64 k) := (unhide K3).cell 0
      have x1 : w3.cell? ⟨wr.heap.size, 1, none⟩ = some (.int .i64 sp) := (unhide K3).cell 1
      have x2 : w3.cell? ⟨wr.heap.size, 2, none⟩ = some (.string n) := (unhide K3).cell 2
      have x3 : w3.cell? ⟨wr.heap.size, 3, none⟩ = some (.slice qa alen ca) := (unhide K3).cell 3
      have x4 : w3.cell? ⟨wr.heap.size, 4, none⟩ = some (.string tx) := (unhide K3).cell 4
      have x5 : w3.cell? ⟨wr.heap.size, 5, none⟩ = some (.slice qk kl ck) := (unhide K3).cell 5
      by_cases q4 : k = 1
      rotate_left
      · have q4e : (k == 1) = false := beq_eq_false_iff_ne.2 q4
        have q4n : (k != 1) = true := by simp [q4]
        have HE : Hid (RR = false) := hide (by rw [unhide HR]; rw [ra_other k sp n ats tx kl q4 q2 q3]; simp)
        clear CLf CG CWr CK HR
        go_wp2
        go_ret
        rw [unhide HE]
        exact ⟨rfl, unhide HB3⟩
      subst q4
      by_cases z1 : sp < 0
      · skip
        have HE : Hid (RR = false) := hide (by rw [unhide HR]; rw [ra_one, decide_eq_false (show ¬ 0 ≤ sp by omega)]; simp)
        clear CLf CG CWr CK HR
        go_wp2
        go_ret
        rw [unhide HE]
        exact ⟨rfl, unhide HB3⟩
      have z1d : decide (sp < 0) = false := decide_eq_false z1
      by_cases z2 : 2 < sp
      · skip
        have HE : Hid (RR = false) := hide (by rw [unhide HR]; rw [ra_one, decide_eq_false (show ¬ sp ≤ 2 by omega)]; simp)
        clear CLf CG CWr CK HR
        go_wp2
        go_ret
        rw [unhide HE]
        exact ⟨rfl, unhide HB3⟩
      have z2d : decide (2 < sp) = false := decide_eq_false z2
      cases z3 : tx.toList.isEmpty with
      | false =>
        have z3e := emp_ne tx z3
        have z3n : (tx.toList != ByteArray.toList ⟨#[]⟩) = true := by simp only [bne, z3e]; rfl
        have HE : Hid (RR = false) := hide (by rw [unhide HR]; rw [ra_one, z3]; simp)
        clear CLf CG CWr CK HR
        go_wp2
        go_ret
        rw [unhide HE]
        exact ⟨rfl, unhide HB3⟩
      | true =>
        have z3e := emp_eq tx z3
        have z3n : (tx.toList != ByteArray.toList ⟨#[]⟩) = false := by simp only [bne, z3e]; rfl
        have HRA : Hid (raB 1 sp n ats tx kl = decide (wrongN n.data.toList ats = 0)) := hide (by rw [ra_one, z3, decide_eq_true (show 0 ≤ sp by omega), decide_eq_true (show sp ≤ 2 by omega)]; simp)
        have CW3 := hide (unhide CWr w3 (unhide HB3))
        generalize wrongN n.data.toList ats = wn at *
        go_wp2_with fail
        refine (unhide CW3).mono ?_
        rintro e w4 ⟨rfl, hb4⟩
        have HB4 := hide (tr2 (unhide HB3) hb4)
        have K4 := hide ((unhide K3).later hb4)
        clear hb4
        have y5 : w4.cell? ⟨wr.heap.size, 5, none⟩ = some (.slice qk kl ck) := (unhide K4).cell 5
        by_cases z4 : wn = 0
        rotate_left
        · have z4e : (wn == 0) = false := beq_eq_false_iff_ne.2 z4
          have z4n : (wn != 0) = true := by simp [z4]
          have HE : Hid (RR = false) := hide (by rw [unhide HR]; rw [unhide HRA, decide_eq_false z4]; simp)
          clear CLf CG CWr CK HR
          go_wp2
          go_ret
          rw [unhide HE]
          exact ⟨rfl, unhide HB4⟩
        subst z4
        have CK4 := hide (unhide CK w4 (unhide HB4))
        go_wp2_with fail
        refine (unhide CK4).mono ?_
        rintro e w5 ⟨rfl, hb5⟩
        have HB5 := hide (tr2 (unhide HB4) hb5)
        clear hb5
        cases z5 : rightN kids with
        | false =>
          have HE : Hid (RR = false) := hide (by rw [unhide HR]; rw [unhide HRA, hlf, ← unhide HKR, z5]; simp)
          clear CLf CG CWr CK HR
          go_wp2
          go_ret
          rw [unhide HE]
          exact ⟨rfl, unhide HB5⟩
        | true =>
          have HE : Hid (RR = (apartP 1 (f.drop (j + 1)) && allB (f.drop (j + 1)))) := hide (by rw [unhide HRS, unhide HR, unhide HRA, hlf, ← unhide HKR, z5]; simp)
          clear CLf CG CWr CK HR
          go_wp2
          go_roundw
          case rel => exact ⟨j + 1, 1, by omega, by go_num, unhide HE, Or.inr ⟨by omega, by rw [Nat.add_sub_cancel]; exact unhide HE0⟩, by rw [unhide HRS]; exact unhide HSR, unhide HB5⟩
          case measure => simp [intOf]; omega
    · have hpi : ¬ (j : Int) < (f.len : Int) := by omega
      rw [f.drop_out j (by omega)] at hr
      have HE : Hid (RR = true) := hide (by rw [hr]; simp [apartP, allB, Forest.kind0, apartB])
      have HB := hide hb
      clear hp hr hb
      go_wp2
      go_ret
      rw [unhide HE]
      exact ⟨rfl, unhide HB⟩
end Go.Proofs.YtmlmpongcpojjaaDoor

/-
  The reference's Right and Check at any nodes; the two Checks are one.
-/
namespace Go.Proofs.YtmlmpongcpojjaaDoor
open Go.RowKit
set_option linter.unusedVariables false
set_option linter.unusedSimpArgs false

theorem SmF.drop : ∀ (j : Nat) (f : Forest), SmF f → SmF (f.drop j)
  | 0, f, h => by rw [Forest.drop_zero]; exact h
  | j + 1, .nil, h => by rw [Forest.drop_nil]; trivial
  | j + 1, .cons _ _ _ _ _ _ r, h => SmF.drop j r h.2.2
theorem rright_any : ∀ (m : Nat) (f : Forest), f.count ≤ m → m ≤ 1000000 → SmF f → ∀ (q : Option Addr) (cap : Nat) (w : World), Fo q f w → Calls Tryd.prog 34 #[.slice q f.len cap] w fun e w' => e = .returned (.bool (rightN f)) ∧ Below w.heap.size w w'
  | m, f, hm, hM, hs, q, cap, w, h => by
    rcases h with rfl | ⟨g, o, rfl, hl⟩
    · exact rright_none q cap w
    · refine rright_some f g o cap w (rightN f) rfl hl (by omega) hs (hide fun j k sp n ats tx kids hd q cap w hf => ?_)
      have h1 : (f.drop j).count ≤ f.count := f.count_drop j
      have h3 := SmF.drop j f hs
      rw [hd] at h1 h3
      have h2 : 1 + kids.count + (f.drop (j + 1)).count ≤ f.count := h1
      match m, hm with
      | 0, hm => omega
      | m + 1, hm => exact rright_any m kids (by omega) (by omega) h3.2.1 q cap w hf
def rcheckN (f : Forest) : Int := if 300 < f.count ∨ 40 < f.depth then 2 else if rightN f = true then 0 else 4
set_option maxHeartbeats 2000000 in
theorem rcheck_any (f : Forest) (q : Option Addr) (cap : Nat) (w : World) (hf : Fo q f w) (hs : SmF f) (hc : f.count ≤ 1000000) :
    Calls Tryd.prog 12 #[.slice q f.len cap] w fun e w' => e = .returned (.int .i64 (rcheckN f)) ∧ Below w.heap.size w w' := by
  have CC := hide (rcount_any f.count f (Nat.le_refl _) hc q cap w hf)
  have CD := hide (fun W (hW : Below w.heap.size w W) => rdepth_any f.count f (Nat.le_refl _) hc q cap W (hf.below hW))
  have CR := hide (fun W (hW : Below w.heap.size w W) => rright_any f.count f (Nat.le_refl _) hc hs q cap W (hf.below hW))
  unfold rcheckN
  generalize f.count = c at *
  generalize f.depth = d at *
  generalize rightN f = r at *
  clear hf hs
  by_cases h1 : 300 < c
  · have h1i : (300 : Int) < (c : Int) := by omega
    rw [if_pos (Or.inl h1)]
    go_enter Tryd.func12, Tryd.ntmps12
    go_wp2_with fail
    refine (unhide CC).mono ?_
    rintro e w1 ⟨rfl, hb⟩
    go_wp2
    go_ret
    exact ⟨rfl, hb⟩
  have h1i : ¬ (300 : Int) < (c : Int) := by omega
  have h1d : decide ((300 : Int) < (c : Int)) = false := decide_eq_false h1i
  by_cases h2 : 40 < d
  · have h2i : (40 : Int) < (d : Int) := by omega
    rw [if_pos (Or.inr h2)]
    go_enter Tryd.func12, Tryd.ntmps12
    go_wp2_with fail
    refine (unhide CC).mono ?_
    rintro e w1 ⟨rfl, hb⟩
    have CD1 := hide (unhide CD w1 hb)
    have HB := hide hb
    clear hb
    go_wp2_with fail
    refine (unhide CD1).mono ?_
    rintro e w2 ⟨rfl, hb2⟩
    go_wp2
    go_ret
    exact ⟨rfl, tr2 (unhide HB) hb2⟩
  have h2i : ¬ (40 : Int) < (d : Int) := by omega
  rw [if_neg (by omega)]
  cases r with
  | true =>
    rw [if_pos rfl]
    go_enter Tryd.func12, Tryd.ntmps12
    go_wp2_with fail
    refine (unhide CC).mono ?_
    rintro e w1 ⟨rfl, hb⟩
    have CD1 := hide (unhide CD w1 hb)
    have HB := hide hb
    clear hb
    go_wp2_with fail
    refine (unhide CD1).mono ?_
    rintro e w2 ⟨rfl, hb2⟩
    have HB2 := hide (tr2 (unhide HB) hb2)
    have CR2 := hide (unhide CR w2 (unhide HB2))
    clear hb2
    go_wp2_with fail
    refine (unhide CR2).mono ?_
    rintro e w3 ⟨rfl, hb3⟩
    go_wp2
    go_ret
    exact ⟨rfl, tr2 (unhide HB2) hb3⟩
  | false =>
    rw [if_neg (by simp)]
    go_enter Tryd.func12, Tryd.ntmps12
    go_wp2_with fail
    refine (unhide CC).mono ?_
    rintro e w1 ⟨rfl, hb⟩
    have CD1 := hide (unhide CD w1 hb)
    have HB := hide hb
    clear hb
    go_wp2_with fail
    refine (unhide CD1).mono ?_
    rintro e w2 ⟨rfl, hb2⟩
    have HB2 := hide (tr2 (unhide HB) hb2)
    have CR2 := hide (unhide CR w2 (unhide HB2))
    clear hb2
    go_wp2_with fail
    refine (unhide CR2).mono ?_
    rintro e w3 ⟨rfl, hb3⟩
    go_wp2
    go_ret
    exact ⟨rfl, tr2 (unhide HB2) hb3⟩
/-! ### they are one -/
def itB (it : Item) : Bool := raB it.k it.sp it.n it.ats it.tx it.kids.len && apartB it.kids
theorem tell_ck : ∀ (l : List Item) (b : Bool), tell ckStep b l = (b && l.all itB)
  | [], b => by simp [tell]
  | it :: l, b => by
    have hs : ckStep b it = (b && itB it, b && itB it) := rfl
    rw [tell, hs]
    cases h : (b && itB it) with
    | true =>
      rw [if_pos rfl, tell_ck l true]
      simp at h
      simp [h.1, h.2]
    | false =>
      rw [if_neg (by simp)]
      simp only [List.all_cons]
      rw [← Bool.and_assoc, h]; simp
theorem ra_leaf {k sp : Int} {n : ByteArray} {ats : List (ByteArray × ByteArray)} {tx : ByteArray} {kl : Nat} (hk : leafB k = true) (h : raB k sp n ats tx kl = true) : kl = 0 := by
  unfold leafB at hk
  simp at hk
  rcases hk with rfl | rfl
  · rw [ra_two] at h; simp at h; exact h.2.2.2.2.2
  · rw [ra_three] at h; simp at h; exact h.2.2.2.2
theorem items_all : ∀ (f : Forest) (d : Nat), (items f d).all itB = allB f
  | .nil, d => rfl
  | .cons k sp n ats tx kids rest, d => by
    have ih1 := items_all kids (d + 1)
    have ih2 := items_all rest d
    rw [items, List.all_cons, List.all_append, ih1, ih2, allB]
    show (raB k sp n ats tx kids.len && apartB kids && (allB kids && allB rest)) = _
    cases hr : raB k sp n ats tx kids.len with
    | false => simp
    | true =>
      cases hl : leafB k with
      | true =>
        have h0 := ra_leaf hl hr
        have hn : kids = .nil := by cases kids with | nil => rfl | cons _ _ _ _ _ _ r => simp [Forest.len] at h0
        subst hn
        simp [apartB, allB]
      | false =>
        simp only [Bool.true_and, Bool.false_or]
        cases apartB kids <;> simp
theorem check_is (f : Forest) : checkN f = rcheckN f := by
  unfold checkN rcheckN
  rw [greatB_is, tell_ck, items_all]
  by_cases h : 300 < f.count ∨ 40 < f.depth
  · rw [if_pos h, if_pos (by simpa using h)]
  · rw [if_neg h, if_neg (by simpa using h)]
    rfl
end Go.Proofs.YtmlmpongcpojjaaDoor
