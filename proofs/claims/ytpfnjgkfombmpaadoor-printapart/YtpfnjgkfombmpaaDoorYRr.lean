/-
  What the reference's Right and Check do (made by mk_yrr.py).
-/
import Derived.Test.YtpfnjgkfombmpaaDoorYCk
import Derived.Test.YtpfnjgkfombmpaaDoorYRl
import Derived.Test.YtpfnjgkfombmpaaDoorMgC
namespace Go.Proofs.YtpfnjgkfombmpaaDoor
open Go.RowKit
set_option linter.unusedVariables false
set_option linter.unusedSimpArgs false

/-- Are nodes right, but for texts side by side among the first ones? -/
def allB : Forest → Bool
  | .nil => true
  | .cons k sp n ats tx kids rest => raB k sp n ats tx kids.len && ((leafB k || (apartB kids && allB kids)) && allB rest)
def rightN (f : Forest) : Bool := apartB f && allB f
def apartP (pk : Int) (f : Forest) : Bool := !(pk == 2 && f.kind0 == 2) && apartB f
theorem apartP_cons (pk k sp : Int) (n : ByteArray) (ats : List (ByteArray × ByteArray)) (tx : ByteArray) (kids rest : Forest) : apartP pk (.cons k sp n ats tx kids rest) = (!(pk == 2 && k == 2) && apartP k rest) := rfl
theorem apartP_zero (f : Forest) : apartP 0 f = apartB f := by unfold apartP; simp
theorem rwrong_sl (n : ByteArray) (q : Option Addr) (ats : List (ByteArray × ByteArray)) (cap : Nat) (w : World) (hs : Sl q ats w) (hf : Fits ats) (hn : n.size ≤ 10000) :
    Calls Tryd.prog 80 #[.string n, .slice q ats.length cap] w fun e w' => e = .returned (.int .i64 (wrongN n.data.toList ats)) ∧ Below w.heap.size w w' := by
  rcases hs with rfl | ⟨g, o, rfl, hc⟩
  · refine (rwrong_nil n q cap w hn).mono ?_
    rintro e w' ⟨rfl, rfl⟩
    exact ⟨rfl, Below.refl _ _⟩
  · exact rwrong_any n ats g o cap w hc hf hn
theorem rright_none (q : Option Addr) (cap : Nat) (w : World) : Calls Tryd.prog 52 #[.slice q 0 cap] w fun e w' => e = .returned (.bool true) ∧ Below w.heap.size w w' := by
  go_enter Tryd.func52, Tryd.ntmps52
  go_wp2
  refine wp_loop_rounds 1 ?_
  rw [rounds_succ]; go_wp2
  go_ret
  exact ⟨rfl, Below.refl _ _⟩
theorem emp_ne (s : ByteArray) (h : s.toList.isEmpty = false) : (s.toList == ByteArray.toList ⟨#[]⟩) = false := by
  apply beq_eq_false_iff_ne.2
  intro e
  rw [e] at h
  simp at h
theorem emp_eq (s : ByteArray) (h : s.toList.isEmpty = true) : (s.toList == ByteArray.toList ⟨#[]⟩) = true := by
  have : s.toList = [] := List.isEmpty_iff.1 h
  rw [this]; simp
theorem ra_two (sp : Int) (n : ByteArray) (ats : List (ByteArray × ByteArray)) (tx : ByteArray) (kl : Nat) : raB 2 sp n ats tx kl = (!tx.toList.isEmpty && (goodB tx.data.toList && (sp == 0 && (n.toList.isEmpty && (ats.length == 0 && kl == 0))))) := by simp [raB, taB]
theorem ra_three (sp : Int) (n : ByteArray) (ats : List (ByteArray × ByteArray)) (tx : ByteArray) (kl : Nat) : raB 3 sp n ats tx kl = (goodB tx.data.toList && (sp == 0 && (n.toList.isEmpty && (ats.length == 0 && kl == 0)))) := by simp [raB, taB]
theorem ra_one (sp : Int) (n : ByteArray) (ats : List (ByteArray × ByteArray)) (tx : ByteArray) (kl : Nat) : raB 1 sp n ats tx kl = (decide (wrongN n.data.toList ats = 0) && (decide (0 ≤ sp) && (decide (sp ≤ 2) && tx.toList.isEmpty))) := by simp [raB]
theorem ra_other (k sp : Int) (n : ByteArray) (ats : List (ByteArray × ByteArray)) (tx : ByteArray) (kl : Nat) (h1 : k ≠ 1) (h2 : k ≠ 2) (h3 : k ≠ 3) : raB k sp n ats tx kl = false := by simp [raB, h1, h2, h3]
/-- What the loop keeps. -/
def RrAt (f : Forest) (g o : Nat) (w : World) (RR : Bool) (b : Value) (wr : World) : Prop :=
  ∃ (j : Nat) (pk : Int), j ≤ f.len ∧ b = .int .i64 j ∧ RR = (apartP pk (f.drop j) && allB (f.drop j)) ∧ (j = 0 ∧ pk = 0 ∨ 0 < j ∧ w.cell? ⟨g, o + (j - 1) * 6, none⟩ = some (.int .i64 pk)) ∧ SmF (f.drop j) ∧ Below w.heap.size w wr
set_option maxHeartbeats 40000000 in
set_option maxRecDepth 100000 in
theorem rright_some (f : Forest) (g o cap : Nat) (w : World) (RR : Bool) (hRR : RR = rightN f) (hl : Lies f g o w) (hc : f.count ≤ 1000000) (hs : SmF f)
    (ih : Hid (∀ j k sp n ats tx kids, f.drop j = .cons k sp n ats tx kids (f.drop (j + 1)) → ∀ q cap w, Fo q kids w → Calls Tryd.prog 52 #[.slice q kids.len cap] w fun e w' => e = .returned (.bool (rightN kids)) ∧ Below w.heap.size w w')) :
    Calls Tryd.prog 52 #[.slice (some ⟨g, o, none⟩) f.len cap] w fun e w' => e = .returned (.bool RR) ∧ Below w.heap.size w w' := by
  have HL := hide hl
  have HAT : Hid (RrAt f g o w RR (.int .i64 0) w) := hide ⟨0, 0, Nat.zero_le _, rfl, by rw [Forest.drop_zero, apartP_zero]; exact hRR, Or.inl ⟨rfl, rfl⟩, by rw [Forest.drop_zero]; exact hs, Below.refl _ _⟩
  have hlc := f.len_count
  clear hl hRR hs
  go_enter Tryd.func52, Tryd.ntmps52
  go_wp2
  go_loopw [7] (fun b wr => RrAt f g o w RR b wr) (fun b _ => f.len - (intOf b).toNat)
  case atStart => exact unhide HAT
  case round =>
    clear HAT
    obtain ⟨j, pk, hj, rfl, hr, hpk, hsm, hb⟩ := hrel
    by_cases hp : j < f.len
    · have hpi : (j : Int) < (f.len : Int) := by omega
      obtain ⟨k, sp, n, ats, tx, kids, hdr⟩ := f.drop_cons j hp
      have hlj := (unhide HL).drop j
      rw [hdr] at hlj hr hsm
      obtain ⟨⟨e0, e1, e2, ⟨qa, ca, e3, hsl⟩, e4, ⟨qk, ck, e5, hck, hfo⟩⟩, _⟩ := hlj
      have HE0 := hide e0
      have c0 := cell_later hb e0
      have c1 := cell_later hb e1
      have c2 := cell_later hb e2
      have c3 := cell_later hb e3
      have c4 := cell_later hb e4
      have c5 := cell_later hb e5
      obtain ⟨⟨ht5, hn1, hfit, hkc⟩, hsk, hsr⟩ := hsm
      have al : Below wr.heap.size wr (wr.alloc (Obj.cells #[.int .i64 k, .int .i64 sp, .string n, .slice qa ats.length ca, .string tx, .slice qk kids.len ck] 31)) := (Below.refl _ _).alloc (Nat.le_refl _) _
      have kX := Blk.new wr #[.int .i64 k, .int .i64 sp, .string n, .slice qa ats.length ca, .string tx, .slice qk kids.len ck] 31
      have HB := hide (tr2 hb al)
      have HKX := hide kX
      have CLf := hide (fun W => leaf_any k sp n tx (.slice qa ats.length ca) (.slice qk kids.len ck) W)
      have CG := hide (fun W => rgood6_any tx W (by omega))
      have CWr := hide (fun W (hW : Below w.heap.size w W) => rwrong_sl n qa ats ca W (hsl.below hW) hfit (by omega))
      have CK := hide (fun W (hW : Below w.heap.size w W) => unhide ih j k sp n ats tx kids hdr qk ck W ((show Fo qk kids w from hfo).below hW))
      have HSR := hide hsr
      rw [apartP_cons, allB] at hr
      have HR := hide hr
      have HKR : Hid (rightN kids = (apartB kids && allB kids)) := hide rfl
      generalize hrest : f.drop (j + 1) = rest at *
      have HRS := hide hrest
      clear hsl hfo hdr hsr hsk e0 e1 e2 e3 e4 e5 hr al kX hrest
      generalize hkl : kids.len = kl at *
      generalize hal : ats.length = alen at *
      have HLEN := hide (And.intro hkl hal)
      by_cases q2 : k = 2
      · subst q2
        cases j with
        | zero =>
          have hne : (pk == 2) = false := by
            rcases hpk with ⟨_, h⟩ | ⟨h, _⟩
            · rw [h]; rfl
            · omega
          clear hb hpk
          simp only [Nat.zero_mul, Nat.add_zero] at c0 c1 c2 c3 c4 c5
          rw [show ((0 : Nat) : Int) = 0 from rfl] at hpi ⊢
          have hlf : leafB 2 = true := by decide
          rw [hlf] at CLf
          go_wp2_with fail
          refine (unhide CLf _).mono ?_
          rintro e w3 ⟨rfl, hb3⟩
          have HB3 := hide (tr2 (unhide HB) hb3)
          have K3 := hide ((unhide HKX).later hb3)
          clear hb3
          have x0 : w3.cell? ⟨wr.heap.size, 0, none⟩ = some (.int .i64 2) := (unhide K3).cell 0
          have x1 : w3.cell? ⟨wr.heap.size, 1, none⟩ = some (.int .i64 sp) := (unhide K3).cell 1
          have x2 : w3.cell? ⟨wr.heap.size, 2, none⟩ = some (.string n) := (unhide K3).cell 2
          have x3 : w3.cell? ⟨wr.heap.size, 3, none⟩ = some (.slice qa alen ca) := (unhide K3).cell 3
          have x4 : w3.cell? ⟨wr.heap.size, 4, none⟩ = some (.string tx) := (unhide K3).cell 4
          have x5 : w3.cell? ⟨wr.heap.size, 5, none⟩ = some (.slice qk kl ck) := (unhide K3).cell 5
          by_cases z1 : sp = 0
          rotate_left
          · have z1' : (sp == 0) = false := beq_eq_false_iff_ne.2 z1
            have z1n : (sp != 0) = true := by simp [z1]
            have HE : Hid (RR = false) := hide (by rw [unhide HR]; rw [ra_two, z1']; simp)
            clear CLf CG CWr CK HR
            go_wp2
            go_ret
            rw [unhide HE]
            exact ⟨rfl, unhide HB3⟩
          have z1' : (sp == 0) = true := by simp [z1]
          have z1n : (sp != 0) = false := by simp [z1]
          cases z2 : n.toList.isEmpty with
          | false =>
            have z2e := emp_ne n z2
            have z2n : (n.toList != ByteArray.toList ⟨#[]⟩) = true := by simp only [bne, z2e]; rfl
            have HE : Hid (RR = false) := hide (by rw [unhide HR]; rw [ra_two, z2]; simp)
            clear CLf CG CWr CK HR
            go_wp2
            go_ret
            rw [unhide HE]
            exact ⟨rfl, unhide HB3⟩
          | true =>
            have z2e := emp_eq n z2
            have z2n : (n.toList != ByteArray.toList ⟨#[]⟩) = false := by simp only [bne, z2e]; rfl
            by_cases z3 : 0 < alen
            · have z3i : (0 : Int) < (alen : Int) := by omega
              have HE : Hid (RR = false) := hide (by rw [unhide HR]; have hal := (unhide HLEN).2; rw [ra_two, hal, show (alen == 0) = false from beq_eq_false_iff_ne.2 (by omega)]; simp)
              clear CLf CG CWr CK HR
              go_wp2
              go_ret
              rw [unhide HE]
              exact ⟨rfl, unhide HB3⟩
            have z3i : ¬ (0 : Int) < (alen : Int) := by omega
            have z3d : decide ((0 : Int) < (alen : Int)) = false := decide_eq_false z3i
            by_cases z4 : 0 < kl
            · have z4i : (0 : Int) < (kl : Int) := by omega
              have HE : Hid (RR = false) := hide (by rw [unhide HR]; rw [ra_two, show (kl == 0) = false from beq_eq_false_iff_ne.2 (by omega)]; simp)
              clear CLf CG CWr CK HR
              go_wp2
              go_ret
              rw [unhide HE]
              exact ⟨rfl, unhide HB3⟩
            have z4i : ¬ (0 : Int) < (kl : Int) := by omega
            have z4d : decide ((0 : Int) < (kl : Int)) = false := decide_eq_false z4i
            have HRA : Hid (raB 2 sp n ats tx kl = (!tx.toList.isEmpty && goodB tx.data.toList)) := hide (by have hal := (unhide HLEN).2; rw [ra_two, z1', z2, hal, show (alen == 0) = true by simp; omega, show (kl == 0) = true by simp; omega]; simp)
            cases z5 : goodB tx.data.toList with
            | false =>
              rw [z5] at CG HRA
              go_wp2_with fail
              refine (unhide CG _).mono ?_
              rintro e w4 ⟨rfl, hb4⟩
              have HB4 := hide (tr2 (unhide HB3) hb4)
              clear hb4
              have HE : Hid (RR = false) := hide (by rw [unhide HR]; rw [unhide HRA]; simp)
              clear CLf CG CWr CK HR
              go_wp2
              go_ret
              rw [unhide HE]
              exact ⟨rfl, unhide HB4⟩
            | true =>
              rw [z5] at CG HRA
              go_wp2_with fail
              refine (unhide CG _).mono ?_
              rintro e w4 ⟨rfl, hb4⟩
              have HB4 := hide (tr2 (unhide HB3) hb4)
              have K4 := hide ((unhide K3).later hb4)
              clear hb4
              have y0 : w4.cell? ⟨wr.heap.size, 0, none⟩ = some (.int .i64 2) := (unhide K4).cell 0
              have y4 : w4.cell? ⟨wr.heap.size, 4, none⟩ = some (.string tx) := (unhide K4).cell 4
              cases z6 : tx.toList.isEmpty with
              | true =>
                have z6e := emp_eq tx z6
                rw [z6] at HRA
                have HE : Hid (RR = false) := hide (by rw [unhide HR]; rw [unhide HRA]; simp)
                clear CLf CG CWr CK HR
                go_wp2
                go_ret
                rw [unhide HE]
                exact ⟨rfl, unhide HB4⟩
              | false =>
                have z6e := emp_ne tx z6
                rw [z6] at HRA
                have HE : Hid (RR = (apartP 2 (f.drop (0 + 1)) && allB (f.drop (0 + 1)))) := hide (by rw [unhide HRS, unhide HR, unhide HRA, hlf]; simp [hne])
                clear CLf CG CWr CK HR
                go_wp2
                go_roundw
                case rel => exact ⟨0 + 1, 2, by omega, by go_num, unhide HE, Or.inr ⟨by omega, by rw [Nat.add_sub_cancel]; exact unhide HE0⟩, by rw [unhide HRS]; exact unhide HSR, unhide HB4⟩
                case measure => simp [intOf]; omega
        | succ i =>
          have hpc : wr.cell? ⟨g, o + i * 6, none⟩ = some (.int .i64 pk) := by
            rcases hpk with ⟨h, _⟩ | ⟨_, h⟩
            · omega
            · exact cell_later hb h
          have hgl : g < wr.heap.size := World.block_lt_of_cell? wr _ hpc
          have hpa : (wr.alloc (Obj.cells #[.int .i64 2, .int .i64 sp, .string n, .slice qa alen ca, .string tx, .slice qk kl ck] 31)).cell? ⟨g, o + i * 6, none⟩ = some (.int .i64 pk) := cell_later ((Below.refl _ _).alloc (Nat.le_refl _) _) hpc
          clear hpk hb
          have hi1 : ((i + 1 : Nat) : Int) = (i : Int) + 1 := by omega
          rw [hi1]
          rw [hi1] at hpi
          have hi2 : (0 : Int) < (i : Int) + 1 := by omega
          have hi3 : (i : Int) < (f.len : Int) := by omega
          have hi4 : (i : Int) + 1 - 1 = i := by omega
          by_cases q1 : pk = 2
          · subst q1
            have HE : Hid (RR = false) := hide (by rw [unhide HR]; simp)
            clear CLf CG CWr CK HR
            go_wp2
            go_ret
            rw [unhide HE]
            exact ⟨rfl, unhide HB⟩
          have hne : (pk == 2) = false := beq_eq_false_iff_ne.2 q1
          have hlf : leafB 2 = true := by decide
          rw [hlf] at CLf
          go_wp2_with fail
          refine (unhide CLf _).mono ?_
          rintro e w3 ⟨rfl, hb3⟩
          have HB3 := hide (tr2 (unhide HB) hb3)
          have K3 := hide ((unhide HKX).later hb3)
          clear hb3
          have x0 : w3.cell? ⟨wr.heap.size, 0, none⟩ = some (.int .i64 2) := (unhide K3).cell 0
          have x1 : w3.cell? ⟨wr.heap.size, 1, none⟩ = some (.int .i64 sp) := (unhide K3).cell 1
          have x2 : w3.cell? ⟨wr.heap.size, 2, none⟩ = some (.string n) := (unhide K3).cell 2
          have x3 : w3.cell? ⟨wr.heap.size, 3, none⟩ = some (.slice qa alen ca) := (unhide K3).cell 3
          have x4 : w3.cell? ⟨wr.heap.size, 4, none⟩ = some (.string tx) := (unhide K3).cell 4
          have x5 : w3.cell? ⟨wr.heap.size, 5, none⟩ = some (.slice qk kl ck) := (unhide K3).cell 5
          by_cases z1 : sp = 0
          rotate_left
          · have z1' : (sp == 0) = false := beq_eq_false_iff_ne.2 z1
            have z1n : (sp != 0) = true := by simp [z1]
            have HE : Hid (RR = false) := hide (by rw [unhide HR]; rw [ra_two, z1']; simp)
            clear CLf CG CWr CK HR
            go_wp2
            go_ret
            rw [unhide HE]
            exact ⟨rfl, unhide HB3⟩
          have z1' : (sp == 0) = true := by simp [z1]
          have z1n : (sp != 0) = false := by simp [z1]
          cases z2 : n.toList.isEmpty with
          | false =>
            have z2e := emp_ne n z2
            have z2n : (n.toList != ByteArray.toList ⟨#[]⟩) = true := by simp only [bne, z2e]; rfl
            have HE : Hid (RR = false) := hide (by rw [unhide HR]; rw [ra_two, z2]; simp)
            clear CLf CG CWr CK HR
            go_wp2
            go_ret
            rw [unhide HE]
            exact ⟨rfl, unhide HB3⟩
          | true =>
            have z2e := emp_eq n z2
            have z2n : (n.toList != ByteArray.toList ⟨#[]⟩) = false := by simp only [bne, z2e]; rfl
            by_cases z3 : 0 < alen
            · have z3i : (0 : Int) < (alen : Int) := by omega
              have HE : Hid (RR = false) := hide (by rw [unhide HR]; have hal := (unhide HLEN).2; rw [ra_two, hal, show (alen == 0) = false from beq_eq_false_iff_ne.2 (by omega)]; simp)
              clear CLf CG CWr CK HR
              go_wp2
              go_ret
              rw [unhide HE]
              exact ⟨rfl, unhide HB3⟩
            have z3i : ¬ (0 : Int) < (alen : Int) := by omega
            have z3d : decide ((0 : Int) < (alen : Int)) = false := decide_eq_false z3i
            by_cases z4 : 0 < kl
            · have z4i : (0 : Int) < (kl : Int) := by omega
              have HE : Hid (RR = false) := hide (by rw [unhide HR]; rw [ra_two, show (kl == 0) = false from beq_eq_false_iff_ne.2 (by omega)]; simp)
              clear CLf CG CWr CK HR
              go_wp2
              go_ret
              rw [unhide HE]
              exact ⟨rfl, unhide HB3⟩
            have z4i : ¬ (0 : Int) < (kl : Int) := by omega
            have z4d : decide ((0 : Int) < (kl : Int)) = false := decide_eq_false z4i
            have HRA : Hid (raB 2 sp n ats tx kl = (!tx.toList.isEmpty && goodB tx.data.toList)) := hide (by have hal := (unhide HLEN).2; rw [ra_two, z1', z2, hal, show (alen == 0) = true by simp; omega, show (kl == 0) = true by simp; omega]; simp)
            cases z5 : goodB tx.data.toList with
            | false =>
              rw [z5] at CG HRA
              go_wp2_with fail
              refine (unhide CG _).mono ?_
              rintro e w4 ⟨rfl, hb4⟩
              have HB4 := hide (tr2 (unhide HB3) hb4)
              clear hb4
              have HE : Hid (RR = false) := hide (by rw [unhide HR]; rw [unhide HRA]; simp)
              clear CLf CG CWr CK HR
              go_wp2
              go_ret
              rw [unhide HE]
              exact ⟨rfl, unhide HB4⟩
            | true =>
              rw [z5] at CG HRA
              go_wp2_with fail
              refine (unhide CG _).mono ?_
              rintro e w4 ⟨rfl, hb4⟩
              have HB4 := hide (tr2 (unhide HB3) hb4)
              have K4 := hide ((unhide K3).later hb4)
              clear hb4
              have y0 : w4.cell? ⟨wr.heap.size, 0, none⟩ = some (.int .i64 2) := (unhide K4).cell 0
              have y4 : w4.cell? ⟨wr.heap.size, 4, none⟩ = some (.string tx) := (unhide K4).cell 4
              cases z6 : tx.toList.isEmpty with
              | true =>
                have z6e := emp_eq tx z6
                rw [z6] at HRA
                have HE : Hid (RR = false) := hide (by rw [unhide HR]; rw [unhide HRA]; simp)
                clear CLf CG CWr CK HR
                go_wp2
                go_ret
                rw [unhide HE]
                exact ⟨rfl, unhide HB4⟩
              | false =>
                have z6e := emp_ne tx z6
                rw [z6] at HRA
                have HE : Hid (RR = (apartP 2 (f.drop ((i + 1) + 1)) && allB (f.drop ((i + 1) + 1)))) := hide (by rw [unhide HRS, unhide HR, unhide HRA, hlf]; simp [hne])
                clear CLf CG CWr CK HR
                go_wp2
                go_roundw
                case rel => exact ⟨(i + 1) + 1, 2, by omega, by go_num, unhide HE, Or.inr ⟨by omega, by rw [Nat.add_sub_cancel]; exact unhide HE0⟩, by rw [unhide HRS]; exact unhide HSR, unhide HB4⟩
                case measure => simp [intOf]; omega
      have q2e : (k == 2) = false := beq_eq_false_iff_ne.2 q2
      clear hpk hb
      by_cases q3 : k = 3
      · subst q3
        have hlf : leafB 3 = true := by decide
        rw [hlf] at CLf
        go_wp2_with fail
        refine (unhide CLf _).mono ?_
        rintro e w3 ⟨rfl, hb3⟩
        have HB3 := hide (tr2 (unhide HB) hb3)
        have K3 := hide ((unhide HKX).later hb3)
        clear hb3
        have x0 : w3.cell? ⟨wr.heap.size, 0, none⟩ = some (.int .i64 3) := (unhide K3).cell 0
        have x1 : w3.cell? ⟨wr.heap.size, 1, none⟩ = some (.int .i64 sp) := (unhide K3).cell 1
        have x2 : w3.cell? ⟨wr.heap.size, 2, none⟩ = some (.string n) := (unhide K3).cell 2
        have x3 : w3.cell? ⟨wr.heap.size, 3, none⟩ = some (.slice qa alen ca) := (unhide K3).cell 3
        have x4 : w3.cell? ⟨wr.heap.size, 4, none⟩ = some (.string tx) := (unhide K3).cell 4
        have x5 : w3.cell? ⟨wr.heap.size, 5, none⟩ = some (.slice qk kl ck) := (unhide K3).cell 5
        by_cases z1 : sp = 0
        rotate_left
        · have z1' : (sp == 0) = false := beq_eq_false_iff_ne.2 z1
          have z1n : (sp != 0) = true := by simp [z1]
          have HE : Hid (RR = false) := hide (by rw [unhide HR]; rw [ra_three, z1']; simp)
          clear CLf CG CWr CK HR
          go_wp2
          go_ret
          rw [unhide HE]
          exact ⟨rfl, unhide HB3⟩
        have z1' : (sp == 0) = true := by simp [z1]
        have z1n : (sp != 0) = false := by simp [z1]
        cases z2 : n.toList.isEmpty with
        | false =>
          have z2e := emp_ne n z2
          have z2n : (n.toList != ByteArray.toList ⟨#[]⟩) = true := by simp only [bne, z2e]; rfl
          have HE : Hid (RR = false) := hide (by rw [unhide HR]; rw [ra_three, z2]; simp)
          clear CLf CG CWr CK HR
          go_wp2
          go_ret
          rw [unhide HE]
          exact ⟨rfl, unhide HB3⟩
        | true =>
          have z2e := emp_eq n z2
          have z2n : (n.toList != ByteArray.toList ⟨#[]⟩) = false := by simp only [bne, z2e]; rfl
          by_cases z3 : 0 < alen
          · have z3i : (0 : Int) < (alen : Int) := by omega
            have HE : Hid (RR = false) := hide (by rw [unhide HR]; have hal := (unhide HLEN).2; rw [ra_three, hal, show (alen == 0) = false from beq_eq_false_iff_ne.2 (by omega)]; simp)
            clear CLf CG CWr CK HR
            go_wp2
            go_ret
            rw [unhide HE]
            exact ⟨rfl, unhide HB3⟩
          have z3i : ¬ (0 : Int) < (alen : Int) := by omega
          have z3d : decide ((0 : Int) < (alen : Int)) = false := decide_eq_false z3i
          by_cases z4 : 0 < kl
          · have z4i : (0 : Int) < (kl : Int) := by omega
            have HE : Hid (RR = false) := hide (by rw [unhide HR]; rw [ra_three, show (kl == 0) = false from beq_eq_false_iff_ne.2 (by omega)]; simp)
            clear CLf CG CWr CK HR
            go_wp2
            go_ret
            rw [unhide HE]
            exact ⟨rfl, unhide HB3⟩
          have z4i : ¬ (0 : Int) < (kl : Int) := by omega
          have z4d : decide ((0 : Int) < (kl : Int)) = false := decide_eq_false z4i
          have HRA : Hid (raB 3 sp n ats tx kl = goodB tx.data.toList) := hide (by have hal := (unhide HLEN).2; rw [ra_three, z1', z2, hal, show (alen == 0) = true by simp; omega, show (kl == 0) = true by simp; omega]; simp)
          cases z5 : goodB tx.data.toList with
          | false =>
            rw [z5] at CG HRA
            go_wp2_with fail
            refine (unhide CG _).mono ?_
            rintro e w4 ⟨rfl, hb4⟩
            have HB4 := hide (tr2 (unhide HB3) hb4)
            clear hb4
            have HE : Hid (RR = false) := hide (by rw [unhide HR]; rw [unhide HRA]; simp)
            clear CLf CG CWr CK HR
            go_wp2
            go_ret
            rw [unhide HE]
            exact ⟨rfl, unhide HB4⟩
          | true =>
            rw [z5] at CG HRA
            go_wp2_with fail
            refine (unhide CG _).mono ?_
            rintro e w4 ⟨rfl, hb4⟩
            have HB4 := hide (tr2 (unhide HB3) hb4)
            have K4 := hide ((unhide K3).later hb4)
            clear hb4
            have y0 : w4.cell? ⟨wr.heap.size, 0, none⟩ = some (.int .i64 3) := (unhide K4).cell 0
            have y4 : w4.cell? ⟨wr.heap.size, 4, none⟩ = some (.string tx) := (unhide K4).cell 4
            have HE : Hid (RR = (apartP 3 (f.drop (j + 1)) && allB (f.drop (j + 1)))) := hide (by rw [unhide HRS, unhide HR, unhide HRA, hlf]; simp)
            clear CLf CG CWr CK HR
            go_wp2
            go_roundw
            case rel => exact ⟨j + 1, 3, by omega, by go_num, unhide HE, Or.inr ⟨by omega, by rw [Nat.add_sub_cancel]; exact unhide HE0⟩, by rw [unhide HRS]; exact unhide HSR, unhide HB4⟩
            case measure => simp [intOf]; omega
      have hlf : leafB k = false := by simp [leafB, q2, q3]
      rw [hlf] at CLf
      go_wp2_with fail
      refine (unhide CLf _).mono ?_
      rintro e w3 ⟨rfl, hb3⟩
      have HB3 := hide (tr2 (unhide HB) hb3)
      have K3 := hide ((unhide HKX).later hb3)
      clear hb3
      have x0 : w3.cell? ⟨wr.heap.size, 0, none⟩ = some (.int .i64 k) := (unhide K3).cell 0
      have x1 : w3.cell? ⟨wr.heap.size, 1, none⟩ = some (.int .i64 sp) := (unhide K3).cell 1
      have x2 : w3.cell? ⟨wr.heap.size, 2, none⟩ = some (.string n) := (unhide K3).cell 2
      have x3 : w3.cell? ⟨wr.heap.size, 3, none⟩ = some (.slice qa alen ca) := (unhide K3).cell 3
      have x4 : w3.cell? ⟨wr.heap.size, 4, none⟩ = some (.string tx) := (unhide K3).cell 4
      have x5 : w3.cell? ⟨wr.heap.size, 5, none⟩ = some (.slice qk kl ck) := (unhide K3).cell 5
      by_cases q4 : k = 1
      rotate_left
      · have q4e : (k == 1) = false := beq_eq_false_iff_ne.2 q4
        have q4n : (k != 1) = true := by simp [q4]
        have HE : Hid (RR = false) := hide (by rw [unhide HR]; rw [ra_other k sp n ats tx kl q4 q2 q3]; simp)
        clear CLf CG CWr CK HR
        go_wp2
        go_ret
        rw [unhide HE]
        exact ⟨rfl, unhide HB3⟩
      subst q4
      by_cases z1 : sp < 0
      · skip
        have HE : Hid (RR = false) := hide (by rw [unhide HR]; rw [ra_one, decide_eq_false (show ¬ 0 ≤ sp by omega)]; simp)
        clear CLf CG CWr CK HR
        go_wp2
        go_ret
        rw [unhide HE]
        exact ⟨rfl, unhide HB3⟩
      have z1d : decide (sp < 0) = false := decide_eq_false z1
      by_cases z2 : 2 < sp
      · skip
        have HE : Hid (RR = false) := hide (by rw [unhide HR]; rw [ra_one, decide_eq_false (show ¬ sp ≤ 2 by omega)]; simp)
        clear CLf CG CWr CK HR
        go_wp2
        go_ret
        rw [unhide HE]
        exact ⟨rfl, unhide HB3⟩
      have z2d : decide (2 < sp) = false := decide_eq_false z2
      cases z3 : tx.toList.isEmpty with
      | false =>
        have z3e := emp_ne tx z3
        have z3n : (tx.toList != ByteArray.toList ⟨#[]⟩) = true := by simp only [bne, z3e]; rfl
        have HE : Hid (RR = false) := hide (by rw [unhide HR]; rw [ra_one, z3]; simp)
        clear CLf CG CWr CK HR
        go_wp2
        go_ret
        rw [unhide HE]
        exact ⟨rfl, unhide HB3⟩
      | true =>
        have z3e := emp_eq tx z3
        have z3n : (tx.toList != ByteArray.toList ⟨#[]⟩) = false := by simp only [bne, z3e]; rfl
        have HRA : Hid (raB 1 sp n ats tx kl = decide (wrongN n.data.toList ats = 0)) := hide (by rw [ra_one, z3, decide_eq_true (show 0 ≤ sp by omega), decide_eq_true (show sp ≤ 2 by omega)]; simp)
        have CW3 := hide (unhide CWr w3 (unhide HB3))
        generalize wrongN n.data.toList ats = wn at *
        go_wp2_with fail
        refine (unhide CW3).mono ?_
        rintro e w4 ⟨rfl, hb4⟩
        have HB4 := hide (tr2 (unhide HB3) hb4)
        have K4 := hide ((unhide K3).later hb4)
        clear hb4
        have y5 : w4.cell? ⟨wr.heap.size, 5, none⟩ = some (.slice qk kl ck) := (unhide K4).cell 5
        by_cases z4 : wn = 0
        rotate_left
        · have z4e : (wn == 0) = false := beq_eq_false_iff_ne.2 z4
          have z4n : (wn != 0) = true := by simp [z4]
          have HE : Hid (RR = false) := hide (by rw [unhide HR]; rw [unhide HRA, decide_eq_false z4]; simp)
          clear CLf CG CWr CK HR
          go_wp2
          go_ret
          rw [unhide HE]
          exact ⟨rfl, unhide HB4⟩
        subst z4
        have CK4 := hide (unhide CK w4 (unhide HB4))
        go_wp2_with fail
        refine (unhide CK4).mono ?_
        rintro e w5 ⟨rfl, hb5⟩
        have HB5 := hide (tr2 (unhide HB4) hb5)
        clear hb5
        cases z5 : rightN kids with
        | false =>
          have HE : Hid (RR = false) := hide (by rw [unhide HR]; rw [unhide HRA, hlf, ← unhide HKR, z5]; simp)
          clear CLf CG CWr CK HR
          go_wp2
          go_ret
          rw [unhide HE]
          exact ⟨rfl, unhide HB5⟩
        | true =>
          have HE : Hid (RR = (apartP 1 (f.drop (j + 1)) && allB (f.drop (j + 1)))) := hide (by rw [unhide HRS, unhide HR, unhide HRA, hlf, ← unhide HKR, z5]; simp)
          clear CLf CG CWr CK HR
          go_wp2
          go_roundw
          case rel => exact ⟨j + 1, 1, by omega, by go_num, unhide HE, Or.inr ⟨by omega, by rw [Nat.add_sub_cancel]; exact unhide HE0⟩, by rw [unhide HRS]; exact unhide HSR, unhide HB5⟩
          case measure => simp [intOf]; omega
    · have hpi : ¬ (j : Int) < (f.len : Int) := by omega
      rw [f.drop_out j (by omega)] at hr
      have HE : Hid (RR = true) := hide (by rw [hr]; simp [apartP, allB, Forest.kind0, apartB])
      have HB := hide hb
      clear hp hr hb
      go_wp2
      go_ret
      rw [unhide HE]
      exact ⟨rfl, unhide HB⟩
end Go.Proofs.YtpfnjgkfombmpaaDoor
