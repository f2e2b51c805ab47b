/-
  The reference's text, Long, node, Plain and Bytes of the tree (made by mk_yrp.py).
-/
import Derived.Test.YtmlmpongcpojjaaDoorMgM
import Derived.Test.YtmlmpongcpojjaaDoorMgN
import Derived.Test.YtmlmpongcpojjaaDoorMgH
import Derived.Deep.RegionHeld
namespace Go.Proofs.YtmlmpongcpojjaaDoor
open Go.RowKit
set_option linter.unusedVariables false
set_option linter.unusedSimpArgs false

theorem rtext8_any (s : ByteArray) (w : World) (h : s.size ≤ 65536) :
    Calls Tryd.prog 83 #[.string s] w fun e w' => e = .returned (.string (bs (tb s))) ∧ Below w.heap.size w w' := by
  have hz := nb_size s.size
  have HE : Hid (bs (nb s.size) ++ s = bs (tb s)) := hide (bs_add _ _)
  have CP := hide (plain_any s.size w (by omega) (by omega))
  generalize bs (nb s.size) = x at *
  go_enter Tryd.func83, Tryd.ntmps83
  go_wp2_with fail
  refine (unhide CP).mono ?_
  rintro e w1 ⟨rfl, hb⟩
  go_wp2
  go_ret
  exact ⟨by rw [← unhide HE]; rfl, hb⟩

/-! ### Long -/
theorem rlong_none (q : Option Addr) (cap : Nat) (w : World) : Calls Tryd.prog 45 #[.slice q 0 cap] w fun e w' => e = .returned (.bool false) ∧ Below w.heap.size w w' := by
  go_enter Tryd.func45, Tryd.ntmps45
  go_wp2
  refine wp_loop_rounds 1 ?_
  rw [rounds_succ]; go_wp2
  go_ret
  exact ⟨rfl, Below.refl _ _⟩
set_option maxHeartbeats 4000000 in
theorem rlong_some (f : Forest) (g o cap : Nat) (w : World) (hl : Lies f g o w) (hs : SmF f) (hc : f.len ≤ 1000000)
    (ih : ∀ j k sp n ats tx kids, f.drop j = .cons k sp n ats tx kids (f.drop (j + 1)) → ∀ q cap w, Fo q kids w → Calls Tryd.prog 45 #[.slice q kids.len cap] w fun e w' => e = .returned (.bool false) ∧ Below w.heap.size w w') :
    Calls Tryd.prog 45 #[.slice (some ⟨g, o, none⟩) f.len cap] w fun e w' => e = .returned (.bool false) ∧ Below w.heap.size w w' := by
  have HL := hide hl
  have IH := hide ih
  have HS := hide hs
  clear hl ih hs
  go_enter Tryd.func45, Tryd.ntmps45
  go_wp2
  go_loopw [9] (fun b wr => ∃ j : Nat, j ≤ f.len ∧ b = .int .i64 j ∧ Below w.heap.size w wr) (fun b _ => f.len - (intOf b).toNat)
  case atStart => exact ⟨0, Nat.zero_le _, rfl, Below.refl _ _⟩
  case round =>
    obtain ⟨j, hj, rfl, hbw⟩ := hrel
    by_cases hp : j < f.len
    · have hpi : (j : Int) < (f.len : Int) := by omega
      obtain ⟨k, sp, n, ats, tx, kids, hd⟩ := f.drop_cons j hp
      have hlj := (unhide HL).drop j
      have hlw := hlj.below hbw
      have hsm := (unhide HS).drop j
      rw [hd] at hlw hsm
      obtain ⟨⟨htx, hn, hfit, _⟩, _, _⟩ := hsm
      obtain ⟨⟨c0, c1, c2, ⟨qa, ca, c3, hsl⟩, c4, ⟨qk, ck, c5, hck, hfo⟩⟩, _⟩ := hlw
      have hbA := (Below.refl wr.heap.size wr).alloc (Nat.le_refl _) (Obj.cells #[.int .i64 k, .int .i64 sp, .string n, .slice qa ats.length ca, .string tx, .slice qk kids.len ck] 49)
      have CK := hide (unhide IH j k sp n ats tx kids hd qk ck _ ((show Fo qk kids wr from hfo).below hbA))
      have HNB := hide (Blk.new wr #[.int .i64 k, .int .i64 sp, .string n, .slice qa ats.length ca, .string tx, .slice qk kids.len ck] 49)
      have HSL := hide (hsl.below hbA)
      have HB := hide (tr2 hbw hbA)
      have HFT := hide hfit
      have htxi : ¬ (65536 : Int) < (tx.size : Int) := by omega
      have htx' : decide ((65536 : Int) < (tx.size : Int)) = false := decide_eq_false htxi
      have hal : (ats.length : Int) ≤ 1000 := by have := hfit.1; omega
      obtain ⟨kl, hkl⟩ : ∃ x, kids.len = x := ⟨_, rfl⟩
      rw [hkl] at c5 CK HNB HSL HB
      obtain ⟨al, hal'⟩ : ∃ x, ats.length = x := ⟨_, rfl⟩
      rw [hal'] at c3 hal CK HNB HSL HB
      have HAL := hide hal'
      clear hlj hsl hfo hd hbA hbw hck hfit hkl hal' hn
      go_wp2_with fail
      refine (unhide CK).mono ?_
      rintro e w1 ⟨rfl, hb1⟩
      have x3 : w1.cell? ⟨wr.heap.size, 3, none⟩ = some (.slice qa al ca) := (Blk.later (unhide HNB) hb1).cell 3
      have HSL1 := hide ((unhide HSL).below hb1)
      have HB1 := hide (tr2 (unhide HB) hb1)
      clear hb1 CK HSL HB HNB c0 c1 c2 c3 c4 c5
      generalize wr.heap.size = R at *
      go_wp2
      go_loopw [25] (fun b wr2 => ∃ i : Nat, i ≤ al ∧ b = .int .i64 i ∧ Below w1.heap.size w1 wr2) (fun b _ => al - (intOf b).toNat)
      case atStart => exact ⟨0, Nat.zero_le _, rfl, Below.refl _ _⟩
      case round =>
        obtain ⟨i, hi, rfl, hbi⟩ := hrel
        by_cases hlt : i < al
        · have hlti : (i : Int) < (al : Int) := by omega
          have hila : i < ats.length := by rw [unhide HAL]; exact hlt
          rcases unhide HSL1 with hnil | ⟨ga, oa, hqa, hcs⟩
          · rw [hnil] at hila; simp at hila
          subst hqa
          obtain ⟨y0, y1⟩ := (hcs.below hbi) i hila
          have hy : (av ats i).size ≤ 10000 := ((unhide HFT).2 i hila).2
          generalize an ats i = ya at *
          generalize av ats i = yb at *
          have hyi : ¬ (65536 : Int) < (yb.size : Int) := by omega
          have HBI := hide (hbi.alloc hbi.size (Obj.cells #[.string ya, .string yb] 81))
          clear hbi hcs hila hy x3
          go_wp2
          go_roundw
          case rel => exact ⟨i + 1, by omega, by go_num, unhide HBI⟩
          case measure => simp [intOf]; omega
        · have hlti : ¬ (i : Int) < (al : Int) := by omega
          have HBI := hide (tr2 (unhide HB1) hbi)
          clear hbi x3
          go_wp2
          go_roundw
          case rel => exact ⟨j + 1, by omega, by go_num, unhide HBI⟩
          case measure => simp [intOf]; omega
    · have hpi : ¬ (j : Int) < (f.len : Int) := by omega
      clear hp
      go_wp2
      go_ret
      exact ⟨rfl, hbw⟩
theorem rlong_any : ∀ (m : Nat) (f : Forest), f.count ≤ m → m ≤ 1000000 → SmF f → ∀ (q : Option Addr) (cap : Nat) (w : World), Fo q f w → Calls Tryd.prog 45 #[.slice q f.len cap] w fun e w' => e = .returned (.bool false) ∧ Below w.heap.size w w'
  | m, f, hm, hM, hs, q, cap, w, h => by
    rcases h with rfl | ⟨g, o, rfl, hl⟩
    · exact rlong_none q cap w
    · refine rlong_some f g o cap w hl hs (by have := f.len_count; omega) (fun j k sp n ats tx kids hd q cap w hf => ?_)
      have h1 : (f.drop j).count ≤ f.count := f.count_drop j
      have h3 := hs.drop j
      rw [hd] at h1 h3
      have h2 : 1 + kids.count + (f.drop (j + 1)).count ≤ f.count := h1
      match m, hm with
      | 0, hm => omega
      | m + 1, hm => exact rlong_any m kids (by omega) (by omega) h3.2.1 q cap w hf

/-! ### node -/
def NdS (w0 : World) (R : Nat) (k sp : Int) (n : ByteArray) (qa : Option Addr) (al ca : Nat) (tx : ByteArray) (qk : Option Addr) (kl ck : Nat) (w : World) : Prop :=
  w.cell? ⟨R, 1, none⟩ = some (.int .i64 sp) ∧ w.cell? ⟨R, 2, none⟩ = some (.string n) ∧ w.cell? ⟨R, 3, none⟩ = some (.slice qa al ca) ∧ Blk w R #[.int .i64 k, .int .i64 sp, .string n, .slice qa al ca, .string tx, .slice qk kl ck] 49 ∧ Below w0.heap.size w0 w
theorem NdS.mk {w0 w : World} {R : Nat} {k sp : Int} {n : ByteArray} {qa : Option Addr} {al ca : Nat} {tx : ByteArray} {qk : Option Addr} {kl ck : Nat} (h : Blk w R #[.int .i64 k, .int .i64 sp, .string n, .slice qa al ca, .string tx, .slice qk kl ck] 49) (hb : Below w0.heap.size w0 w) : NdS w0 R k sp n qa al ca tx qk kl ck w := ⟨h.cell 1, h.cell 2, h.cell 3, h, hb⟩
theorem NdS.below {w0 w w' : World} {R : Nat} {k sp : Int} {n : ByteArray} {qa : Option Addr} {al ca : Nat} {tx : ByteArray} {qk : Option Addr} {kl ck : Nat} (h : NdS w0 R k sp n qa al ca tx qk kl ck w) (hb : Below w.heap.size w w') : NdS w0 R k sp n qa al ca tx qk kl ck w' := NdS.mk (Blk.later h.2.2.2.1 hb) (tr2 h.2.2.2.2 hb)
def AtS (w0 : World) (R : Nat) (k sp : Int) (n : ByteArray) (qa : Option Addr) (al ca : Nat) (tx : ByteArray) (qk : Option Addr) (kl ck : Nat) (H : Nat) (ya yb : ByteArray) (w : World) : Prop :=
  w.cell? ⟨H, 0, none⟩ = some (.string ya) ∧ w.cell? ⟨H, 1, none⟩ = some (.string yb) ∧ NdS w0 R k sp n qa al ca tx qk kl ck w
theorem AtS.below {w0 w w' : World} {R : Nat} {k sp : Int} {n : ByteArray} {qa : Option Addr} {al ca : Nat} {tx : ByteArray} {qk : Option Addr} {kl ck : Nat} {H : Nat} {ya yb : ByteArray} (h : AtS w0 R k sp n qa al ca tx qk kl ck H ya yb w) (hb : Below w.heap.size w w') : AtS w0 R k sp n qa al ca tx qk kl ck H ya yb w' := ⟨cell_later hb h.1, cell_later hb h.2.1, h.2.2.below hb⟩
theorem AtS.new {w0 w : World} {R : Nat} {k sp : Int} {n : ByteArray} {qa : Option Addr} {al ca : Nat} {tx : ByteArray} {qk : Option Addr} {kl ck : Nat} (ya yb : ByteArray) (h : NdS w0 R k sp n qa al ca tx qk kl ck w) : AtS w0 R k sp n qa al ca tx qk kl ck w.heap.size ya yb (w.alloc (Obj.cells #[.string ya, .string yb] 81)) :=
  ⟨(Blk.new w #[.string ya, .string yb] 81).cell 0, (Blk.new w #[.string ya, .string yb] 81).cell 1, h.below ((Below.refl _ _).alloc (Nat.le_refl _) _)⟩
theorem numW_nb {n : Int} (h0 : 0 ≤ n) (h1 : n ≤ 1099511627776) : numW n = nb n := if_pos ⟨h0, h1⟩
set_option maxHeartbeats 2000000 in
theorem rnode_leaf (k sp : Int) (n : ByteArray) (qa : Option Addr) (al ca : Nat) (tx : ByteArray) (qk : Option Addr) (kl ck : Nat) (w : World) (hk : leafB k = true) (htx : tx.size ≤ 5000) :
    Calls Tryd.prog 64 #[.agg #[.int .i64 k, .int .i64 sp, .string n, .slice qa al ca, .string tx, .slice qk kl ck]] w fun e w' => e = .returned (.string (bs (numW k ++ tb tx))) ∧ Below w.heap.size w w' := by
  have hk' : 0 ≤ k ∧ k ≤ 1099511627776 := by unfold leafB at hk; simp at hk; omega
  rw [numW_nb hk'.1 hk'.2]
  have hB := Blk.new w #[.int .i64 k, .int .i64 sp, .string n, .slice qa al ca, .string tx, .slice qk kl ck] 49
  have hbA := (Below.refl w.heap.size w).alloc (Nat.le_refl _) (Obj.cells #[.int .i64 k, .int .i64 sp, .string n, .slice qa al ca, .string tx, .slice qk kl ck] 49)
  have HS := hide (NdS.mk hB hbA)
  have CP := hide (fun W => plain_any k W hk'.1 hk'.2)
  have CL := hide (fun W => leaf_any k sp n tx (.slice qa al ca) (.slice qk kl ck) W)
  rw [hk] at CL
  have CT := hide (fun W => rtext8_any tx W (by omega))
  have hz := nb_size k
  have hz2 := tb_len tx
  have hz3 : (bs (nb k)).size + (bs (tb tx)).size ≤ 10000000000 := by rw [bs_size (tb tx)]; omega
  have HE : Hid (bs (nb k) ++ bs (tb tx) = bs (nb k ++ tb tx)) := hide (bs_bs _ _)
  generalize bs (nb k) = x at *
  generalize bs (tb tx) = y at *
  clear hB hbA hk hk' htx hz2
  go_enter Tryd.func64, Tryd.ntmps64
  go_wp2_with fail
  refine (unhide CP _).mono ?_
  rintro e w1 ⟨rfl, hb1⟩
  have HS1 := hide ((unhide HS).below hb1)
  have c0 : w1.cell? ⟨w.heap.size, 0, none⟩ = some (.int .i64 k) := (unhide HS1).2.2.2.1.cell 0
  have c1 : w1.cell? ⟨w.heap.size, 1, none⟩ = some (.int .i64 sp) := (unhide HS1).2.2.2.1.cell 1
  have c2 : w1.cell? ⟨w.heap.size, 2, none⟩ = some (.string n) := (unhide HS1).2.2.2.1.cell 2
  have c3 : w1.cell? ⟨w.heap.size, 3, none⟩ = some (.slice qa al ca) := (unhide HS1).2.2.2.1.cell 3
  have c4 : w1.cell? ⟨w.heap.size, 4, none⟩ = some (.string tx) := (unhide HS1).2.2.2.1.cell 4
  have c5 : w1.cell? ⟨w.heap.size, 5, none⟩ = some (.slice qk kl ck) := (unhide HS1).2.2.2.1.cell 5
  clear hb1 CP HS
  go_wp2_with fail
  refine (unhide CL _).mono ?_
  rintro e w2 ⟨rfl, hb2⟩
  have HS2 := hide ((unhide HS1).below hb2)
  have d4 : w2.cell? ⟨w.heap.size, 4, none⟩ = some (.string tx) := (unhide HS2).2.2.2.1.cell 4
  clear hb2 CL HS1 c0 c1 c2 c3 c4 c5
  go_wp2_with fail
  refine (unhide CT _).mono ?_
  rintro e w3 ⟨rfl, hb3⟩
  have HS3 := hide ((unhide HS2).below hb3)
  clear hb3 CT HS2 d4
  go_wp2
  go_ret
  exact ⟨by rw [← unhide HE]; rfl, (unhide HS3).2.2.2.2⟩
set_option maxHeartbeats 8000000 in
set_option maxRecDepth 100000 in
theorem rnode_elem (sp : Int) (n : ByteArray) (ats : List (ByteArray × ByteArray)) (qa : Option Addr) (ca : Nat) (tx : ByteArray) (qk : Option Addr) (kl ck : Nat) (P : List UInt8) (w : World) (hsp : 0 ≤ sp ∧ sp ≤ 2) (hn : n.size ≤ 5000) (hfit : Fits ats) (hsl : Sl qa ats w) (hP : P.length ≤ 1000000000000)
    (ih : ∀ W, Below w.heap.size w W → Calls Tryd.prog 46 #[.slice qk kl ck] W fun e w' => e = .returned (.string (bs P)) ∧ Below W.heap.size W w') :
    Calls Tryd.prog 64 #[.agg #[.int .i64 1, .int .i64 sp, .string n, .slice qa ats.length ca, .string tx, .slice qk kl ck]] w fun e w' => e = .returned (.string (bs (numW 1 ++ (numW sp ++ (tb n ++ (numW ats.length ++ (atW ats ++ P))))))) ∧ Below w.heap.size w w' := by
  have hal : ats.length ≤ 1000 := hfit.1
  rw [numW_nb (n := 1) (by omega) (by omega), numW_nb hsp.1 (by omega), numW_nb (n := (ats.length : Int)) (by omega) (by omega)]
  have hB := Blk.new w #[.int .i64 1, .int .i64 sp, .string n, .slice qa ats.length ca, .string tx, .slice qk kl ck] 49
  have hbA := (Below.refl w.heap.size w).alloc (Nat.le_refl _) (Obj.cells #[.int .i64 1, .int .i64 sp, .string n, .slice qa ats.length ca, .string tx, .slice qk kl ck] 49)
  have HS := hide (NdS.mk hB hbA)
  have HSL := hide hsl
  have CP := hide (fun W => plain_any 1 W (by omega) (by omega))
  have CP1 := hide (fun W => plain_any sp W hsp.1 (by omega))
  have CP2 := hide (fun W => rtext8_any n W (by omega))
  have CP3 := hide (fun W => plain_any (ats.length : Int) W (by omega) (by omega))
  have CL := hide (fun W => leaf_any 1 sp n tx (.slice qa ats.length ca) (.slice qk kl ck) W)
  rw [show leafB 1 = false from rfl] at CL
  have CK := hide ih
  have HT := hide (fun s W => rtext8_any s W)
  have HFT := hide hfit
  have z1 := nb_size 1
  have z2 := nb_size sp
  have z3 := tb_len n
  have z4 := nb_size (ats.length : Int)
  have z5 := atW_len ats hfit ats.length 0 (by omega)
  rw [List.drop_zero] at z5
  have z3' : (bs (tb n)).size ≤ 5007 := by rw [bs_size]; omega
  have z6 : ¬ 9223372036854775807 < (bs (nb 1)).size + (bs (nb sp)).size := by omega
  have z7 : ¬ 9223372036854775807 < (bs (nb 1)).size + (bs (nb sp)).size + (bs (tb n)).size := by omega
  have z8 : ¬ 9223372036854775807 < (bs (nb 1)).size + (bs (nb sp)).size + (bs (tb n)).size + (bs (nb (ats.length : Int))).size := by omega
  obtain ⟨l0, hl0⟩ : ∃ l0, l0 = nb 1 ++ (nb sp ++ (tb n ++ nb (ats.length : Int))) := ⟨_, rfl⟩
  have HE : Hid (bs (nb 1) ++ bs (nb sp) ++ bs (tb n) ++ bs (nb (ats.length : Int)) = bs l0) := hide (by rw [hl0, bs_bs, bs_bs, bs_bs]; simp only [List.append_assoc])
  have hl0len : l0.length ≤ 5200 := by
    have h := congrArg ByteArray.size (unhide HE)
    rw [ByteArray.size_append, ByteArray.size_append, ByteArray.size_append, bs_size l0] at h
    omega
  have HFIN : Hid (nb 1 ++ (nb sp ++ (tb n ++ (nb (ats.length : Int) ++ (atW ats ++ P)))) = l0 ++ (atW ats ++ P)) := hide (by rw [hl0]; simp only [List.append_assoc])
  rw [unhide HFIN]
  generalize bs (nb 1) = x1 at *
  generalize bs (nb sp) = x2 at *
  generalize bs (tb n) = x3 at *
  generalize bs (nb (ats.length : Int)) = x4 at *
  obtain ⟨al, hal'⟩ : ∃ x, ats.length = x := ⟨_, rfl⟩
  have HAL := hide hal'
  rw [hal'] at HS CL CP3 hal z5
  rw [hal']
  clear hB hbA hsl hfit ih z1 z2 z3 z3' z4 hal' hl0 HFIN hsp hn
  obtain ⟨R, hR⟩ : ∃ R, w.heap.size = R := ⟨_, rfl⟩
  rw [hR] at HS
  go_enter Tryd.func64, Tryd.ntmps64
  simp only [hR]
  go_wp2_with fail
  refine (unhide CP _).mono ?_
  rintro e w1 ⟨rfl, hb1⟩
  have HS1 := hide ((unhide HS).below hb1)
  have c0 : w1.cell? ⟨R, 0, none⟩ = some (.int .i64 1) := (unhide HS1).2.2.2.1.cell 0
  have c1 : w1.cell? ⟨R, 1, none⟩ = some (.int .i64 sp) := (unhide HS1).2.2.2.1.cell 1
  have c2 : w1.cell? ⟨R, 2, none⟩ = some (.string n) := (unhide HS1).2.2.2.1.cell 2
  have c3 : w1.cell? ⟨R, 3, none⟩ = some (.slice qa al ca) := (unhide HS1).2.2.2.1.cell 3
  have c4 : w1.cell? ⟨R, 4, none⟩ = some (.string tx) := (unhide HS1).2.2.2.1.cell 4
  have c5 : w1.cell? ⟨R, 5, none⟩ = some (.slice qk kl ck) := (unhide HS1).2.2.2.1.cell 5
  clear hb1 CP HS
  go_wp2_with fail
  refine (unhide CL _).mono ?_
  rintro e w2 ⟨rfl, hb2⟩
  have HS2 := hide ((unhide HS1).below hb2)
  clear hb2 CL HS1 c0 c1 c2 c3 c4 c5
  go_wp2_with fail
  have hSa := (unhide HS2).below (Below.drew (Below.refl _ _))
  refine wp_region_held (S := NdS w R 1 sp n qa al ca tx qk kl ck) (by kernel_rfl) ?_
  change wpAnyH _ _ _ _ _ _ _ _ (World.drew _)
  refine wpAnyH_take (i := 0) (oi := { dst := some 16, op := _, type := _, pos := _, after := _, guard := _ }) (v := ?va0) rfl (by kernel_rfl) (by kernel_rfl) (by kernel_rfl) (fun _ _ _ h => h) (Or.inl ⟨by kernel_rfl, ?ha0⟩) hSa ?ra0
  case ha0 => first | (intro w hSw; obtain ⟨s1, s2, s3, _⟩ := hSw; go_simp; done) | (intro w hSw; obtain ⟨s1, s2, s3, _⟩ := hSw; go_simp; with_reducible rfl)
  try simp only [Act.put, List.setIfInBounds_toArray, List.set_cons_zero, List.set_cons_succ]
  refine wpAnyH_take (i := 1) (oi := { dst := some 17, op := _, type := _, pos := _, after := _, guard := _ }) (v := ?va1) rfl (by kernel_rfl) (by kernel_rfl) (by kernel_rfl) (fun _ _ _ h => h) (Or.inl ⟨by kernel_rfl, ?ha1⟩) hSa ?ra1
  case ha1 => first | (intro w hSw; obtain ⟨s1, s2, s3, _⟩ := hSw; go_simp; done) | (intro w hSw; obtain ⟨s1, s2, s3, _⟩ := hSw; go_simp; with_reducible rfl)
  try simp only [Act.put, List.setIfInBounds_toArray, List.set_cons_zero, List.set_cons_succ]
  refine wpAnyH_take (i := 2) (oi := { dst := some 18, op := _, type := _, pos := _, after := _, guard := _ }) (v := ?va2) rfl (by kernel_rfl) (by kernel_rfl) (by kernel_rfl) (fun _ _ _ h => h) (Or.inl ⟨by kernel_rfl, ?ha2⟩) hSa ?ra2
  case ha2 => first | (intro w hSw; obtain ⟨s1, s2, s3, _⟩ := hSw; go_simp; done) | (intro w hSw; obtain ⟨s1, s2, s3, _⟩ := hSw; go_simp; with_reducible rfl)
  try simp only [Act.put, List.setIfInBounds_toArray, List.set_cons_zero, List.set_cons_succ]
  refine wpAnyH_take (i := 5) (oi := { dst := some 21, op := _, type := _, pos := _, after := _, guard := _ }) (v := ?va5) rfl (by kernel_rfl) (by kernel_rfl) (by kernel_rfl) (fun _ _ _ h => h) (Or.inl ⟨by kernel_rfl, ?ha5⟩) hSa ?ra5
  case ha5 => first | (intro w hSw; obtain ⟨s1, s2, s3, _⟩ := hSw; go_simp; done) | (intro w hSw; obtain ⟨s1, s2, s3, _⟩ := hSw; go_simp; with_reducible rfl)
  try simp only [Act.put, List.setIfInBounds_toArray, List.set_cons_zero, List.set_cons_succ]
  refine wpAnyH_take (i := 6) (oi := { dst := some 22, op := _, type := _, pos := _, after := _, guard := _ }) (v := ?va6) rfl (by kernel_rfl) (by kernel_rfl) (by kernel_rfl) (fun _ _ _ h => h) (Or.inl ⟨by kernel_rfl, ?ha6⟩) hSa ?ra6
  case ha6 => first | (intro w hSw; obtain ⟨s1, s2, s3, _⟩ := hSw; go_simp; done) | (intro w hSw; obtain ⟨s1, s2, s3, _⟩ := hSw; go_simp; with_reducible rfl)
  try simp only [Act.put, List.setIfInBounds_toArray, List.set_cons_zero, List.set_cons_succ]
  refine wpAnyH_take (i := 9) (oi := { dst := some 25, op := _, type := _, pos := _, after := _, guard := _ }) (v := ?va9) rfl (by kernel_rfl) (by kernel_rfl) (by kernel_rfl) (fun _ _ _ h => h) (Or.inl ⟨by kernel_rfl, ?ha9⟩) hSa ?ra9
  case ha9 => first | (intro w hSw; obtain ⟨s1, s2, s3, _⟩ := hSw; go_simp; done) | (intro w hSw; obtain ⟨s1, s2, s3, _⟩ := hSw; go_simp; with_reducible rfl)
  try simp only [Act.put, List.setIfInBounds_toArray, List.set_cons_zero, List.set_cons_succ]
  refine wpAnyH_take (i := 10) (oi := { dst := some 26, op := _, type := _, pos := _, after := _, guard := _ }) (v := ?va10) rfl (by kernel_rfl) (by kernel_rfl) (by kernel_rfl) (fun _ _ _ h => h) (Or.inl ⟨by kernel_rfl, ?ha10⟩) hSa ?ra10
  case ha10 => first | (intro w hSw; obtain ⟨s1, s2, s3, _⟩ := hSw; go_simp; done) | (intro w hSw; obtain ⟨s1, s2, s3, _⟩ := hSw; go_simp; with_reducible rfl)
  try simp only [Act.put, List.setIfInBounds_toArray, List.set_cons_zero, List.set_cons_succ]
  refine wpAnyH_take (i := 11) (oi := { dst := some 27, op := _, type := _, pos := _, after := _, guard := _ }) (v := ?va11) rfl (by kernel_rfl) (by kernel_rfl) (by kernel_rfl) (fun _ _ _ h => h) (Or.inl ⟨by kernel_rfl, ?ha11⟩) hSa ?ra11
  case ha11 => first | (intro w hSw; obtain ⟨s1, s2, s3, _⟩ := hSw; go_simp; done) | (intro w hSw; obtain ⟨s1, s2, s3, _⟩ := hSw; go_simp; with_reducible rfl)
  try simp only [Act.put, List.setIfInBounds_toArray, List.set_cons_zero, List.set_cons_succ]
  refine wpAnyH_ready (rs := [3]) (by kernel_rfl) (by simp) ?_
  refine AllReadyH.cons rfl (fun K hK => ?_) AllReadyH.nil
  go_simp
  refine (unhide CP1 _).mono ?_
  rintro e2 W2 ⟨rfl, hb2⟩
  have hSa' := hSa.below hb2
  clear hb2
  refine hK _ _ hSa' (fun _ => ?_)
  clear hK K hSa
  have hSa := hSa'
  clear hSa'
  refine wpAnyH_take (i := 4) (oi := { dst := some 20, op := _, type := _, pos := _, after := _, guard := _ }) (v := ?va4) rfl (by kernel_rfl) (by kernel_rfl) (by kernel_rfl) (fun _ _ _ h => h) (Or.inl ⟨by kernel_rfl, ?ha4⟩) hSa ?ra4
  case ha4 => first | (intro w hSw; obtain ⟨s1, s2, s3, _⟩ := hSw; go_simp; done) | (intro w hSw; obtain ⟨s1, s2, s3, _⟩ := hSw; go_simp; with_reducible rfl)
  try simp only [Act.put, List.setIfInBounds_toArray, List.set_cons_zero, List.set_cons_succ]
  refine wpAnyH_ready (rs := [7]) (by kernel_rfl) (by simp) ?_
  refine AllReadyH.cons rfl (fun K hK => ?_) AllReadyH.nil
  go_simp
  refine (unhide CP2 _).mono ?_
  rintro e3 W3 ⟨rfl, hb3⟩
  have hSa' := hSa.below hb3
  clear hb3
  refine hK _ _ hSa' (fun _ => ?_)
  clear hK K hSa
  have hSa := hSa'
  clear hSa'
  refine wpAnyH_take (i := 8) (oi := { dst := some 24, op := _, type := _, pos := _, after := _, guard := _ }) (v := ?va8) rfl (by kernel_rfl) (by kernel_rfl) (by kernel_rfl) (fun _ _ _ h => h) (Or.inl ⟨by kernel_rfl, ?ha8⟩) hSa ?ra8
  case ha8 => first | (intro w hSw; obtain ⟨s1, s2, s3, _⟩ := hSw; go_simp; done) | (intro w hSw; obtain ⟨s1, s2, s3, _⟩ := hSw; go_simp; with_reducible rfl)
  try simp only [Act.put, List.setIfInBounds_toArray, List.set_cons_zero, List.set_cons_succ]
  refine wpAnyH_ready (rs := [12]) (by kernel_rfl) (by simp) ?_
  refine AllReadyH.cons rfl (fun K hK => ?_) AllReadyH.nil
  go_simp
  refine (unhide CP3 _).mono ?_
  rintro e4 W4 ⟨rfl, hb4⟩
  have hSa' := hSa.below hb4
  clear hb4
  refine hK _ _ hSa' (fun _ => ?_)
  clear hK K hSa
  have hSa := hSa'
  clear hSa'
  refine wpAnyH_take (i := 13) (oi := { dst := some 29, op := _, type := _, pos := _, after := _, guard := _ }) (v := ?va13) rfl (by kernel_rfl) (by kernel_rfl) (by kernel_rfl) (fun _ _ _ h => h) (Or.inl ⟨by kernel_rfl, ?ha13⟩) hSa ?ra13
  case ha13 => first | (intro w hSw; obtain ⟨s1, s2, s3, _⟩ := hSw; go_simp; done) | (intro w hSw; obtain ⟨s1, s2, s3, _⟩ := hSw; go_simp; with_reducible rfl)
  try simp only [Act.put, List.setIfInBounds_toArray, List.set_cons_zero, List.set_cons_succ]
  refine wpAnyH_take (i := 14) (oi := { dst := some 3, op := _, type := _, pos := _, after := _, guard := _ }) (v := ?va14) rfl (by kernel_rfl) (by kernel_rfl) (by kernel_rfl) (fun _ _ _ h => h) (Or.inl ⟨by kernel_rfl, ?ha14⟩) hSa ?ra14
  case ha14 => first | (intro w hSw; obtain ⟨s1, s2, s3, _⟩ := hSw; go_simp; done) | (intro w hSw; obtain ⟨s1, s2, s3, _⟩ := hSw; go_simp; with_reducible rfl)
  try simp only [Act.put, List.setIfInBounds_toArray, List.set_cons_zero, List.set_cons_succ]
  refine wpAnyH_done (by kernel_rfl) ?_ _
  have s3 := hSa.2.2.1
  have HSa := hide hSa
  have hl1 : atW (ats.drop 0) = atW ats := by rw [List.drop_zero]
  have HTOT : Hid ((l0 ++ (atW ats ++ P)).length ≤ 1100000000000) := hide (by rw [List.length_append, List.length_append]; omega)
  clear hSa HS2 CP1 CP2 CP3 z6 z7 z8
  rw [unhide HE]
  go_wp2
  clear s3
  go_loopw [3, 33] (fun a b wr => ∃ (j : Nat) (c : List UInt8), j ≤ al ∧ b = .int .i64 j ∧ a = .string (bs c) ∧ c ++ (atW (ats.drop j) ++ P) = l0 ++ (atW ats ++ P) ∧ NdS w R 1 sp n qa al ca tx qk kl ck wr) (fun _ b _ => al - (intOf b).toNat)
  case atStart => exact ⟨0, l0, Nat.zero_le _, rfl, rfl, by rw [hl1], unhide HSa⟩
  case round =>
    clear HSa hl1
    obtain ⟨j, c, hj, rfl, rfl, hsum, hnd⟩ := hrel
    by_cases hp : j < al
    · have hpi : (j : Int) < (al : Int) := by omega
      have hja : j < ats.length := by rw [unhide HAL]; exact hp
      rcases unhide HSL with hnil | ⟨ga, oa, hqa, hcs⟩
      · rw [hnil] at hja; simp at hja
      subst hqa
      obtain ⟨y0, y1⟩ := (hcs.below hnd.2.2.2.2) j hja
      obtain ⟨b1, b2⟩ := (unhide HFT).2 j hja
      rw [atW_drop ats j hja] at hsum
      have hlen := congrArg List.length hsum
      have htot := unhide HTOT
      simp only [List.length_append] at hlen htot
      have HSUM : Hid ((c ++ (tb (an ats j) ++ tb (av ats j))) ++ (atW (ats.drop (j + 1)) ++ P) = l0 ++ (atW ats ++ P)) := hide (by rw [← hsum]; simp only [List.append_assoc])
      have CT1 := hide (fun W => unhide HT (an ats j) W (by omega))
      have CT2 := hide (fun W => unhide HT (av ats j) W (by omega))
      have z1 : ¬ 9223372036854775807 < (bs c).size + (bs (tb (an ats j))).size := by rw [bs_size, bs_size]; omega
      have z2 : ¬ 9223372036854775807 < (bs c).size + (bs (tb (an ats j))).size + (bs (tb (av ats j))).size := by rw [bs_size, bs_size, bs_size]; omega
      have HX : Hid (bs c ++ bs (tb (an ats j)) ++ bs (tb (av ats j)) = bs (c ++ (tb (an ats j) ++ tb (av ats j)))) := hide (by rw [bs_bs, bs_bs]; simp only [List.append_assoc])
      obtain ⟨c', hc'⟩ : ∃ c', c' = c ++ (tb (an ats j) ++ tb (av ats j)) := ⟨_, rfl⟩
      rw [← hc'] at HSUM HX
      generalize bs (tb (an ats j)) = t1 at *
      generalize bs (tb (av ats j)) = t2 at *
      generalize an ats j = ya at *
      generalize av ats j = yb at *
      generalize bs c = cc at *
      have HSb := hide ((AtS.new ya yb hnd).below (Below.drew (Below.refl _ _)))
      clear hcs hja b1 b2 hsum hlen htot hnd hc'
      go_wp2_with fail
      have hSb := unhide HSb
      refine wp_region_held (S := AtS w R 1 sp n (some ⟨ga, oa, none⟩) al ca tx qk kl ck wr.heap.size ya yb) (by kernel_rfl) ?_
      change wpAnyH _ _ _ _ _ _ _ _ (World.drew _)
      refine wpAnyH_take (i := 0) (oi := { dst := some 37, op := _, type := _, pos := _, after := _, guard := _ }) (v := ?vb0) rfl (by kernel_rfl) (by kernel_rfl) (by kernel_rfl) (fun _ _ _ h => h) (Or.inl ⟨by kernel_rfl, ?hb0⟩) hSb ?rb0
      case hb0 => first | (intro w hSw; obtain ⟨s1, s2, _⟩ := hSw; go_simp; done) | (intro w hSw; obtain ⟨s1, s2, _⟩ := hSw; go_simp; with_reducible rfl)
      try simp only [Act.put, List.setIfInBounds_toArray, List.set_cons_zero, List.set_cons_succ]
      refine wpAnyH_take (i := 1) (oi := { dst := some 38, op := _, type := _, pos := _, after := _, guard := _ }) (v := ?vb1) rfl (by kernel_rfl) (by kernel_rfl) (by kernel_rfl) (fun _ _ _ h => h) (Or.inl ⟨by kernel_rfl, ?hb1⟩) hSb ?rb1
      case hb1 => first | (intro w hSw; obtain ⟨s1, s2, _⟩ := hSw; go_simp; done) | (intro w hSw; obtain ⟨s1, s2, _⟩ := hSw; go_simp; with_reducible rfl)
      try simp only [Act.put, List.setIfInBounds_toArray, List.set_cons_zero, List.set_cons_succ]
      refine wpAnyH_take (i := 2) (oi := { dst := some 39, op := _, type := _, pos := _, after := _, guard := _ }) (v := ?vb2) rfl (by kernel_rfl) (by kernel_rfl) (by kernel_rfl) (fun _ _ _ h => h) (Or.inl ⟨by kernel_rfl, ?hb2⟩) hSb ?rb2
      case hb2 => first | (intro w hSw; obtain ⟨s1, s2, _⟩ := hSw; go_simp; done) | (intro w hSw; obtain ⟨s1, s2, _⟩ := hSw; go_simp; with_reducible rfl)
      try simp only [Act.put, List.setIfInBounds_toArray, List.set_cons_zero, List.set_cons_succ]
      refine wpAnyH_take (i := 5) (oi := { dst := some 42, op := _, type := _, pos := _, after := _, guard := _ }) (v := ?vb5) rfl (by kernel_rfl) (by kernel_rfl) (by kernel_rfl) (fun _ _ _ h => h) (Or.inl ⟨by kernel_rfl, ?hb5⟩) hSb ?rb5
      case hb5 => first | (intro w hSw; obtain ⟨s1, s2, _⟩ := hSw; go_simp; done) | (intro w hSw; obtain ⟨s1, s2, _⟩ := hSw; go_simp; with_reducible rfl)
      try simp only [Act.put, List.setIfInBounds_toArray, List.set_cons_zero, List.set_cons_succ]
      refine wpAnyH_take (i := 6) (oi := { dst := some 43, op := _, type := _, pos := _, after := _, guard := _ }) (v := ?vb6) rfl (by kernel_rfl) (by kernel_rfl) (by kernel_rfl) (fun _ _ _ h => h) (Or.inl ⟨by kernel_rfl, ?hb6⟩) hSb ?rb6
      case hb6 => first | (intro w hSw; obtain ⟨s1, s2, _⟩ := hSw; go_simp; done) | (intro w hSw; obtain ⟨s1, s2, _⟩ := hSw; go_simp; with_reducible rfl)
      try simp only [Act.put, List.setIfInBounds_toArray, List.set_cons_zero, List.set_cons_succ]
      refine wpAnyH_ready (rs := [3]) (by kernel_rfl) (by simp) ?_
      refine AllReadyH.cons rfl (fun K hK => ?_) AllReadyH.nil
      go_simp
      refine (unhide CT1 _).mono ?_
      rintro e5 W5 ⟨rfl, hb5⟩
      have hSb' := hSb.below hb5
      clear hb5
      refine hK _ _ hSb' (fun _ => ?_)
      clear hK K hSb
      have hSb := hSb'
      clear hSb'
      refine wpAnyH_take (i := 4) (oi := { dst := some 41, op := _, type := _, pos := _, after := _, guard := _ }) (v := ?vb4) rfl (by kernel_rfl) (by kernel_rfl) (by kernel_rfl) (fun _ _ _ h => h) (Or.inl ⟨by kernel_rfl, ?hb4⟩) hSb ?rb4
      case hb4 => first | (intro w hSw; obtain ⟨s1, s2, _⟩ := hSw; go_simp; done) | (intro w hSw; obtain ⟨s1, s2, _⟩ := hSw; go_simp; with_reducible rfl)
      try simp only [Act.put, List.setIfInBounds_toArray, List.set_cons_zero, List.set_cons_succ]
      refine wpAnyH_ready (rs := [7]) (by kernel_rfl) (by simp) ?_
      refine AllReadyH.cons rfl (fun K hK => ?_) AllReadyH.nil
      go_simp
      refine (unhide CT2 _).mono ?_
      rintro e6 W6 ⟨rfl, hb6⟩
      have hSb' := hSb.below hb6
      clear hb6
      refine hK _ _ hSb' (fun _ => ?_)
      clear hK K hSb
      have hSb := hSb'
      clear hSb'
      refine wpAnyH_take (i := 8) (oi := { dst := some 45, op := _, type := _, pos := _, after := _, guard := _ }) (v := ?vb8) rfl (by kernel_rfl) (by kernel_rfl) (by kernel_rfl) (fun _ _ _ h => h) (Or.inl ⟨by kernel_rfl, ?hb8⟩) hSb ?rb8
      case hb8 => first | (intro w hSw; obtain ⟨s1, s2, _⟩ := hSw; go_simp; done) | (intro w hSw; obtain ⟨s1, s2, _⟩ := hSw; go_simp; with_reducible rfl)
      try simp only [Act.put, List.setIfInBounds_toArray, List.set_cons_zero, List.set_cons_succ]
      refine wpAnyH_take (i := 9) (oi := { dst := some 3, op := _, type := _, pos := _, after := _, guard := _ }) (v := ?vb9) rfl (by kernel_rfl) (by kernel_rfl) (by kernel_rfl) (fun _ _ _ h => h) (Or.inl ⟨by kernel_rfl, ?hb9⟩) hSb ?rb9
      case hb9 => first | (intro w hSw; obtain ⟨s1, s2, _⟩ := hSw; go_simp; done) | (intro w hSw; obtain ⟨s1, s2, _⟩ := hSw; go_simp; with_reducible rfl)
      try simp only [Act.put, List.setIfInBounds_toArray, List.set_cons_zero, List.set_cons_succ]
      refine wpAnyH_done (by kernel_rfl) ?_ _
      have HN := hide hSb.2.2
      clear hSb HSb CT1 CT2
      rw [unhide HX]
      go_wp2
      go_roundw
      case rel => exact ⟨j + 1, c', by omega, by go_num, rfl, unhide HSUM, unhide HN⟩
      case measure => simp [intOf]; omega
    · have hpi : ¬ (j : Int) < (al : Int) := by omega
      have hsum' : c ++ P = l0 ++ (atW ats ++ P) := by rw [← hsum, List.drop_eq_nil_of_le (by rw [unhide HAL]; omega)]; rfl
      have c5 : wr.cell? ⟨R, 5, none⟩ = some (.slice qk kl ck) := hnd.2.2.2.1.cell 5
      have CK1 := hide (unhide CK wr hnd.2.2.2.2)
      have HB := hide hnd.2.2.2.2
      have htot := unhide HTOT
      rw [← hsum', List.length_append] at htot
      have z1 : (bs c).size + (bs P).size ≤ 1100000000000 := by rw [bs_size, bs_size]; omega
      have HX : Hid (bs c ++ bs P = bs (l0 ++ (atW ats ++ P))) := hide (by rw [bs_bs, hsum'])
      generalize bs P = pp at *
      generalize bs c = cc at *
      clear hsum hsum' hnd htot CK
      go_wp2_with fail
      refine (unhide CK1).mono ?_
      rintro e w5 ⟨rfl, hb5⟩
      have HB5 := hide (tr2 (unhide HB) hb5)
      clear hb5 CK1 c5
      go_wp2
      go_ret
      exact ⟨by rw [← unhide HX]; rfl, by rw [← hR]; exact unhide HB5⟩

/-! ### Plain -/
theorem ra_elem {k sp : Int} {n : ByteArray} {ats : List (ByteArray × ByteArray)} {tx : ByteArray} {kl : Nat} (hk : leafB k = false) (h : raB k sp n ats tx kl = true) : k = 1 ∧ 0 ≤ sp ∧ sp ≤ 2 := by
  unfold leafB at hk
  simp at hk
  unfold raB at h
  by_cases h1 : k = 1
  · rw [if_pos h1] at h
    simp at h
    exact ⟨h1, h.2.1, h.2.2.1⟩
  · rw [if_neg h1, if_neg hk.1, if_neg hk.2] at h
    cases h
def plnV (f : Forest) : List UInt8 := bytesL f
theorem rplain_none (q : Option Addr) (cap : Nat) (w : World) : Calls Tryd.prog 46 #[.slice q 0 cap] w fun e w' => e = .returned (.string (bs (plnV .nil))) ∧ Below w.heap.size w w' := by
  have CP := hide (plain_any 0 w (by omega) (by omega))
  rw [show plnV .nil = nb 0 by unfold plnV bytesL; rw [show (Forest.nil.len : Int) = 0 from rfl, numW_nb (by omega) (by omega), show byF .nil = [] from rfl, List.append_nil]]
  generalize bs (nb 0) = x at *
  go_enter Tryd.func46, Tryd.ntmps46
  go_wp2_with fail
  refine (unhide CP).mono ?_
  rintro e w1 ⟨rfl, hb1⟩
  go_wp2
  refine wp_loop_rounds 1 ?_
  rw [rounds_succ]; go_wp2
  go_ret
  exact ⟨rfl, hb1⟩
set_option maxHeartbeats 4000000 in
set_option maxRecDepth 100000 in
theorem rplain_some (f : Forest) (g o cap : Nat) (w : World) (hl : Lies f g o w) (hs : SmF f) (hc : f.count ≤ 1000) (hr : allB f = true)
    (ih : ∀ j k sp n ats tx kids, f.drop j = .cons k sp n ats tx kids (f.drop (j + 1)) → allB kids = true → SmF kids → ∀ q cap w, Fo q kids w → Calls Tryd.prog 46 #[.slice q kids.len cap] w fun e w' => e = .returned (.string (bs (plnV kids))) ∧ Below w.heap.size w w') :
    Calls Tryd.prog 46 #[.slice (some ⟨g, o, none⟩) f.len cap] w fun e w' => e = .returned (.string (bs (plnV f))) ∧ Below w.heap.size w w' := by
  have hlc := f.len_count
  have hbl := by_len f hs
  have HL := hide hl
  have IH := hide ih
  have HS := hide hs
  have HC := hide hc
  have hfl : f.len ≤ 1000000 := by omega
  have hpl : plnV f = nb (f.len : Int) ++ byF f := by unfold plnV bytesL; rw [numW_nb (by omega) (by omega)]
  have CP := hide (plain_any (f.len : Int) w (by omega) (by omega))
  have hz := nb_size (f.len : Int)
  rw [bs_size] at hz
  have HTOT : Hid ((plnV f).length ≤ 1000000000000) := hide (by rw [hpl, List.length_append]; omega)
  have hpl' : nb (f.len : Int) ++ byF (f.drop 0) = plnV f := by rw [hpl, Forest.drop_zero]
  have HR0 := hide hr
  generalize nb (f.len : Int) = l0 at *
  have HPL := hide hpl'
  clear hl ih hs hr hpl hpl' hz hbl hc
  go_enter Tryd.func46, Tryd.ntmps46
  go_wp2_with fail
  refine (unhide CP).mono ?_
  rintro e w0 ⟨rfl, hb0⟩
  have HB0 := hide hb0
  clear CP hb0
  go_wp2
  go_loopw [3, 11] (fun a b wr => ∃ (j : Nat) (c : List UInt8), j ≤ f.len ∧ b = .int .i64 j ∧ a = .string (bs c) ∧ c ++ byF (f.drop j) = plnV f ∧ allB (f.drop j) = true ∧ Below w.heap.size w wr) (fun _ b _ => f.len - (intOf b).toNat)
  case atStart => exact ⟨0, l0, Nat.zero_le _, rfl, rfl, unhide HPL, by rw [Forest.drop_zero]; exact unhide HR0, unhide HB0⟩
  case round =>
    clear HPL HR0 HB0
    obtain ⟨j, c, hj, rfl, rfl, hsum, hall, hbw⟩ := hrel
    by_cases hp : j < f.len
    · have hpi : (j : Int) < (f.len : Int) := by omega
      obtain ⟨k, sp, n, ats, tx, kids, hd⟩ := f.drop_cons j hp
      have hlj := (unhide HL).drop j
      have hlw := hlj.below hbw
      have hsm := (unhide HS).drop j
      have hcn := f.count_drop j
      rw [hd] at hlw hsum hall hsm hcn
      obtain ⟨⟨htx, hn, hfit, _⟩, hsk, _⟩ := hsm
      obtain ⟨⟨c0, c1, c2, ⟨qa, ca, c3, hsl⟩, c4, ⟨qk, ck, c5, hck, hfo⟩⟩, _⟩ := hlw
      have hall' : (raB k sp n ats tx kids.len && ((leafB k || (apartB kids && allB kids)) && allB (f.drop (j + 1)))) = true := hall
      rw [Bool.and_eq_true, Bool.and_eq_true] at hall'
      obtain ⟨hra, hlf, hrest⟩ := hall'
      have hsum' : c ++ (nodeL k sp n ats tx kids.len ++ (byF kids ++ byF (f.drop (j + 1)))) = plnV f := hsum
      have hcn' : 1 + kids.count + (f.drop (j + 1)).count ≤ f.count := hcn
      have hbA := (Below.refl wr.heap.size wr).alloc (Nat.le_refl _) (Obj.cells #[.int .i64 k, .int .i64 sp, .string n, .slice qa ats.length ca, .string tx, .slice qk kids.len ck] 49)
      have CN : Hid (Calls Tryd.prog 64 #[.agg #[.int .i64 k, .int .i64 sp, .string n, .slice qa ats.length ca, .string tx, .slice qk kids.len ck]] (wr.alloc (Obj.cells #[.int .i64 k, .int .i64 sp, .string n, .slice qa ats.length ca, .string tx, .slice qk kids.len ck] 49)) fun e w' => e = .returned (.string (bs (nodeL k sp n ats tx kids.len ++ byF kids))) ∧ Below (wr.alloc (Obj.cells #[.int .i64 k, .int .i64 sp, .string n, .slice qa ats.length ca, .string tx, .slice qk kids.len ck] 49)).heap.size (wr.alloc (Obj.cells #[.int .i64 k, .int .i64 sp, .string n, .slice qa ats.length ca, .string tx, .slice qk kids.len ck] 49)) w') := hide (by
        cases hkk : leafB k with
        | true =>
          have hk0 := ra_leaf hkk hra
          have hkn : kids = .nil := by
            cases kids with
            | nil => rfl
            | cons _ _ _ _ _ _ r => simp [Forest.len] at hk0
          have := rnode_leaf k sp n qa ats.length ca tx qk kids.len ck (wr.alloc (Obj.cells #[.int .i64 k, .int .i64 sp, .string n, .slice qa ats.length ca, .string tx, .slice qk kids.len ck] 49)) hkk htx
          have hk1 : ¬ k = 1 := by unfold leafB at hkk; simp at hkk; omega
          rw [show nodeL k sp n ats tx kids.len ++ byF kids = numW k ++ tb tx by rw [hkn]; unfold nodeL; rw [if_neg hk1]; show _ ++ [] = _; rw [List.append_nil]]
          exact this
        | false =>
          obtain ⟨hk1, hsp⟩ := ra_elem hkk hra
          rw [hkk, Bool.false_or, Bool.and_eq_true] at hlf
          subst hk1
          have hkl := by_len kids hsk
          have hkc := unhide HC
          have := rnode_elem sp n ats qa ca tx qk kids.len ck (plnV kids) (wr.alloc (Obj.cells #[.int .i64 1, .int .i64 sp, .string n, .slice qa ats.length ca, .string tx, .slice qk kids.len ck] 49)) hsp hn hfit (hsl.below hbA) (by have h7 := numW_len kids.len; unfold plnV bytesL; rw [List.length_append]; omega) (fun W hW => unhide IH j 1 sp n ats tx kids hd hlf.2 hsk qk ck W (((show Fo qk kids wr from hfo).below hbA).below hW))
          rw [show nodeL 1 sp n ats tx kids.len ++ byF kids = numW 1 ++ (numW sp ++ (tb n ++ (numW ats.length ++ (atW ats ++ plnV kids)))) by unfold nodeL plnV bytesL; rw [if_pos rfl]; simp only [List.append_assoc]]
          exact this)
      have HB := hide (tr2 hbw hbA)
      have htot := unhide HTOT
      rw [← hsum', List.length_append, List.length_append, List.length_append] at htot
      have HSUM : Hid ((c ++ (nodeL k sp n ats tx kids.len ++ byF kids)) ++ byF (f.drop (j + 1)) = plnV f) := hide (by rw [← hsum']; simp only [List.append_assoc])
      have z1 : (bs c).size + (bs (nodeL k sp n ats tx kids.len ++ byF kids)).size ≤ 1000000000000 := by rw [bs_size, bs_size, List.length_append]; omega
      have HX : Hid (bs c ++ bs (nodeL k sp n ats tx kids.len ++ byF kids) = bs (c ++ (nodeL k sp n ats tx kids.len ++ byF kids))) := hide (bs_bs _ _)
      have HRE := hide hrest
      generalize nodeL k sp n ats tx kids.len ++ byF kids = nn at *
      generalize bs nn = y at *
      generalize bs c = x at *
      generalize kids.len = kl at *
      generalize ats.length = al at *
      clear hlj hsl hfo hd hsum hsum' hbA hbw hck hfit hn htx hall hra hlf hsk hcn hcn' htot hrest
      go_wp2_with fail
      refine (unhide CN).mono ?_
      rintro e w1 ⟨rfl, hb1⟩
      have HB1 := hide (tr2 (unhide HB) hb1)
      clear hb1 CN
      go_wp2
      go_roundw
      case rel => exact ⟨j + 1, c ++ nn, by omega, by go_num, by rw [← unhide HX], unhide HSUM, unhide HRE, unhide HB1⟩
      case measure => simp [intOf]; omega
    · have hpi : ¬ (j : Int) < (f.len : Int) := by omega
      rw [f.drop_out j (by omega)] at hsum
      have HE : Hid (c = plnV f) := hide (by rw [← hsum]; show c = c ++ []; simp)
      clear hp hsum hall
      go_wp2
      go_ret
      exact ⟨by rw [← unhide HE]; rfl, hbw⟩
theorem rplain_any : ∀ (m : Nat) (f : Forest), f.count ≤ m → m ≤ 1000 → SmF f → allB f = true → ∀ (q : Option Addr) (cap : Nat) (w : World), Fo q f w → Calls Tryd.prog 46 #[.slice q f.len cap] w fun e w' => e = .returned (.string (bs (plnV f))) ∧ Below w.heap.size w w'
  | m, f, hm, hM, hs, hr, q, cap, w, h => by
    rcases h with rfl | ⟨g, o, rfl, hl⟩
    · exact rplain_none q cap w
    · refine rplain_some f g o cap w hl hs (by omega) hr (fun j k sp n ats tx kids hd hrk hsk q cap w hf => ?_)
      have h1 : (f.drop j).count ≤ f.count := f.count_drop j
      rw [hd] at h1
      have h2 : 1 + kids.count + (f.drop (j + 1)).count ≤ f.count := h1
      match m, hm with
      | 0, hm => omega
      | m + 1, hm => exact rplain_any m kids (by omega) (by omega) hsk hrk q cap w hf

/-! ### Bytes -/
set_option maxHeartbeats 2000000 in
theorem trbytes_any (f : Forest) (q : Option Addr) (cap : Nat) (w : World) (hf : Fo q f w) (hs : SmF f) (hc : f.count ≤ 1000000) :
    Calls Tryd.prog 20 #[.slice q f.len cap] w fun e w' => e = .returned (.tuple #[.string (bs (bytesV f)), .int .i64 (checkN f)]) ∧ Below w.heap.size w w' := by
  have CC := hide (rcheck_any f q cap w hf hs hc)
  rw [← check_is] at CC
  unfold bytesV
  by_cases h0 : checkN f = 0
  · rw [if_pos h0, h0]
    have h1 := h0
    rw [check_is] at h1
    unfold rcheckN at h1
    by_cases h2 : 300 < f.count ∨ 40 < f.depth
    · rw [if_pos h2] at h1; omega
    rw [if_neg h2] at h1
    have h3 : rightN f = true := by
      cases h : rightN f with
      | true => rfl
      | false => rw [h] at h1; simp at h1
    have h4 : allB f = true := by unfold rightN at h3; rw [Bool.and_eq_true] at h3; exact h3.2
    have CL := hide (fun W (hW : Below w.heap.size w W) => rlong_any f.count f (Nat.le_refl _) hc hs q cap W (hf.below hW))
    have CP := hide (fun W (hW : Below w.heap.size w W) => rplain_any 300 f (by omega) (by omega) hs h4 q cap W (hf.below hW))
    rw [show plnV f = bytesL f from rfl] at CP
    rw [h0] at CC
    generalize bs (bytesL f) = x at *
    generalize f.len = fl at *
    clear hf hs h0 h1 h2 h3 h4 hc
    go_enter Tryd.func20, Tryd.ntmps20
    go_wp2_with fail
    refine (unhide CC).mono ?_
    rintro e w1 ⟨rfl, hb1⟩
    have CL1 := hide (unhide CL w1 hb1)
    have HB := hide hb1
    clear CC CL hb1
    go_wp2_with fail
    refine (unhide CL1).mono ?_
    rintro e w2 ⟨rfl, hb2⟩
    have hb2' := tr2 (unhide HB) hb2
    have CP2 := hide (unhide CP w2 hb2')
    have HB2 := hide hb2'
    clear CL1 CP hb2 hb2' HB
    go_wp2_with fail
    refine (unhide CP2).mono ?_
    rintro e w3 ⟨rfl, hb3⟩
    have HB3 := hide (tr2 (unhide HB2) hb3)
    clear CP2 HB2 hb3
    go_wp2
    go_ret2
    exact ⟨rfl, unhide HB3⟩
  · rw [if_neg h0]
    have hbe : (checkN f == 0) = false := beq_eq_false_iff_ne.2 h0
    generalize checkN f = c at *
    generalize f.len = fl at *
    clear hf hs
    go_enter Tryd.func20, Tryd.ntmps20
    go_wp2_with fail
    refine (unhide CC).mono ?_
    rintro e w1 ⟨rfl, hb1⟩
    go_wp2
    go_ret2
    exact ⟨rfl, hb1⟩
end Go.Proofs.YtmlmpongcpojjaaDoor
