/-
  Several texts in one: what the functions of the program and of the document's answer do.
-/
import Derived.Test.YtemccomnhjhjeaaDoorMgBM
import Derived.Test.YtemccomnhjhjeaaDoorMgAC
import Derived.Test.YtemccomnhjhjeaaDoorKUq
import Derived.Test.YtemccomnhjhjeaaDoorMgBJ
import Derived.Lib.ItoaLen
import Derived.Lib.LaidTab
import Derived.WalkSmall

/-
  The small case of the laws on keys holds.
-/
namespace Go.Proofs.YtemccomnhjhjeaaDoor
open Go.RowKit Go.Maps
set_option linter.unusedVariables false
set_option linter.unusedSimpArgs false

theorem wayT3 : wayF T3 0 1 = [0, 0] := by kernel_rfl
theorem atET3 : atE T3 [1] = 0 := by kernel_rfl
theorem atNT3 : atN T3 [1] = nI := by kernel_rfl
set_option maxHeartbeats 4000000 in
set_option maxRecDepth 100000 in
theorem three_any (w : World) : Calls Tryd.prog 9 #[] w fun e w' => e = .returned (.bool true) ∧ Below w.heap.size w w' := by
  obtain ⟨W1, hW1⟩ : ∃ W1, (w.alloc (Obj.cells #[.int .i64 1, .int .i64 0, .string ⟨#[98]⟩, .slice none 0 0, .string ⟨#[]⟩, .slice none 0 0] 34)).alloc (Obj.cells #[.int .i64 1, .int .i64 0, .string ⟨#[112]⟩, .slice none 0 0, .string ⟨#[]⟩, .slice (some ⟨w.heap.size, 0, none⟩) 1 1, .int .i64 1, .int .i64 0, .string ⟨#[105]⟩, .slice none 0 0, .string ⟨#[]⟩, .slice none 0 0] 34) = W1 := ⟨_, rfl⟩
  have hb1 : Below w.heap.size w W1 := by rw [← hW1]; exact ((Below.refl w.heap.size w).alloc (Nat.le_refl _) _).alloc (by simp) _
  have kA : Blk W1 w.heap.size #[.int .i64 1, .int .i64 0, .string ⟨#[98]⟩, .slice none 0 0, .string ⟨#[]⟩, .slice none 0 0] 34 := by rw [← hW1]; exact (Blk.new w _ _).alloc _
  have kB : Blk W1 (w.heap.size + 1) #[.int .i64 1, .int .i64 0, .string ⟨#[112]⟩, .slice none 0 0, .string ⟨#[]⟩, .slice (some ⟨w.heap.size, 0, none⟩) 1 1, .int .i64 1, .int .i64 0, .string ⟨#[105]⟩, .slice none 0 0, .string ⟨#[]⟩, .slice none 0 0] 34 := by
    rw [← hW1]
    have := Blk.new (w.alloc (Obj.cells #[.int .i64 1, .int .i64 0, .string ⟨#[98]⟩, .slice none 0 0, .string ⟨#[]⟩, .slice none 0 0] 34)) #[.int .i64 1, .int .i64 0, .string ⟨#[112]⟩, .slice none 0 0, .string ⟨#[]⟩, .slice (some ⟨w.heap.size, 0, none⟩) 1 1, .int .i64 1, .int .i64 0, .string ⟨#[105]⟩, .slice none 0 0, .string ⟨#[]⟩, .slice none 0 0] 34
    simpa using this
  have hlT : Lies T3 (w.heap.size + 1) 0 W1 :=
    ⟨⟨kB.cell 0, kB.cell 1, kB.cell 2, ⟨none, 0, kB.cell 3, Or.inl rfl⟩, kB.cell 4, ⟨some ⟨w.heap.size, 0, none⟩, 1, kB.cell 5, Nat.le_refl _, Or.inr ⟨w.heap.size, 0, rfl, ⟨⟨kA.cell 0, kA.cell 1, kA.cell 2, ⟨none, 0, kA.cell 3, Or.inl rfl⟩, kA.cell 4, ⟨none, 0, kA.cell 5, Nat.le_refl _, Or.inl rfl⟩⟩, trivial⟩⟩⟩⟩,
      ⟨⟨kB.cell 6, kB.cell 7, kB.cell 8, ⟨none, 0, kB.cell 9, Or.inl rfl⟩, kB.cell 10, ⟨none, 0, kB.cell 11, Nat.le_refl _, Or.inl rfl⟩⟩, trivial⟩⟩
  have hF : Fo (some ⟨w.heap.size + 1, 0, none⟩) T3 W1 := Or.inr ⟨_, 0, rfl, hlT⟩
  have HF := hide hF
  have CW := hide (way_any T3 (some ⟨w.heap.size + 1, 0, none⟩) 2 1 W1 hF (by decide) (by decide))
  have CA := hide (fun W (hW : Below W1.heap.size W1 W) (qw : Option Addr) (h : IntsV qw 1 [1] W) => at_any T3 (some ⟨w.heap.size + 1, 0, none⟩) 2 [1] qw 1 1 W (hF.below hW) (by decide) smT3 (by decide) h (Nat.le_refl _) (by decide))
  have CI := hide (fun W (hW : Below W1.heap.size W1 W) => items_any T3 (some ⟨w.heap.size + 1, 0, none⟩) 2 W (hF.below hW) (by decide) (by decide))
  rw [wayT3, show T3.len = 2 from rfl, show T3.count = 3 from rfl] at CW
  rw [show (if (1 : Int) < 0 ∨ ((3 : Nat) : Int) ≤ 1 then 6 else 0 : Int) = 0 from rfl] at CW
  rw [show T3.len = 2 from rfl] at CA CI
  rw [show T3.count = 3 from rfl] at CI
  have HB1 := hide hb1
  clear kA kB hlT hF hb1
  go_enter Tryd.func9, Tryd.ntmps9
  go_wp2_with fail
  refine (unhide CW).mono ?_
  rintro e w2 ⟨q2, n2, c2, hnc2, rfl, hi2, hb2⟩
  obtain rfl : n2 = 2 := hi2.1
  have hbA := (Below.refl w2.heap.size w2).alloc (Nat.le_refl _) (Obj.cells #[.int .i64 1] 3)
  have hI1 : IntsV (some ⟨w2.heap.size, 0, none⟩) 1 [1] (w2.alloc (Obj.cells #[.int .i64 1] 3)) := ⟨rfl, fun _ => ⟨w2.heap.size, 0, rfl, fun j hj => by
    obtain rfl : j = 0 := by omega
    exact (Blk.new w2 _ _).cell 0⟩⟩
  have CA1 := hide (unhide CA _ (tr2 hb2 hbA) _ hI1)
  have HI2 := hide hi2
  have HB2 := hide hb2
  clear CW CA hi2 hb2 hbA hI1
  go_wp2_with fail
  refine (unhide CA1).mono ?_
  rintro e w3 ⟨v3, rfl, hn3, hb3⟩
  rw [atET3]
  rcases hn3 with ⟨h, _⟩ | ⟨_, k, sp, n, ats, tx, kids, rest, hat, hnd⟩
  · exact absurd atET3 h
  rw [atNT3] at hat
  unfold nI at hat
  injection hat with a1 a2 a3 a4 a5 a6 a7
  obtain rfl : k = 1 := a1.symm
  obtain rfl : sp = 0 := a2.symm
  obtain rfl : n = ⟨#[105]⟩ := a3.symm
  obtain rfl : ats = [] := a4.symm
  obtain rfl : tx = ⟨#[]⟩ := a5.symm
  obtain rfl : kids = .nil := a6.symm
  clear a1 a2 a3 a4 a5 a6 a7
  obtain ⟨qa3, ca3, qk3, ck3, rfl, hsa3, hfk3, hck3⟩ := hnd
  have hbw3 : Below w2.heap.size w2 w3 := ((Below.refl w2.heap.size w2).alloc (Nat.le_refl _) (Obj.cells #[.int .i64 1] 3)).trans (hb3.mono (by simp))
  have HB3 := hide (tr2 (unhide HB2) hbw3)
  have HI3 := hide ((unhide HI2).below hbw3)
  have HND := hide (show NdV 1 0 ⟨#[105]⟩ [] ⟨#[]⟩ .nil (ndV 1 0 ⟨#[105]⟩ qa3 0 ca3 ⟨#[]⟩ qk3 0 ck3) w3 from ⟨qa3, ca3, qk3, ck3, rfl, hsa3, hfk3, hck3⟩)
  unfold ndV
  clear CA1 hsa3 hfk3 hck3 hb3 hbw3
  go_wp2_with fail
  have hNa : Hid (Blk ((w3.alloc (Obj.cells #[.int .i64 1, .int .i64 0, .string ⟨#[105]⟩, .slice qa3 0 ca3, .string ⟨#[]⟩, .slice qk3 0 ck3] 34)).alloc (Obj.cells #[.int .i64 0, .int .i64 0] 3)) w3.heap.size #[.int .i64 1, .int .i64 0, .string ⟨#[105]⟩, .slice qa3 0 ca3, .string ⟨#[]⟩, .slice qk3 0 ck3] 34) := hide ((Blk.new w3 _ _).alloc _)
  have hLit : IntsV (some ⟨w3.heap.size + 1, 0, none⟩) 2 [0, 0] ((w3.alloc (Obj.cells #[.int .i64 1, .int .i64 0, .string ⟨#[105]⟩, .slice qa3 0 ca3, .string ⟨#[]⟩, .slice qk3 0 ck3] 34)).alloc (Obj.cells #[.int .i64 0, .int .i64 0] 3)) := ⟨rfl, fun _ => ⟨w3.heap.size + 1, 0, rfl, fun j hj => by
    have hb := Blk.new (w3.alloc (Obj.cells #[.int .i64 1, .int .i64 0, .string ⟨#[105]⟩, .slice qa3 0 ca3, .string ⟨#[]⟩, .slice qk3 0 ck3] 34)) #[.int .i64 0, .int .i64 0] 3
    have hz : (w3.alloc (Obj.cells #[.int .i64 1, .int .i64 0, .string ⟨#[105]⟩, .slice qa3 0 ca3, .string ⟨#[]⟩, .slice qk3 0 ck3] 34)).heap.size = w3.heap.size + 1 := by simp
    rw [hz] at hb
    rw [Nat.zero_add, hb.cell j]
    rcases j with _ | _ | j
    · rfl
    · rfl
    · omega⟩⟩
  have hbX : Below w3.heap.size w3 ((w3.alloc (Obj.cells #[.int .i64 1, .int .i64 0, .string ⟨#[105]⟩, .slice qa3 0 ca3, .string ⟨#[]⟩, .slice qk3 0 ck3] 34)).alloc (Obj.cells #[.int .i64 0, .int .i64 0] 3)) := ((Below.refl w3.heap.size w3).alloc (Nat.le_refl _) _).alloc (by simp) _
  have C1 := hide (ints_any q2 (some ⟨w3.heap.size + 1, 0, none⟩) 2 2 c2 2 [0, 0] [0, 0] _ ((unhide HI3).below hbX) hLit (by decide) (by decide))
  rw [decide_eq_true (rfl : ([0, 0] : List Int) = [0, 0])] at C1
  have HBX := hide hbX
  clear hLit hbX
  refine (unhide C1).mono ?_
  rintro e w6 ⟨rfl, hb6⟩
  have hk6 := (unhide hNa).later hb6
  have HB6 := hide (tr2 (unhide HBX) hb6)
  have CI6 := hide (unhide CI w6 (tr2 (unhide HB3) (unhide HB6)))
  have d2 : w6.cell? ⟨w3.heap.size, 2, none⟩ = some (.string ⟨#[105]⟩) := hk6.cell 2
  have HK6 := hide hk6
  clear C1 hb6 hk6 hNa CI HBX
  go_wp2_with fail
  refine (unhide CI6).mono ?_
  rintro e w7 ⟨q7, c7, rfl, hi7, hb7⟩
  have hk7 := (unhide HK6).later hb7
  have HB7 := hide (tr2 (unhide HB6) hb7)
  have CL := hide (klab_any 1 0 ⟨#[105]⟩ (.slice qa3 0 ca3) (.string ⟨#[]⟩) (.slice qk3 0 ck3) w7 (itoa_small w7 1 (by decide)) (itoa_small w7 0 (by decide)) (itoa_small w7 1 (by decide)) (by decide))
  have hlne := labelB_ne 1 0 ⟨#[105]⟩
  have f0 : w7.cell? ⟨w3.heap.size, 0, none⟩ = some (.int .i64 1) := hk7.cell 0
  have f1 : w7.cell? ⟨w3.heap.size, 1, none⟩ = some (.int .i64 0) := hk7.cell 1
  have f2 : w7.cell? ⟨w3.heap.size, 2, none⟩ = some (.string ⟨#[105]⟩) := hk7.cell 2
  have f3 : w7.cell? ⟨w3.heap.size, 3, none⟩ = some (.slice qa3 0 ca3) := hk7.cell 3
  have f4 : w7.cell? ⟨w3.heap.size, 4, none⟩ = some (.string ⟨#[]⟩) := hk7.cell 4
  have f5 : w7.cell? ⟨w3.heap.size, 5, none⟩ = some (.slice qk3 0 ck3) := hk7.cell 5
  have HK7 := hide hk7
  generalize labelB 1 0 ⟨#[105]⟩ = lb at *
  clear hb7 hk7 CI6 hi7 d2 HK6
  go_wp2_with fail
  refine (unhide CL).mono ?_
  rintro e w8 ⟨rfl, hb8⟩
  have hk8 := (unhide HK7).later hb8
  have HB8 := hide (tr2 (unhide HB7) hb8)
  have CK := hide (key_any 1 0 ⟨#[105]⟩ [] ⟨#[]⟩ .nil _ w8 ((unhide HND).below (unhide HB8)) (small_nd _ _ _ _ _ (by decide) trivial trivial (by decide)) (itI w8) (by decide) (keyI_len w8))
  unfold ndV at CK
  have hkne := keyF_ne 1 0 ⟨#[105]⟩ [] ⟨#[]⟩ .nil .nil
  have hem1 : (bs lb).toList.isEmpty = false := not_empty _ (by rw [bs_size]; exact List.length_pos_iff.2 hlne)
  clear f0 f1 f2 f3 f4 f5
  have f0 : w8.cell? ⟨w3.heap.size, 0, none⟩ = some (.int .i64 1) := hk8.cell 0
  have f1 : w8.cell? ⟨w3.heap.size, 1, none⟩ = some (.int .i64 0) := hk8.cell 1
  have f2 : w8.cell? ⟨w3.heap.size, 2, none⟩ = some (.string ⟨#[105]⟩) := hk8.cell 2
  have f3 : w8.cell? ⟨w3.heap.size, 3, none⟩ = some (.slice qa3 0 ca3) := hk8.cell 3
  have f4 : w8.cell? ⟨w3.heap.size, 4, none⟩ = some (.string ⟨#[]⟩) := hk8.cell 4
  have f5 : w8.cell? ⟨w3.heap.size, 5, none⟩ = some (.slice qk3 0 ck3) := hk8.cell 5
  generalize bs lb = zl at *
  generalize keyF (.cons 1 0 ⟨#[105]⟩ [] ⟨#[]⟩ .nil .nil) = kf at *
  clear hb8 hk8 CL hlne HK7
  go_wp2_with fail
  refine (unhide CK).mono ?_
  rintro e w9 ⟨rfl, hb9⟩
  have hem2 : (bs kf).toList.isEmpty = false := not_empty _ (by rw [bs_size]; exact List.length_pos_iff.2 hkne)
  have HB9 := hide (tr2 (unhide HB8) hb9)
  generalize bs kf = zk at *
  clear hb9 CK f0 f1 f2 f3 f4 f5 hkne
  go_wp2
  go_ret
  exact ⟨rfl, tr2 (unhide HB1) (tr2 (unhide HB3) (unhide HB9))⟩
end Go.Proofs.YtemccomnhjhjeaaDoor

/-
  Itoa in every later world; how long a key is; the plain comparison of two nodes.
-/
namespace Go.Proofs.YtemccomnhjhjeaaDoor
open Go.RowKit Go.Sort
set_option linter.unusedVariables false
set_option linter.unusedSimpArgs false

def TabP (w : World) : Prop := Lib.TabIs Tryd.prog w "internal/strconv.uint64pow10" .u64 Lib.pow10Tab
theorem gPow : Tryd.prog.globalNamed "internal/strconv.uint64pow10" = some 0 := by kernel_rfl
theorem TabP.below {w W : World} (h : TabP w) (hb : Below w.heap.size w W) : TabP W := by
  have h0 : w.var? Tryd.prog "internal/strconv.uint64pow10" = some (Lib.pow10Tab.map fun z => Value.int .u64 z).toArray := h
  have hc := World.var?_cell gPow h0 0
  have hl : 0 < w.heap.size := by
    have hs : (Lib.pow10Tab.map fun z => Value.int .u64 z).toArray[0]? = some (.int .u64 1) := by kernel_rfl
    rw [hs] at hc
    exact World.block_lt_of_cell? w _ hc
  exact var?_below hb gPow hl h0
theorem below_grow (w : World) (os : Array Obj) : Below w.heap.size w (grow w os) :=
  ⟨rfl, rfl, rfl, by simp [grow], fun k hk => by simp [grow, Array.getElem?_append_left hk]⟩
theorem itoa_all {w0 : World} (ht : TabP w0) {n : Int} (h : I64 n) : ItoaAt w0 n := by
  refine ⟨Lib.itoa_length_le n h.1 h.2, fun W hW => ?_⟩
  refine (Tryd.strconv_Itoa n h.1 h.2 W (ht.below hW)).mono ?_
  rintro e w' ⟨rfl, k, os, rfl⟩
  exact ⟨rfl, tr2 (below_draws W k) (below_grow _ os)⟩
theorem i64_nat {n : Nat} (h : n ≤ 1000000000) : I64 (n : Int) := ⟨by omega, by omega⟩
theorem itF_all {w0 : World} (ht : TabP w0) : ∀ f : Forest, RngF f → SmF f → ItF w0 f
  | .nil, _, _ => trivial
  | .cons k sp n ats tx kids rest, hr, hs => by
    obtain ⟨⟨hk, hsp, hrk⟩, hrr⟩ := hr
    obtain ⟨⟨s1, s2, s3, s4⟩, s5, s6⟩ := hs
    have hkl := kids.len_count
    refine ⟨⟨itoa_all ht hk, itoa_all ht hsp, itoa_all ht (i64_nat (by omega)), itoa_all ht (i64_nat (by omega)), itoa_all ht (i64_nat (by have := s3.1; omega)), itoa_all ht (i64_nat (by omega)), fun j hj => ?_⟩, itF_all ht kids hrk s5, itF_all ht rest hrr s6⟩
    have := s3.2 j hj
    exact ⟨itoa_all ht (i64_nat (by omega)), itoa_all ht (i64_nat (by omega))⟩
theorem numB_lenK {n : Int} (h : I64 n) : (numB n).length ≤ 22 := by
  unfold numB itoB
  have := Lib.itoa_length_le n h.1 h.2
  rw [List.length_append]
  simp only [List.length_cons, List.length_nil]
  omega
theorem textB_lenK {s : ByteArray} (h : s.size ≤ 10000) : (textB s).length ≤ 10022 := by
  unfold textB
  have := numB_lenK (i64_nat (n := s.size) (by omega))
  rw [List.length_append, data_len]
  omega
theorem atsB_lenK : ∀ (ats : List (ByteArray × ByteArray)), (∀ x ∈ ats, x.1.size ≤ 10000 ∧ x.2.size ≤ 10000) → (atsB ats).length ≤ 20044 * ats.length
  | [], _ => by simp [atsB]
  | a :: r, h => by
    have h1 := h a (List.mem_cons_self ..)
    have h2 := atsB_lenK r (fun x hx => h x (List.mem_cons_of_mem _ hx))
    have h3 := textB_lenK h1.1
    have h4 := textB_lenK h1.2
    rw [atsB, List.length_append, List.length_append, List.length_cons]
    omega
theorem fits_mem {ats : List (ByteArray × ByteArray)} (h : Fits ats) : ∀ x ∈ ats, x.1.size ≤ 10000 ∧ x.2.size ≤ 10000 := fun x hx => by
  obtain ⟨j, hj, e⟩ := List.getElem_of_mem hx
  have := h.2 j hj
  unfold an av at this
  have e2 : ats.getD j (ByteArray.empty, ByteArray.empty) = x := by rw [List.getD, List.getElem?_eq_getElem hj, e]; rfl
  rw [e2] at this
  exact this
theorem keyF_lenK : ∀ f : Forest, RngF f → SmF f → (keyF f).length ≤ 21000000 * f.count
  | .nil, _, _ => by simp [keyF]
  | .cons k sp n ats tx kids rest, hr, hs => by
    obtain ⟨⟨hk, hsp, hrk⟩, hrr⟩ := hr
    obtain ⟨⟨s1, s2, s3, s4⟩, s5, s6⟩ := hs
    have hkl := kids.len_count
    have a1 := keyF_lenK kids hrk s5
    have a2 := keyF_lenK rest hrr s6
    have b1 := numB_lenK hk
    have b2 := numB_lenK hsp
    have b3 := textB_lenK (s := n) (by omega)
    have b4 := textB_lenK (s := tx) (by omega)
    have b5 := numB_lenK (i64_nat (n := ats.length) (by have := s3.1; omega))
    have b6 := atsB_lenK ats (fits_mem s3)
    have b7 := numB_lenK (i64_nat (n := kids.len) (by omega))
    have b8 := s3.1
    rw [keyF]
    unfold nodeB labelB
    simp only [List.length_append, Forest.count]
    omega
theorem ndv_two (k sp : Int) (n : ByteArray) (ats : List (ByteArray × ByteArray)) (tx : ByteArray) (kids : Forest) (k' sp' : Int) (n' : ByteArray) (ats' : List (ByteArray × ByteArray)) (tx' : ByteArray) (kids' : Forest) (v1 v2 : Value) (w : World) (h1 : NdV k sp n ats tx kids v1 w) (h2 : NdV k' sp' n' ats' tx' kids' v2 w) (hs : SmF kids) (hs' : SmF kids') (hl : ats.length ≤ 1000000000) (hl' : ats'.length ≤ 1000000000) (hc : kids.count ≤ 1000000) (hc' : kids'.count ≤ 1000000) :
    Calls Tryd.prog 17 #[v1, v2] w fun e w' => e = .returned (.bool (alikeN k sp n ats tx k' sp' n' ats' tx' && sameF kids kids')) ∧ Below w.heap.size w w' := by
  obtain ⟨qa, ca, qk, ck, rfl, a1, a2, a3⟩ := h1
  obtain ⟨qa', ca', qk', ck', rfl, b1, b2, b3⟩ := h2
  have hkl := kids'.len_count
  exact pnode_any k sp n ats tx k' sp' n' ats' tx' qa qa' qk qk' ca ca' ck ck' kids.len kids'.len (sameF kids kids') w a1 b1 hl hl' (fun W hW =>
    nodes_any kids.count kids (Nat.le_refl _) hc hs kids' qk qk' ck ck' W (a2.below hW) (b2.below hW) hs' (by omega))
/-- Two nodes' plain comparison is that of their keys. -/
theorem node_key (k sp : Int) (n : ByteArray) (ats : List (ByteArray × ByteArray)) (tx : ByteArray) (kids : Forest) (k' sp' : Int) (n' : ByteArray) (ats' : List (ByteArray × ByteArray)) (tx' : ByteArray) (kids' : Forest) :
    ((bs (keyF (.cons k sp n ats tx kids .nil))).toList == (bs (keyF (.cons k' sp' n' ats' tx' kids' .nil))).toList) = (alikeN k sp n ats tx k' sp' n' ats' tx' && sameF kids kids') := by
  have h := key_one k sp n ats tx kids k' sp' n' ats' tx' kids'
  by_cases e : keyF (.cons k sp n ats tx kids .nil) = keyF (.cons k' sp' n' ats' tx' kids' .nil)
  · rw [e, beq_self_eq_true]
    have hh := h.1 e
    injection hh with e1 e2 e3 e4 e5 e6
    subst e1 e2 e3 e4 e5 e6
    have hsk : sameF kids kids = true := (sameF_eq kids kids).2 rfl
    have hal : alikeN k sp n ats tx k sp n ats tx = true := by
      unfold alikeN
      simp only [decide_true, Bool.true_and]
      exact decide_eq_true rfl
    rw [hal, hsk]; rfl
  · rw [beq_no (fun x => e (bs_inj x))]
    symm
    rw [Bool.and_eq_false_iff]
    by_cases hk : sameF kids kids' = true
    · left
      have e6 := (sameF_eq kids kids').1 hk
      cases hal : alikeN k sp n ats tx k' sp' n' ats' tx' with
      | false => rfl
      | true =>
        exfalso
        apply e
        unfold alikeN sameA at hal
        simp only [Bool.and_eq_true, decide_eq_true_eq] at hal
        apply h.2
        simp_all
    · right
      simpa using hk
end Go.Proofs.YtemccomnhjhjeaaDoor
