/-
  For every space, every name and all kids the law PrintVoid answers true: void elements of HTML have neither kids nor an end in their text, others have; the two tables of the package utf start as the program's text lays them (the card ties them); and each argument reads as it did.
-/
import Derived.Test.YtpfnjgkfombmpaaDoorJPa
import Derived.Test.YtpfnjgkfombmpaaDoorMgA
import Derived.Deep.SlicePairs
import Derived.Deep.Strs
import Derived.Carry
import Derived.OpenShut
import Derived.Test.YtpfnjgkfombmpaaDoorCards
import Derived.Test.YtpfnjgkfombmpaaDoorTie
import Derived.ProofKit
import Derived.ShutString
import Derived.ChangeOld
import Derived.Below
import Derived.Deep.DeepHandedRow
import Derived.Lib.LaidTab

/-
  The law PrintVoid.
-/
namespace Go.Proofs.YtpfnjgkfombmpaaDoor
open Go.RowKit
set_option linter.unusedVariables false
set_option linter.unusedSimpArgs false

theorem void_mem {n : ByteArray} (h : inB n.toList voidNs = true) : n = ⟨#[98, 114]⟩ ∨ n = ⟨#[104, 114]⟩ ∨ n = ⟨#[105, 109, 103]⟩ ∨ n = ⟨#[105, 110, 112, 117, 116]⟩ ∨ n = ⟨#[119, 98, 114]⟩ := by
  have e : ∀ l : List UInt8, n.toList = l → n = bs l := fun l hl => by rw [← hl, Lib.toList_data, bs_self]
  simp only [inB, voidNs, List.any_cons, List.any_nil, Bool.or_false, Bool.or_eq_true, beq_iff_eq] at h
  rcases h with h | h | h | h | h
  · exact Or.inl (e _ h)
  · exact Or.inr (Or.inl (e _ h))
  · exact Or.inr (Or.inr (Or.inl (e _ h)))
  · exact Or.inr (Or.inr (Or.inr (Or.inl (e _ h))))
  · exact Or.inr (Or.inr (Or.inr (Or.inr (e _ h))))
theorem void_not {n : ByteArray} (h : inB n.toList voidNs = false) : (n.toList == [98, 114]) = false ∧ (n.toList == [104, 114]) = false ∧ (n.toList == [105, 109, 103]) = false ∧ (n.toList == [105, 110, 112, 117, 116]) = false ∧ (n.toList == [119, 98, 114]) = false := by
  simp only [inB, voidNs, List.any_cons, List.any_nil, Bool.or_false, Bool.or_eq_false_iff] at h
  exact h
theorem open_nil (n : ByteArray) : bs (openL n.data.toList []) = ⟨#[60]⟩ ++ n ++ ⟨#[62]⟩ := by
  have h1 : (⟨#[60]⟩ : ByteArray) = bs [60] := rfl
  have h2 : (⟨#[62]⟩ : ByteArray) = bs [62] := rfl
  rw [h1, h2, bs_add, bs_bs]; unfold openL; simp [attL]
theorem tail_is {x e : List UInt8} : (bs (x ++ e)).extract ((bs (x ++ e)).size - (bs e).size) (bs (x ++ e)).size = bs e := by
  apply ByteArray.ext
  apply Array.ext'
  rw [bs_size, bs_size, List.length_append]
  simp [bs]
/-- The nodes that PrintVoid asks: one element with kids. -/
def oneF (sp : Int) (n : ByteArray) (f : Forest) : Forest := .cons 1 sp n [] ⟨#[]⟩ f .nil
theorem one_text (sp : Int) (n : ByteArray) (f : Forest) (q : Option Addr) (cap : Nat) (w W : World) (ht : Tabs w) (hf : Fo q f w) (hcap : f.len ≤ cap) (hso : SmF (oneF sp n f)) (hc : (oneF sp n f).count ≤ 1000000) (hW : Below w.heap.size w W) :
    Calls Tryd.prog 19 #[.slice (some ⟨W.heap.size, 0, none⟩) 1 1] (W.alloc (Obj.cells #[.int .i64 1, .int .i64 sp, .string n, .slice none 0 0, .string ⟨#[]⟩, .slice q f.len cap] 31)) fun e w' => e = .returned (.string (bs (txF (oneF sp n f) false))) ∧ Below W.heap.size W w' := by
  have hA := Blk.new W #[.int .i64 1, .int .i64 sp, .string n, .slice none 0 0, .string ⟨#[]⟩, .slice q f.len cap] 31
  have hbA := (Below.refl W.heap.size W).alloc (Nat.le_refl _) (Obj.cells #[.int .i64 1, .int .i64 sp, .string n, .slice none 0 0, .string ⟨#[]⟩, .slice q f.len cap] 31)
  have hl : Lies (oneF sp n f) W.heap.size 0 (W.alloc (Obj.cells #[.int .i64 1, .int .i64 sp, .string n, .slice none 0 0, .string ⟨#[]⟩, .slice q f.len cap] 31)) := ⟨⟨hA.cell 0, hA.cell 1, hA.cell 2, ⟨none, 0, hA.cell 3, .inl rfl⟩, hA.cell 4, ⟨q, cap, hA.cell 5, hcap, (hf.below hW).below hbA⟩⟩, trivial⟩
  refine (ptext_any (oneF sp n f) (some ⟨W.heap.size, 0, none⟩) 1 _ (ht.below (tr2 hW hbA)) (.inr ⟨_, _, rfl, hl⟩) hso (Nat.le_refl _) hc).mono ?_
  rintro e w' ⟨rfl, hb⟩
  exact ⟨rfl, tr2 hbA hb⟩
set_option maxHeartbeats 1000000 in
set_option maxRecDepth 100000 in
theorem pvoid_walk (sp : Int) (n : ByteArray) (f : Forest) (q : Option Addr) (cap : Nat) (w : World) (ht : Tabs w) (hm : MxJ w) (hf : Fo q f w) (hcap : f.len ≤ cap) (hn : n.size ≤ 9223372036854775807) :
    Calls Tryd.prog 8 #[.int .i64 sp, .string n, .slice q f.len cap] w fun e w' => e = .returned (.bool true) ∧ Below w.heap.size w w' := by
  have CL := hide (large13_any f q cap w hf)
  have CP := hide (fun (W : World) (hW : Below w.heap.size w W) => para_any W (ht.below hW) (hm.below hW))
  obtain ⟨lb, lN, hlg⟩ : ∃ lb lN, lgT 1 f 800 = (lb, lN) := ⟨_, _, rfl⟩
  rw [hlg] at CL
  dsimp only at CL
  by_cases hbig : lb = true ∨ 100 < n.size
  · generalize f.len = fl at *
    clear hf ht hlg hcap hm
    cases lb with
    | true =>
      go_enter Tryd.func8, Tryd.ntmps8
      go_wp2_with fail
      refine (unhide CL).mono ?_
      rintro e w1 ⟨rfl, hb1⟩
      have HB := hide hb1
      have C1 := hide (unhide CP w1 hb1)
      clear CL CP hb1
      go_wp2_with fail
      refine (unhide C1).mono ?_
      rintro e w2 ⟨rfl, hb2⟩
      have HB2 := hide (tr2 (unhide HB) hb2)
      clear C1 HB hb2
      go_wp2
      go_ret
      exact ⟨rfl, unhide HB2⟩
    | false =>
      have h100 : 100 < n.size := by rcases hbig with h | h; cases h; exact h
      have h1i : (100 : Int) < (n.size : Int) := by omega
      clear hbig
      go_enter Tryd.func8, Tryd.ntmps8
      go_wp2_with fail
      refine (unhide CL).mono ?_
      rintro e w1 ⟨rfl, hb1⟩
      have HB := hide hb1
      have C1 := hide (unhide CP w1 hb1)
      clear CL CP hb1
      go_wp2_with fail
      refine (unhide C1).mono ?_
      rintro e w2 ⟨rfl, hb2⟩
      have HB2 := hide (tr2 (unhide HB) hb2)
      clear C1 HB hb2
      go_wp2
      go_ret
      exact ⟨rfl, unhide HB2⟩
  · cases lb with
    | true => exact absurd (Or.inl rfl) hbig
    | false =>
      have h100 : n.size ≤ 100 := by omega
      have h1i : ¬ (100 : Int) < (n.size : Int) := by omega
      obtain ⟨hs, hn'⟩ := lgT_small (by omega) hlg
      have hr := lgT_room 1 f 800 lN hlg
      have hc : f.count ≤ 800 := by omega
      have hso : SmF (oneF sp n f) := ⟨⟨by decide, by omega, ⟨Nat.zero_le _, fun k hk => absurd hk (Nat.not_lt_zero k)⟩, by omega⟩, hs, trivial⟩
      have HT := hide ht
      have CX := hide (fun (W : World) (hW : Below w.heap.size w W) => one_text sp n f q cap w W ht hf hcap hso (by show 1 + f.count + 0 ≤ _; omega) hW)
      have htx : txF (oneF sp n f) false = openL n.data.toList [] ++ ((if vdB sp n = false then txF f (rwB 1 sp n) ++ endL n.data.toList else []) ++ []) := by
        show ahL 1 n.data.toList [] [] false ++ ((if (1 : Int) = 1 ∧ vdB sp n = false then txF f (rwB 1 sp n) ++ endL n.data.toList else []) ++ []) = _
        rw [show ahL 1 n.data.toList [] [] false = openL n.data.toList [] from if_pos rfl]
        simp
      rw [htx, List.append_nil] at CX
      have z1 : ¬ 9223372036854775807 < 1 + n.size := by omega
      have z2 : ¬ 9223372036854775807 < 1 + n.size + 1 := by omega
      have z3 : ¬ 9223372036854775807 < 2 + n.size := by omega
      have z4 : ¬ 9223372036854775807 < 2 + n.size + 1 := by omega
      cases hv : vdB sp n with
      | true =>
        rw [hv, if_neg (by decide), List.append_nil, open_nil] at CX
        unfold vdB at hv
        rw [Bool.and_eq_true, beq_iff_eq] at hv
        obtain ⟨rfl, hv⟩ := hv
        generalize f.len = fl at *
        clear hf ht hlg hcap hm hs hn' hr hc hso htx h100 hn hbig
        have hmem := void_mem hv
        clear hv
        rcases hmem with rfl | rfl | rfl | rfl | rfl
        all_goals
          go_enter Tryd.func8, Tryd.ntmps8
          go_wp2_with fail
          refine (unhide CL).mono ?_
          rintro e w1 ⟨rfl, hb1⟩
          have C1 := hide (unhide CX w1 hb1)
          have HB := hide hb1
          clear CL CX hb1
          go_wp2_with fail
          refine (unhide C1).mono ?_
          rintro e w2 ⟨rfl, hb⟩
          have HB2 := hide (tr2 (unhide HB) hb)
          clear C1 HB hb
          have C2 := hide (unhide CP w2 (unhide HB2))
          clear CP
          go_wp2_with fail
          refine (unhide C2).mono ?_
          rintro e w3 ⟨rfl, hb⟩
          have HB3 := hide (tr2 (unhide HB2) hb)
          clear C2 HB2 hb
          go_wp2
          go_ret
          exact ⟨rfl, unhide HB3⟩
      | false =>
        rw [hv, if_pos rfl, ← List.append_assoc] at CX
        have hex := tail_is (x := openL n.data.toList [] ++ txF f (rwB 1 sp n)) (e := endL n.data.toList)
        have hds := data_len n
        have hse : (bs (endL n.data.toList)).size = n.size + 3 := by rw [bs_size]; unfold endL; simp only [List.length_append, List.length_cons, List.length_nil]; omega
        have hsz : 2 + n.size + 1 + n.size + 2 ≤ (bs (openL n.data.toList [] ++ txF f (rwB 1 sp n) ++ endL n.data.toList)).size := by
          rw [bs_size, List.length_append, List.length_append]
          unfold openL endL
          simp only [List.length_append, List.length_cons, List.length_nil]
          omega
        have hub : (bs (openL n.data.toList [] ++ txF f (rwB 1 sp n) ++ endL n.data.toList)).size ≤ 1000000000000 := by
          have h1 := tx_len f (rwB 1 sp n) hs
          rw [bs_size, List.length_append, List.length_append]
          unfold openL endL
          simp only [List.length_append, List.length_cons, List.length_nil, attL]
          omega
        rw [← end_bs] at hex hse
        generalize bs (openL n.data.toList [] ++ txF f (rwB 1 sp n) ++ endL n.data.toList) = S at *
        generalize hSz : S.size = sz at *
        have hE : (⟨#[60, 47]⟩ ++ n ++ ⟨#[62]⟩ : ByteArray).size = 2 + n.size + 1 := by omega
        rw [hE] at hex
        have g1 : (2 : Int) + (n.size : Int) + 1 + (n.size : Int) + 2 ≤ (sz : Int) := by omega
        have g2 : decide ((2 : Int) + (n.size : Int) + 1 + (n.size : Int) + 2 ≤ (sz : Int)) = true := decide_eq_true g1
        have hexl : (S.extract (sz - (2 + n.size + 1)) sz).toList = (⟨#[60, 47]⟩ ++ n ++ ⟨#[62]⟩ : ByteArray).toList := by rw [hex]
        unfold vdB at hv
        generalize hflq : f.len = fl at *
        clear hf ht hlg hcap hm hs hn' hr hso htx hn hbig hex hse hsz hE hc hds hflq
        by_cases h0 : sp = 0
        · subst h0
          rw [show ((0 : Int) == 0) = true from rfl, Bool.true_and] at hv
          obtain ⟨y1, y2, y3, y4, y5⟩ := void_not hv
          clear hv
          go_enter Tryd.func8, Tryd.ntmps8
          go_wp2_with fail
          refine (unhide CL).mono ?_
          rintro e w1 ⟨rfl, hb1⟩
          have C1 := hide (unhide CX w1 hb1)
          have HB := hide hb1
          clear CL CX hb1
          go_wp2_with fail
          refine (unhide C1).mono ?_
          rintro e w2 ⟨rfl, hb⟩
          have HB2 := hide (tr2 (unhide HB) hb)
          clear C1 HB hb
          have C2 := hide (unhide CP w2 (unhide HB2))
          clear CP
          go_wp2_with fail
          refine (unhide C2).mono ?_
          rintro e w3 ⟨rfl, hb⟩
          have HB3 := hide (tr2 (unhide HB2) hb)
          clear C2 HB2 hb
          go_wp2
          go_ret
          exact ⟨rfl, unhide HB3⟩
        · have e0 : (sp == 0) = false := beq_eq_false_iff_ne.2 h0
          clear hv h0
          go_enter Tryd.func8, Tryd.ntmps8
          go_wp2_with fail
          refine (unhide CL).mono ?_
          rintro e w1 ⟨rfl, hb1⟩
          have C1 := hide (unhide CX w1 hb1)
          have HB := hide hb1
          clear CL CX hb1
          go_wp2_with fail
          refine (unhide C1).mono ?_
          rintro e w2 ⟨rfl, hb⟩
          have HB2 := hide (tr2 (unhide HB) hb)
          clear C1 HB hb
          have C2 := hide (unhide CP w2 (unhide HB2))
          clear CP
          go_wp2_with fail
          refine (unhide C2).mono ?_
          rintro e w3 ⟨rfl, hb⟩
          have HB3 := hide (tr2 (unhide HB2) hb)
          clear C2 HB2 hb
          go_wp2
          go_ret
          exact ⟨rfl, unhide HB3⟩
end Go.Proofs.YtpfnjgkfombmpaaDoor

/-
  An argument of type []api.Node opened: the nodes behind it, with all that is below them.
-/
namespace Go.Proofs.YtpfnjgkfombmpaaDoor
open Go.RowKit Go.Deep Go.WideShapes Go.ChangeShapes
set_option linter.unusedVariables false
set_option linter.unusedSimpArgs false

theorem fattr_cells : Tryd.prog.cellsOf 55 = 2 := by kernel_rfl
theorem fstr_cells : Tryd.prog.cellsOf 9 = 1 := by kernel_rfl
theorem fint_cells : Tryd.prog.cellsOf 3 = 1 := by kernel_rfl
theorem fattrs_cells : Tryd.prog.cellsOf 29 = 1 := by kernel_rfl
theorem fnodes_cells : Tryd.prog.cellsOf 22 = 1 := by kernel_rfl
theorem fnode_cells : Tryd.prog.cellsOf 31 = 6 := by kernel_rfl
theorem fadd_addr (a : Addr) (x y : Nat) : (a.add x).add y = a.add (x + y) := by
  unfold Addr.add
  by_cases h1 : x = 0
  · subst h1; simp
  · by_cases h2 : y = 0
    · subst h2; simp [h1]
    · simp [h1, h2, Nat.add_assoc]
def fstrOf : Value → ByteArray
  | .string s => s
  | _ => ByteArray.empty
def fmkAts (V0 V1 : Nat → Value) (len : Nat) : List (ByteArray × ByteArray) := (List.range len).map fun i => (fstrOf (V0 i), fstrOf (V1 i))
theorem fmkAts_len (V0 V1 : Nat → Value) (len : Nat) : (fmkAts V0 V1 len).length = len := by simp [fmkAts]
theorem fmkAts_an {V0 V1 : Nat → Value} {len k : Nat} (h : k < len) : an (fmkAts V0 V1 len) k = fstrOf (V0 k) := by simp [an, fmkAts, List.getD, h]
theorem fmkAts_av {V0 V1 : Nat → Value} {len k : Nat} (h : k < len) : av (fmkAts V0 V1 len) k = fstrOf (V1 k) := by simp [av, fmkAts, List.getD, h]
theorem open_fattrs {H : Type} {enc : TypeId × Value → H} {W : World} {fuel : Nat} {v : Value} {x : DataW H × List MemPlace}
    (h : DataW.trod enc Tryd.prog W 0 (fun _ => true) true fuel 29 [v] = some x) :
    ∃ (ats : List (ByteArray × ByteArray)) (q : Option Addr) (c : Nat), v = .slice q ats.length c ∧ Sl q ats W := by
  rcases open_slice_pairs Tryd.underlying29 Tryd.underlying55 fattr_cells rfl rfl fstr_cells fstr_cells h with ⟨hc, hx⟩ | ⟨a, len, cap, m, k, V0, V1, D0, D1, P0, P1, hc, _, hl, hm, hmm, hx, hall⟩
  · simp only [List.cons.injEq, and_true] at hc
    exact ⟨[], none, 0, hc, Or.inl rfl⟩
  · simp only [List.cons.injEq, and_true] at hc
    simp only [if_true] at hmm
    subst hmm
    have hs0 : ∀ i, i < m → V0 i = .string (fstrOf (V0 i)) := fun i hi => by
      obtain ⟨s, h1, h2, h3⟩ := DataW.trod_string Tryd.underlying9 (hall i hi).2.2.1
      simp only [List.cons.injEq, and_true] at h1
      rw [h1]; rfl
    have hs1 : ∀ i, i < m → V1 i = .string (fstrOf (V1 i)) := fun i hi => by
      obtain ⟨s, h1, h2, h3⟩ := DataW.trod_string Tryd.underlying9 (hall i hi).2.2.2
      simp only [List.cons.injEq, and_true] at h1
      rw [h1]; rfl
    refine ⟨fmkAts V0 V1 len, some a, m, by rw [fmkAts_len]; exact hc, ?_⟩
    by_cases h0 : len = 0
    · subst h0; exact Or.inl rfl
    · obtain ⟨sb, so, spot⟩ := a
      have hspot : spot = none := by simpa [Addr.add] using World.cell?_spot (hall 0 (by omega)).1
      subst hspot
      refine Or.inr ⟨sb, so, rfl, fun k hk => ?_⟩
      rw [fmkAts_len] at hk
      rw [fmkAts_an hk, fmkAts_av hk]
      have e0 := (hall k (by omega)).1
      have e1 := (hall k (by omega)).2.1
      rw [hs0 k (by omega)] at e0
      rw [hs1 k (by omega)] at e1
      rw [Addr.add_lit] at e0 e1
      exact ⟨e0, by rw [Nat.add_assoc]; exact e1⟩
/-- One node at a place. -/
def NodeAt (g o : Nat) (w : World) : Prop := ∃ k sp n ats tx kids,
  w.cell? ⟨g, o, none⟩ = some (.int .i64 k) ∧ w.cell? ⟨g, o + 1, none⟩ = some (.int .i64 sp) ∧ w.cell? ⟨g, o + 2, none⟩ = some (.string n) ∧
      (∃ qa ca, w.cell? ⟨g, o + 3, none⟩ = some (.slice qa (ats : List (ByteArray × ByteArray)).length ca) ∧ Sl qa ats w) ∧ w.cell? ⟨g, o + 4, none⟩ = some (.string tx) ∧
      ∃ qk ck, w.cell? ⟨g, o + 5, none⟩ = some (.slice qk (kids : Forest).len ck) ∧ kids.len ≤ ck ∧ (kids = .nil ∨ ∃ g' o', qk = some ⟨g', o', none⟩ ∧ Lies kids g' o' w)
theorem forest_of {g : Nat} {w : World} : ∀ (len o : Nat), (∀ i, i < len → NodeAt g (o + i * 6) w) → ∃ f : Forest, f.len = len ∧ Lies f g o w
  | 0, o, h => ⟨.nil, rfl, trivial⟩
  | len + 1, o, h => by
    obtain ⟨k, sp, n, ats, tx, kids, hn⟩ := h 0 (by omega)
    obtain ⟨f, hf, hl⟩ := forest_of len (o + 6) (fun i hi => by have := h (i + 1) (by omega); rw [show o + (i + 1) * 6 = o + 6 + i * 6 by omega] at this; exact this)
    rw [Nat.zero_mul, Nat.add_zero] at hn
    exact ⟨.cons k sp n ats tx kids f, by simp [Forest.len, hf], hn, hl⟩
theorem size_mem {H : Type} {d : DataW H} {l : List (DataW H)} (h : d ∈ l) : SizeOf.sizeOf d < SizeOf.sizeOf l := List.sizeOf_lt_of_mem h
set_option maxRecDepth 100000 in
theorem open_forest {H : Type} {enc : TypeId × Value → H} {W : World} : ∀ (sz : Nat) (fuel : Nat) (v : Value) (d : DataW H) (ps : List MemPlace), SizeOf.sizeOf d ≤ sz →
    DataW.trod enc Tryd.prog W 0 (fun _ => true) true fuel 22 [v] = some (d, ps) → ∃ (f : Forest) (q : Option Addr) (cap : Nat), v = .slice q f.len cap ∧ f.len ≤ cap ∧ Fo q f W
  | 0, fuel, v, d, ps, hs, h => by cases d <;> simp at hs
  | sz + 1, fuel, v, d, ps, hs, h => by
    rcases open_slice Tryd.underlying22 h with ⟨hc, hx⟩ | ⟨a, len, cap, m, k, D, Pl, hc, _, hl, hm, hmm, hx, hall⟩
    · simp only [List.cons.injEq, and_true] at hc
      exact ⟨.nil, none, 0, hc, Nat.le_refl _, Or.inl rfl⟩
    · simp only [List.cons.injEq, and_true] at hc
      simp only [if_true] at hmm
      subst hmm
      have hd : d = .slice ((List.range len).map D) ((List.range (m - len)).map fun j => D (len + j)) := congrArg Prod.fst hx
      have hsz : ∀ i, i < len → SizeOf.sizeOf (D i) < SizeOf.sizeOf d := fun i hi => by
        have h1 : D i ∈ (List.range len).map D := List.mem_map.2 ⟨i, List.mem_range.2 hi, rfl⟩
        have h2 := size_mem h1
        rw [hd]
        simp only [DataW.slice.sizeOf_spec]
        omega
      by_cases h0 : len = 0
      · subst h0
        exact ⟨.nil, some a, m, hc, Nat.zero_le _, Or.inl rfl⟩
      have each : ∀ i, i < len → ∃ cs', (∀ j, j < 6 → W.cell? (a.add (i * 6 + j)) = cs'[j]?) ∧ DataW.trod enc Tryd.prog W 0 (fun _ => true) true k 31 cs' = some (D i, Pl i) := fun i hi => by
        obtain ⟨cs', h1, h2⟩ := hall i (by omega)
        rw [fnode_cells] at h1
        obtain ⟨_, hlen, hcell⟩ := World.cells?_some h1
        exact ⟨cs', fun j hj => by have := hcell j hj; rw [fadd_addr] at this; exact this, h2⟩
      obtain ⟨b, o, spot⟩ := a
      have hspot : spot = none := by
        obtain ⟨cs', h1, h2⟩ := each 0 (by omega)
        obtain ⟨xs, k', _, _, hl', _, _⟩ := DataW.trod_struct Tryd.underlying31 h2
        rw [fnode_cells] at hl'
        have h3 := h1 0 (by omega)
        rw [List.getElem?_eq_getElem (by omega)] at h3
        simpa [Addr.add] using World.cell?_spot h3
      subst hspot
      have hnode : ∀ i, i < len → NodeAt b (o + i * 6) W := fun i hi => by
        obtain ⟨cs', h1, h2⟩ := each i hi
        have hszi := hsz i hi
        generalize D i = di at *
        generalize Pl i = pi at *
        obtain ⟨xs, k', _, hxe, hl', hxl, hf⟩ := DataW.trod_struct Tryd.underlying31 h2
        rw [fnode_cells] at hl'
        match cs', hl', xs, hxl with
        | [c0, c1, c2, c3, c4, c5], _, [y0, y1, y2, y3, y4, y5], _ =>
          have g0 := hf 0 _ rfl
          have g1 := hf 1 _ rfl
          have g2 := hf 2 _ rfl
          have g3 := hf 3 _ rfl
          have g4 := hf 4 _ rfl
          have g5 := hf 5 _ rfl
          simp [fint_cells, fstr_cells, fattrs_cells, fnodes_cells] at g0 g1 g2 g3 g4 g5
          obtain ⟨ki, e0', _⟩ := DataW.trod_int Tryd.underlying3 g0
          obtain ⟨spi, e1', _⟩ := DataW.trod_int Tryd.underlying3 g1
          obtain ⟨ni, e2', _⟩ := DataW.trod_string Tryd.underlying9 g2
          obtain ⟨ats, qa, ca, e3', hsl⟩ := open_fattrs g3
          obtain ⟨ti, e4', _⟩ := DataW.trod_string Tryd.underlying9 g4
          obtain ⟨y5d, y5p⟩ := y5
          have hdi : di = .agg [y0.1, y1.1, y2.1, y3.1, y4.1, y5d] := by have := congrArg Prod.fst hxe; simpa using this
          have hs5 : SizeOf.sizeOf y5d ≤ sz := by
            rw [hdi] at hszi
            simp only [DataW.agg.sizeOf_spec, List.cons.sizeOf_spec] at hszi
            omega
          obtain ⟨kf, qk, ck, e5', hck, hkf⟩ := open_forest sz k' c5 y5d y5p hs5 g5
          simp at e0' e1' e2' e4'
          have z := fun j hj => h1 j hj
          have z0 := z 0 (by omega)
          have z1 := z 1 (by omega)
          have z2 := z 2 (by omega)
          have z3 := z 3 (by omega)
          have z4 := z 4 (by omega)
          have z5 := z 5 (by omega)
          rw [Addr.add_lit] at z0 z1 z2 z3 z4 z5
          simp only [List.getElem?_cons_zero, List.getElem?_cons_succ] at z0 z1 z2 z3 z4 z5
          refine ⟨ki, spi, ni, ats, ti, kf, ?_, ?_, ?_, ⟨qa, ca, ?_, hsl⟩, ?_, qk, ck, ?_, hck, hkf⟩
          · rw [← e0']; exact z0
          · rw [Nat.add_assoc, ← e1']; exact z1
          · rw [Nat.add_assoc, ← e2']; exact z2
          · rw [Nat.add_assoc, ← e3']; exact z3
          · rw [Nat.add_assoc, ← e4']; exact z4
          · rw [Nat.add_assoc, ← e5']; exact z5
      obtain ⟨f, hf, hlf⟩ := forest_of len o hnode
      exact ⟨f, some ⟨b, o, none⟩, m, by rw [hf]; exact hc, by omega, Or.inr ⟨b, o, rfl, hlf⟩⟩
theorem open_nodes {H : Type} {enc : TypeId × Value → H} {W : World} {qa : Option Addr} {len cap : Nat} {d : DataW H} {ps : List MemPlace}
    (h : DataW.Trod enc Tryd.prog W 0 (fun _ => true) true 22 (.slice qa len cap) d ps) : ∃ f : Forest, f.len = len ∧ len ≤ cap ∧ Fo qa f W := by
  obtain ⟨n, t0⟩ := h
  have t1 : DataW.trod enc Tryd.prog W 0 (fun _ => true) true n 22 [.slice qa len cap] = some (d, ps) := by simpa [Value.cells] using t0
  obtain ⟨f, q, c, e, hc, hf⟩ := open_forest _ n _ d ps (Nat.le_refl _) t1
  injection e with e1 e2 e3
  subst e1 e2 e3
  exact ⟨f, rfl, hc, hf⟩
end Go.Proofs.YtpfnjgkfombmpaaDoor

namespace Go.Proofs.YtpfnjgkfombmpaaDoor.printVoidF
open Go.ChangeShapes Go.WideShapes Go.ChangeAt Go.RowKit
open Go.ChangeMaps (open_string shut_string)
set_option linter.unusedVariables false

theorem own : ownKnob Tryd.prog.godebug = none := by kernel_rfl
theorem gHeads : Tryd.prog.globalNamed "recto/utf.heads" = some 0 := by kernel_rfl
theorem gEnds : Tryd.prog.globalNamed "recto/utf.ends" = some 1 := by kernel_rfl
theorem gHeadsType : (Tryd.prog.globals[0]?).map (·.type) = some 118 := by kernel_rfl
theorem gEndsType : (Tryd.prog.globals[1]?).map (·.type) = some 118 := by kernel_rfl
theorem cellsArr : Tryd.prog.cellsOf 118 = 5 := by kernel_rfl
theorem cellsInt : Tryd.prog.cellsOf 3 = 1 := by kernel_rfl

/-- What the row's list gives: the two tables' cells. -/
theorem laid_tail {x : String × DataW Unit} {rest : List (String × DataW Unit)} {W : World} (h : laidMet Tryd.prog (x :: rest) W) : laidMet Tryd.prog rest W := by
  obtain ⟨ps, ⟨g1, t1, cs1, f1, p1, q1, _, _, _, _, hrest, rfl⟩, hnd, hcell⟩ := h
  exact ⟨q1, hrest, (List.nodup_append.1 hnd).2.1, fun b off hm => hcell b off (List.mem_append_right _ hm)⟩
theorem heads {W : World} (h : laidMetH Tryd.prog Rows.printVoidRow.laid W) : Lib.TabIs Tryd.prog W "recto/utf.heads" .i64 [0, 0, 192, 224, 240] := by
  have h0 : laidMet Tryd.prog [("unicode/utf8.acceptRanges", Rows.laid_unicode_utf8_acceptRanges), ("recto/utf.heads", Rows.laid_recto_utf_heads), ("recto/utf.ends", Rows.laid_recto_utf_ends), ("unicode/utf8.first", Rows.laid_unicode_utf8_first)] W := h
  exact Lib.tabIs_of_head gHeads gHeadsType Tryd.underlying118 Tryd.underlying3 cellsInt cellsArr (laid_tail h0)
theorem ends {W : World} (h : laidMetH Tryd.prog Rows.printVoidRow.laid W) : Lib.TabIs Tryd.prog W "recto/utf.ends" .i64 [0, 128, 2048, 65536, 1114112] := by
  have h0 : laidMet Tryd.prog [("unicode/utf8.acceptRanges", Rows.laid_unicode_utf8_acceptRanges), ("recto/utf.heads", Rows.laid_recto_utf_heads), ("recto/utf.ends", Rows.laid_recto_utf_ends), ("unicode/utf8.first", Rows.laid_unicode_utf8_first)] W := h
  exact Lib.tabIs_of_head gEnds gEndsType Tryd.underlying118 Tryd.underlying3 cellsInt cellsArr (laid_tail (laid_tail h0))
theorem tabs {W : World} (h : laidMetH Tryd.prog Rows.printVoidRow.laid W) : Tabs W :=
  ⟨(heads h).cell gHeads 1 (by decide), (heads h).cell gHeads 2 (by decide), (heads h).cell gHeads 3 (by decide), (heads h).cell gHeads 4 (by decide),
   (ends h).cell gEnds 1 (by decide), (ends h).cell gEnds 2 (by decide), (ends h).cell gEnds 3 (by decide), (ends h).cell gEnds 4 (by decide)⟩

theorem laidOut : laidOutB Tryd.prog = true := by kernel_rfl
theorem mx {W : World} (h : W.ShapedOpen Tryd.prog) : MxJ W :=
  Go.Proofs.cell_of_shapedOpen_int (zero := #[.int .i64 0]) (t := 3) h (of_decide_eq_true (by kernel_rfl)) (by kernel_rfl) rfl (by kernel_rfl) (by kernel_rfl) Tryd.underlying3

set_option maxRecDepth 100000 in
theorem contract (H : Type) (enc : TypeId × Value → H) (W : World) (base : Nat) (args : Array Value) (ds gs : List (DataW H)) (before : List MemPlace)
    (hval : ∀ (j : Nat) t v, Tryd.f8.params[j]? = some t → args[j]? = some v → Value.okWide Tryd.prog W .any base t v)
    (hW : DataW.Whole enc Tryd.prog Tryd.f8.params.toList Rows.printVoidSpec.vars false W args.toList ds gs before) (hL : laidMetH Tryd.prog Rows.printVoidRow.laid W) (hSO : W.ShapedOpen Tryd.prog) :
    Calls Tryd.prog 8 args W fun e W' => ∃ v, e = .returned v ∧ Rows.printVoidSpec.post enc Tryd.prog Tryd.f8 false true false false W args v W' := by
  have hW' := hW
  obtain ⟨p, q, hA0, hV, rfl, hfz, hnd⟩ := hW
  have hA : DataW.TrodAll enc Tryd.prog W 0 (fun _ => true) true Tryd.f8.params.toList args.toList ds p := hA0
  rw [Tryd.params8] at hA hval
  obtain ⟨v0, vs0, d0, ds0, p0, q0, hargs, rfl, rfl, h0, r0⟩ := trodAll_cons hA
  obtain ⟨v1, vs1, d1, ds1, p1, q1, rfl, rfl, rfl, h1, r1⟩ := trodAll_cons r0
  obtain ⟨v2, vs2, d2, ds2, p2, q2, rfl, rfl, rfl, h2, r2⟩ := trodAll_cons r1
  obtain ⟨rfl, rfl, rfl⟩ := trodAll_nil r2
  obtain rfl : args = #[v0, v1, v2] := by cases args; simp_all
  obtain ⟨rfl, rfl⟩ := trodVars_none hV
  obtain ⟨a0, rfl, rfl, rfl, w0⟩ := open_int Tryd.underlying3 (hval 0 3 v0 rfl rfl) h0
  obtain ⟨a1, rfl, rfl, rfl, w1⟩ := open_string Tryd.underlying9 (hval 1 9 v1 rfl rfl) h1
  have hlt2 : ∀ x ∈ p2, x.block < W.heap.size := fun x hx => hW'.lt x (by simp [hx])
  obtain ⟨q2', len2, cap2, rfl⟩ := okWide_slice Tryd.underlying22 (hval 2 22 v2 rfl rfl)
  obtain ⟨f2, rfl, hcap2, hfo2⟩ := open_nodes h2
  clear hA0
  refine (pvoid_walk a0 a1 f2 q2' cap2 W (tabs hL) (mx hSO) hfo2 hcap2 w1).mono fun e W' ⟨he, bel⟩ => ?_
  subst he
  exact ⟨_, rfl, _, _, _, [], _, [], hW', trodAll_mk1 (shut_bool Tryd.underlying4 _), (trodAll_cons_mk (shut_int Tryd.underlying3 w0) (trodAll_cons_mk (shut_string Tryd.underlying9 w1) (trodAll_cons_mk (Below.trod laidOut (by kernel_rfl) (of_decide_eq_true (by kernel_rfl)) h2 bel hlt2) trodAll_mk0))), rfl, bel.frame _, fun h => by cases h⟩

/-- What the tables' initialisers lay. -/
def lay0 : Obj → Obj
  | .cells _ t frozen => .cells #[.int .i64 0, .int .i64 0, .int .i64 192, .int .i64 224, .int .i64 240] t frozen
  | o => o
def lay1 : Obj → Obj
  | .cells _ t frozen => .cells #[.int .i64 0, .int .i64 128, .int .i64 2048, .int .i64 65536, .int .i64 1114112] t frozen
  | o => o
def layF : Obj → Obj
  | .cells _ t frozen => .cells (Go.Pinned.utf8FirstZ.map (fun z => Value.int .u8 (z : Nat))).toArray t frozen
  | o => o
def layR : Obj → Obj
  | .cells _ t frozen => .cells #[.int .u8 128, .int .u8 191, .int .u8 160, .int .u8 191, .int .u8 128, .int .u8 159, .int .u8 144, .int .u8 191, .int .u8 128, .int .u8 143, .int .u8 0, .int .u8 0, .int .u8 0, .int .u8 0, .int .u8 0, .int .u8 0, .int .u8 0, .int .u8 0, .int .u8 0, .int .u8 0, .int .u8 0, .int .u8 0, .int .u8 0, .int .u8 0, .int .u8 0, .int .u8 0, .int .u8 0, .int .u8 0, .int .u8 0, .int .u8 0, .int .u8 0, .int .u8 0] t frozen
  | o => o
set_option maxRecDepth 100000 in
theorem laid_met (os : Os) : laidMet Tryd.prog Rows.printVoidRow.laid (({ World.holding Tryd.prog os ⟨#[], #[], []⟩ with heap := ((((World.holding Tryd.prog os ⟨#[], #[], []⟩).heap.modify 0 lay0).modify 1 lay1).modify 3 layF).modify 4 layR } : World).forCall (fun _ _ => 0) ⟨#[], #[.int .i64 0, .string ⟨#[]⟩, .slice none 0 0], []⟩).memory :=
  laidMet_of_run' 8 (by kernel_rfl) (by kernel_rfl)
theorem reads (os : Os) {H : Type} (enc : TypeId × Value → H) : ∃ places, DataW.whole enc Tryd.prog (({ World.holding Tryd.prog os ⟨#[], #[], []⟩ with heap := ((((World.holding Tryd.prog os ⟨#[], #[], []⟩).heap.modify 0 lay0).modify 1 lay1).modify 3 layF).modify 4 layR } : World).forCall (fun _ _ => 0) ⟨#[], #[.int .i64 0, .string ⟨#[]⟩, .slice none 0 0], []⟩).memory Tryd.f8.params.toList Rows.printVoidSpec.vars false #[Value.int .i64 0, Value.string ⟨#[]⟩, Value.slice none 0 0].toList 8 = some ([.lit (.int .i64 0), .lit (.string []), .nil], [], places) :=
  ⟨[], by kernel_rfl⟩

set_option maxRecDepth 100000 in
theorem lifted (os : Os) (started : os.Started) (H : Type) (enc : TypeId × Value → H) (F : Stop.Interp) :
    ReturnsInHanded {} Tryd.checked os 8 .any ((OpenSpec.ofChange Rows.printVoidSpec).preRow enc Tryd.prog Tryd.f8 Rows.printVoidRow.domain false Rows.printVoidRow.laid) (((OpenSpec.ofChange Rows.printVoidSpec).at F).post enc Tryd.prog Tryd.f8 false true false false) := by
  obtain ⟨places, hx⟩ := reads os enc
  refine returnsInHanded_of_row (C := Tryd.checked) (s := OpenSpec.ofChange Rows.printVoidSpec) own started (by kernel_rfl) Tryd.func8
    (witness_row_at (enc := enc) (C := Tryd.checked) false ({ World.holding Tryd.prog os ⟨#[], #[], []⟩ with heap := ((((World.holding Tryd.prog os ⟨#[], #[], []⟩).heap.modify 0 lay0).modify 1 lay1).modify 3 layF).modify 4 layR } : World) #[.int .i64 0, .string ⟨#[]⟩, .slice none 0 0] rfl (by kernel_rfl) (by kernel_rfl) (by kernel_rfl)
      (OpenSpec.preRow_of_cond 8 hx (by kernel_rfl) (fun k hk => by cases hk) (by kernel_rfl) (laid_met os))) ?_
  intro W base args ds gs before hval hW _ _ _ hL hSO _
  exact contract H enc W base args ds gs before hval hW hL hSO

theorem said : Rows.PrintVoidSaid :=
  OpenClaim.holds_of_cond 8 Tryd.f8 rfl rfl rfl rfl rfl rfl rfl ⟨rfl, rfl, rfl, rfl, rfl⟩ rfl rfl rfl rfl rfl (by kernel_rfl) Tryd.func8 (by kernel_rfl)
    (of_decide_eq_true (by kernel_rfl)) (by unfold Func.isWrapper; first | (rw [if_pos (by decide +kernel)]; kernel_rfl) | (rw [if_neg (by decide +kernel)]; exact ⟨rfl, rfl⟩))
    (fun os started H enc _ F => by rw [OpenClaim.pre_eq_preRow]; exact lifted os started H enc F)

theorem plain (f : FuncId) (fn : Func) (hf : Tryd.pinned.checked.prog.funcNamed "recto/rectolaw13.PrintVoid" = some f) (hfn : Tryd.pinned.checked.prog.funcs[f]? = some fn) :
    false = Tryd.pinned.checked.prog.looks [] ∧ ∀ (j : Nat) t, fn.params[j]? = some t → Tryd.pinned.checked.prog.wantsStandIn t = false := by
  obtain rfl : f = 8 := Option.some.inj ((show Tryd.prog.funcNamed "recto/rectolaw13.PrintVoid" = some 8 by kernel_rfl).symm.trans hf) |>.symm
  obtain rfl : fn = Tryd.f8 := (Option.some.inj (Tryd.func8.symm.trans hfn)).symm
  refine ⟨by kernel_rfl, fun j t ht => ?_⟩
  rw [Tryd.params8] at ht
  have hm := Array.mem_of_getElem? ht
  simp at hm
  rcases hm with rfl | rfl | rfl
  · exact (show Tryd.prog.wantsStandIn 3 = false by kernel_rfl)
  · exact (show Tryd.prog.wantsStandIn 9 = false by kernel_rfl)
  · exact (show Tryd.prog.wantsStandIn 22 = false by kernel_rfl)

theorem card : Rows.PrintVoidCardSaid :=
  Claim7.holds_tied_plain_at .later [] _ _ _ _ said (fun _ h => by cases h) (by kernel_rfl) (fun _ h => by cases h) printVoid_row_tie rfl ⟨rfl, rfl⟩ (by kernel_rfl) rfl plain (by kernel_rfl)
end Go.Proofs.YtpfnjgkfombmpaaDoor.printVoidF

namespace Go.Proofs.YtpfnjgkfombmpaaDoor
theorem printVoid_card : Rows.PrintVoidCardSaid := printVoidF.card
end Go.Proofs.YtpfnjgkfombmpaaDoor
