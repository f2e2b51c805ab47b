/-
  For every two texts the law PenNotesBack answers true: a comment that was written is read as just that, whatever is behind it; the four tables of the packages utf and refs start as the program's text lays them (the card ties them); and each argument reads as it did.
-/
import Derived.Test.YtakjlolmmoladabGreatDoorMgP
import Derived.Test.YtakjlolmmoladabGreatDoorMgC
import Derived.Test.YtakjlolmmoladabGreatDoorEPl
import Derived.Lib.LaidU8
import Derived.ChangeArms
import Derived.Test.YtakjlolmmoladabGreatDoorCards
import Derived.Test.YtakjlolmmoladabGreatDoorTie
import Derived.ProofKit
import Derived.OpenShut
import Derived.ShutString
import Derived.ChangeOld
import Derived.Below
import Derived.Deep.DeepHandedRow
import Derived.Lib.LaidTab

/-
  The statement PenNotesBack, walked: a comment that was written is read as just that.
-/
namespace Go.Proofs.YtakjlolmmoladabGreatDoor
open Go.RowKit
set_option linter.unusedVariables false

theorem contains_no {l p : List UInt8} (h : Lib.contains l p = false) : ∀ j, j ≤ l.length → Lib.occAt l p j = false := by
  intro j
  induction j using Nat.strongRecOn with
  | ind j ih =>
    intro hj
    cases e : Lib.occAt l p j with
    | false => rfl
    | true =>
      have := Lib.index_first hj e (fun k hk => ih k hk (by omega))
      unfold Lib.contains at h
      rw [this] at h
      exact absurd h (by simp)
theorem pre_app {p m R : List UInt8} (h : p.length ≤ m.length) : p.isPrefixOf (m ++ R) = p.isPrefixOf m := by
  rw [Bool.eq_iff_iff, List.isPrefixOf_iff_prefix, List.isPrefixOf_iff_prefix]
  constructor
  · intro hp; exact List.prefix_of_prefix_length_le hp (List.prefix_append m R) h
  · intro hp; exact hp.trans (List.prefix_append m R)
theorem no_end (m C : List UInt8) (h0 : m ≠ []) (h1 : [45, 45, 62].isPrefixOf m = false) (h2 : [45, 45, 33, 62].isPrefixOf m = false) : neN (m ++ ([45, 45, 62] ++ C)) = 0 := by
  unfold neN
  have a1 : [45, 45, 62].isPrefixOf (m ++ ([45, 45, 62] ++ C)) = false := by
    match m, h0, h1 with
    | [a], _, _ => simp [List.isPrefixOf]
    | [a, b], _, _ => simp [List.isPrefixOf]
    | a :: b :: c :: t, _, h => rw [pre_app (by simp)]; exact h
  have a2 : [45, 45, 33, 62].isPrefixOf (m ++ ([45, 45, 62] ++ C)) = false := by
    match m, h0, h2 with
    | [a], _, _ => simp [List.isPrefixOf]
    | [a, b], _, _ => simp [List.isPrefixOf]
    | [a, b, c], _, _ => simp [List.isPrefixOf]
    | a :: b :: c :: d :: t, _, h => rw [pre_app (by simp)]; exact h
  rw [a1, a2]; rfl
theorem note_read {l C : List UInt8} {X : ByteArray} (hX : X.data.toList = [60, 33, 45, 45] ++ (l ++ ([45, 45, 62] ++ C))) (hl : early l = false) :
    nextT X ⟨#[]⟩ 0 false 0 = ((4, ⟨#[]⟩, [], false, bs l), l.length + 7) := by
  unfold early at hl
  simp only [Bool.or_eq_false_iff] at hl
  obtain ⟨e1, e2, _, _, e5, e6⟩ := hl
  have hz : X.size = l.length + 7 + C.length := by
    rw [← data_len, hX]; simp; omega
  have d4 : ∀ j, X.data.toList.drop (4 + j) = (l ++ ([45, 45, 62] ++ C)).drop j := fun j => by rw [hX, ← List.drop_drop]; rfl
  have hb : begP X 0 = true := by
    unfold begP
    rw [List.drop_zero, hX]
    rfl
  have hn : notB X 0 = true := by unfold notB; rw [List.drop_zero, hX]; simp [List.isPrefixOf]
  have h33 : dgt X.data.toList (0 + 1) = 33 := by rw [hX]; rfl
  have d0 : X.data.toList.drop (0 + 4) = l ++ ([45, 45, 62] ++ C) := by have := d4 0; simpa using this
  have p1 : ¬ [62].isPrefixOf (X.data.toList.drop (0 + 4)) = true := by
    rw [d0]
    cases l with
    | nil => simp [List.isPrefixOf]
    | cons a t => rw [pre_app (by simp)]; rw [e1]; decide
  have p2 : ¬ [45, 62].isPrefixOf (X.data.toList.drop (0 + 4)) = true := by
    rw [d0]
    match l, e2 with
    | [], _ => simp [List.isPrefixOf]
    | [a], _ => simp [List.isPrefixOf]
    | a :: b :: t, h => rw [pre_app (by simp), h]; decide
  have c5 := contains_no e5
  have c6 := contains_no e6
  have hZ : noteZ X (0 + 4) = 4 + l.length := by
    unfold noteZ
    refine seek_to (nePos X) X.size (4 + l.length) (by omega) (fun _ => ?_) l.length (0 + 4) (by omega) (fun j h1 h2 => ?_)
    · unfold nePos
      rw [d4 l.length, List.drop_left]
      simp [neN, List.isPrefixOf]
    · obtain ⟨k, rfl⟩ : ∃ k, j = 4 + k := ⟨j - 4, by omega⟩
      have hk : k < l.length := by omega
      unfold nePos
      rw [d4 k, List.drop_append_of_le_length (by omega), no_end (l.drop k) C (by intro e; have := congrArg List.length e; simp at this; omega) (c5 k (by omega)) (c6 k (by omega))]
      rfl
  have hne : ¬ noteZ X (0 + 4) = X.size := by rw [hZ, hz]; omega
  have eX : noteX X (0 + 4) = bs l := by
    unfold noteX
    rw [if_neg p1, if_neg p2, if_neg hne, hZ, d0, show 4 + l.length - (0 + 4) = l.length by omega, List.take_left]
  have eE : noteE X (0 + 4) = l.length + 7 := by
    unfold noteE
    rw [if_neg p1, if_neg p2, hZ, d4 l.length, List.drop_left]
    have : neN ([45, 45, 62] ++ C) = 3 := by simp [neN, List.isPrefixOf]
    rw [this]; omega
  have mT : markT X 0 false = (4, ⟨#[]⟩, [], false, bs l) := by
    unfold markT declK declX
    rw [if_pos h33, if_pos hn, if_pos hn, eX]
  have mE : markE X 0 false = l.length + 7 := by
    unfold markE declE
    rw [if_pos h33, if_pos hn, eE]
  unfold nextT
  rw [if_neg (by omega), if_neg (by decide)]
  have : dataF X false (X.size - (0 : Int).toNat + 1) (0 : Int).toNat = (markT X 0 false, markE X 0 false) := dataF_mark (k := X.size) (by omega) hb (by show ¬ (markT X 0 false).1 = 0; rw [mT]; exact (by decide : ¬ (4 : Int) = 0))
  rw [this, mT, mE]
theorem note_alone (s : ByteArray) (hl : early s.data.toList = false) : nextT (bs (noteL s.data.toList)) ⟨#[]⟩ 0 false 0 = ((4, ⟨#[]⟩, [], false, s), s.size + 7) := by
  have := note_read (l := s.data.toList) (C := []) (X := bs (noteL s.data.toList)) (by rw [bs_toList]; unfold noteL; simp) hl
  rw [bs_self, data_len] at this; exact this
theorem note_behind (s b : ByteArray) (hl : early s.data.toList = false) : nextT (bs (noteL s.data.toList) ++ b) ⟨#[]⟩ 0 false 0 = ((4, ⟨#[]⟩, [], false, s), s.size + 7) := by
  have := note_read (l := s.data.toList) (C := b.data.toList) (X := bs (noteL s.data.toList) ++ b) (by rw [bs_add, bs_toList]; unfold noteL; simp) hl
  rw [bs_self, data_len] at this; exact this

set_option maxHeartbeats 4000000 in
set_option maxRecDepth 100000 in
theorem pnotes_walk (s b : ByteArray) (w : World) (ht : Tab4 w) (hm : Mx w) :
    Calls Tryz.prog 3 #[.string s, .string b] w fun e w' => e = .returned (.bool true) ∧ Below w.heap.size w w' := by
  have HT := hide ht
  have HM := hide hm
  have CK := hide link_any
  unfold Link at CK
  clear ht hm
  by_cases h1 : 1500 < s.size
  · have i1 : (1500 : Int) < (s.size : Int) := by omega
    clear h1
    go_enter Tryz.func3, Tryz.ntmps3
    go_wp2_with fail
    refine (unhide CK _ (unhide HT).1 (unhide HM)).mono ?_
    rintro e w1 ⟨rfl, hb⟩
    go_wp2
    go_ret
    exact ⟨rfl, hb⟩
  have i1 : decide ((1500 : Int) < (s.size : Int)) = false := decide_eq_false (by omega)
  by_cases h2 : 500 < b.size
  · have i2 : (500 : Int) < (b.size : Int) := by omega
    clear h1 h2
    go_enter Tryz.func3, Tryz.ntmps3
    go_wp2_with fail
    refine (unhide CK _ (unhide HT).1 (unhide HM)).mono ?_
    rintro e w1 ⟨rfl, hb⟩
    go_wp2
    go_ret
    exact ⟨rfl, hb⟩
  have i2 : decide ((500 : Int) < (b.size : Int)) = false := decide_eq_false (by omega)
  have CN := hide (fun w ht hm => pnote_any s w ht hm (by omega))
  cases hnb : noteB s.data.toList with
  | false =>
    rw [hnb] at CN
    have ev : toldV false (bs (noteL s.data.toList)) = .tuple #[.string ⟨#[]⟩, .int .i64 4] := rfl
    rw [ev] at CN
    clear ev hnb h1 h2
    go_enter Tryz.func3, Tryz.ntmps3
    go_wp2_with fail
    refine (unhide CN _ (unhide HT).1 (unhide HM)).mono ?_
    rintro e w1 ⟨rfl, hb1⟩
    go_wp2_with fail
    refine (unhide CK _ ((unhide HT).below hb1).1 ((unhide HM).below hb1)).mono ?_
    rintro e w2 ⟨rfl, hb2⟩
    go_wp2
    go_ret
    exact ⟨rfl, tr2 hb1 hb2⟩
  | true =>
    rw [hnb] at CN
    have ev : toldV true (bs (noteL s.data.toList)) = .tuple #[.string (bs (noteL s.data.toList)), .int .i64 0] := rfl
    rw [ev] at CN
    have he : early s.data.toList = false := by
      unfold noteB at hnb
      rw [Bool.and_eq_true] at hnb
      simpa using hnb.2
    have hz : (bs (noteL s.data.toList)).size = s.size + 7 := by
      rw [bs_size]; unfold noteL; simp
    have N1 := hide (fun w ht hm => next_any (bs (noteL s.data.toList) ++ b) ⟨#[]⟩ 0 false 0 w ht hm (by rw [ByteArray.size_append, hz]; omega) (by decide))
    have N2 := hide (fun w => next5_any (bs (noteL s.data.toList)) ⟨#[]⟩ 0 false 0 w (by rw [hz]; omega) (by decide))
    rw [note_behind s b he] at N1
    rw [note_alone s he] at N2
    rw [← hz] at N1
    generalize bs (noteL s.data.toList) = x at *
    have es := beq_yes (rfl : s = s)
    have ez : ((x.size : Int) == (x.size : Int)) = true := by simp
    have zx : ¬ 9223372036854775807 < x.size + b.size := by omega
    clear ev hnb h1 h2 he
    go_enter Tryz.func3, Tryz.ntmps3
    go_wp2_with fail
    refine (unhide CN _ (unhide HT).1 (unhide HM)).mono ?_
    rintro e w1 ⟨rfl, hb1⟩
    go_wp2_with fail
    refine (unhide N1 _ ((unhide HT).below hb1) ((unhide HM).below hb1)).mono ?_
    rintro e w2 ⟨q1, c1, rfl, _, hb2⟩
    have hb02 := tr2 hb1 hb2
    clear hb1 hb2
    go_wp2_with fail
    refine calls_from (fun W => Blk W w2.heap.size #[.int .i64 4, .string ⟨#[]⟩, .slice q1 0 c1, .bool false, .string s] 28 ∧ Below w.heap.size w W) ⟨Blk.new w2 _ _, hb02.alloc hb02.size _⟩ ?_
    rintro W ⟨k7, hb3⟩
    refine (unhide N2 _).mono ?_
    rintro e w4 ⟨q2, c2, rfl, _, hb4⟩
    replace k7 := k7.later hb4
    replace hb3 := tr2 hb3 hb4
    clear hb4 hb02
    generalize w2.heap.size = G7 at *
    have hl7 : G7 < w4.heap.size := k7.lt
    have hne : ¬ G7 = w4.heap.size := by omega
    have t0 : (w4.alloc (Obj.cells #[.int .i64 4, .string ⟨#[]⟩, .slice q2 0 c2, .bool false, .string s, .int .i64 ((s.size + 7 : Nat) : Int)] 35)).cell? ⟨G7, 0, none⟩ = some (.int .i64 4) := (k7.alloc _).cell 0
    have t4 : (w4.alloc (Obj.cells #[.int .i64 4, .string ⟨#[]⟩, .slice q2 0 c2, .bool false, .string s, .int .i64 ((s.size + 7 : Nat) : Int)] 35)).cell? ⟨G7, 4, none⟩ = some (.string s) := (k7.alloc _).cell 4
    have u0 : w4.cell? ⟨G7, 0, none⟩ = some (.int .i64 4) := k7.cell 0
    have u4 : w4.cell? ⟨G7, 4, none⟩ = some (.string s) := k7.cell 4
    have hbA := hb3.alloc hb3.size (Obj.cells #[.int .i64 4, .string ⟨#[]⟩, .slice q2 0 c2, .bool false, .string s, .int .i64 ((s.size + 7 : Nat) : Int)] 35)
    have HA := hide hbA
    clear hbA k7 hb3
    go_wp2_with fail
    refine (unhide CK _ ((unhide HT).below (unhide HA)).1 ((unhide HM).below (unhide HA))).mono ?_
    rintro e w5 ⟨rfl, hb5⟩
    go_wp2
    go_ret
    exact ⟨rfl, tr2 (unhide HA) hb5⟩
end Go.Proofs.YtakjlolmmoladabGreatDoor

/-
  From the rows' list of package variables to what the walks ask: the cells of the four tables.
-/
namespace Go.Proofs.YtakjlolmmoladabGreatDoor
open Go.RowKit Go.Lib
set_option linter.unusedVariables false

theorem tab_of_reads {P : Program} {W : World} {name : String} {k : IntKind} {zs : List Int} {g : Nat} {t e : TypeId} {n : Nat}
    (hg : P.globalNamed name = some g) (hty : (P.globals[g]?).map (·.type) = some t) (ht : P.underlying t = some (.array n e)) (he : P.underlying e = some (.int k)) (hce : P.cellsOf e = 1) (hct : P.cellsOf t = n)
    (h : VarReads P W name (tabData k zs)) : TabIs P W name k zs := by
  obtain ⟨g', t', cs, fuel, p, hg', ht', hvar, hd⟩ := h
  obtain rfl := Option.some.inj (hg.symm.trans hg')
  obtain rfl := Option.some.inj (hty.symm.trans ht')
  unfold TabIs
  rw [hvar, ← cells_of_tab ht he hce hct hd]

def nmData : DataW Unit := .agg (nmT.map fun x => .agg [.lit (.string x.1), .lit (.int .i64 x.2.1), .lit (.bool x.2.2)])
theorem nm_at (k : Nat) (h : k < 28) : (nmT.map fun x => (DataW.agg [.lit (.string x.1), .lit (.int .i64 x.2.1), .lit (.bool x.2.2)] : DataW Unit))[k]? = some (.agg [.lit (.string (nmName k)), .lit (.int .i64 (nmChar k)), .lit (.bool (nmBare k))]) := by
  have hl : k < nmT.length := h
  rw [List.getElem?_map, List.getElem?_eq_getElem hl]
  unfold nmName nmChar nmBare
  rw [List.getD, List.getElem?_eq_getElem hl]; rfl

theorem Tryz.gNames : Tryz.prog.globalNamed "recto/refs.names" = some 4 := by kernel_rfl
theorem Tryz.gOlds : Tryz.prog.globalNamed "recto/refs.olds" = some 3 := by kernel_rfl
theorem Tryz.gHeads : Tryz.prog.globalNamed "recto/utf.heads" = some 0 := by kernel_rfl
theorem Tryz.gEnds : Tryz.prog.globalNamed "recto/utf.ends" = some 1 := by kernel_rfl
theorem Tryz.tNames : (Tryz.prog.globals[4]?).map (·.type) = some 113 := by kernel_rfl
theorem Tryz.tOlds : (Tryz.prog.globals[3]?).map (·.type) = some 109 := by kernel_rfl
theorem Tryz.tHeads : (Tryz.prog.globals[0]?).map (·.type) = some 100 := by kernel_rfl
theorem Tryz.tEnds : (Tryz.prog.globals[1]?).map (·.type) = some 100 := by kernel_rfl
theorem Tryz.cArr5 : Tryz.prog.cellsOf 100 = 5 := by kernel_rfl
theorem Tryz.cArr32 : Tryz.prog.cellsOf 109 = 32 := by kernel_rfl
theorem Tryz.cInt : Tryz.prog.cellsOf 3 = 1 := by kernel_rfl
theorem Tryz.cStr : Tryz.prog.cellsOf 9 = 1 := by kernel_rfl
theorem Tryz.cBool : Tryz.prog.cellsOf 4 = 1 := by kernel_rfl
theorem Tryz.cNamed : Tryz.prog.cellsOf 112 = 3 := by kernel_rfl

theorem one_of_take {cs : List Value} {a b o : Nat} {v : Value} (hb : o < b) (h : (((cs.drop a).take b).drop o).take 1 = [v]) : cs[a + o]? = some v := by
  have h0 := congrArg (fun l => l[0]?) h
  simp only [List.getElem?_cons_zero] at h0
  rw [List.getElem?_take, if_pos (by omega), List.getElem?_drop, List.getElem?_take, if_pos (by omega), List.getElem?_drop] at h0
  simpa using h0

theorem nTab_of {w : World} (h : VarReads Tryz.prog w "recto/refs.names" nmData) : NTab w := by
  obtain ⟨g', t', cs, fuel, p, hg', ht', hvar, hd⟩ := h
  obtain rfl := Option.some.inj (Tryz.gNames.symm.trans hg')
  obtain rfl := Option.some.inj (Tryz.tNames.symm.trans ht')
  intro k hk
  obtain ⟨fuel', d, q, h1, h2⟩ := array_elem Tryz.underlying113 hd k hk
  rw [nm_at k hk] at h1
  obtain rfl := Option.some.inj h1
  rw [Tryz.cNamed] at h2
  obtain ⟨xs, n, _, hx, _, hxl, hf⟩ := DataW.trod_struct Tryz.underlying112 h2
  have hx1 : xs.map (·.1) = [.lit (.string (nmName k)), .lit (.int .i64 (nmChar k)), .lit (.bool (nmBare k))] := by
    have := congrArg Prod.fst hx
    simpa using this.symm
  have f0 := hf 0 _ rfl
  have f1 := hf 1 _ rfl
  have f2 := hf 2 _ rfl
  have x0 : ∀ (i : Nat) (d : DataW Unit), (xs.map (·.1))[i]? = some d → ∃ b : DataW Unit × List MemPlace, xs[i]? = some b ∧ b.1 = d := by
    intro i d h
    rw [List.getElem?_map] at h
    obtain ⟨b, hb, he⟩ := Option.map_eq_some_iff.1 h
    exact ⟨b, hb, he⟩
  obtain ⟨b0, e0, g0⟩ := x0 0 _ (by rw [hx1]; rfl)
  obtain ⟨b1, e1, g1⟩ := x0 1 _ (by rw [hx1]; rfl)
  obtain ⟨b2, e2, g2⟩ := x0 2 _ (by rw [hx1]; rfl)
  rw [e0] at f0
  rw [e1] at f1
  rw [e2] at f2
  obtain ⟨s, c0, y0, _⟩ := DataW.trod_string Tryz.underlying9 f0
  obtain ⟨z, c1, y1, _⟩ := DataW.trod_int Tryz.underlying3 f1
  obtain ⟨b, c2, y2⟩ := DataW.trod_bool Tryz.underlying4 f2
  subst y0; subst y2
  have hs : s = bs (nmName k) := by
    have : s.data.toList = nmName k := by simpa using g0
    rw [← this, bs_self]
  have hb : b = nmBare k := by simpa using g2
  have hz : z = nmChar k := by rw [y1] at g1; simpa using g1
  subst hs; subst hb; subst hz
  have v := World.var?_cell Tryz.gNames hvar
  have c0' : (((cs.toList.drop (k * 3)).take 3).drop 0).take (Tryz.prog.cellsOf 9) = [.string (bs (nmName k))] := c0
  have c1' : (((cs.toList.drop (k * 3)).take 3).drop 1).take (Tryz.prog.cellsOf 3) = [.int .i64 (nmChar k)] := c1
  have c2' : (((cs.toList.drop (k * 3)).take 3).drop 2).take (Tryz.prog.cellsOf 4) = [.bool (nmBare k)] := c2
  rw [Tryz.cStr] at c0'
  rw [Tryz.cInt] at c1'
  rw [Tryz.cBool] at c2'
  have r0 := one_of_take (a := k * 3) (b := 3) (o := 0) (by decide) c0'
  have r1 := one_of_take (a := k * 3) (b := 3) (o := 1) (by decide) c1'
  have r2 := one_of_take (a := k * 3) (b := 3) (o := 2) (by decide) c2'
  refine ⟨?_, ?_, ?_⟩
  · rw [v]; simpa using r0
  · rw [v]; simpa using r1
  · rw [v]; simpa using r2

theorem tab4_of {w : World} (h : laidMet Tryz.prog [("recto/utf.heads", Rows.laid_recto_utf_heads), ("recto/utf.ends", Rows.laid_recto_utf_ends), ("recto/refs.names", Rows.laid_recto_refs_names), ("recto/refs.olds", Rows.laid_recto_refs_olds)] w) : Tab4 w := by
  have h1 : TabIs Tryz.prog w "recto/utf.heads" .i64 [0, 0, 192, 224, 240] := tab_of_reads Tryz.gHeads Tryz.tHeads Tryz.underlying100 Tryz.underlying3 Tryz.cInt Tryz.cArr5 (laidMet.reads h (List.mem_cons_self ..))
  have h2 : TabIs Tryz.prog w "recto/utf.ends" .i64 [0, 128, 2048, 65536, 1114112] := tab_of_reads Tryz.gEnds Tryz.tEnds Tryz.underlying100 Tryz.underlying3 Tryz.cInt Tryz.cArr5 (laidMet.reads h (List.mem_cons_of_mem _ (List.mem_cons_self ..)))
  have h3 : NTab w := nTab_of (laidMet.reads h (List.mem_cons_of_mem _ (List.mem_cons_of_mem _ (List.mem_cons_self ..))))
  have h4 : TabIs Tryz.prog w "recto/refs.olds" .i64 oldT := tab_of_reads Tryz.gOlds Tryz.tOlds Tryz.underlying109 Tryz.underlying3 Tryz.cInt Tryz.cArr32 (laidMet.reads h (List.mem_cons_of_mem _ (List.mem_cons_of_mem _ (List.mem_cons_of_mem _ (List.mem_cons_self ..)))))
  refine ⟨⟨h1.cell Tryz.gHeads 1 (by decide), h1.cell Tryz.gHeads 2 (by decide), h1.cell Tryz.gHeads 3 (by decide), h1.cell Tryz.gHeads 4 (by decide), h2.cell Tryz.gEnds 1 (by decide), h2.cell Tryz.gEnds 2 (by decide), h2.cell Tryz.gEnds 3 (by decide), h2.cell Tryz.gEnds 4 (by decide)⟩, h3, fun k hk => h4.cell Tryz.gOlds k hk⟩
end Go.Proofs.YtakjlolmmoladabGreatDoor

namespace Go.Proofs.YtakjlolmmoladabGreatDoor.notesbackF
open Go.ChangeShapes Go.WideShapes Go.ChangeAt Go.RowKit
open Go.ChangeMaps (open_string shut_string)
set_option linter.unusedVariables false

theorem own : ownKnob Tryz.prog.godebug = none := by kernel_rfl
theorem tabs {W : World} (h : laidMetH Tryz.prog Rows.penNotesBackRow.laid W) : Tab4 W := tab4_of h

theorem mx {W : World} (h : W.ShapedOpen Tryz.prog) : Mx W :=
  Go.Proofs.cell_of_shapedOpen_int (zero := #[.int .i64 0]) (t := 3) h (of_decide_eq_true (by kernel_rfl)) (by kernel_rfl) rfl (by kernel_rfl) (by kernel_rfl) Tryz.underlying3

set_option maxRecDepth 100000 in
theorem contract (H : Type) (enc : TypeId × Value → H) (W : World) (base : Nat) (args : Array Value) (ds gs : List (DataW H)) (before : List MemPlace)
    (hval : ∀ (j : Nat) t v, Tryz.f3.params[j]? = some t → args[j]? = some v → Value.okWide Tryz.prog W .any base t v)
    (hW : DataW.Whole enc Tryz.prog Tryz.f3.params.toList Rows.penNotesBackSpec.vars false W args.toList ds gs before) (hL : laidMetH Tryz.prog Rows.penNotesBackRow.laid W) (hSO : W.ShapedOpen Tryz.prog) :
    Calls Tryz.prog 3 args W fun e W' => ∃ v, e = .returned v ∧ Rows.penNotesBackSpec.post enc Tryz.prog Tryz.f3 false true false false W args v W' := by
  have hW' := hW
  obtain ⟨p, q, hA0, hV, rfl, hfz, hnd⟩ := hW
  have hA : DataW.TrodAll enc Tryz.prog W 0 (fun _ => true) true Tryz.f3.params.toList args.toList ds p := hA0
  rw [Tryz.params3] at hA hval
  obtain ⟨v0, vs0, d0, ds0, p0, q0, hargs, rfl, rfl, h0, r0⟩ := trodAll_cons hA
  obtain ⟨v1, vs1, d1, ds1, p1, q1, rfl, rfl, rfl, h1, r1⟩ := trodAll_cons r0
  obtain ⟨rfl, rfl, rfl⟩ := trodAll_nil r1
  obtain rfl : args = #[v0, v1] := by cases args; simp_all
  obtain ⟨rfl, rfl⟩ := trodVars_none hV
  obtain ⟨a0, rfl, rfl, rfl, w0⟩ := open_string Tryz.underlying9 (hval 0 9 v0 rfl rfl) h0
  obtain ⟨a1, rfl, rfl, rfl, w1⟩ := open_string Tryz.underlying9 (hval 1 9 v1 rfl rfl) h1
  clear hA0
  refine (pnotes_walk a0 a1 W (tabs hL) (mx hSO)).mono fun e W' ⟨he, bel⟩ => ?_
  subst he
  exact ⟨_, rfl, _, _, _, [], _, [], hW', trodAll_mk1 (shut_bool Tryz.underlying4 _), (trodAll_cons_mk (shut_string Tryz.underlying9 w0) (trodAll_cons_mk (shut_string Tryz.underlying9 w1) trodAll_mk0)), rfl, bel.frame _, fun h => by cases h⟩

/-- What the tables' initialisers lay. -/
def lay0 : Obj → Obj
  | .cells _ t frozen => .cells #[.int .i64 0, .int .i64 0, .int .i64 192, .int .i64 224, .int .i64 240] t frozen
  | o => o
def layN : Obj → Obj
  | .cells _ t frozen => .cells #[.string ⟨#[97, 109, 112]⟩, .int .i64 38, .bool true, .string ⟨#[108, 116]⟩, .int .i64 60, .bool true, .string ⟨#[103, 116]⟩, .int .i64 62, .bool true, .string ⟨#[113, 117, 111, 116]⟩, .int .i64 34, .bool true, .string ⟨#[110, 98, 115, 112]⟩, .int .i64 160, .bool true, .string ⟨#[99, 111, 112, 121]⟩, .int .i64 169, .bool true, .string ⟨#[114, 101, 103]⟩, .int .i64 174, .bool true, .string ⟨#[110, 111, 116]⟩, .int .i64 172, .bool true, .string ⟨#[110, 111, 116, 105, 110]⟩, .int .i64 8713, .bool false, .string ⟨#[116, 105, 109, 101, 115]⟩, .int .i64 215, .bool true, .string ⟨#[112, 97, 114, 97]⟩, .int .i64 182, .bool true, .string ⟨#[115, 101, 99, 116]⟩, .int .i64 167, .bool true, .string ⟨#[101, 97, 99, 117, 116, 101]⟩, .int .i64 233, .bool true, .string ⟨#[69, 97, 99, 117, 116, 101]⟩, .int .i64 201, .bool true, .string ⟨#[97, 117, 109, 108]⟩, .int .i64 228, .bool true, .string ⟨#[65, 117, 109, 108]⟩, .int .i64 196, .bool true, .string ⟨#[115, 122, 108, 105, 103]⟩, .int .i64 223, .bool true, .string ⟨#[101, 117, 114, 111]⟩, .int .i64 8364, .bool false, .string ⟨#[104, 101, 108, 108, 105, 112]⟩, .int .i64 8230, .bool false, .string ⟨#[109, 100, 97, 115, 104]⟩, .int .i64 8212, .bool false, .string ⟨#[110, 100, 97, 115, 104]⟩, .int .i64 8211, .bool false, .string ⟨#[97, 108, 112, 104, 97]⟩, .int .i64 945, .bool false, .string ⟨#[98, 101, 116, 97]⟩, .int .i64 946, .bool false, .string ⟨#[114, 97, 114, 114]⟩, .int .i64 8594, .bool false, .string ⟨#[108, 97, 114, 114]⟩, .int .i64 8592, .bool false, .string ⟨#[97, 112, 111, 115]⟩, .int .i64 39, .bool false, .string ⟨#[121, 101, 110]⟩, .int .i64 165, .bool true, .string ⟨#[109, 105, 99, 114, 111]⟩, .int .i64 181, .bool true] t frozen
  | o => o
def layO : Obj → Obj
  | .cells _ t frozen => .cells #[.int .i64 8364, .int .i64 0, .int .i64 8218, .int .i64 402, .int .i64 8222, .int .i64 8230, .int .i64 8224, .int .i64 8225, .int .i64 710, .int .i64 8240, .int .i64 352, .int .i64 8249, .int .i64 338, .int .i64 0, .int .i64 381, .int .i64 0, .int .i64 0, .int .i64 8216, .int .i64 8217, .int .i64 8220, .int .i64 8221, .int .i64 8226, .int .i64 8211, .int .i64 8212, .int .i64 732, .int .i64 8482, .int .i64 353, .int .i64 8250, .int .i64 339, .int .i64 0, .int .i64 382, .int .i64 376] t frozen
  | o => o
def lay1 : Obj → Obj
  | .cells _ t frozen => .cells #[.int .i64 0, .int .i64 128, .int .i64 2048, .int .i64 65536, .int .i64 1114112] t frozen
  | o => o
theorem laid_met (os : Os) : laidMet Tryz.prog Rows.penNotesBackRow.laid (({ World.holding Tryz.prog os ⟨#[], #[], []⟩ with heap := ((((World.holding Tryz.prog os ⟨#[], #[], []⟩).heap.modify 4 layN).modify 3 layO).modify 0 lay0).modify 1 lay1 } : World).forCall (fun _ _ => 0) ⟨#[], #[.string ⟨#[]⟩, .string ⟨#[]⟩], []⟩).memory :=
  laidMet_of_run' 8 (by kernel_rfl) (by kernel_rfl)
theorem reads (os : Os) {H : Type} (enc : TypeId × Value → H) : ∃ places, DataW.whole enc Tryz.prog (({ World.holding Tryz.prog os ⟨#[], #[], []⟩ with heap := ((((World.holding Tryz.prog os ⟨#[], #[], []⟩).heap.modify 4 layN).modify 3 layO).modify 0 lay0).modify 1 lay1 } : World).forCall (fun _ _ => 0) ⟨#[], #[.string ⟨#[]⟩, .string ⟨#[]⟩], []⟩).memory Tryz.f3.params.toList Rows.penNotesBackSpec.vars false #[Value.string ⟨#[]⟩, Value.string ⟨#[]⟩].toList 8 = some ([.lit (.string []), .lit (.string [])], [], places) :=
  ⟨[], by kernel_rfl⟩

set_option maxRecDepth 100000 in
theorem lifted (os : Os) (started : os.Started) (H : Type) (enc : TypeId × Value → H) (F : Stop.Interp) :
    ReturnsInHanded {} Tryz.checked os 3 .any ((OpenSpec.ofChange Rows.penNotesBackSpec).preRow enc Tryz.prog Tryz.f3 Rows.penNotesBackRow.domain false Rows.penNotesBackRow.laid) (((OpenSpec.ofChange Rows.penNotesBackSpec).at F).post enc Tryz.prog Tryz.f3 false true false false) := by
  obtain ⟨places, hx⟩ := reads os enc
  refine returnsInHanded_of_row (C := Tryz.checked) (s := OpenSpec.ofChange Rows.penNotesBackSpec) own started (by kernel_rfl) Tryz.func3
    (witness_row_at (enc := enc) (C := Tryz.checked) false ({ World.holding Tryz.prog os ⟨#[], #[], []⟩ with heap := ((((World.holding Tryz.prog os ⟨#[], #[], []⟩).heap.modify 4 layN).modify 3 layO).modify 0 lay0).modify 1 lay1 } : World) #[.string ⟨#[]⟩, .string ⟨#[]⟩] rfl (by kernel_rfl) (by kernel_rfl) (by kernel_rfl)
      (OpenSpec.preRow_of_cond 8 hx (by kernel_rfl) (fun k hk => by cases hk) (by kernel_rfl) (laid_met os))) ?_
  intro W base args ds gs before hval hW _ _ _ hL hSO _
  exact contract H enc W base args ds gs before hval hW hL hSO

theorem said : Rows.PenNotesBackSaid :=
  OpenClaim.holds_of_cond 3 Tryz.f3 rfl rfl rfl rfl rfl rfl rfl ⟨rfl, rfl, rfl, rfl, rfl⟩ rfl rfl rfl rfl rfl (by kernel_rfl) Tryz.func3 (by kernel_rfl)
    (of_decide_eq_true (by kernel_rfl)) (by unfold Func.isWrapper; first | (rw [if_pos (by decide +kernel)]; kernel_rfl) | (rw [if_neg (by decide +kernel)]; exact ⟨rfl, rfl⟩))
    (fun os started H enc _ F => by rw [OpenClaim.pre_eq_preRow]; exact lifted os started H enc F)

theorem plain (f : FuncId) (fn : Func) (hf : Tryz.pinned.checked.prog.funcNamed "recto/rectolaw06.PenNotesBack" = some f) (hfn : Tryz.pinned.checked.prog.funcs[f]? = some fn) :
    false = Tryz.pinned.checked.prog.looks [] ∧ ∀ (j : Nat) t, fn.params[j]? = some t → Tryz.pinned.checked.prog.wantsStandIn t = false := by
  obtain rfl : f = 3 := Option.some.inj ((show Tryz.prog.funcNamed "recto/rectolaw06.PenNotesBack" = some 3 by kernel_rfl).symm.trans hf) |>.symm
  obtain rfl : fn = Tryz.f3 := (Option.some.inj (Tryz.func3.symm.trans hfn)).symm
  refine ⟨by kernel_rfl, fun j t ht => ?_⟩
  rw [Tryz.params3] at ht
  obtain rfl : t = 9 := by simpa using Array.mem_of_getElem? ht
  exact (show Tryz.prog.wantsStandIn 9 = false by kernel_rfl)

theorem card : Rows.PenNotesBackCardSaid :=
  Claim7.holds_tied_plain_at .later [] _ _ _ _ said (fun _ h => by cases h) (by kernel_rfl) (fun _ h => by cases h) penNotesBack_row_tie rfl ⟨rfl, rfl⟩ (by kernel_rfl) rfl plain (by kernel_rfl)
end Go.Proofs.YtakjlolmmoladabGreatDoor.notesbackF

namespace Go.Proofs.YtakjlolmmoladabGreatDoor
theorem penNotesBack_card : Rows.PenNotesBackCardSaid := notesbackF.card
end Go.Proofs.YtakjlolmmoladabGreatDoor
