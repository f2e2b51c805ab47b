/-
  Several texts in one: what the functions of the program and of the document's answer do.
-/
import Derived.Test.YtbabmkilbbbmoaaDoorMgAQ
import Derived.Test.YtbabmkilbbbmoaaDoorMgBF
import Derived.Test.YtbabmkilbbbmoaaDoorMgAO
import Derived.Deep.RegionWith
import Derived.Deep.Cut

/-
  What a keys.writer's node writes.
-/
namespace Go.Proofs.YtbabmkilbbbmoaaDoor
open Go.RowKit
set_option linter.unusedVariables false
set_option linter.unusedSimpArgs false

def atsB : List (ByteArray × ByteArray) → List UInt8
  | [] => []
  | a :: r => textB a.1 ++ (textB a.2 ++ atsB r)
def nodeB (k sp : Int) (n : ByteArray) (ats : List (ByteArray × ByteArray)) (tx : ByteArray) (kl : Nat) : List UInt8 :=
  labelB k sp n ++ (textB tx ++ (numB (ats.length : Nat) ++ (atsB ats ++ numB (kl : Nat))))
theorem atsB_drop (ats : List (ByteArray × ByteArray)) (j : Nat) (hj : j < ats.length) : atsB (ats.drop j) = textB (an ats j) ++ (textB (av ats j) ++ atsB (ats.drop (j + 1))) := by
  rw [List.drop_eq_getElem_cons hj, atsB]
  have h3 : ats.getD j (ByteArray.empty, ByteArray.empty) = ats[j] := by simp [List.getD, List.getElem?_eq_getElem hj]
  unfold an av
  rw [h3]
/-- The numbers that a node tells can be told. -/
def ItoaNd (w0 : World) (k sp : Int) (n : ByteArray) (ats : List (ByteArray × ByteArray)) (tx : ByteArray) (kl : Nat) : Prop :=
  ItoaAt w0 k ∧ ItoaAt w0 sp ∧ ItoaAt w0 (n.size : Nat) ∧ ItoaAt w0 (tx.size : Nat) ∧ ItoaAt w0 (ats.length : Nat) ∧ ItoaAt w0 (kl : Nat) ∧ ∀ j, j < ats.length → ItoaAt w0 ((an ats j).size : Nat) ∧ ItoaAt w0 ((av ats j).size : Nat)
set_option maxHeartbeats 8000000 in
set_option maxRecDepth 100000 in
theorem knode_any (w0 : World) (B b : Nat) (l : List UInt8) (k sp : Int) (n : ByteArray) (ats : List (ByteArray × ByteArray)) (tx : ByteArray) (qa : Option Addr) (ca : Nat) (qk : Option Addr) (kl ck : Nat) (g o : Nat) (w : World) (h : Kwt B b l w) (hb : Below w0.heap.size w0 w) (hB : w0.heap.size ≤ B) (hBw : B ≤ w.heap.size)
    (P : World → Prop) (hP : ∀ W l' W', P W → KwN w0 B b l' W W' → P W') (hPa : ∀ W X, P W → P (W.alloc X)) (hpw : P w)
    (hL : ∀ W, P W → W.cell? ⟨g, o, none⟩ = some (.int .i64 k) ∧ W.cell? ⟨g, o + 1, none⟩ = some (.int .i64 sp) ∧ W.cell? ⟨g, o + 2, none⟩ = some (.string n) ∧ W.cell? ⟨g, o + 3, none⟩ = some (.slice qa ats.length ca) ∧ W.cell? ⟨g, o + 4, none⟩ = some (.string tx) ∧ W.cell? ⟨g, o + 5, none⟩ = some (.slice qk kl ck))
    (hsl : ∀ W, P W → Sl qa ats W)
    (hN : ItoaNd w0 k sp n ats tx kl) (hns : n.size ≤ 5000) (hts : tx.size ≤ 5000) (hft : Fits ats) (hlen : l.length + (nodeB k sp n ats tx kl).length ≤ 100000000000) :
    Calls Tryd.prog 64 #[.pointer (some ⟨b, 0, none⟩), .pointer (some ⟨g, o, none⟩)] w fun e w' => e = .returned (.tuple #[]) ∧ KwN w0 B b (l ++ nodeB k sp n ats tx kl) w w' ∧ P w' := by
  obtain ⟨n1, n2, n3, n4, n5, n6, n7⟩ := hN
  have HTOT : Hid (l ++ nodeB k sp n ats tx kl = (((l ++ labelB k sp n) ++ textB tx) ++ numB (ats.length : Nat)) ++ atsB ats ++ numB (kl : Nat)) := hide (by rw [nodeB]; simp only [List.append_assoc])
  have hlen2 : ((((l ++ labelB k sp n) ++ textB tx) ++ numB (ats.length : Nat)) ++ atsB ats ++ numB (kl : Nat)).length ≤ 100000000000 := by rw [← unhide HTOT, List.length_append]; exact hlen
  rw [unhide HTOT]
  simp only [List.length_append] at hlen2
  have C1 := hide (klabel_any w0 B b l k sp n g o w h hb hB hBw n1 n2 n3 (by omega) (by omega) P hP hpw (fun W hW => ⟨(hL W hW).1, (hL W hW).2.1, (hL W hW).2.2.1⟩))
  have C2 := hide (fun W (h' : Kwt B b (l ++ labelB k sp n) W) hb' (hs' : B ≤ W.heap.size) => ktext_any w0 B b (l ++ labelB k sp n) tx W h' hb' hB hs' n4 (by omega) (by simp only [List.length_append]; omega))
  have C3 := hide (fun W (h' : Kwt B b ((l ++ labelB k sp n) ++ textB tx) W) hb' (hs' : B ≤ W.heap.size) => knum_any w0 B b ((l ++ labelB k sp n) ++ textB tx) (ats.length : Nat) W h' hb' hB hs' n5 (by simp only [List.length_append]; omega))
  have C4 := hide (fun W (h' : Kwt B b ((((l ++ labelB k sp n) ++ textB tx) ++ numB (ats.length : Nat)) ++ atsB ats) W) hb' (hs' : B ≤ W.heap.size) => knum_any w0 B b ((((l ++ labelB k sp n) ++ textB tx) ++ numB (ats.length : Nat)) ++ atsB ats) (kl : Nat) W h' hb' hB hs' n6 (by simp only [List.length_append]; omega))
  have q4 : ((((l ++ labelB k sp n) ++ textB tx) ++ numB (ats.length : Nat)) ++ atsB ats).length ≤ 100000000000 := by simp only [List.length_append]; omega
  generalize (((l ++ labelB k sp n) ++ textB tx) ++ numB (ats.length : Nat)) = m3 at *
  generalize (l ++ labelB k sp n) ++ textB tx = m2 at *
  generalize l ++ labelB k sp n = m1 at *
  have HL := hide hL
  have HP := hide hP
  have HPA := hide hPa
  have HSL := hide hsl
  have HPW := hide hpw
  have HFT := hide hft
  have HN7 := hide n7
  have hal : ats.length ≤ 1000 := hft.1
  have hsz := hb.size
  clear h hb hlen hlen2 hL hP hPa hsl hpw hft n1 n2 n3 n4 n5 n6 n7 hns hts HTOT
  go_enter Tryd.func64, Tryd.ntmps64
  go_wp2_with fail
  refine (unhide C1).mono ?_
  rintro e w1 ⟨rfl, hk1⟩
  have hp1 := unhide HP w _ w1 (unhide HPW) hk1
  have CC2 := hide (unhide C2 w1 hk1.1 hk1.2.1 (by have := hk1.2.2.1.size; omega))
  obtain ⟨-, -, -, -, d4, -⟩ := unhide HL w1 hp1
  have HK1 := hide hk1
  have HP1 := hide hp1
  clear C1 C2 hk1 hp1 HPW
  go_wp2_with fail
  refine (unhide CC2).mono ?_
  rintro e w2 ⟨rfl, hk2⟩
  have hp2 := unhide HP w1 _ w2 (unhide HP1) hk2
  have HK2 := hide ((unhide HK1).trans hk2)
  have CC3 := hide (unhide C3 w2 hk2.1 hk2.2.1 (by have := (unhide HK2).2.2.1.size; omega))
  obtain ⟨-, -, -, d3, -, -⟩ := unhide HL w2 hp2
  have HP2 := hide hp2
  clear CC2 C3 hk2 hp2 HP1 HK1 d4
  go_wp2_with fail
  refine (unhide CC3).mono ?_
  rintro e w3 ⟨rfl, hk3⟩
  have hp3 := unhide HP w2 _ w3 (unhide HP2) hk3
  have HK3 := hide ((unhide HK2).trans hk3)
  clear d3
  obtain ⟨-, -, -, d3, -, -⟩ := unhide HL w3 hp3
  have HP3 := hide hp3
  clear CC3 hk3 hp3 HP2 HK2
  go_wp2
  clear d3
  go_loopw [27] (fun i wr => ∃ (j : Nat) (m : List UInt8), j ≤ ats.length ∧ i = .int .i64 j ∧ m ++ atsB (ats.drop j) = m3 ++ atsB ats ∧ KwN w0 B b m w wr ∧ P wr) (fun i _ => ats.length - (intOf i).toNat)
  case atStart => exact ⟨0, m3, Nat.zero_le _, rfl, rfl, unhide HK3, unhide HP3⟩
  case round =>
    clear HK3 HP3
    obtain ⟨j, m, hj, rfl, hm, hkw, hpr⟩ := hrel
    have hszr := hkw.2.2.1.size
    by_cases hp : j < ats.length
    · have hpi : (j : Int) < (ats.length : Int) := by omega
      rcases unhide HSL wr hpr with h0 | ⟨ga, oa, hqa, hcl⟩
      · rw [h0] at hp; simp at hp
      subst hqa
      obtain ⟨c1, c2⟩ := hcl j hp
      obtain ⟨z1, z2⟩ := (unhide HFT).2 j hp
      obtain ⟨i1, i2⟩ := unhide HN7 j hp
      have hq := congrArg List.length hm
      rw [atsB_drop ats j hp] at hm hq
      simp only [List.length_append] at hq q4
      have CT1 := hide (fun W (h' : Kwt B b m W) hb' (hs' : B ≤ W.heap.size) => ktext_any w0 B b m (an ats j) W h' hb' hB hs' i1 (by omega) (by omega))
      have CT2 := hide (fun W (h' : Kwt B b (m ++ textB (an ats j)) W) hb' (hs' : B ≤ W.heap.size) => ktext_any w0 B b (m ++ textB (an ats j)) (av ats j) W h' hb' hB hs' i2 (by omega) (by rw [List.length_append]; omega))
      have HM : Hid (((m ++ textB (an ats j)) ++ textB (av ats j)) ++ atsB (ats.drop (j + 1)) = m3 ++ atsB ats) := hide (by rw [← hm]; simp only [List.append_assoc])
      have hbA := (Below.refl wr.heap.size wr).alloc (Nat.le_refl _) (Obj.cells #[.string (an ats j), .string (av ats j)] 112)
      have hblk := Blk.new wr #[.string (an ats j), .string (av ats j)] 112
      have hpA := unhide HPA wr (Obj.cells #[.string (an ats j), .string (av ats j)] 112) hpr
      have hkA : KwN w0 B b m w (wr.alloc (Obj.cells #[.string (an ats j), .string (av ats j)] 112)) := ⟨kwt_below hkw.1 hbA, tr2 hkw.2.1 hbA, hkw.2.2.1.alloc (by omega) _, Lib.OthersKept.trans hkw.2.2.2 (oth_of_belowK hbA)⟩
      have hbb : b < wr.heap.size := by
        obtain ⟨p, v, hp, hB, hbk, _⟩ := kwt_any hkw.1
        exact (Array.getElem?_eq_some_iff.1 hbk).1
      have CT1' := hide (unhide CT1 _ hkA.1 hkA.2.1 (by simp; omega))
      have HX := hide (And.intro hblk (And.intro hkA hpA))
      generalize an ats j = x at *
      generalize av ats j = y at *
      clear hm hq hkw hpr hcl hbA hblk hkA hpA z1 z2 i1 i2 CT1
      go_wp2_with fail
      refine (unhide CT1').mono ?_
      rintro e w5 ⟨rfl, hk5⟩
      have hK5 := (unhide HX).2.1.trans hk5
      have hP5 := unhide HP _ _ w5 (unhide HX).2.2 hk5
      have hblk5 : Blk w5 wr.heap.size #[.string x, .string y] 112 := hk5.2.2.2 _ _ (unhide HX).1 (fun e => by injection e with e; omega) (fun c fz e => by injection e with _ e; revert e; decide)
      have k1 : w5.cell? ⟨wr.heap.size, 1, none⟩ = some (.string y) := hblk5.cell 1
      have CT2' := hide (unhide CT2 w5 hk5.1 hk5.2.1 (by have := hK5.2.2.1.size; omega))
      have HX5 := hide (And.intro hK5 hP5)
      clear CT1' CT2 hk5 hK5 hP5 hblk5 HX c1 c2
      go_wp2_with fail
      refine (unhide CT2').mono ?_
      rintro e w6 ⟨rfl, hk6⟩
      have HX6 := hide (And.intro ((unhide HX5).1.trans hk6) (unhide HP _ _ w6 (unhide HX5).2 hk6))
      clear CT2' hk6 HX5 k1
      go_wp2
      go_roundw
      case rel => exact ⟨j + 1, _, by omega, by go_num, unhide HM, unhide HX6⟩
      case measure => simp [intOf]; omega
    · have hpi : ¬ (j : Int) < (ats.length : Int) := by omega
      rw [List.drop_eq_nil_of_le (by omega), atsB, List.append_nil] at hm
      subst hm
      have CK1 := hide (unhide C4 wr hkw.1 hkw.2.1 (by omega))
      obtain ⟨-, -, -, -, -, d5⟩ := unhide HL wr hpr
      have HX := hide (And.intro hkw hpr)
      clear hkw hpr C4 hp
      go_wp2_with fail
      refine (unhide CK1).mono ?_
      rintro e w5 ⟨rfl, hk5⟩
      have HY := hide (And.intro ((unhide HX).1.trans hk5) (unhide HP _ _ w5 (unhide HX).2 hk5))
      clear CK1 hk5 HX d5
      go_wp2
      refine bodyPost_end (v := .tuple #[]) (results_none Tryd.results64 _ _ _) rfl ?_
      exact ⟨rfl, unhide HY⟩
end Go.Proofs.YtbabmkilbbbmoaaDoor

/-
  What keys.walk does (whole) under the closure of keys.Key (made by mk_kwk.py).
-/
namespace Go.Proofs.YtbabmkilbbbmoaaDoor
open Go.RowKit Go.Maps
set_option linter.unusedVariables false
set_option linter.unusedSimpArgs false

/-- Nodes' key: of each node, ahead of its kids. -/
def keyF : Forest → List UInt8
  | .nil => []
  | .cons k sp n ats tx kids rest => nodeB k sp n ats tx kids.len ++ (keyF kids ++ keyF rest)
def kdo : List Lev → List UInt8
  | [] => []
  | l :: st => keyF (l.F.drop l.nx) ++ kdo st
theorem kdo_pop (l : Lev) (st : List Lev) (h : l.F.drop l.nx = .nil) : kdo (l :: st) = kdo st ∧ cntL (l :: st) = cntL st := by
  simp only [kdo, cntL, h, keyF, Forest.count, List.nil_append, Nat.zero_add, and_self]
theorem kdo_push (l : Lev) (st : List Lev) (par : Int) {k sp : Int} {n : ByteArray} {ats : List (ByteArray × ByteArray)} {tx : ByteArray} {kids : Forest} (q : Option Addr) (c : Nat) (h : l.F.drop l.nx = .cons k sp n ats tx kids (l.F.drop (l.nx + 1))) :
    kdo (l :: st) = nodeB k sp n ats tx kids.len ++ kdo (⟨kids, q, c, par, 0⟩ :: { l with nx := l.nx + 1 } :: st) ∧ cntL (l :: st) = cntL (⟨kids, q, c, par, 0⟩ :: { l with nx := l.nx + 1 } :: st) + 1 := by
  constructor
  · simp only [kdo, h, keyF, Forest.drop_zero, List.append_assoc]
  · simp only [cntL, h, Forest.drop_zero, Forest.count]; omega
/-- What the walk does beside the closure: rows of levels, and what is new. -/
def StepL (B1 : Nat) (w w' : World) : Prop := w'.os = w.os ∧ w'.tape = w.tape ∧ w'.output = w.output ∧ w.heap.size ≤ w'.heap.size ∧ ∀ i : Nat, i < w.heap.size → (B1 ≤ i → ∀ (cs : Array Value) (z : Nat × Nat), w.heap[i]? ≠ some (Obj.cells cs 137 z)) → w'.heap[i]? = w.heap[i]?
/-- What the closure leaves of the walk's. -/
def KeepL (w w' : World) : Prop := w.heap.size ≤ w'.heap.size ∧ ∀ (i : Nat) (cs : Array Value), w.heap[i]? = some (Obj.cells cs 137 (0, 0)) → w'.heap[i]? = some (Obj.cells cs 137 (0, 0))
theorem StepL.drew (B1 : Nat) (w : World) : StepL B1 w w.drew := ⟨rfl, rfl, rfl, Nat.le_refl _, fun _ _ _ => rfl⟩
theorem StepL.of_below {B1 : Nat} {w w' : World} (h : Below w.heap.size w w') : StepL B1 w w' := ⟨h.os, h.tape, h.output, h.size, fun i hi _ => h.block i hi⟩
theorem StepL.set {B1 : Nat} {w : World} {b o : Nat} {v : Value} {cs : Array Value} {z : Nat × Nat} (hb : w.heap[b]? = some (Obj.cells cs 137 z)) (hB : B1 ≤ b) : StepL B1 w (w.setCell ⟨b, o, none⟩ v) :=
  ⟨rfl, rfl, rfl, by simp, fun i _ hn => Below.heap_setCell w ⟨b, o, none⟩ v i (fun e => hn (by rw [e]; exact hB) cs z (by rw [e]; exact hb))⟩
theorem KeepL.row {w w' : World} (h : KeepL w w') {base : Nat} {v : Value} {n : Nat} {xs : List Value} (hr : w.ownsRow base 137 3 v n xs) : w'.ownsRow base 137 3 v n xs := by
  obtain ⟨hl, hr⟩ := hr
  refine ⟨hl, ?_⟩
  rcases hr with hr | ⟨g, cap, cur, h1, h2, h3, h4⟩
  · exact .inl hr
  · exact .inr ⟨g, cap, cur, h1, h2, h.2 g cur h3, h4⟩
def KvAt (V : World) (Q : Forest → Prop) (J : List UInt8 → World → Prop) (B1 : Nat) (all : List UInt8) (gk : Nat) (num : Nat) (left : Value) (wr : World) : Prop :=
  ∃ (st : List Lev) (acc : List UInt8), cntL st + num ≤ 1000000 ∧ st.length + cntL st ≤ 1000001 ∧ 2 * cntL st + st.length = gk ∧ (∀ l ∈ st, LevOk V l ∧ Q (l.F.drop l.nx)) ∧ wr.ownsRow B1 137 3 left st.length (rowL st) ∧ acc ++ kdo st = all ∧ J acc wr ∧ B1 ≤ wr.heap.size

theorem owns_blockI' {w : World} {base : Nat} {e : TypeId} {size b n cap m : Nat} {xs : List Value} (h : w.ownsRow base e size (.slice (some ⟨b, 0, none⟩) n cap) m xs) : ∃ cur, w.heap[b]? = some (Obj.cells cur e (0, 0)) := (owns_blockI h (k := b) rfl).2
set_option maxHeartbeats 4000000 in
set_option maxRecDepth 100000 in
theorem kwalk_key (w V : World) (Q : Forest → Prop) (hQ : ∀ k sp n ats tx kids rest, Q (.cons k sp n ats tx kids rest) → Q kids ∧ Q rest) (J : List UInt8 → World → Prop) (hJs : ∀ acc W W', J acc W → StepL w.heap.size W W' → J acc W') (hJV : ∀ acc W, J acc W → CellLe V W) (G : Nat) (all : List UInt8)
    (C : ∀ (acc more : List UInt8) (k sp : Int) (n : ByteArray) (ats : List (ByteArray × ByteArray)) (tx : ByteArray) (kids rest : Forest) (g o : Nat) (x1 x2 x3 x4 : Int) (W : World), J acc W → Lies (.cons k sp n ats tx kids rest) g o V → Q (.cons k sp n ats tx kids rest) → acc ++ nodeB k sp n ats tx kids.len ++ more = all →
      Calls Tryd.prog 63 #[.pointer (some ⟨g, o, none⟩), .agg #[.int .i64 x1, .int .i64 x2, .int .i64 x3, .int .i64 x4, .int .i64 0], .pointer (some ⟨G, 0, none⟩)] W fun e W' => e = .returned (.tuple #[]) ∧ J (acc ++ nodeB k sp n ats tx kids.len) W' ∧ KeepL W W')
    (f : Forest) (q : Option Addr) (cap : Nat) (hall : all = keyF f) (hf : Fo q f V) (hq : Q f) (hcap : f.len ≤ cap) (hc : f.count ≤ 500000) (hA : J [] w) :
    Calls Tryd.prog 43 #[.slice q f.len cap, .func (.func 63) #[] #[.pointer (some ⟨G, 0, none⟩)]] w fun e w' => e = .returned (.tuple #[]) ∧ J all w' := by
  have HQ := hide hQ
  have HJS := hide hJs
  have HJV := hide hJV
  have HC := hide C
  obtain ⟨i0, hi0, hi1, hi2, hi3⟩ := infoLev
  have hrow0 : (w.alloc (Obj.cells #[.slice q f.len cap, .int .i64 (-1), .int .i64 0] 137)).ownsRow w.heap.size 137 3 (.slice (some ⟨w.heap.size, 0, none⟩) 1 1) 1 (rowL [⟨f, q, cap, -1, 0⟩]) :=
    ⟨rfl, Or.inr ⟨w.heap.size, 1, #[.slice q f.len cap, .int .i64 (-1), .int .i64 0], rfl, Nat.le_refl _, Blk.new w _ _, Nat.le_refl _, by unfold maxLen; omega, rfl, rfl⟩⟩
  have HAT : Hid (KvAt V Q J w.heap.size all (2 * f.count + 1) 0 (.slice (some ⟨w.heap.size, 0, none⟩) 1 1) (w.alloc (Obj.cells #[.slice q f.len cap, .int .i64 (-1), .int .i64 0] 137))) := hide
    ⟨[⟨f, q, cap, -1, 0⟩], [], by simp [cntL, Forest.drop_zero]; omega, by simp [cntL, Forest.drop_zero]; omega, by simp [cntL, Forest.drop_zero], fun l hl => by simp at hl; subst hl; exact ⟨⟨hf, hcap, Nat.zero_le _, by have := f.len_count; show f.len ≤ _; omega⟩, by show Q (f.drop 0); rw [Forest.drop_zero]; exact hq⟩, hrow0, by simp [kdo, Forest.drop_zero, hall], hJs _ _ _ hA (StepL.of_below ((Below.refl _ _).alloc (Nat.le_refl _) _)), by simp⟩
  clear hrow0 hA hf hQ hJs hJV C hq hall
  go_enter Tryd.func43, Tryd.ntmps43
  go_wp2
  go_loopg [4, 5] (2 * f.count + 1) (fun gk nv left wr => ∃ num : Nat, nv = .int .i64 (num : Int) ∧ KvAt V Q J w.heap.size all gk num left wr)
  case atStart => exact ⟨0, rfl, unhide HAT⟩
  case round =>
    clear HAT
    obtain ⟨num, rfl, st, acc, hc1, hc2, hgk, hok, hrow, htl, hj, hB1⟩ := hrel
    rcases st with _ | ⟨l, st⟩
    · obtain ⟨a4, n4, cap4, hv4⟩ := slice_of hrow
      have hn4 : n4 = 0 := by
        rcases hrow.2 with ⟨h, _⟩ | ⟨g, cap, cur, h, _⟩ <;> (rw [hv4] at h; cases h; rfl)
      subst hv4
      subst hn4
      have HF : Hid (acc = all) := hide (by rw [← htl]; simp [kdo])
      have HX := hide hj
      clear htl hok hrow hj
      go_wp2
      refine bodyPost_end (v := .tuple #[]) (results_none Tryd.results43 _ _ _) rfl ?_
      exact ⟨rfl, by rw [← unhide HF]; exact unhide HX⟩
    · obtain ⟨b, capb, rfl, hbb, hcb, c0, c1, c2, cf, hpop, hset⟩ := top_cells hrow
      have hokl := hok l (List.mem_cons_self ..)
      have HOK := hide (show ∀ x ∈ st, LevOk V x ∧ Q (x.F.drop x.nx) from fun e he => hok e (List.mem_cons_of_mem _ he))
      have hln : (st.length : Int) + 1 ≤ 1000001 := by simp at hc2; omega
      have hcbi : (st.length : Int) + 1 ≤ (capb : Int) := by omega
      obtain ⟨⟨hfo, hlc, hnx, hfl⟩, hql⟩ := hokl
      have hflc : l.F.len ≤ 500000000 ∨ True := Or.inr trivial
      by_cases hend : l.nx = l.F.len
      · have hnil := Forest.drop_out l.nx l.F (by omega)
        obtain ⟨e1, e2⟩ := kdo_pop l st hnil
        have HT : Hid (acc ++ kdo st = all) := hide (by rw [← e1]; exact htl)
        have HX := hide (And.intro hj (And.intro hB1 hpop))
        have hg' : 2 * cntL st + st.length < gk := by rw [e2] at hgk; simp at hgk; omega
        have hc1' : cntL st + num ≤ 1000000 := by rw [e2] at hc1; omega
        have hc2' : st.length + cntL st ≤ 1000001 := by rw [e2] at hc2; simp at hc2; omega
        have f2 := cf (st.length * 3 + 2)
        rw [hend] at c2
        generalize l.F.len = fl at *
        clear htl hok hrow hj hB1 hset hpop hfo hgk hc1 hc2 e1 e2 cf hend hnil hql
        go_wp2
        go_region
        go_wp2
        go_roundg (2 * cntL st + st.length)
        case measure => exact hg'
        case rel => exact ⟨num, rfl, st, acc, hc1', hc2', rfl, unhide HOK, (unhide HX).2.2, unhide HT, unhide HJS _ _ _ (unhide HX).1 (StepL.drew _ _), (unhide HX).2.1⟩
      · have hlt : l.nx < l.F.len := by omega
        obtain ⟨k, sp, n, ats, tx, kids, hd⟩ := Forest.drop_cons l.nx l.F hlt
        rcases hfo with h | ⟨g, o, hq, hl⟩
        · rw [h] at hlt; simp [Forest.len] at hlt
        have hld := hl.drop l.nx
        rw [hd] at hld hql
        have hld0 := hld
        obtain ⟨⟨-, -, -, -, -, ⟨qk, ck, l5, hck, hfk⟩⟩, -⟩ := hld
        obtain ⟨e1, e2⟩ := kdo_push l st (num : Int) qk ck hd
        have HT : Hid ((acc ++ nodeB k sp n ats tx kids.len) ++ kdo (⟨kids, qk, ck, (num : Int), 0⟩ :: { l with nx := l.nx + 1 } :: st) = all) := hide (by rw [List.append_assoc, ← e1]; exact htl)
        have hcu : cntL (⟨kids, qk, ck, (num : Int), 0⟩ :: { l with nx := l.nx + 1 } :: st) + 1 = cntL (l :: st) := e2.symm
        have HC' : Hid (2 * cntL (⟨kids, qk, ck, (num : Int), 0⟩ :: { l with nx := l.nx + 1 } :: st) + (st.length + 2) < gk ∧ cntL (⟨kids, qk, ck, (num : Int), 0⟩ :: { l with nx := l.nx + 1 } :: st) + (num + 1) ≤ 1000000 ∧ (st.length + 2) + cntL (⟨kids, qk, ck, (num : Int), 0⟩ :: { l with nx := l.nx + 1 } :: st) ≤ 1000001) := hide (by simp at hgk hc2; omega)
        have HOK2 : Hid (∀ x ∈ (⟨kids, qk, ck, (num : Int), 0⟩ :: { l with nx := l.nx + 1 } :: st : List Lev), LevOk V x ∧ Q (x.F.drop x.nx)) := hide (fun x hx => by
          rcases List.mem_cons.1 hx with rfl | hx
          · exact ⟨⟨hfk, hck, Nat.zero_le _, by have := kids.len_count; simp only [cntL, hd, Forest.count] at hc1; show kids.len ≤ _; omega⟩, by show Q (kids.drop 0); rw [Forest.drop_zero]; exact (unhide HQ _ _ _ _ _ _ _ hql).1⟩
          · rcases List.mem_cons.1 hx with rfl | hx
            · exact ⟨⟨Or.inr ⟨g, o, hq, hl⟩, hlc, hlt, hfl⟩, (unhide HQ _ _ _ _ _ _ _ hql).2⟩
            · exact unhide HOK x hx)
        have hnumb : (num : Int) + 1 ≤ 1000001 := by omega
        have hwst : IntKind.i64.wrap (st.length : Int) = (st.length : Int) := by rw [IntKind.wrap_i64]; omega
        have CC := hide (fun W hW => unhide HC acc _ k sp n ats tx kids _ g (o + l.nx * 6) (num : Int) l.par (l.nx : Int) (st.length : Int) W hW hld0 hql (unhide HT))
        have HALL := hide (unhide HJS acc wr _ hj ((StepL.of_below (((Below.refl wr.heap.size wr).drew).drew.drew))))
        have HB1 := hide hB1
        have HROW := hide hrow
        have f2 := cf (st.length * 3 + 2)
        have hltn : (l.nx : Int) < (l.F.len : Int) := by omega
        have hnf : ((l.nx : Int) == (l.F.len : Int)) = false := beq_eq_false_iff_ne.2 (by omega)
        have hnfN : (l.nx == l.F.len) = false := beq_eq_false_iff_ne.2 hend
        have HBB := hide hbb
        have hBK : Hid (∃ cur, wr.heap[b]? = some (Obj.cells cur 137 (0, 0))) := hide (owns_blockI' hrow)
        have L5 := hide l5
        rw [hq] at c0
        have HRL : Hid (∀ z : Int, rowL st ++ [.slice l.q l.F.len l.cap, .int .i64 l.par, .int .i64 z] = rowL st ++ [.slice l.q l.F.len l.cap, .int .i64 l.par, .int .i64 z]) := hide (fun _ => rfl)
        clear hset hpop htl hok hrow hj hB1 hl hlc hnx hd l5 hfk hck e1 e2 hcu cf hend hlt hflc hgk hc1 hc2 hld0 hql
        go_wp2
        go_region
        go_wp2
        go_region
        go_wp2
        go_region_with (go_at_call 63; refine Calls.mono (unhide CC _ (unhide HALL)) ?_; rintro e w2 ⟨rfl, hall2, hk2⟩; have HALL2 := hide hall2; have HK2 := hide hk2; clear hall2 hk2)
        all_goals (
          go_upto_region 8 with fail
          have HROW2 := hide ((unhide HK2).row (unhide HROW))
          obtain ⟨b', cap', eb, -, -, d0, d1, d2, df, -, hset⟩ := top_cells (unhide HROW2)
          cases eb
          have HSET := hide (hset ((l.nx : Int) + 1))
          obtain ⟨curb, hcurb⟩ := unhide hBK
          have hbb2 := unhide HBB
          have hcurb2 := (unhide HK2).2 b curb hcurb
          have HJ3 := hide (unhide HJS _ _ _ (unhide HALL2) (StepL.set (o := st.length * 3 + 2) (v := .int .i64 ((l.nx : Int) + 1)) hcurb2 hbb2))
          have k5 : w2.cell? ⟨g, o + l.nx * 6 + 5, none⟩ = some (.slice qk kids.len ck) := unhide HJV _ _ (unhide HALL2) _ _ _ (unhide L5)
          have g2 := df (st.length * 3 + 2)
          have k6 : (w2.setCell ⟨b, st.length * 3 + 2, none⟩ (.int .i64 ((l.nx : Int) + 1))).cell? ⟨g, o + l.nx * 6 + 5, none⟩ = some (.slice qk kids.len ck) := unhide HJV _ _ (unhide HJ3) _ _ _ (unhide L5)
          have hsz2 : w.heap.size ≤ w2.heap.size := Nat.le_trans (unhide HB1) (unhide HK2).1
          have hb2lt : b < w2.heap.size := World.block_lt_of_cell? w2 _ d0
          have HNX : Hid (rowL ({ l with nx := l.nx + 1 } :: st) = rowL st ++ [.slice l.q l.F.len l.cap, .int .i64 l.par, .int .i64 ((l.nx : Int) + 1)]) := hide rfl
          have HBL : Hid (∃ c4, (w2.setCell ⟨b, st.length * 3 + 2, none⟩ (.int .i64 ((l.nx : Int) + 1))).heap[b]? = some (Obj.cells c4 137 (0, 0))) := hide (owns_blockI' (unhide HSET))
          have hn1 : (l.nx : Int) + 1 ≤ 1000001 := by omega
          have hsl : (st.length : Int) + 1 ≤ 1000001 := by omega
          clear hset df c0 c1 c2 f2 CC HALL HROW d0 d1 hwst hltn hnf hnfN hfl hln k5 hcb hcbi hc hcap hcurb hcurb2 hbb2
          iterate 30 go_step
          go_wp2_with (at_builtin; refine wpList_append_own_at _ rfl _ _ 138 rfl w.heap.size 137 i0 (.agg #[.slice none 0 0, .int .i64 0, .int .i64 0]) 3 40 Tryd.underlying138 hi0 hi1 hi2 hi3 rfl (by decide) (.slice (some ⟨b, 0, none⟩) (st.length + 1) capb) _ _ rfl ((unhide HSET).alloc _) ⟨w2.heap.size, 0, none⟩ 1 1 [.slice qk kids.len ck, .int .i64 (num : Int), .int .i64 0] rfl rfl (by have := three_new (w2.setCell ⟨b, st.length * 3 + 2, none⟩ (.int .i64 ((l.nx : Int) + 1))) (.slice qk kids.len ck) (.int .i64 (num : Int)) (.int .i64 0) 137; simpa using this) (by simp [Value.oneCell']) (by simp only [maxLen]; omega) (by omega) (by simp; omega) ?_; intro v' w3 hown hgr _ _; obtain ⟨yq, yn, yc, rfl⟩ := slice_of hown)
          have HO := hide hown
          have HGR := hide hgr
          have hz3 : w2.heap.size ≤ w3.heap.size := by have := hgr.size; simp at this; omega
          have hob : ∀ j, some j = (Value.slice (some (⟨b, 0, none⟩ : Addr)) (st.length + 1) capb).ownBlock → j = b := fun j hj => by simp [Value.ownBlock] at hj; exact hj
          clear hown hgr
          go_wp2
          go_roundg (2 * cntL (⟨kids, qk, ck, (num : Int), 0⟩ :: { l with nx := l.nx + 1 } :: st) + (st.length + 2))
          case measure => exact (unhide HC').1
          case rel =>
            refine ⟨num + 1, by go_num, _, _, (unhide HC').2.1, (unhide HC').2.2, rfl, unhide HOK2, unhide HO, unhide HT, ?_, by omega⟩
            refine unhide HJS _ _ _ (unhide HJ3) ?_
            have hbl := ((Below.refl (w2.setCell ⟨b, st.length * 3 + 2, none⟩ (.int .i64 ((l.nx : Int) + 1))).heap.size (w2.setCell ⟨b, st.length * 3 + 2, none⟩ (.int .i64 ((l.nx : Int) + 1)))).alloc (Nat.le_refl _) (Obj.cells #[.slice qk kids.len ck, .int .i64 (num : Int), .int .i64 0] 137))
            have hG := unhide HGR
            refine ⟨hG.os.trans hbl.os, hG.tape.trans hbl.tape, hG.output.trans hbl.output, by simp; omega, fun i hi hnot => ?_⟩
            rw [hG.block i (by simp at hi ⊢; omega) (fun e => ?_)]
            · exact hbl.block i hi
            · have e' := hob i e
              subst e'
              obtain ⟨c4, hc4⟩ := unhide HBL
              exact hnot (unhide HBB) c4 _ hc4)
end Go.Proofs.YtbabmkilbbbmoaaDoor
