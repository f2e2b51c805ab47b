/-
  Several texts in one: what the functions of the program and of the document's answer do.
-/
import Derived.Test.YtbabmkilbbbmoaaDoorMgAM
import Derived.Test.YtbabmkilbbbmoaaDoorMgAB
import Derived.Deep.SlicePairs
import Derived.Deep.Strs
import Derived.Carry
import Derived.OpenShut

/-
  Nodes as plain data (a list of nodes: a forest), and how they lie in memory.
-/
namespace Go.Proofs.YtbabmkilbbbmoaaDoor
open Go.RowKit
set_option linter.unusedVariables false

/-- A list of nodes: the first one's kind, space, name, attributes, text and kids, and the others. -/
inductive Forest where
  | nil : Forest
  | cons (k sp : Int) (n : ByteArray) (ats : List (ByteArray × ByteArray)) (tx : ByteArray) (kids rest : Forest) : Forest
def Forest.len : Forest → Nat
  | .nil => 0
  | .cons _ _ _ _ _ _ r => r.len + 1
def Forest.count : Forest → Nat
  | .nil => 0
  | .cons _ _ _ _ _ kids r => 1 + kids.count + r.count
def Forest.drop : Nat → Forest → Forest
  | 0, f => f
  | _ + 1, .nil => .nil
  | j + 1, .cons _ _ _ _ _ _ r => r.drop j
theorem Forest.drop_zero (f : Forest) : f.drop 0 = f := by cases f <;> rfl
theorem Forest.drop_nil (j : Nat) : Forest.drop j .nil = .nil := by cases j <;> rfl
theorem Forest.drop_len : ∀ (j : Nat) (f : Forest), (f.drop j).len = f.len - j
  | 0, f => by rw [Forest.drop_zero]; rfl
  | j + 1, .nil => by rw [Forest.drop_nil]; simp [Forest.len]
  | j + 1, .cons _ _ _ _ _ _ r => by
    show (r.drop j).len = r.len + 1 - (j + 1)
    rw [Forest.drop_len j r]; omega
theorem Forest.drop_cons : ∀ (j : Nat) (f : Forest), j < f.len → ∃ k sp n ats tx kids, f.drop j = .cons k sp n ats tx kids (f.drop (j + 1))
  | j, .nil, h => by simp [Forest.len] at h
  | 0, .cons k sp n ats tx kids r, h => ⟨k, sp, n, ats, tx, kids, by show Forest.cons k sp n ats tx kids r = _; rw [show Forest.drop (0 + 1) (.cons k sp n ats tx kids r) = r.drop 0 from rfl, Forest.drop_zero]⟩
  | j + 1, .cons k sp n ats tx kids r, h => Forest.drop_cons j r (by simp [Forest.len] at h; omega)
theorem Forest.drop_out (j : Nat) (f : Forest) (h : f.len ≤ j) : f.drop j = .nil := by
  have := Forest.drop_len j f
  cases e : f.drop j with
  | nil => rfl
  | cons _ _ _ _ _ _ r => rw [e] at this; simp [Forest.len] at this; omega
theorem Forest.count_drop : ∀ (j : Nat) (f : Forest), (f.drop j).count ≤ f.count
  | 0, f => by rw [Forest.drop_zero]; exact Nat.le_refl _
  | j + 1, .nil => by rw [Forest.drop_nil]; exact Nat.le_refl _
  | j + 1, .cons _ _ _ _ _ _ r => by
    have := Forest.count_drop j r
    show (r.drop j).count ≤ _
    simp [Forest.count]; omega
theorem Forest.len_count : ∀ (f : Forest), f.len ≤ f.count
  | .nil => Nat.le_refl _
  | .cons _ _ _ _ _ kids r => by have := Forest.len_count r; simp [Forest.len, Forest.count]; omega

/-- Nodes lie in a block from a place on, six cells each, with all that is below them. -/
def Lies : Forest → Nat → Nat → World → Prop
  | .nil, _, _, _ => True
  | .cons k sp n ats tx kids rest, g, o, w =>
    (w.cell? ⟨g, o, none⟩ = some (.int .i64 k) ∧ w.cell? ⟨g, o + 1, none⟩ = some (.int .i64 sp) ∧ w.cell? ⟨g, o + 2, none⟩ = some (.string n) ∧
      (∃ qa ca, w.cell? ⟨g, o + 3, none⟩ = some (.slice qa ats.length ca) ∧ Sl qa ats w) ∧ w.cell? ⟨g, o + 4, none⟩ = some (.string tx) ∧
      ∃ qk ck, w.cell? ⟨g, o + 5, none⟩ = some (.slice qk kids.len ck) ∧ kids.len ≤ ck ∧ (kids = .nil ∨ ∃ g' o', qk = some ⟨g', o', none⟩ ∧ Lies kids g' o' w)) ∧
    Lies rest g (o + 6) w
/-- Nodes behind a slice, or none at all. -/
def Fo (q : Option Addr) (f : Forest) (w : World) : Prop := f = .nil ∨ ∃ g o, q = some ⟨g, o, none⟩ ∧ Lies f g o w
theorem Lies.below {w w' : World} (hb : Below w.heap.size w w') : ∀ (f : Forest) (g o : Nat), Lies f g o w → Lies f g o w'
  | .nil, g, o, h => trivial
  | .cons k sp n ats tx kids rest, g, o, h => by
    obtain ⟨⟨h0, h1, h2, ⟨qa, ca, h3, h3'⟩, h4, ⟨qk, ck, h5, h6, h7⟩⟩, hr⟩ := h
    refine ⟨⟨cell_later hb h0, cell_later hb h1, cell_later hb h2, ⟨qa, ca, cell_later hb h3, h3'.below hb⟩, cell_later hb h4, ⟨qk, ck, cell_later hb h5, h6, ?_⟩⟩, Lies.below hb rest g (o + 6) hr⟩
    rcases h7 with h7 | ⟨g', o', hq, hl⟩
    · exact Or.inl h7
    · exact Or.inr ⟨g', o', hq, Lies.below hb kids g' o' hl⟩
theorem Fo.below {w w' : World} {q : Option Addr} {f : Forest} (h : Fo q f w) (hb : Below w.heap.size w w') : Fo q f w' :=
  h.imp id fun ⟨g, o, h1, h2⟩ => ⟨g, o, h1, h2.below hb⟩
theorem Lies.drop {w : World} {g : Nat} : ∀ (j : Nat) (f : Forest) (o : Nat), Lies f g o w → Lies (f.drop j) g (o + j * 6) w
  | 0, f, o, h => by rw [Forest.drop_zero]; simpa using h
  | j + 1, .nil, o, h => by rw [Forest.drop_nil]; trivial
  | j + 1, .cons _ _ _ _ _ _ r, o, h => by
    have := Lies.drop j r (o + 6) h.2
    show Lies (r.drop j) g _ w
    rw [show o + (j + 1) * 6 = o + 6 + j * 6 by omega]; exact this

/-! ### the reference's Count -/
set_option maxHeartbeats 2000000 in
theorem rcount_none (q : Option Addr) (cap : Nat) (w : World) : Calls Tryd.prog 21 #[.slice q 0 cap] w fun e w' => e = .returned (.int .i64 0) ∧ Below w.heap.size w w' := by
  go_enter Tryd.func21, Tryd.ntmps21
  go_wp2
  refine wp_loop_rounds 1 ?_
  rw [rounds_succ]; go_wp2
  go_ret
  exact ⟨rfl, Below.refl _ _⟩
set_option maxHeartbeats 4000000 in
theorem rcount_some (f : Forest) (g o cap : Nat) (w : World) (hl : Lies f g o w) (hc : f.count ≤ 1000000)
    (ih : ∀ j k sp n ats tx kids, f.drop j = .cons k sp n ats tx kids (f.drop (j + 1)) → ∀ q cap w, Fo q kids w → Calls Tryd.prog 21 #[.slice q kids.len cap] w fun e w' => e = .returned (.int .i64 (kids.count : Nat)) ∧ Below w.heap.size w w') :
    Calls Tryd.prog 21 #[.slice (some ⟨g, o, none⟩) f.len cap] w fun e w' => e = .returned (.int .i64 (f.count : Nat)) ∧ Below w.heap.size w w' := by
  have HL := hide hl
  have IH := hide ih
  have hlc := f.len_count
  clear hl ih
  go_enter Tryd.func21, Tryd.ntmps21
  go_wp2
  go_loopw [3, 8] (fun a b wr => ∃ j c : Nat, j ≤ f.len ∧ b = .int .i64 j ∧ a = .int .i64 c ∧ c + (f.drop j).count = f.count ∧ Below w.heap.size w wr) (fun _ b _ => f.len - (intOf b).toNat)
  case atStart => exact ⟨0, 0, Nat.zero_le _, rfl, rfl, by rw [Forest.drop_zero]; omega, Below.refl _ _⟩
  case round =>
    obtain ⟨j, c, hj, rfl, rfl, hsum, hbw⟩ := hrel
    by_cases hp : j < f.len
    · have hpi : (j : Int) < (f.len : Int) := by omega
      obtain ⟨k, sp, n, ats, tx, kids, hd⟩ := f.drop_cons j hp
      have hlj := (unhide HL).drop j
      have hlw := hlj.below hbw
      rw [hd] at hlw hsum
      obtain ⟨⟨c0, c1, c2, ⟨qa, ca, c3, hsl⟩, c4, ⟨qk, ck, c5, hck, hfo⟩⟩, _⟩ := hlw
      have hsum' : c + (1 + kids.count + (f.drop (j + 1)).count) = f.count := hsum
      have CK := hide (fun w h => unhide IH j k sp n ats tx kids hd qk ck w h)
      have hbA := (Below.refl wr.heap.size wr).alloc (Nat.le_refl _) (Obj.cells #[.int .i64 k, .int .i64 sp, .string n, .slice qa ats.length ca, .string tx, .slice qk kids.len ck] 44)
      have HF := hide ((show Fo qk kids wr from hfo).below hbA)
      have HB := hide (tr2 hbw hbA)
      generalize kids.len = kl at *
      generalize kids.count = kc at *
      have HS := hide hsum'
      have b1 : (c : Int) + 1 ≤ 1000000 := by omega
      have b2 : (c : Int) + 1 + (kc : Int) ≤ 1000000 := by omega
      clear hlj hsl hfo hd hsum hsum' hbA hbw
      go_wp2_with fail
      refine (unhide CK _ (unhide HF)).mono ?_
      rintro e w1 ⟨rfl, hb1⟩
      have HB1 := hide (tr2 (unhide HB) hb1)
      clear hb1 HF
      go_wp2
      go_roundw
      case rel => exact ⟨j + 1, c + 1 + kc, by omega, by go_num, by first | rfl | (congr 1) | skip, by have := unhide HS; omega, unhide HB1⟩
      case measure => simp [intOf]; omega
    · have hpi : ¬ (j : Int) < (f.len : Int) := by omega
      rw [f.drop_out j (by omega)] at hsum
      have HS : Hid (c = f.count) := hide hsum
      clear hp hsum
      go_wp2
      go_ret
      exact ⟨by rw [← unhide HS]; rfl, hbw⟩
theorem rcount_any : ∀ (m : Nat) (f : Forest), f.count ≤ m → m ≤ 1000000 → ∀ (q : Option Addr) (cap : Nat) (w : World), Fo q f w → Calls Tryd.prog 21 #[.slice q f.len cap] w fun e w' => e = .returned (.int .i64 (f.count : Nat)) ∧ Below w.heap.size w w'
  | m, f, hm, hM, q, cap, w, h => by
    rcases h with rfl | ⟨g, o, rfl, hl⟩
    · exact rcount_none q cap w
    · refine rcount_some f g o cap w hl (by omega) (fun j k sp n ats tx kids hd q cap w hf => ?_)
      have h1 : (f.drop j).count ≤ f.count := f.count_drop j
      rw [hd] at h1
      have h2 : 1 + kids.count + (f.drop (j + 1)).count ≤ f.count := h1
      match m, hm with
      | 0, hm => omega
      | m + 1, hm => exact rcount_any m kids (by omega) (by omega) q cap w hf
end Go.Proofs.YtbabmkilbbbmoaaDoor

/-
  An argument of type []api.Node opened: the nodes behind it, with all that is below them.
-/
namespace Go.Proofs.YtbabmkilbbbmoaaDoor
open Go.RowKit Go.Deep Go.WideShapes Go.ChangeShapes
set_option linter.unusedVariables false
set_option linter.unusedSimpArgs false

theorem fattr_cells : Tryd.prog.cellsOf 112 = 2 := by kernel_rfl
theorem fstr_cells : Tryd.prog.cellsOf 9 = 1 := by kernel_rfl
theorem fint_cells : Tryd.prog.cellsOf 3 = 1 := by kernel_rfl
theorem fattrs_cells : Tryd.prog.cellsOf 42 = 1 := by kernel_rfl
theorem fnodes_cells : Tryd.prog.cellsOf 22 = 1 := by kernel_rfl
theorem fnode_cells : Tryd.prog.cellsOf 44 = 6 := by kernel_rfl
theorem fadd_addr (a : Addr) (x y : Nat) : (a.add x).add y = a.add (x + y) := by
  unfold Addr.add
  by_cases h1 : x = 0
  · subst h1; simp
  · by_cases h2 : y = 0
    · subst h2; simp [h1]
    · simp [h1, h2, Nat.add_assoc]
def fstrOf : Value → ByteArray
  | .string s => s
  | _ => ByteArray.empty
def fmkAts (V0 V1 : Nat → Value) (len : Nat) : List (ByteArray × ByteArray) := (List.range len).map fun i => (fstrOf (V0 i), fstrOf (V1 i))
theorem fmkAts_len (V0 V1 : Nat → Value) (len : Nat) : (fmkAts V0 V1 len).length = len := by simp [fmkAts]
theorem fmkAts_an {V0 V1 : Nat → Value} {len k : Nat} (h : k < len) : an (fmkAts V0 V1 len) k = fstrOf (V0 k) := by simp [an, fmkAts, List.getD, h]
theorem fmkAts_av {V0 V1 : Nat → Value} {len k : Nat} (h : k < len) : av (fmkAts V0 V1 len) k = fstrOf (V1 k) := by simp [av, fmkAts, List.getD, h]
theorem open_fattrs {H : Type} {enc : TypeId × Value → H} {W : World} {fuel : Nat} {v : Value} {x : DataW H × List MemPlace}
    (h : DataW.trod enc Tryd.prog W 0 (fun _ => true) true fuel 42 [v] = some x) :
    ∃ (ats : List (ByteArray × ByteArray)) (q : Option Addr) (c : Nat), v = .slice q ats.length c ∧ Sl q ats W := by
  rcases open_slice_pairs Tryd.underlying42 Tryd.underlying112 fattr_cells rfl rfl fstr_cells fstr_cells h with ⟨hc, hx⟩ | ⟨a, len, cap, m, k, V0, V1, D0, D1, P0, P1, hc, _, hl, hm, hmm, hx, hall⟩
  · simp only [List.cons.injEq, and_true] at hc
    exact ⟨[], none, 0, hc, Or.inl rfl⟩
  · simp only [List.cons.injEq, and_true] at hc
    simp only [if_true] at hmm
    subst hmm
    have hs0 : ∀ i, i < m → V0 i = .string (fstrOf (V0 i)) := fun i hi => by
      obtain ⟨s, h1, h2, h3⟩ := DataW.trod_string Tryd.underlying9 (hall i hi).2.2.1
      simp only [List.cons.injEq, and_true] at h1
      rw [h1]; rfl
    have hs1 : ∀ i, i < m → V1 i = .string (fstrOf (V1 i)) := fun i hi => by
      obtain ⟨s, h1, h2, h3⟩ := DataW.trod_string Tryd.underlying9 (hall i hi).2.2.2
      simp only [List.cons.injEq, and_true] at h1
      rw [h1]; rfl
    refine ⟨fmkAts V0 V1 len, some a, m, by rw [fmkAts_len]; exact hc, ?_⟩
    by_cases h0 : len = 0
    · subst h0; exact Or.inl rfl
    · obtain ⟨sb, so, spot⟩ := a
      have hspot : spot = none := by simpa [Addr.add] using World.cell?_spot (hall 0 (by omega)).1
      subst hspot
      refine Or.inr ⟨sb, so, rfl, fun k hk => ?_⟩
      rw [fmkAts_len] at hk
      rw [fmkAts_an hk, fmkAts_av hk]
      have e0 := (hall k (by omega)).1
      have e1 := (hall k (by omega)).2.1
      rw [hs0 k (by omega)] at e0
      rw [hs1 k (by omega)] at e1
      rw [Addr.add_lit] at e0 e1
      exact ⟨e0, by rw [Nat.add_assoc]; exact e1⟩
/-- One node at a place. -/
def NodeAt (g o : Nat) (w : World) : Prop := ∃ k sp n ats tx kids,
  w.cell? ⟨g, o, none⟩ = some (.int .i64 k) ∧ w.cell? ⟨g, o + 1, none⟩ = some (.int .i64 sp) ∧ w.cell? ⟨g, o + 2, none⟩ = some (.string n) ∧
      (∃ qa ca, w.cell? ⟨g, o + 3, none⟩ = some (.slice qa (ats : List (ByteArray × ByteArray)).length ca) ∧ Sl qa ats w) ∧ w.cell? ⟨g, o + 4, none⟩ = some (.string tx) ∧
      ∃ qk ck, w.cell? ⟨g, o + 5, none⟩ = some (.slice qk (kids : Forest).len ck) ∧ kids.len ≤ ck ∧ (kids = .nil ∨ ∃ g' o', qk = some ⟨g', o', none⟩ ∧ Lies kids g' o' w)
theorem forest_of {g : Nat} {w : World} : ∀ (len o : Nat), (∀ i, i < len → NodeAt g (o + i * 6) w) → ∃ f : Forest, f.len = len ∧ Lies f g o w
  | 0, o, h => ⟨.nil, rfl, trivial⟩
  | len + 1, o, h => by
    obtain ⟨k, sp, n, ats, tx, kids, hn⟩ := h 0 (by omega)
    obtain ⟨f, hf, hl⟩ := forest_of len (o + 6) (fun i hi => by have := h (i + 1) (by omega); rw [show o + (i + 1) * 6 = o + 6 + i * 6 by omega] at this; exact this)
    rw [Nat.zero_mul, Nat.add_zero] at hn
    exact ⟨.cons k sp n ats tx kids f, by simp [Forest.len, hf], hn, hl⟩
theorem size_mem {H : Type} {d : DataW H} {l : List (DataW H)} (h : d ∈ l) : SizeOf.sizeOf d < SizeOf.sizeOf l := List.sizeOf_lt_of_mem h
set_option maxRecDepth 100000 in
theorem open_forest {H : Type} {enc : TypeId × Value → H} {W : World} : ∀ (sz : Nat) (fuel : Nat) (v : Value) (d : DataW H) (ps : List MemPlace), SizeOf.sizeOf d ≤ sz →
    DataW.trod enc Tryd.prog W 0 (fun _ => true) true fuel 22 [v] = some (d, ps) → ∃ (f : Forest) (q : Option Addr) (cap : Nat), v = .slice q f.len cap ∧ f.len ≤ cap ∧ Fo q f W
  | 0, fuel, v, d, ps, hs, h => by cases d <;> simp at hs
  | sz + 1, fuel, v, d, ps, hs, h => by
    rcases open_slice Tryd.underlying22 h with ⟨hc, hx⟩ | ⟨a, len, cap, m, k, D, Pl, hc, _, hl, hm, hmm, hx, hall⟩
    · simp only [List.cons.injEq, and_true] at hc
      exact ⟨.nil, none, 0, hc, Nat.le_refl _, Or.inl rfl⟩
    · simp only [List.cons.injEq, and_true] at hc
      simp only [if_true] at hmm
      subst hmm
      have hd : d = .slice ((List.range len).map D) ((List.range (m - len)).map fun j => D (len + j)) := congrArg Prod.fst hx
      have hsz : ∀ i, i < len → SizeOf.sizeOf (D i) < SizeOf.sizeOf d := fun i hi => by
        have h1 : D i ∈ (List.range len).map D := List.mem_map.2 ⟨i, List.mem_range.2 hi, rfl⟩
        have h2 := size_mem h1
        rw [hd]
        simp only [DataW.slice.sizeOf_spec]
        omega
      by_cases h0 : len = 0
      · subst h0
        exact ⟨.nil, some a, m, hc, Nat.zero_le _, Or.inl rfl⟩
      have each : ∀ i, i < len → ∃ cs', (∀ j, j < 6 → W.cell? (a.add (i * 6 + j)) = cs'[j]?) ∧ DataW.trod enc Tryd.prog W 0 (fun _ => true) true k 44 cs' = some (D i, Pl i) := fun i hi => by
        obtain ⟨cs', h1, h2⟩ := hall i (by omega)
        rw [fnode_cells] at h1
        obtain ⟨_, hlen, hcell⟩ := World.cells?_some h1
        exact ⟨cs', fun j hj => by have := hcell j hj; rw [fadd_addr] at this; exact this, h2⟩
      obtain ⟨b, o, spot⟩ := a
      have hspot : spot = none := by
        obtain ⟨cs', h1, h2⟩ := each 0 (by omega)
        obtain ⟨xs, k', _, _, hl', _, _⟩ := DataW.trod_struct Tryd.underlying44 h2
        rw [fnode_cells] at hl'
        have h3 := h1 0 (by omega)
        rw [List.getElem?_eq_getElem (by omega)] at h3
        simpa [Addr.add] using World.cell?_spot h3
      subst hspot
      have hnode : ∀ i, i < len → NodeAt b (o + i * 6) W := fun i hi => by
        obtain ⟨cs', h1, h2⟩ := each i hi
        have hszi := hsz i hi
        generalize D i = di at *
        generalize Pl i = pi at *
        obtain ⟨xs, k', _, hxe, hl', hxl, hf⟩ := DataW.trod_struct Tryd.underlying44 h2
        rw [fnode_cells] at hl'
        match cs', hl', xs, hxl with
        | [c0, c1, c2, c3, c4, c5], _, [y0, y1, y2, y3, y4, y5], _ =>
          have g0 := hf 0 _ rfl
          have g1 := hf 1 _ rfl
          have g2 := hf 2 _ rfl
          have g3 := hf 3 _ rfl
          have g4 := hf 4 _ rfl
          have g5 := hf 5 _ rfl
          simp [fint_cells, fstr_cells, fattrs_cells, fnodes_cells] at g0 g1 g2 g3 g4 g5
          obtain ⟨ki, e0', _⟩ := DataW.trod_int Tryd.underlying3 g0
          obtain ⟨spi, e1', _⟩ := DataW.trod_int Tryd.underlying3 g1
          obtain ⟨ni, e2', _⟩ := DataW.trod_string Tryd.underlying9 g2
          obtain ⟨ats, qa, ca, e3', hsl⟩ := open_fattrs g3
          obtain ⟨ti, e4', _⟩ := DataW.trod_string Tryd.underlying9 g4
          obtain ⟨y5d, y5p⟩ := y5
          have hdi : di = .agg [y0.1, y1.1, y2.1, y3.1, y4.1, y5d] := by have := congrArg Prod.fst hxe; simpa using this
          have hs5 : SizeOf.sizeOf y5d ≤ sz := by
            rw [hdi] at hszi
            simp only [DataW.agg.sizeOf_spec, List.cons.sizeOf_spec] at hszi
            omega
          obtain ⟨kf, qk, ck, e5', hck, hkf⟩ := open_forest sz k' c5 y5d y5p hs5 g5
          simp at e0' e1' e2' e4'
          have z := fun j hj => h1 j hj
          have z0 := z 0 (by omega)
          have z1 := z 1 (by omega)
          have z2 := z 2 (by omega)
          have z3 := z 3 (by omega)
          have z4 := z 4 (by omega)
          have z5 := z 5 (by omega)
          rw [Addr.add_lit] at z0 z1 z2 z3 z4 z5
          simp only [List.getElem?_cons_zero, List.getElem?_cons_succ] at z0 z1 z2 z3 z4 z5
          refine ⟨ki, spi, ni, ats, ti, kf, ?_, ?_, ?_, ⟨qa, ca, ?_, hsl⟩, ?_, qk, ck, ?_, hck, hkf⟩
          · rw [← e0']; exact z0
          · rw [Nat.add_assoc, ← e1']; exact z1
          · rw [Nat.add_assoc, ← e2']; exact z2
          · rw [Nat.add_assoc, ← e3']; exact z3
          · rw [Nat.add_assoc, ← e4']; exact z4
          · rw [Nat.add_assoc, ← e5']; exact z5
      obtain ⟨f, hf, hlf⟩ := forest_of len o hnode
      exact ⟨f, some ⟨b, o, none⟩, m, by rw [hf]; exact hc, by omega, Or.inr ⟨b, o, rfl, hlf⟩⟩
theorem open_nodes {H : Type} {enc : TypeId × Value → H} {W : World} {qa : Option Addr} {len cap : Nat} {d : DataW H} {ps : List MemPlace}
    (h : DataW.Trod enc Tryd.prog W 0 (fun _ => true) true 22 (.slice qa len cap) d ps) : ∃ f : Forest, f.len = len ∧ len ≤ cap ∧ Fo qa f W := by
  obtain ⟨n, t0⟩ := h
  have t1 : DataW.trod enc Tryd.prog W 0 (fun _ => true) true n 22 [.slice qa len cap] = some (d, ps) := by simpa [Value.cells] using t0
  obtain ⟨f, q, c, e, hc, hf⟩ := open_forest _ n _ d ps (Nat.le_refl _) t1
  injection e with e1 e2 e3
  subst e1 e2 e3
  exact ⟨f, rfl, hc, hf⟩
end Go.Proofs.YtbabmkilbbbmoaaDoor

/-
  An argument of type api.Node opened.
-/
namespace Go.Proofs.YtbabmkilbbbmoaaDoor
open Go.RowKit Go.Deep Go.WideShapes Go.ChangeShapes
set_option linter.unusedVariables false
set_option linter.unusedSimpArgs false

/-- A node as it is handed over. -/
structure NdA where
  k : Int
  sp : Int
  n : ByteArray
  ats : List (ByteArray × ByteArray)
  tx : ByteArray
  kids : Forest
  qa : Option Addr
  ca : Nat
  qk : Option Addr
  ck : Nat
def NdA.cells (x : NdA) : Array Value := #[.int .i64 x.k, .int .i64 x.sp, .string x.n, .slice x.qa x.ats.length x.ca, .string x.tx, .slice x.qk x.kids.len x.ck]
def NdA.Ok (x : NdA) (W : World) : Prop := Sl x.qa x.ats W ∧ x.kids.len ≤ x.ck ∧ Fo x.qk x.kids W
set_option maxRecDepth 100000 in
theorem open_node {H : Type} {enc : TypeId × Value → H} {W : World} {base : Nat} {v : Value} {d : DataW H} {ps : List MemPlace} (hv : Value.okWide Tryd.prog W .any base 44 v)
    (h : DataW.Trod enc Tryd.prog W 0 (fun _ => true) true 44 v d ps) : ∃ x : NdA, v = .agg x.cells ∧ x.Ok W := by
  obtain ⟨cs, rfl, _⟩ := okWide_struct Tryd.underlying44 hv
  obtain ⟨n, t0⟩ := h
  have t1 : DataW.trod enc Tryd.prog W 0 (fun _ => true) true n 44 cs.toList = some (d, ps) := by simpa [Value.cells] using t0
  obtain ⟨cs⟩ := cs
  simp only at t1
  obtain ⟨xs, k', _, hxe, hl', hxl, hf⟩ := DataW.trod_struct Tryd.underlying44 t1
  rw [fnode_cells] at hl'
  match cs, hl', xs, hxl with
  | [c0, c1, c2, c3, c4, c5], _, [y0, y1, y2, y3, y4, y5], _ =>
    have g0 := hf 0 _ rfl
    have g1 := hf 1 _ rfl
    have g2 := hf 2 _ rfl
    have g3 := hf 3 _ rfl
    have g4 := hf 4 _ rfl
    have g5 := hf 5 _ rfl
    simp [fint_cells, fstr_cells, fattrs_cells, fnodes_cells] at g0 g1 g2 g3 g4 g5
    obtain ⟨ki, e0', _⟩ := DataW.trod_int Tryd.underlying3 g0
    obtain ⟨spi, e1', _⟩ := DataW.trod_int Tryd.underlying3 g1
    obtain ⟨ni, e2', _⟩ := DataW.trod_string Tryd.underlying9 g2
    obtain ⟨ats, qa, ca, e3', hsl⟩ := open_fattrs g3
    obtain ⟨ti, e4', _⟩ := DataW.trod_string Tryd.underlying9 g4
    obtain ⟨y5d, y5p⟩ := y5
    obtain ⟨kf, qk, ck, e5', hck, hkf⟩ := open_forest _ k' c5 y5d y5p (Nat.le_refl _) g5
    simp at e0' e1' e2' e4'
    refine ⟨⟨ki, spi, ni, ats, ti, kf, qa, ca, qk, ck⟩, ?_, hsl, hck, hkf⟩
    unfold NdA.cells
    rw [e0', e1', e2', e3', e4', e5']
end Go.Proofs.YtbabmkilbbbmoaaDoor

/-
  A node opened, with the ranges of the Kinds and Spaces of all that is below it (made by mk_ofr.py).
-/
namespace Go.Proofs.YtbabmkilbbbmoaaDoor
open Go.RowKit Go.Deep Go.WideShapes Go.ChangeShapes
set_option linter.unusedVariables false
set_option linter.unusedSimpArgs false

def I64 (z : Int) : Prop := -9223372036854775808 ≤ z ∧ z ≤ 9223372036854775807
/-- Kinds and Spaces that a program can have. -/
def RngF : Forest → Prop
  | .nil => True
  | .cons k sp n ats tx kids rest => (I64 k ∧ I64 sp ∧ RngF kids) ∧ RngF rest
/-- One node at a place. -/
def NodeAtR (g o : Nat) (w : World) : Prop := ∃ k sp n ats tx kids, (I64 k ∧ I64 sp ∧ RngF (kids : Forest)) ∧
  w.cell? ⟨g, o, none⟩ = some (.int .i64 k) ∧ w.cell? ⟨g, o + 1, none⟩ = some (.int .i64 sp) ∧ w.cell? ⟨g, o + 2, none⟩ = some (.string n) ∧
      (∃ qa ca, w.cell? ⟨g, o + 3, none⟩ = some (.slice qa (ats : List (ByteArray × ByteArray)).length ca) ∧ Sl qa ats w) ∧ w.cell? ⟨g, o + 4, none⟩ = some (.string tx) ∧
      ∃ qk ck, w.cell? ⟨g, o + 5, none⟩ = some (.slice qk (kids : Forest).len ck) ∧ kids.len ≤ ck ∧ (kids = .nil ∨ ∃ g' o', qk = some ⟨g', o', none⟩ ∧ Lies kids g' o' w)
theorem forest_ofR {g : Nat} {w : World} : ∀ (len o : Nat), (∀ i, i < len → NodeAtR g (o + i * 6) w) → ∃ f : Forest, f.len = len ∧ Lies f g o w ∧ RngF f
  | 0, o, h => ⟨.nil, rfl, trivial, trivial⟩
  | len + 1, o, h => by
    obtain ⟨k, sp, n, ats, tx, kids, hr, hn⟩ := h 0 (by omega)
    obtain ⟨f, hf, hl, hrf⟩ := forest_ofR len (o + 6) (fun i hi => by have := h (i + 1) (by omega); rw [show o + (i + 1) * 6 = o + 6 + i * 6 by omega] at this; exact this)
    rw [Nat.zero_mul, Nat.add_zero] at hn
    exact ⟨.cons k sp n ats tx kids f, by simp [Forest.len, hf], ⟨hn, hl⟩, hr, hrf⟩
set_option maxRecDepth 100000 in
theorem open_forestR {H : Type} {enc : TypeId × Value → H} {W : World} : ∀ (sz : Nat) (fuel : Nat) (v : Value) (d : DataW H) (ps : List MemPlace), SizeOf.sizeOf d ≤ sz →
    DataW.trod enc Tryd.prog W 0 (fun _ => true) true fuel 22 [v] = some (d, ps) → ∃ (f : Forest) (q : Option Addr) (cap : Nat), v = .slice q f.len cap ∧ f.len ≤ cap ∧ Fo q f W ∧ RngF f
  | 0, fuel, v, d, ps, hs, h => by cases d <;> simp at hs
  | sz + 1, fuel, v, d, ps, hs, h => by
    rcases open_slice Tryd.underlying22 h with ⟨hc, hx⟩ | ⟨a, len, cap, m, k, D, Pl, hc, _, hl, hm, hmm, hx, hall⟩
    · simp only [List.cons.injEq, and_true] at hc
      exact ⟨.nil, none, 0, hc, Nat.le_refl _, Or.inl rfl, trivial⟩
    · simp only [List.cons.injEq, and_true] at hc
      simp only [if_true] at hmm
      subst hmm
      have hd : d = .slice ((List.range len).map D) ((List.range (m - len)).map fun j => D (len + j)) := congrArg Prod.fst hx
      have hsz : ∀ i, i < len → SizeOf.sizeOf (D i) < SizeOf.sizeOf d := fun i hi => by
        have h1 : D i ∈ (List.range len).map D := List.mem_map.2 ⟨i, List.mem_range.2 hi, rfl⟩
        have h2 := size_mem h1
        rw [hd]
        simp only [DataW.slice.sizeOf_spec]
        omega
      by_cases h0 : len = 0
      · subst h0
        exact ⟨.nil, some a, m, hc, Nat.zero_le _, Or.inl rfl, trivial⟩
      have each : ∀ i, i < len → ∃ cs', (∀ j, j < 6 → W.cell? (a.add (i * 6 + j)) = cs'[j]?) ∧ DataW.trod enc Tryd.prog W 0 (fun _ => true) true k 44 cs' = some (D i, Pl i) := fun i hi => by
        obtain ⟨cs', h1, h2⟩ := hall i (by omega)
        rw [fnode_cells] at h1
        obtain ⟨_, hlen, hcell⟩ := World.cells?_some h1
        exact ⟨cs', fun j hj => by have := hcell j hj; rw [fadd_addr] at this; exact this, h2⟩
      obtain ⟨b, o, spot⟩ := a
      have hspot : spot = none := by
        obtain ⟨cs', h1, h2⟩ := each 0 (by omega)
        obtain ⟨xs, k', _, _, hl', _, _⟩ := DataW.trod_struct Tryd.underlying44 h2
        rw [fnode_cells] at hl'
        have h3 := h1 0 (by omega)
        rw [List.getElem?_eq_getElem (by omega)] at h3
        simpa [Addr.add] using World.cell?_spot h3
      subst hspot
      have hnode : ∀ i, i < len → NodeAtR b (o + i * 6) W := fun i hi => by
        obtain ⟨cs', h1, h2⟩ := each i hi
        have hszi := hsz i hi
        generalize D i = di at *
        generalize Pl i = pi at *
        obtain ⟨xs, k', _, hxe, hl', hxl, hf⟩ := DataW.trod_struct Tryd.underlying44 h2
        rw [fnode_cells] at hl'
        match cs', hl', xs, hxl with
        | [c0, c1, c2, c3, c4, c5], _, [y0, y1, y2, y3, y4, y5], _ =>
          have g0 := hf 0 _ rfl
          have g1 := hf 1 _ rfl
          have g2 := hf 2 _ rfl
          have g3 := hf 3 _ rfl
          have g4 := hf 4 _ rfl
          have g5 := hf 5 _ rfl
          simp [fint_cells, fstr_cells, fattrs_cells, fnodes_cells] at g0 g1 g2 g3 g4 g5
          obtain ⟨ki, e0', w0'⟩ := DataW.trod_int Tryd.underlying3 g0
          obtain ⟨spi, e1', w1'⟩ := DataW.trod_int Tryd.underlying3 g1
          obtain ⟨ni, e2', _⟩ := DataW.trod_string Tryd.underlying9 g2
          obtain ⟨ats, qa, ca, e3', hsl⟩ := open_fattrs g3
          obtain ⟨ti, e4', _⟩ := DataW.trod_string Tryd.underlying9 g4
          obtain ⟨y5d, y5p⟩ := y5
          have hdi : di = .agg [y0.1, y1.1, y2.1, y3.1, y4.1, y5d] := by have := congrArg Prod.fst hxe; simpa using this
          have hs5 : SizeOf.sizeOf y5d ≤ sz := by
            rw [hdi] at hszi
            simp only [DataW.agg.sizeOf_spec, List.cons.sizeOf_spec] at hszi
            omega
          obtain ⟨kf, qk, ck, e5', hck, hkf, hkr⟩ := open_forestR sz k' c5 y5d y5p hs5 g5
          simp at e0' e1' e2' e4'
          have z := fun j hj => h1 j hj
          have z0 := z 0 (by omega)
          have z1 := z 1 (by omega)
          have z2 := z 2 (by omega)
          have z3 := z 3 (by omega)
          have z4 := z 4 (by omega)
          have z5 := z 5 (by omega)
          rw [Addr.add_lit] at z0 z1 z2 z3 z4 z5
          simp only [List.getElem?_cons_zero, List.getElem?_cons_succ] at z0 z1 z2 z3 z4 z5
          refine ⟨ki, spi, ni, ats, ti, kf, ⟨bounds_i64 w0'.2, bounds_i64 w1'.2, hkr⟩, ?_, ?_, ?_, ⟨qa, ca, ?_, hsl⟩, ?_, qk, ck, ?_, hck, hkf⟩
          · rw [← e0']; exact z0
          · rw [Nat.add_assoc, ← e1']; exact z1
          · rw [Nat.add_assoc, ← e2']; exact z2
          · rw [Nat.add_assoc, ← e3']; exact z3
          · rw [Nat.add_assoc, ← e4']; exact z4
          · rw [Nat.add_assoc, ← e5']; exact z5
      obtain ⟨f, hf, hlf, hrf⟩ := forest_ofR len o hnode
      exact ⟨f, some ⟨b, o, none⟩, m, by rw [hf]; exact hc, by omega, Or.inr ⟨b, o, rfl, hlf⟩, hrf⟩
set_option maxRecDepth 100000 in
theorem open_nodeR {H : Type} {enc : TypeId × Value → H} {W : World} {base : Nat} {v : Value} {d : DataW H} {ps : List MemPlace} (hv : Value.okWide Tryd.prog W .any base 44 v)
    (h : DataW.Trod enc Tryd.prog W 0 (fun _ => true) true 44 v d ps) : ∃ x : NdA, v = .agg x.cells ∧ x.Ok W ∧ (I64 x.k ∧ I64 x.sp ∧ RngF x.kids) := by
  obtain ⟨cs, rfl, _⟩ := okWide_struct Tryd.underlying44 hv
  obtain ⟨n, t0⟩ := h
  have t1 : DataW.trod enc Tryd.prog W 0 (fun _ => true) true n 44 cs.toList = some (d, ps) := by simpa [Value.cells] using t0
  obtain ⟨cs⟩ := cs
  simp only at t1
  obtain ⟨xs, k', _, hxe, hl', hxl, hf⟩ := DataW.trod_struct Tryd.underlying44 t1
  rw [fnode_cells] at hl'
  match cs, hl', xs, hxl with
  | [c0, c1, c2, c3, c4, c5], _, [y0, y1, y2, y3, y4, y5], _ =>
    have g0 := hf 0 _ rfl
    have g1 := hf 1 _ rfl
    have g2 := hf 2 _ rfl
    have g3 := hf 3 _ rfl
    have g4 := hf 4 _ rfl
    have g5 := hf 5 _ rfl
    simp [fint_cells, fstr_cells, fattrs_cells, fnodes_cells] at g0 g1 g2 g3 g4 g5
    obtain ⟨ki, e0', w0'⟩ := DataW.trod_int Tryd.underlying3 g0
    obtain ⟨spi, e1', w1'⟩ := DataW.trod_int Tryd.underlying3 g1
    obtain ⟨ni, e2', _⟩ := DataW.trod_string Tryd.underlying9 g2
    obtain ⟨ats, qa, ca, e3', hsl⟩ := open_fattrs g3
    obtain ⟨ti, e4', _⟩ := DataW.trod_string Tryd.underlying9 g4
    obtain ⟨y5d, y5p⟩ := y5
    obtain ⟨kf, qk, ck, e5', hck, hkf, hkr⟩ := open_forestR _ k' c5 y5d y5p (Nat.le_refl _) g5
    simp at e0' e1' e2' e4'
    refine ⟨⟨ki, spi, ni, ats, ti, kf, qa, ca, qk, ck⟩, ?_, ⟨hsl, hck, hkf⟩, bounds_i64 w0'.2, bounds_i64 w1'.2, hkr⟩
    unfold NdA.cells
    rw [e0', e1', e2', e3', e4', e5']
end Go.Proofs.YtbabmkilbbbmoaaDoor
