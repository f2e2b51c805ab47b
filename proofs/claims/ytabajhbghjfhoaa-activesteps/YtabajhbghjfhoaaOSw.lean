/-
  Arguments of type []rectolaw10.Step and []int opened.
-/
import Derived.Test.YtabajhbghjfhoaaLAc
import Derived.Test.YtabajhbghjfhoaaOSt
import Derived.SizedLaws
namespace Go.Proofs.Ytabajhbghjfhoaa
open Go.RowKit Go.Deep Go.WideShapes Go.ChangeShapes
set_option linter.unusedVariables false
set_option linter.unusedSimpArgs false

theorem attr_cells : Try.prog.cellsOf 108 = 2 := by kernel_rfl
theorem attr_bytes : Try.prog.bytesOf 108 = 32 := by kernel_rfl
theorem weightsAll_mem {H : Type} {P : Program} {e : TypeId} {d : DataW H} {n : Nat} (hn : n ∈ d.weights P e) : ∀ {l : List (DataW H)}, d ∈ l → n ∈ DataW.weightsAll P e l
  | [], h => by cases h
  | a :: r, h => by
    simp only [DataW.weightsAll, List.mem_append]
    rcases List.mem_cons.1 h with rfl | h
    · exact Or.inl hn
    · exact Or.inr (weightsAll_mem hn h)
theorem add_addr (a : Addr) (x y : Nat) : (a.add x).add y = a.add (x + y) := by
  unfold Addr.add
  by_cases h1 : x = 0
  · subst h1; simp
  · by_cases h2 : y = 0
    · subst h2; simp [h1]
    · simp [h1, h2, Nat.add_assoc]
def strOf : Value → ByteArray
  | .string s => s
  | _ => ByteArray.empty
def mkAts (V0 V1 : Nat → Value) (len : Nat) : List (ByteArray × ByteArray) := (List.range len).map fun i => (strOf (V0 i), strOf (V1 i))
theorem mkAts_len (V0 V1 : Nat → Value) (len : Nat) : (mkAts V0 V1 len).length = len := by simp [mkAts]
theorem mkAts_an {V0 V1 : Nat → Value} {len k : Nat} (h : k < len) : an (mkAts V0 V1 len) k = strOf (V0 k) := by simp [an, mkAts, List.getD, h]
theorem mkAts_av {V0 V1 : Nat → Value} {len k : Nat} (h : k < len) : av (mkAts V0 V1 len) k = strOf (V1 k) := by simp [av, mkAts, List.getD, h]
theorem open_attrsW {H : Type} {enc : TypeId × Value → H} {W : World} {fuel : Nat} {v : Value} {x : DataW H × List MemPlace}
    (h : DataW.trod enc Try.prog W 0 (fun _ => true) true fuel 56 [v] = some x) (hw : ∀ n ∈ x.1.weights Try.prog 56, n ≤ reachBytes) :
    ∃ (ats : List (ByteArray × ByteArray)) (q : Option Addr) (l c : Nat), v = .slice q l c ∧ (q = none → l = 0 ∧ c = 0) ∧ AtsV q l ats W := by
  rcases open_slice_pairs Try.underlying56 Try.underlying108 attr_cells rfl rfl string_cells string_cells h with ⟨hc, hx⟩ | ⟨a, len, cap, m, k, V0, V1, D0, D1, P0, P1, hc, _, hl, hm, hmm, hx, hall⟩
  · simp only [List.cons.injEq, and_true] at hc
    exact ⟨[], none, 0, 0, hc, fun _ => ⟨rfl, rfl⟩, rfl, by omega, fun k hk => by simp at hk, Or.inl rfl⟩
  · simp only [List.cons.injEq, and_true] at hc
    simp only [if_true] at hmm
    subst hmm
    have hbig : m * 32 ≤ reachBytes := by
      have := hw (m * 32) (by
        rw [hx]
        simp only [DataW.weights, Try.underlying56, List.length_map, List.length_range, attr_bytes, List.mem_cons]
        left; congr 1; omega)
      exact this
    have hr := reachBytes_lt
    have hs0 : ∀ i, i < m → V0 i = .string (strOf (V0 i)) ∧ (strOf (V0 i)).size ≤ maxLen := fun i hi => by
      obtain ⟨s, h1, h2, h3⟩ := DataW.trod_string Try.underlying9 (hall i hi).2.2.1
      simp only [List.cons.injEq, and_true] at h1
      rw [h1]; exact ⟨rfl, h3⟩
    have hs1 : ∀ i, i < m → V1 i = .string (strOf (V1 i)) ∧ (strOf (V1 i)).size ≤ maxLen := fun i hi => by
      obtain ⟨s, h1, h2, h3⟩ := DataW.trod_string Try.underlying9 (hall i hi).2.2.2
      simp only [List.cons.injEq, and_true] at h1
      rw [h1]; exact ⟨rfl, h3⟩
    refine ⟨mkAts V0 V1 len, some a, len, m, hc, (fun e => by cases e), (mkAts_len _ _ _).symm, by omega, ?_, ?_⟩
    · intro k hk
      rw [mkAts_len] at hk
      rw [mkAts_an hk, mkAts_av hk]
      exact ⟨(hs0 k (by omega)).2, (hs1 k (by omega)).2⟩
    · by_cases h0 : len = 0
      · exact Or.inl h0
      · obtain ⟨sb, so, spot⟩ := a
        have hspot : spot = none := by simpa [Addr.add] using World.cell?_spot (hall 0 (by omega)).1
        subst hspot
        refine Or.inr ⟨sb, so, rfl, fun k hk => ?_⟩
        rw [mkAts_len] at hk
        rw [mkAts_an hk, mkAts_av hk]
        have e0 := (hall k (by omega)).1
        have e1 := (hall k (by omega)).2.1
        rw [(hs0 k (by omega)).1] at e0
        rw [(hs1 k (by omega)).1] at e1
        rw [Addr.add_lit] at e0 e1
        exact ⟨e0, by rw [Nat.add_assoc]; exact e1⟩
set_option maxRecDepth 100000 in
theorem open_aentW {H : Type} {enc : TypeId × Value → H} {W : World} {fuel : Nat} {cs : List Value} {x : DataW H × List MemPlace}
    (h : DataW.trod enc Try.prog W 0 (fun _ => true) true fuel 58 cs = some x) (hw : ∀ n ∈ x.1.weights Try.prog 58, n ≤ reachBytes) :
    ∃ (y : PEnt) (q : Option Addr) (l c : Nat), cs = [.bool y.mr, .int .i64 y.id, .string y.nm, .slice q l c] ∧ (q = none → l = 0 ∧ c = 0) ∧ AtsV q l y.ats W := by
  obtain ⟨xs, k, _, hxe, hl, hxl, hf⟩ := DataW.trod_struct Try.underlying58 h
  rw [aent_cells] at hl
  match cs, hl, xs, hxl with
  | [c0, c1, c2, c3], _, [y0, y1, y2, y3], _ =>
    have g0 := hf 0 _ rfl
    have g1 := hf 1 _ rfl
    have g2 := hf 2 _ rfl
    have g3 := hf 3 _ rfl
    simp [int_cells, bool_cells, string_cells, attrs_cells] at g0 g1 g2 g3
    obtain ⟨a, e0', _⟩ := DataW.trod_bool Try.underlying4 g0
    obtain ⟨b, e1', _⟩ := DataW.trod_int Try.underlying3 g1
    obtain ⟨s, e2', _⟩ := DataW.trod_string Try.underlying9 g2
    simp at e0' e1' e2'
    obtain ⟨ats, q, l, c, rfl, hq, hA⟩ := open_attrsW g3 (fun n hn => hw n (by
      rw [hxe]
      simp only [DataW.weights, Try.underlying58, List.map_cons, List.map_nil, DataW.weightsEach, List.mem_append]
      right; right; right; left; exact hn))
    exact ⟨⟨a, b, s, ats⟩, q, l, c, by simp [e0', e1', e2'], hq, hA⟩
set_option maxRecDepth 100000 in
theorem open_astepW {H : Type} {enc : TypeId × Value → H} {W : World} {fuel : Nat} {cs : List Value} {x : DataW H × List MemPlace}
    (h : DataW.trod enc Try.prog W 0 (fun _ => true) true fuel 60 cs = some x) (hw : ∀ n ∈ x.1.weights Try.prog 60, n ≤ reachBytes) :
    ∃ s : AStp, cs = [.int .i64 s.wh, .int .i64 s.no, .bool s.x.mr, .int .i64 s.x.id, .string s.x.nm, .slice s.q s.l s.c] ∧ (s.q = none → s.l = 0 ∧ s.c = 0) ∧ AtsV s.q s.l s.x.ats W := by
  obtain ⟨xs, k, _, hxe, hl, hxl, hf⟩ := DataW.trod_struct Try.underlying60 h
  rw [astep_cells] at hl
  match cs, hl, xs, hxl with
  | [c0, c1, c2, c3, c4, c5], _, [y0, y1, y2], _ =>
    have g0 := hf 0 _ rfl
    have g1 := hf 1 _ rfl
    have g2 := hf 2 _ rfl
    simp [int_cells, aent_cells] at g0 g1 g2
    obtain ⟨a, e0', _⟩ := DataW.trod_int Try.underlying3 g0
    obtain ⟨b, e1', _⟩ := DataW.trod_int Try.underlying3 g1
    simp at e0' e1'
    obtain ⟨y, q, l, c, e2', hq, hA⟩ := open_aentW g2 (fun n hn => hw n (by
      rw [hxe]
      simp only [DataW.weights, Try.underlying60, List.map_cons, List.map_nil, DataW.weightsEach, List.mem_append]
      right; right; left; exact hn))
    exact ⟨⟨a, b, y, q, l, c⟩, by simp [e0', e1', e2'], hq, hA⟩
def astepL (s : AStp) : List Value := [.int .i64 s.wh, .int .i64 s.no, .bool s.x.mr, .int .i64 s.x.id, .string s.x.nm, .slice s.q s.l s.c]
theorem open_asteps {H : Type} {enc : TypeId × Value → H} {W : World} {qa : Option Addr} {len cap : Nat} {d : DataW H} {ps : List MemPlace}
    (h : DataW.Trod enc Try.prog W 0 (fun _ => true) true 48 (.slice qa len cap) d ps) (hw : ∀ n ∈ d.weights Try.prog 48, n ≤ reachBytes) :
    ∃ L : List AStp, L.length = len ∧ (L = [] ∨ ∃ g o, qa = some ⟨g, o, none⟩ ∧ CellsS g o L W) := by
  obtain ⟨n, t0⟩ := h
  rcases open_slice Try.underlying48 t0 with ⟨hc, hx⟩ | ⟨a, len', cap', m, k, D, Pl, hc, _, hl, hm, hmm, hx, hall⟩
  · simp only [Value.cells, List.cons.injEq, and_true, Value.slice.injEq] at hc
    obtain ⟨rfl, rfl, rfl⟩ := hc
    exact ⟨[], rfl, Or.inl rfl⟩
  · simp only [Value.cells, List.cons.injEq, and_true, Value.slice.injEq] at hc
    obtain ⟨rfl, rfl, rfl⟩ := hc
    simp only [if_true] at hmm
    subst hmm
    have hwD : ∀ i, i < len → ∀ n ∈ (D i).weights Try.prog 60, n ≤ reachBytes := fun i hi n hn => hw n (by
      have hd : d = .slice ((List.range len).map D) ((List.range (m - len)).map fun j => D (len + j)) := congrArg Prod.fst hx
      rw [hd]
      simp only [DataW.weights, Try.underlying48, List.mem_cons, List.mem_append]
      right; left
      exact weightsAll_mem hn (List.mem_map.2 ⟨i, List.mem_range.2 hi, rfl⟩))
    have each : ∀ i, i < len → ∃ e : AStp, (∀ j u, (astepL e)[j]? = some u → W.cell? (a.add (i * 6 + j)) = some u) ∧ (e.q = none → e.l = 0 ∧ e.c = 0) ∧ AtsV e.q e.l e.x.ats W := fun i hi => by
      obtain ⟨cs', h1, h2⟩ := hall i (by omega)
      rw [astep_cells] at h1
      obtain ⟨e, he, hq, hA⟩ := open_astepW h2 (hwD i hi)
      obtain ⟨_, hlen, hcell⟩ := World.cells?_some h1
      refine ⟨e, fun j u hj => ?_, hq, hA⟩
      have hj3 : j < 6 := by
        have := (List.getElem?_eq_some_iff.1 hj).1
        simpa [astepL] using this
      have := hcell j hj3
      rw [he, show ([.int .i64 e.wh, .int .i64 e.no, .bool e.x.mr, .int .i64 e.x.id, .string e.x.nm, .slice e.q e.l e.c] : List Value) = astepL e from rfl, hj] at this
      rw [← this]
      rw [add_addr]
    have hch : ∃ f : Nat → AStp, ∀ i, i < len → (∀ j u, (astepL (f i))[j]? = some u → W.cell? (a.add (i * 6 + j)) = some u) ∧ ((f i).q = none → (f i).l = 0 ∧ (f i).c = 0) ∧ AtsV (f i).q (f i).l (f i).x.ats W :=
      ⟨fun i => if hi : i < len then Classical.choose (each i hi) else st0, fun i hi => by
        have := Classical.choose_spec (each i hi)
        simpa only [dif_pos hi] using this⟩
    obtain ⟨f, hf⟩ := hch
    have hln : ((List.range len).map f).length = len := by simp
    refine ⟨(List.range len).map f, hln, ?_⟩
    by_cases h0 : len = 0
    · subst h0; exact Or.inl rfl
    · right
      obtain ⟨b, o, spot⟩ := a
      have hspot : spot = none := by
        have := (hf 0 (by omega)).1 0 _ rfl
        simpa [Addr.add] using World.cell?_spot this
      subst hspot
      refine ⟨b, o, rfl, fun i hi => ?_⟩
      rw [hln] at hi
      have hg : ((List.range len).map f).getD i st0 = f i := by simp [List.getD, hi]
      rw [hg]
      obtain ⟨hc, hq, hA⟩ := hf i hi
      have c0 := hc 0 _ rfl
      have c1 := hc 1 _ rfl
      have c2 := hc 2 _ rfl
      have c3 := hc 3 _ rfl
      have c4 := hc 4 _ rfl
      have c5 := hc 5 _ rfl
      rw [Addr.add_lit] at c0 c1 c2 c3 c4 c5
      exact ⟨c0, by rw [Nat.add_assoc]; exact c1, by rw [Nat.add_assoc]; exact c2, by rw [Nat.add_assoc]; exact c3, by rw [Nat.add_assoc]; exact c4, by rw [Nat.add_assoc]; exact c5, hq, hA⟩
theorem open_intsV {H : Type} {enc : TypeId × Value → H} {W : World} {qa : Option Addr} {len cap : Nat} {d : DataW H} {ps : List MemPlace}
    (h : DataW.Trod enc Try.prog W 0 (fun _ => true) true 49 (.slice qa len cap) d ps) : ∃ zs : List Int, len ≤ 50 → IntsV qa len zs W := by
  obtain ⟨n, t0⟩ := h
  rcases open_slice Try.underlying49 t0 with ⟨hc, hx⟩ | ⟨a, len', cap', m, k, D, Pl, hc, _, hl, hm, hmm, hx, hall⟩
  · simp only [Value.cells, List.cons.injEq, and_true, Value.slice.injEq] at hc
    obtain ⟨rfl, rfl, rfl⟩ := hc
    exact ⟨[], fun _ => ⟨rfl, by omega, Or.inl rfl⟩⟩
  · simp only [Value.cells, List.cons.injEq, and_true, Value.slice.injEq] at hc
    obtain ⟨rfl, rfl, rfl⟩ := hc
    simp only [if_true] at hmm
    subst hmm
    have each : ∀ i, i < len → ∃ z : Int, W.cell? (a.add i) = some (.int .i64 z) := fun i hi => by
      obtain ⟨cs', h1, h2⟩ := hall i (by omega)
      rw [int_cells, Nat.mul_one] at h1
      obtain ⟨z, he, _⟩ := DataW.trod_int Try.underlying3 h2
      obtain ⟨_, hlen, hcell⟩ := World.cells?_some h1
      refine ⟨z, ?_⟩
      have := hcell 0 (by omega)
      rw [he] at this
      simpa [add_addr] using this
    have hch : ∃ f : Nat → Int, ∀ i, i < len → W.cell? (a.add i) = some (.int .i64 (f i)) :=
      ⟨fun i => if hi : i < len then Classical.choose (each i hi) else 0, fun i hi => by
        have := Classical.choose_spec (each i hi)
        simpa only [dif_pos hi] using this⟩
    obtain ⟨f, hf⟩ := hch
    refine ⟨(List.range len).map f, fun h50 => ⟨by simp, by omega, ?_⟩⟩
    by_cases h0 : len = 0
    · exact Or.inl h0
    · right
      obtain ⟨b, o, spot⟩ := a
      have hspot : spot = none := by
        have := hf 0 (by omega)
        simpa [Addr.add] using World.cell?_spot this
      subst hspot
      refine ⟨b, o, rfl, fun i hi => ?_⟩
      simp at hi
      have hg : ((List.range len).map f).getD i 0 = f i := by simp [List.getD, hi]
      rw [hg]
      have := hf i hi
      rw [Addr.add_lit] at this
      exact this
end Go.Proofs.Ytabajhbghjfhoaa
