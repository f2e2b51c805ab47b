/-
  A node's text as it lies in memory: bytes made of a string, appended to, and a string made of them.
-/
import Derived.Test.YtabajhbghjfhoabGPu
import Derived.Laws.IdiomStrings
import Derived.Deep.Upon
namespace Go.Proofs.Ytabajhbghjfhoab
open Go.RowKit
set_option linter.unusedVariables false
set_option linter.unusedSimpArgs false

theorem infoB0 : (Try.prog.info? 5).map (fun i => (i.zero, i.size, i.bytes)) = some (some (.int .u8 0), 1, 1) := by kernel_rfl
theorem infoB : ∃ i, Try.prog.info? 5 = some i ∧ i.zero = some (.int .u8 0) ∧ i.size = 1 ∧ i.bytes = 1 := by
  have h := infoB0
  cases hi : Try.prog.info? 5 with
  | none => rw [hi] at h; cases h
  | some i =>
    rw [hi] at h
    simp only [Option.map_some, Option.some.injEq, Prod.mk.injEq] at h
    exact ⟨i, rfl, h.1, h.2.1, h.2.2⟩
def u8L (l : List UInt8) : List Value := l.map fun b => Value.int .u8 b.toNat
theorem u8L_len (l : List UInt8) : (u8L l).length = l.length := by simp [u8L]
structure TxtAt (base b c : Nat) (l : List UInt8) (w : World) : Prop where
  ge : base ≤ b
  ty : ∃ vs fz, w.heap[b]? = some (.cells vs 5 fz)
  cell : ∀ (j : Nat) (u : Value), (u8L l)[j]? = some u → w.cell? ⟨b, j, none⟩ = some u
  all : ∀ j, j < c → (w.cell? ⟨b, j, none⟩).isSome = true ∧ w.frozen? ⟨b, j, none⟩ = false
theorem TxtAt.lt {base b c : Nat} {l : List UInt8} {w : World} (h : TxtAt base b c l w) : b < w.heap.size := by
  obtain ⟨vs, fz, e⟩ := h.ty
  exact (Array.getElem?_eq_some_iff.1 e).1
theorem TxtAt.keep {base b c : Nat} {l : List UInt8} {w w' : World} (h : TxtAt base b c l w) (hb : w'.heap[b]? = w.heap[b]?) : TxtAt base b c l w' :=
  ⟨h.ge, by rw [hb]; exact h.ty, fun j u hu => (World.cell?_of_block (a := ⟨b, j, none⟩) hb).trans (h.cell j u hu), fun j hj => ⟨by rw [World.cell?_of_block (a := ⟨b, j, none⟩) hb]; exact (h.all j hj).1, (World.frozen?_of_block (a := ⟨b, j, none⟩) hb).trans (h.all j hj).2⟩⟩
/-- A text in memory. -/
structure TxtR (base : Nat) (w : World) (s : Sli) (l : List UInt8) : Prop where
  n : s.n = l.length
  le : s.n ≤ s.c
  max : s.c ≤ maxLen
  row : (s.q = none ∧ s.c = 0) ∨ ∃ b, s.q = some ⟨b, 0, none⟩ ∧ TxtAt base b s.c l w
theorem TxtR.keep {base : Nat} {w w' : World} {s : Sli} {l : List UInt8} (h : TxtR base w s l) (hb : ∀ b, (sV s).ownBlock = some b → b < w.heap.size → w'.heap[b]? = w.heap[b]?) : TxtR base w' s l := by
  refine ⟨h.n, h.le, h.max, ?_⟩
  rcases h.row with h | ⟨b, hq, ht⟩
  · exact Or.inl h
  · exact Or.inr ⟨b, hq, ht.keep (hb b (by unfold sV; rw [hq]; rfl) ht.lt)⟩
theorem TxtR.later {base : Nat} {w w' : World} {s : Sli} {l : List UInt8} (h : TxtR base w s l) (hb : Below w.heap.size w w') : TxtR base w' s l := h.keep fun b _ hl => hb.block b hl
theorem TxtR.chg {S : Nat → Prop} {base : Nat} {w w' : World} {s : Sli} {l : List UInt8} (h : TxtR base w s l) (hc : Chg S w w') (hn : ∀ b, (sV s).ownBlock = some b → ¬ S b) : TxtR base w' s l := h.keep fun b hb hl => hc.block b hl (hn b hb)
theorem TxtR.ty {base b : Nat} {w : World} {s : Sli} {l : List UInt8} (h : TxtR base w s l) (hb : (sV s).ownBlock = some b) : ∃ vs fz, w.heap[b]? = some (.cells vs 5 fz) := by
  rcases h.row with ⟨hq, _⟩ | ⟨g, hq, ht⟩
  · unfold sV at hb; rw [hq] at hb; cases hb
  · unfold sV at hb; rw [hq] at hb
    simp only [Value.ownBlock, Option.some.injEq] at hb
    subst hb
    exact ht.ty
theorem TxtR.nil (base : Nat) (w : World) : TxtR base w s0 [] := ⟨rfl, Nat.le_refl _, by simp [s0], Or.inl ⟨rfl, rfl⟩⟩
theorem txtAt_of {base b c : Nat} {l : List UInt8} {w : World} {vs : Array Value} {fz : Nat × Nat} (hb : base ≤ b) (h : w.heap[b]? = some (.cells vs 5 fz)) (hc : c ≤ vs.size) (hl : ∀ (j : Nat) (u : Value), (u8L l)[j]? = some u → vs[j]? = some u) (hf : ∀ j, j < c → ¬ (fz.1 ≤ j ∧ j < fz.2)) : TxtAt base b c l w := by
  have hcell : ∀ j, w.cell? ⟨b, j, none⟩ = vs[j]? := fun j => by simp [World.cell?, h]
  refine ⟨hb, ⟨vs, fz, h⟩, fun j u hu => (hcell j).trans (hl j u hu), fun j hj => ⟨?_, ?_⟩⟩
  · rw [hcell, Array.getElem?_eq_getElem (by omega)]; rfl
  · have := hf j hj
    simp [World.frozen?, h]
    omega
/-- '[]byte(s)'. -/
theorem txt_conv (base : Nat) (s : ByteArray) (w : World) (hs : s.size ≤ maxLen) (hb : base ≤ w.heap.size) : ∃ (cap : Nat) (o : Obj), (convert 9 63 (.string s)).run Try.prog w = .ok (.slice (some ⟨w.heap.size, 0, none⟩) s.size cap) (w.drew.alloc o) ∧ TxtR base (w.drew.alloc o) ⟨some ⟨w.heap.size, 0, none⟩, s.size, cap⟩ s.data.toList := by
  refine ⟨_, _, run_bytes_of_string (P := Try.prog) w 9 63 5 s Try.underlying9 Try.underlying63 Try.underlying5, ?_⟩
  have hge := grownCap_ge w s.size 0 5
  have hmx := grownCap_le_maxLen w s.size 0 5 hs
  generalize grownCap w s.size 0 5 = c at *
  have hsz : (bytesRow s c).size = c := by simp [bytesRow]; omega
  have hblk : (w.drew.alloc (.cells (bytesRow s c) 5 ((bytesRow s c).size, (bytesRow s c).size + 1))).heap[w.heap.size]? = some (.cells (bytesRow s c) 5 ((bytesRow s c).size, (bytesRow s c).size + 1)) := by
    show (w.heap.push _)[w.heap.size]? = _; simp
  refine ⟨by simp, hge, hmx, Or.inr ⟨w.heap.size, rfl, txtAt_of hb hblk (by rw [hsz]; exact Nat.le_refl _) (fun j u hu => ?_) (fun j hj => by have hj2 : j < c := hj; rw [hsz]; simp only; omega)⟩⟩
  have hj : j < s.size := by have := (List.getElem?_eq_some_iff.1 hu).1; simpa [u8L] using this
  rw [bytesRow_at s _ j hj, ← hu]
  simp [u8L, hj]
/-- 'string(b)'. -/
theorem TxtR.str {base : Nat} {w : World} {s : Sli} {l : List UInt8} (h : TxtR base w s l) : (convert 63 9 (.slice s.q s.n s.c)).run Try.prog w = .ok (.string (bs l)) w := by
  rcases h.row with ⟨hq, hc⟩ | ⟨b, hq, ht⟩
  · have hn := h.n
    have hle := h.le
    have hl : l = [] := List.eq_nil_of_length_eq_zero (by omega)
    rw [hq, hl]
    exact run_convert_bytes_nil (P := Try.prog) w 63 5 Try.underlying63 Try.underlying5 _ _ 9 Try.underlying9
  · rw [hq, h.n]
    exact run_convert_bytes_back (P := Try.prog) w 63 9 5 ⟨b, 0, none⟩ s.c l Try.underlying63 Try.underlying5 Try.underlying9 (fun j hj => by
      have hp : (⟨b, 0, none⟩ : Addr).add j = ⟨b, j, none⟩ := by unfold Addr.add; split <;> simp_all
      rw [hp]
      exact ht.cell j _ (by simp [u8L, hj]))
theorem ty_setCell {w : World} {b b' o : Nat} {u : Value} (h : ∃ vs fz, w.heap[b]? = some (.cells vs 5 fz)) : ∃ vs fz, (w.setCell ⟨b', o, none⟩ u).heap[b]? = some (.cells vs 5 fz) := by
  obtain ⟨vs, fz, h⟩ := h
  by_cases hb : b = b'
  · subst hb
    refine ⟨vs.setIfInBounds o u, fz, ?_⟩
    simp [World.setCell, Array.getElem?_modify, h]
  · exact ⟨vs, fz, (Below.heap_setCell w ⟨b', o, none⟩ u b hb).trans h⟩
theorem ty_setCells {b b' : Nat} : ∀ (xs : List Value) (o : Nat) (w : World), (∃ vs fz, w.heap[b]? = some (.cells vs 5 fz)) → ∃ vs fz, (w.setCells b' o xs).heap[b]? = some (.cells vs 5 fz)
  | [], o, w, h => h
  | x :: r, o, w, h => ty_setCells r (o + 1) _ (ty_setCell h)
theorem sz_setCells {b : Nat} : ∀ (xs : List Value) (o : Nat) (w : World), (w.setCells b o xs).heap.size = w.heap.size ∧ (w.setCells b o xs).tape = w.tape
  | [], o, w => ⟨rfl, rfl⟩
  | x :: r, o, w => by
    have := sz_setCells (b := b) r (o + 1) (w.setCell ⟨b, o, none⟩ x)
    exact ⟨this.1.trans (by simp), this.2⟩
/-- 'append(t, s...)'. -/
theorem txt_append (base : Nat) (s : Sli) (l : List UInt8) (x : ByteArray) (w : World) (h : TxtR base w s l) (hbase : base ≤ w.heap.size) (hx : l.length + x.size ≤ 70368744177664) : ∃ (s' : Sli) (w' : World), (Builtin.append_ #[63, 9] 63 #[.slice s.q s.n s.c, .string x]).run Try.prog w = .ok (.slice s'.q s'.n s'.c) w' ∧ TxtR base w' s' (l ++ x.data.toList) ∧ Chg (fun k => (sV s).ownBlock = some k) w w' ∧ (∀ k, (sV s').ownBlock = some k → (sV s).ownBlock = some k ∨ w.heap.size ≤ k) := by
  obtain ⟨i, hi, hz, hsz, hby⟩ := infoB
  have hs : Src Try.prog i.size 9 (.string x) x.size (byteCells x) w := by rw [hsz]; exact Src.ofString w Try.underlying9 x
  have hbl : byteCells x = u8L x.data.toList := rfl
  have hn := h.n
  have hle := h.le
  have hlen : (u8L x.data.toList).length = x.size := by rw [u8L_len]; simp
  by_cases hroom : s.n + x.size ≤ s.c
  · rcases h.row with ⟨hq, hc⟩ | ⟨b, hq, ht⟩
    · -- nothing is appended to nothing
      have hx0 : x.size = 0 := by omega
      have hl : x.data.toList = [] := List.eq_nil_of_length_eq_zero (by rw [data_len]; exact hx0)
      have hn0 : s.n = 0 := by omega
      refine ⟨s, w, ?_, by rw [hl, List.append_nil]; exact h, Chg.of_below (Below.refl _ _), fun k hk => Or.inl hk⟩
      have hsx : Src Try.prog i.size 9 (.string x) 0 [] w := by have := hs; rw [hx0, hbl, hl] at this; exact this
      exact run_append_nothing w 63 9 63 5 i Try.underlying63 hi s.q s.n s.c hle _ hsx
    · have hall : ∀ j, j < (byteCells x).length → (w.cell? ⟨b, 0 + s.n * i.size + j, none⟩).isSome = true ∧ w.frozen? ⟨b, 0 + s.n * i.size + j, none⟩ = false := fun j hj => by
        rw [hbl, hlen] at hj
        rw [hsz]
        exact ht.all _ (by omega)
      have hr := run_append_room_src (P := Try.prog) w 63 9 63 5 i Try.underlying63 hi b 0 s.n s.c (.string x) x.size (byteCells x) hs hroom (fun j hj => (hall j hj).1) (fun j hj => (hall j hj).2)
      rw [← hq, hsz, Nat.mul_one, Nat.zero_add] at hr
      have hbn : b < w.heap.size := ht.lt
      have hown : ∀ n c, (sV ⟨s.q, n, c⟩).ownBlock = some b := fun n c => by unfold sV; rw [hq]; rfl
      have hin : ∀ j, j < (byteCells x).length → (w.cell? ⟨b, s.n + j, none⟩).isSome = true := fun j hj => by have := (hall j hj).1; rw [hsz, Nat.mul_one, Nat.zero_add] at this; exact this
      refine ⟨⟨s.q, s.n + x.size, s.c⟩, w.setCells b s.n (byteCells x), hr, ⟨by simp [hn], hroom, h.max, Or.inr ⟨b, hq, ht.ge, ty_setCells _ _ _ ht.ty, ?_, ?_⟩⟩, ?_, ?_⟩
      · intro j u hu
        have hu' : (u8L l ++ u8L x.data.toList)[j]? = some u := by have := hu; unfold u8L at this ⊢; rw [List.map_append] at this; exact this
        by_cases hj : j < s.n
        · rw [List.getElem?_append_left (by rw [u8L_len]; omega)] at hu'
          rw [World.cell?_setCells_out b _ _ _ _ (fun _ _ => Or.inl hj)]
          exact ht.cell j u hu'
        · rw [List.getElem?_append_right (by rw [u8L_len]; omega), u8L_len, ← hn] at hu'
          have hlt : j - s.n < (byteCells x).length := by rw [hbl]; exact (List.getElem?_eq_some_iff.1 hu').1
          have hc := World.cell?_setCells_in b (byteCells x) s.n w hin (j - s.n) hlt
          rw [show s.n + (j - s.n) = j by omega] at hc
          rw [hc, ← List.getElem?_eq_getElem hlt]
          exact hu'
      · intro j hj
        exact ⟨World.isSome_setCells b _ _ w _ (ht.all j hj).1, by rw [World.frozen?_setCells]; exact (ht.all j hj).2⟩
      · refine ⟨World.os_setCells _ _ _ _, ?_, World.output_setCells _ _ _ _, ?_, fun k hk hne => World.heap_setCells_other w b _ _ hk (fun e => hne (by rw [e]; exact hown _ _))⟩
        · exact (sz_setCells _ _ _).2
        · rw [(sz_setCells _ _ _).1]; exact Nat.le_refl _
      · intro k hk
        have h1 := hown (s.n + x.size) s.c
        rw [h1] at hk
        exact Or.inl (by rw [← hk]; exact hown _ _)
  · have hold : (Builtin.firstCells i.size s.n (.slice s.q s.n s.c)).run Try.prog w.drew = .ok (u8L l).toArray w.drew := by
      rcases h.row with ⟨hq, hc⟩ | ⟨b, hq, ht⟩
      · have hl : l = [] := List.eq_nil_of_length_eq_zero (by omega)
        have hn0 : s.n = 0 := by omega
        rw [hq, hl, hn0]
        exact run_firstCells_none w.drew i.size 0 0 s.c
      · rw [hq]
        exact run_firstCells_some w.drew i.size s.n ⟨b, 0, none⟩ s.n s.c (u8L l) (by rw [u8L_len, hsz, Nat.mul_one]; exact hn.symm) (fun j u hu => by rw [Addr.add_lit, Nat.zero_add]; exact ht.cell j u hu)
    have hr := run_append_grow_src (P := Try.prog) w 63 9 63 5 i (.int .u8 0) Try.underlying63 hi hz s.q s.n s.c (u8L l) hold (.string x) x.size (byteCells x) hs (by omega) (by omega) (growslice_fits (by omega) (by rw [hby]; omega))
    have hge := grownCap_ge w (s.n + x.size) s.c 5
    have hmx := grownCap_le_maxLen w (s.n + x.size) s.c 5 (by simp only [maxLen]; omega)
    generalize grownCap w (s.n + x.size) s.c 5 = c at *
    have hcat : u8L l ++ byteCells x = u8L (l ++ x.data.toList) := by rw [hbl]; unfold u8L; rw [List.map_append]
    rw [hcat] at hr
    generalize hvs : (u8L (l ++ x.data.toList)).toArray ++ Builtin.zeroCells (Value.int .u8 0).cells (c - (s.n + x.size)) = vs at hr
    have hvsz : vs.size = c := by
      rw [← hvs, Array.size_append, size_zeroCells, List.size_toArray, u8L_len, List.length_append, data_len]
      have : (Value.int IntKind.u8 0).cells.size = 1 := rfl
      rw [this]
      omega
    have hblk : (w.drew.alloc (.cells vs 5)).heap[w.heap.size]? = some (.cells vs 5 (0, 0)) := by
      show (w.heap.push _)[w.heap.size]? = _; simp
    refine ⟨⟨some ⟨w.heap.size, 0, none⟩, s.n + x.size, c⟩, _, hr, ⟨by simp [hn], hge, hmx, Or.inr ⟨w.heap.size, rfl, txtAt_of hbase hblk (by rw [hvsz]; exact Nat.le_refl _) (fun j u hu => ?_) (fun j hj => by simp)⟩⟩, Chg.of_below ((tr2 (below_draws w 1) ((Below.refl _ _).alloc (Nat.le_refl _) _))), fun k hk => ?_⟩
    · rw [← hvs, Array.getElem?_append_left (by have := (List.getElem?_eq_some_iff.1 hu).1; simpa using this)]
      simpa using hu
    · unfold sV at hk
      simp only [Value.ownBlock, Option.some.injEq] at hk
      exact Or.inr (by omega)
end Go.Proofs.Ytabajhbghjfhoab
