/-
  What a list's counted does: attributes as keys of a map.
-/
import Derived.Test.YtabajhbghjfhoaaAIs
import Derived.Test.YtabajhbghjfhoaaAv
import Derived.Deep.RegionHeld
import Derived.Maps.OwnOps
import Derived.WideKeyEntry
import Derived.DeepKeys4
namespace Go.Proofs.Ytabajhbghjfhoaa
open Go.RowKit Go.Maps
set_option linter.unusedVariables false
set_option linter.unusedSimpArgs false

theorem laidOut_a : laidOutB Try.prog = true := by kernel_rfl
theorem lawT0 : WideMaps.KeyLaw Try.prog 108 := deep_law_laid laidOut_a (m := 4) (by omega) (of_decide_eq_true (by kernel_rfl)) (by kernel_rfl) (by rw [Try.underlying108])
theorem lawT : Keyed Try.prog 108 := Keyed.of_law lawT0
theorem zeroI (w : World) : (zeroValue 3).run Try.prog w = .ok (.int .i64 0) w := by kernel_rfl
theorem keyT_ok (a b : ByteArray) (ha : a.size ≤ maxLen) (hb : b.size ≤ maxLen) : ∃ l, keyOf Try.prog 108 (.agg #[.string a, .string b]) = some l := by
  unfold keyOf
  rw [Try.underlying108]
  have h1 : Try.prog.keyType 108 = true := by kernel_rfl
  have h2 : (Value.agg #[.string a, .string b]).formed Try.prog 108 = true := by
    unfold Value.formed
    rw [Try.underlying108]
    have : Try.prog.cellsOf 108 = 2 := by kernel_rfl
    simp [this]
  rw [h1, h2]
  simp only [Bool.and_self, if_true]
  have hD : 0 < Try.prog.types.size := of_decide_eq_true (by kernel_rfl)
  obtain ⟨D, hD⟩ : ∃ D, Try.prog.types.size = D + 1 := ⟨Try.prog.types.size - 1, by omega⟩
  rw [hD]
  have c9 : Try.prog.cellsOf 9 = 1 := by kernel_rfl
  have c2 : Try.prog.cellsOf 108 = 2 := by kernel_rfl
  simp only [Program.keyLits, Try.underlying108, Try.underlying9, Value.cells]
  simp [c2, c9, Try.underlying9, ha, hb]

/-- An element of a map of numbers, made and stored into: what the two do, and what is read between them. -/
theorem entry_run {H : Type} {P : Program} {w : World} {t k e : TypeId} {q : IntKind} {b n : Nat} {D : DataW H} (h : w.ownsMap P k (plainElem P e) b n D) (K : WideMaps.KeyLaw P k) (ht : P.underlying t = some (.map k e)) (he : P.underlying e = some (.int q))
    (hz : ∀ u : World, (zeroValue e).run P u = .ok (.int q 0) u) (hn : n < maxLen) {key : Value} {kl : Lit} (hkey : keyOf P k key = some kl) :
    ∃ c, D.atKey kl (.lit (.int q 0)) = .lit (.int q c) ∧ (Lit.int q c).wf = true ∧ (Instr.lookup t (.map (some b)) key false).run P w = .ok (.int q c) w ∧
      ∃ st w1, (Instr.mapEntry t (.map (some b)) key).run P w = .ok (.tuple #[.int q c, goInt st]) w1 ∧ w.grownBy w1 (some b) ∧ (Instr.lookup t (.map (some b)) key false).run P w1 = .ok (.int q c) w1 ∧
        ∀ val d ps, plainElem (H := H) P e val = some (d, ps) → ∃ w2, (Instr.entryStore t (.map (some b)) (goInt st) val).run P w1 = .ok () w2 ∧ w2.ownsMap P k (plainElem P e) b (n + 1) (D.put kl d) ∧ w.grownBy w2 (some b) := by
  obtain ⟨c, h1, h2, h3⟩ := h.lookup_int (Keyed.of_law K) ht he (hz w) hkey
  refine ⟨c, h2, h3, h1, ?_⟩
  have hup := fun val d ps (hd : plainElem (H := H) P e val = some (d, ps)) => h.update (Keyed.of_law K) ht hn hkey hd
  obtain ⟨es, clock, hb, F, hsz, hD⟩ := h
  obtain ⟨v0, st, es1, clock1, hE, hv, hS⟩ := WideElems.entry_then_store K ht hz hb F hkey
  have hL : ∀ (W : World) (es2 : Array MapEntry) (cl2 : Nat) (v : Value), W.heap[b]? = some (.map es2 cl2) → (∀ x ∈ es2.toList, ∃ l, keyOf P k x.key = some l) → (∃ x ∈ es2.toList, x.key = key) → (∀ x ∈ es2.toList, x.key = key → x.val = v) → (Instr.lookup t (.map (some b)) key false).run P W = .ok v W := by
    intro W es2 cl2 v hW hks ⟨x, hx, hxk⟩ hall
    rcases K.find W hkey es2.toList hks with ⟨_, hno⟩ | ⟨j, e1, hf, hj, hk1⟩
    · exact absurd hxk (hno x hx)
    · rw [← hall e1 (List.mem_of_getElem? hj) hk1]
      simp [Instr.lookup, run_underlying ht, MapKept.run_getObj_map hW, (fun em => K.check W em hkey), hf, Result.andThen]
  have hL0 : (∀ x ∈ es.toList, x.key ≠ key) → (Instr.lookup t (.map (some b)) key false).run P w = .ok (.int q 0) w := by
    intro hall
    rcases K.find w hkey es.toList F.keys with ⟨hf, _⟩ | ⟨j, e1, hf, hj, hk1⟩
    · simp [Instr.lookup, run_underlying ht, MapKept.run_getObj_map hb, (fun em => K.check w em hkey), hf, hz, Result.andThen]
    · exact absurd hk1 (hall e1 (List.mem_of_getElem? hj))
  have hfin : ∀ W1 : World, W1 = ChangeMaps.setBlock w b (.map es1 clock1) → w.grownBy W1 (some b) ∧ ∀ val d ps, plainElem (H := H) P e val = some (d, ps) → ∃ w2, (Instr.entryStore t (.map (some b)) (goInt st) val).run P W1 = .ok () w2 ∧ w2.ownsMap P k (plainElem P e) b (n + 1) (D.put kl d) ∧ w.grownBy w2 (some b) := by
    rintro W1 rfl
    refine ⟨⟨rfl, rfl, rfl, by simp [ChangeMaps.setBlock], fun i _ hi => ChangeMaps.heap_setBlock_other hb _ (fun e => hi (by rw [e]))⟩, fun val d ps hd => ?_⟩
    obtain ⟨w', hr, hown, hg⟩ := hup val d ps hd
    obtain ⟨es', clock', hst, hmu⟩ := hS _ val (ChangeMaps.heap_setBlock_same hb _)
    rw [hmu] at hr
    have hw : ChangeMaps.setBlock w b (.map es' clock') = w' := by injection hr
    refine ⟨w', ?_, hown, hg⟩
    rw [hst, ← hw]
    congr 1
    simp [ChangeMaps.setBlock]
  obtain ⟨hg1, hst1⟩ := hfin _ rfl
  rcases K.find w hkey es.toList F.keys with ⟨hf, hno⟩ | ⟨j, e0, hf, hj, hk0⟩
  · have hc0 : c = 0 := by
      have := (hL0 hno).symm.trans h1
      injection this with e1 _
      injection e1 with _ e2
      exact e2.symm
    subst hc0
    have hM : (Instr.mapEntry t (.map (some b)) key).run P w = .ok (.tuple #[.int q 0, goInt clock]) (ChangeMaps.setBlock w b (.map (es.push ⟨key, .int q 0, clock⟩) (clock + 1))) := by
      simp [Instr.mapEntry, run_underlying ht, MapKept.run_getObj_map hb, K.check w false hkey, hf, hz, MapKept.run_setObj_map _ hb, Result.andThen, ChangeMaps.setBlock]
    have hEM := hE.symm.trans hM
    injection hEM with e1 e2
    have hv0 : v0 = .int q 0 := by
      injection e1 with e1
      have := congrArg (fun a => a[0]?) e1
      simpa using this
    have hes : some (Obj.map es1 clock1) = some (Obj.map (es.push ⟨key, .int q 0, clock⟩) (clock + 1)) := by
      rw [← ChangeMaps.heap_setBlock_same hb (.map es1 clock1), e2, ChangeMaps.heap_setBlock_same hb]
    injection hes with hes
    injection hes with hes1 hes2
    refine ⟨st, _, by rw [hE, hv0], hg1, ?_, hst1⟩
    refine hL _ es1 clock1 _ (ChangeMaps.heap_setBlock_same hb _) (fun x hx => ?_) ⟨⟨key, .int q 0, clock⟩, by rw [hes1]; simp, rfl⟩ (fun x hx hxk => ?_)
    · rw [hes1, Array.toList_push, List.mem_append, List.mem_singleton] at hx
      rcases hx with hx | rfl
      · exact F.keys x hx
      · exact ⟨kl, hkey⟩
    · rw [hes1, Array.toList_push, List.mem_append, List.mem_singleton] at hx
      rcases hx with hx | rfl
      · exact absurd hxk (hno x hx)
      · rfl
  · have hjA : es[j]? = some e0 := by simpa using hj
    have hsame : es.modify j (fun e => { e with key := key }) = es := by
      apply Array.ext'
      rw [Array.toList_modify, ChangeMaps.modify_eq_set _ _ _ _ hj]
      have : ({ e0 with key := key } : MapEntry) = e0 := by rw [← hk0]
      rw [this]
      exact WideElems.set_self _ _ _ hj
    have hl1 : (Instr.lookup t (.map (some b)) key false).run P w = .ok e0.val w := by
      simp [Instr.lookup, run_underlying ht, MapKept.run_getObj_map hb, (fun em => K.check w em hkey), hf, Result.andThen]
    have hc0 : e0.val = .int q c := by
      have := hl1.symm.trans h1
      injection this with e1 _
    have hM : (Instr.mapEntry t (.map (some b)) key).run P w = .ok (.tuple #[e0.val, goInt e0.born]) (ChangeMaps.setBlock w b (.map es clock)) := by
      simp [Instr.mapEntry, run_underlying ht, MapKept.run_getObj_map hb, K.check w false hkey, hf, hjA, hk0, K.stays w hkey, hsame, MapKept.run_setObj_map _ hb, Result.andThen, ChangeMaps.setBlock]
    have hEM := hE.symm.trans hM
    injection hEM with e1 e2
    have hv0 : v0 = .int q c := by
      injection e1 with e1
      have := congrArg (fun a => a[0]?) e1
      rw [← hc0]
      simpa using this
    refine ⟨st, _, by rw [hE, hv0], hg1, ?_, hst1⟩
    rw [e2]
    have hwb : ChangeMaps.setBlock w b (.map es clock) = w := by
      unfold ChangeMaps.setBlock
      have : w.heap.setIfInBounds b (.map es clock) = w.heap := by
        apply Array.ext_getElem?
        intro i
        by_cases hi : b = i
        · subst hi
          rw [Array.getElem?_setIfInBounds_self, hb]
          have := (Array.getElem?_eq_some_iff.1 hb).1
          simp [this]
        · rw [Array.getElem?_setIfInBounds_ne hi]
      rw [this]
    rw [hwb]
    exact h1

def SzA (ats : List (ByteArray × ByteArray)) : Prop := ∀ k, k < ats.length → (an ats k).size ≤ maxLen ∧ (av ats k).size ≤ maxLen
def eqA (a b c d : ByteArray) : Bool := decide (a.data.toList = c.data.toList) && decide (b.data.toList = d.data.toList)
theorem eqA_iff {a b c d : ByteArray} : eqA a b c d = true ↔ a = c ∧ b = d := by
  unfold eqA
  rw [Bool.and_eq_true, decide_eq_true_eq, decide_eq_true_eq]
  constructor
  · rintro ⟨h1, h2⟩
    exact ⟨by rw [← bs_self a, h1, bs_self], by rw [← bs_self b, h2, bs_self]⟩
  · rintro ⟨rfl, rfl⟩; exact ⟨rfl, rfl⟩
/-- How often an attribute stands among the first ones. -/
def timesN (ats : List (ByteArray × ByteArray)) (a b : ByteArray) : Nat → Nat
  | 0 => 0
  | k + 1 => timesN ats a b k + (if eqA (an ats k) (av ats k) a b then 1 else 0)
theorem timesN_le (ats : List (ByteArray × ByteArray)) (a b : ByteArray) (k : Nat) : timesN ats a b k ≤ k := by
  induction k with
  | zero => exact Nat.le_refl _
  | succ k ih => unfold timesN; split <;> omega
/-- What attributes read as, as keys. -/
def KeyFn (kl : ByteArray → ByteArray → Lit) : Prop := ∀ a b : ByteArray, a.size ≤ maxLen → b.size ≤ maxLen → keyOf Try.prog 108 (.agg #[.string a, .string b]) = some (kl a b)
theorem keyFn_ex : ∃ kl, KeyFn kl := ⟨fun a b => (keyOf Try.prog 108 (.agg #[.string a, .string b])).getD (.bool false), fun a b ha hb => by
  obtain ⟨l, h⟩ := keyT_ok a b ha hb
  dsimp only
  rw [h]; rfl⟩
theorem klT_inj {kl : ByteArray → ByteArray → Lit} (hkl : KeyFn kl) {a b c d : ByteArray} (ha : a.size ≤ maxLen) (hb : b.size ≤ maxLen) (hc : c.size ≤ maxLen) (hd : d.size ≤ maxLen) (h : kl a b = kl c d) : a = c ∧ b = d := by
  have h1 := hkl _ _ ha hb
  have h2 := hkl _ _ hc hd
  rw [← h] at h2
  have := lawT0.inj h1 h2
  simp at this
  exact this
def cntD (kl : ByteArray → ByteArray → Lit) (ats : List (ByteArray × ByteArray)) : Nat → DataW Unit
  | 0 => .map []
  | k + 1 => (cntD kl ats k).put (kl (an ats k) (av ats k)) (.lit (.int .i64 ((timesN ats (an ats k) (av ats k) k : Nat) + 1)))
theorem cntD_map (kl : ByteArray → ByteArray → Lit) (ats : List (ByteArray × ByteArray)) (k : Nat) : Maps.IsMap (cntD kl ats k) := by
  induction k with
  | zero => exact ⟨[], rfl⟩
  | succ k ih =>
    obtain ⟨es, h⟩ := ih
    unfold cntD
    rw [h]
    exact ⟨_, rfl⟩
theorem cntD_at {kl : ByteArray → ByteArray → Lit} (hkl : KeyFn kl) (ats : List (ByteArray × ByteArray)) (hs : SzA ats) {a b : ByteArray} (ha : a.size ≤ maxLen) (hb : b.size ≤ maxLen) (k : Nat) (hk : k ≤ ats.length) : (cntD kl ats k).atKey (kl a b) (.lit (.int .i64 0)) = .lit (.int .i64 (timesN ats a b k : Nat)) := by
  induction k with
  | zero => rfl
  | succ k ih =>
    have IH := ih (by omega)
    obtain ⟨h1, h2⟩ := hs k (by omega)
    rw [show cntD kl ats (k + 1) = (cntD kl ats k).put (kl (an ats k) (av ats k)) (.lit (.int .i64 ((timesN ats (an ats k) (av ats k) k : Nat) + 1))) from rfl, show timesN ats a b (k + 1) = timesN ats a b k + (if eqA (an ats k) (av ats k) a b then 1 else 0) from rfl]
    by_cases he : eqA (an ats k) (av ats k) a b = true
    · obtain ⟨e1, e2⟩ := eqA_iff.1 he
      rw [if_pos he, e1, e2, atKey_put_same (cntD_map kl ats k) (lawT.key (hkl _ _ ha hb))]
      rfl
    · rw [if_neg he, atKey_put_other (fun e => he (eqA_iff.2 (by
        obtain ⟨e1, e2⟩ := klT_inj hkl ha hb h1 h2 e
        exact ⟨e1.symm, e2.symm⟩))), IH]
      rfl
def KeepA (g : Nat) (a b : ByteArray) (W : World) : Prop := W.cell? ⟨g, 0, none⟩ = some (.string a) ∧ W.cell? ⟨g, 1, none⟩ = some (.string b)
theorem KeepA.of {g : Nat} {a b : ByteArray} {W : World} {t : TypeId} (h : Blk W g #[.string a, .string b] t) : KeepA g a b W := ⟨h.cell 0, h.cell 1⟩
theorem blk_grown {w w' : World} {b : Nat} {vs : Array Value} {t : TypeId} {row : Option Nat} (h : Blk w b vs t) (hg : w.grownBy w' row) (hr : some b ≠ row) : Blk w' b vs t := (hg.block b h.lt hr).trans h

theorem counted_zero (kl : ByteArray → ByteArray → Lit) (q : Option Addr) (cap : Nat) (w : World) : Calls Try.prog 107 #[.slice q 0 cap] w fun e w' => e = .returned (.map (some w.heap.size)) ∧ w'.ownsMap Try.prog 108 (plainElem Try.prog 3) w.heap.size 0 (cntD kl [] 0) ∧ Below w.heap.size w w' := by
  have hmm := @run_makeMap Try.prog
  go_enter Try.func107, Try.ntmps107
  go_wp2
  refine wp_loop_rounds 1 ?_
  rw [rounds_succ]
  go_wp2
  go_ret
  exact ⟨rfl, World.ownsMap_made _ _ _ _, (Below.refl _ _).alloc (Nat.le_refl _) _⟩

set_option maxHeartbeats 8000000 in
set_option maxRecDepth 100000 in
theorem counted_pos (kl : ByteArray → ByteArray → Lit) (hkf : KeyFn kl) (g o cap : Nat) (ats : List (ByteArray × ByteArray)) (n : Nat) (w : World) (hn : Hid (ats.length = n)) (h0 : 0 < n) (hl : n ≤ 140737488355328) (hc : Cells2 g o ats w) (hs : SzA ats) :
    Calls Try.prog 107 #[.slice (some ⟨g, o, none⟩) n cap] w fun e w' => e = .returned (.map (some w.heap.size)) ∧ w'.ownsMap Try.prog 108 (plainElem Try.prog 3) w.heap.size n (cntD kl ats n) ∧ Below w.heap.size w w' := by
  have hmm := @run_makeMap Try.prog
  have HC := hide hc
  have HS := hide hs
  clear hc hs
  go_enter Try.func107, Try.ntmps107
  go_wp2
  go_loopw [9] (fun i wr => ∃ k : Nat, k ≤ n ∧ i = .int .i64 k ∧ wr.ownsMap Try.prog 108 (plainElem Try.prog 3) w.heap.size k (cntD kl ats k) ∧ Below w.heap.size w wr) (fun i _ => n - (intOf i).toNat)
  case atStart => exact ⟨0, Nat.zero_le _, rfl, World.ownsMap_made _ _ _ _, (Below.refl _ _).alloc (Nat.le_refl _) _⟩
  case round =>
    clear hmm
    obtain ⟨k, hk, rfl, hown, hbw⟩ := hrel
    have HB := hide hbw
    have hsz := hbw.size
    by_cases hp : k < n
    · have hpi : (k : Int) < (n : Int) := by omega
      have hkl : k < ats.length := by rw [unhide hn]; exact hp
      obtain ⟨c1, c2⟩ := (unhide HC).below hbw k hkl
      obtain ⟨z1, z2⟩ := unhide HS k hkl
      have hD : Hid (cntD kl ats (k + 1) = (cntD kl ats k).put (kl (an ats k) (av ats k)) (.lit (.int .i64 ((timesN ats (an ats k) (av ats k) k : Nat) + 1)))) := hide rfl
      have hAt := cntD_at hkf ats (unhide HS) z1 z2 k (by omega)
      have hle := timesN_le ats (an ats k) (av ats k) k
      have hown2 : (wr.alloc (Obj.cells #[.string (an ats k), .string (av ats k)] 108)).drew.ownsMap Try.prog 108 (plainElem Try.prog 3) w.heap.size k (cntD kl ats k) := (hown.alloc _).drew
      obtain ⟨c, hc1, hc2, hc3, st, w1, hm1, hg1, hm2, hst⟩ := entry_run hown2 lawT0 Try.underlying131 Try.underlying3 zeroI (by unfold maxLen; omega) (hkf _ _ z1 z2)
      have hcE : c = (timesN ats (an ats k) (av ats k) k : Nat) := by
        have := hc1.symm.trans hAt
        injection this with e1
        injection e1
      have hwf : (Lit.int .i64 (((timesN ats (an ats k) (av ats k) k : Nat) : Int) + 1)).wf = true := by
        simp [Lit.wf, IntKind.min, IntKind.max, IntKind.signed, IntKind.bits]; omega
      obtain ⟨w2, hst1, hown3, hg2⟩ := hst (.int .i64 (((timesN ats (an ats k) (av ats k) k : Nat) : Int) + 1)) _ _ (plainElem_int Try.underlying3 hwf)
      subst hcE
      rw [← unhide hD] at hown3
      have HO := hide hown3
      have kB := (Blk.new wr #[.string (an ats k), .string (av ats k)] 108).later (below_draws _ 1)
      have hne : some wr.heap.size ≠ some w.heap.size := by
        intro e; injection e with e
        have := hown.lt
        omega
      have HK : Hid (KeepA wr.heap.size (an ats k) (av ats k) (wr.alloc (Obj.cells #[.string (an ats k), .string (av ats k)] 108)).drew) := hide (KeepA.of kB)
      have HK1 := hide (KeepA.of (blk_grown kB hg1 hne))
      have HK2 := hide (KeepA.of (blk_grown kB hg2 hne))
      have hbA : Below w.heap.size w (wr.alloc (Obj.cells #[.string (an ats k), .string (av ats k)] 108)).drew := hbw.trans (((Below.refl _ _).alloc (Nat.le_refl _) _ |>.trans ((below_draws _ 1).mono (by simp))).mono hsz)
      have HB2 := hide (hbA.grown hg2 hbA.size (fun j hj => by cases hj; exact Nat.le_refl _))
      have hti : ((timesN ats (an ats k) (av ats k) k : Nat) : Int) + 1 ≤ 140737488355328 := by omega
      have hti0 : (0 : Int) ≤ ((timesN ats (an ats k) (av ats k) k : Nat) : Int) := by omega
      clear hown hown2 hown3 hst hAt hle hc1 hc2 hwf hg1 hg2 kB hne hbA hkl hbw z1 z2 hD
      generalize an ats k = a1 at *
      generalize av ats k = a2 at *
      generalize timesN ats a1 a2 k = tm at *
      have hwt : IntKind.i64.wrap ((tm : Int) + 1) = (tm : Int) + 1 := by rw [IntKind.wrap_i64]; omega
      unfold goInt at *
      go_wp2_with fail
      have hSa := unhide HK
      refine wp_region_held (S := KeepA wr.heap.size a1 a2) (by kernel_rfl) ?_
      change wpAnyH _ _ _ _ _ _ _ _ (World.drew _)
      refine wpAnyH_take (i := 0) (oi := { dst := some 13, op := _, type := _, pos := _, after := _, guard := _ }) (v := ?va0_1) rfl (by kernel_rfl) (by kernel_rfl) (by kernel_rfl) (fun _ _ _ h => h) (Or.inl ⟨by kernel_rfl, ?ha0_1⟩) hSa ?ra0_1
      case ha0_1 => first | (intro w hSw; obtain ⟨s0, s1⟩ := hSw; go_simp; done) | (intro w hSw; obtain ⟨s0, s1⟩ := hSw; go_simp; with_reducible rfl)
      try simp only [Act.put, List.setIfInBounds_toArray, List.set_cons_zero, List.set_cons_succ]
      refine wpAnyH_take (i := 1) (oi := { dst := some 14, op := _, type := _, pos := _, after := _, guard := _ }) (v := ?va1_2) rfl (by kernel_rfl) (by kernel_rfl) (by kernel_rfl) (fun _ _ _ h => h) (Or.inl ⟨by kernel_rfl, ?ha1_2⟩) hSa ?ra1_2
      case ha1_2 => first | (intro w hSw; obtain ⟨s0, s1⟩ := hSw; go_simp; done) | (intro w hSw; obtain ⟨s0, s1⟩ := hSw; go_simp; with_reducible rfl)
      try simp only [Act.put, List.setIfInBounds_toArray, List.set_cons_zero, List.set_cons_succ]
      refine wpAnyH_ready (rs := [2, 4]) (by kernel_rfl) (by simp) ?_
      refine AllReadyH.cons rfl (fun K hK => ?_) (AllReadyH.cons rfl (fun K hK => ?_) AllReadyH.nil)
      · go_simp
        have hSa' := hSa
        refine hK _ _ hSa' (fun _ => ?_)
        clear hK K hSa
        have hSa := hSa'
        clear hSa'
        refine wpAnyH_take (i := 3) (oi := { dst := some 16, op := _, type := _, pos := _, after := _, guard := _ }) (v := ?va3_3) rfl (by kernel_rfl) (by kernel_rfl) (by kernel_rfl) (fun _ _ _ h => h) (Or.inl ⟨by kernel_rfl, ?ha3_3⟩) hSa ?ra3_3
        case ha3_3 => first | (intro w hSw; obtain ⟨s0, s1⟩ := hSw; go_simp; done) | (intro w hSw; obtain ⟨s0, s1⟩ := hSw; go_simp; with_reducible rfl)
        try simp only [Act.put, List.setIfInBounds_toArray, List.set_cons_zero, List.set_cons_succ]
        refine wpAnyH_ready (rs := [4]) (by kernel_rfl) (by simp) ?_
        refine AllReadyH.cons rfl (fun K hK => ?_) AllReadyH.nil
        go_simp
        have hSa' := unhide HK1
        refine hK _ _ hSa' (fun _ => ?_)
        clear hK K hSa
        have hSa := hSa'
        clear hSa'
        refine wpAnyH_take (i := 5) (oi := { dst := some 18, op := _, type := _, pos := _, after := _, guard := _ }) (v := ?va5_4) rfl (by kernel_rfl) (by kernel_rfl) (by kernel_rfl) (fun _ _ _ h => h) (Or.inl ⟨by kernel_rfl, ?ha5_4⟩) hSa ?ra5_4
        case ha5_4 => first | (intro w hSw; obtain ⟨s0, s1⟩ := hSw; go_simp; done) | (intro w hSw; obtain ⟨s0, s1⟩ := hSw; go_simp; with_reducible rfl)
        try simp only [Act.put, List.setIfInBounds_toArray, List.set_cons_zero, List.set_cons_succ]
        refine wpAnyH_ready (rs := [6]) (by kernel_rfl) (by simp) ?_
        refine AllReadyH.cons rfl (fun K hK => ?_) AllReadyH.nil
        go_simp
        have hSa' := unhide HK2
        refine hK _ _ hSa' (fun _ => ?_)
        clear hK K hSa
        have hSa := hSa'
        clear hSa'
        refine wpAnyH_done (by kernel_rfl) ?_ _
        clear hSa HK HK1 HK2 hc3 hm1 hm2 hst1 hti hti0 hwt
        go_wp2
        go_roundw
        case rel => exact ⟨k + 1, by omega, by go_num, unhide HO, unhide HB2⟩
        case measure => simp [intOf]; omega
      · go_simp
        have hSa' := unhide HK1
        refine hK _ _ hSa' (fun _ => ?_)
        clear hK K hSa
        have hSa := hSa'
        clear hSa'
        refine wpAnyH_take (i := 5) (oi := { dst := some 18, op := _, type := _, pos := _, after := _, guard := _ }) (v := ?va5_5) rfl (by kernel_rfl) (by kernel_rfl) (by kernel_rfl) (fun _ _ _ h => h) (Or.inl ⟨by kernel_rfl, ?ha5_5⟩) hSa ?ra5_5
        case ha5_5 => first | (intro w hSw; obtain ⟨s0, s1⟩ := hSw; go_simp; done) | (intro w hSw; obtain ⟨s0, s1⟩ := hSw; go_simp; with_reducible rfl)
        try simp only [Act.put, List.setIfInBounds_toArray, List.set_cons_zero, List.set_cons_succ]
        refine wpAnyH_ready (rs := [2]) (by kernel_rfl) (by simp) ?_
        refine AllReadyH.cons rfl (fun K hK => ?_) AllReadyH.nil
        go_simp
        have hSa' := hSa
        refine hK _ _ hSa' (fun _ => ?_)
        clear hK K hSa
        have hSa := hSa'
        clear hSa'
        refine wpAnyH_take (i := 3) (oi := { dst := some 16, op := _, type := _, pos := _, after := _, guard := _ }) (v := ?va3_6) rfl (by kernel_rfl) (by kernel_rfl) (by kernel_rfl) (fun _ _ _ h => h) (Or.inl ⟨by kernel_rfl, ?ha3_6⟩) hSa ?ra3_6
        case ha3_6 => first | (intro w hSw; obtain ⟨s0, s1⟩ := hSw; go_simp; done) | (intro w hSw; obtain ⟨s0, s1⟩ := hSw; go_simp; with_reducible rfl)
        try simp only [Act.put, List.setIfInBounds_toArray, List.set_cons_zero, List.set_cons_succ]
        refine wpAnyH_ready (rs := [6]) (by kernel_rfl) (by simp) ?_
        refine AllReadyH.cons rfl (fun K hK => ?_) AllReadyH.nil
        go_simp
        have hSa' := unhide HK2
        refine hK _ _ hSa' (fun _ => ?_)
        clear hK K hSa
        have hSa := hSa'
        clear hSa'
        refine wpAnyH_done (by kernel_rfl) ?_ _
        clear hSa HK HK1 HK2 hc3 hm1 hm2 hst1 hti hti0 hwt
        go_wp2
        go_roundw
        case rel => exact ⟨k + 1, by omega, by go_num, unhide HO, unhide HB2⟩
        case measure => simp [intOf]; omega
    · have hke : k = n := by omega
      subst hke
      have hnl : ¬ (k : Int) < (k : Int) := by omega
      have HO := hide hown
      clear hown hbw hp
      go_wp2
      go_ret
      exact ⟨rfl, unhide HO, unhide HB⟩
end Go.Proofs.Ytabajhbghjfhoaa
