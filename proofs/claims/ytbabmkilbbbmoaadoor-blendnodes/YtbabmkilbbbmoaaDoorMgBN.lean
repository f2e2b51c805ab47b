/-
  Several texts in one: what the functions of the program and of the document's answer do.
-/
import Derived.Test.YtbabmkilbbbmoaaDoorMgAB
import Derived.Test.YtbabmkilbbbmoaaDoorMgBM
import Derived.Test.YtbabmkilbbbmoaaDoorZSu
import Derived.Test.YtbabmkilbbbmoaaDoorZTr
import Derived.Test.YtbabmkilbbbmoaaDoorMgAJ
import Derived.Test.YtbabmkilbbbmoaaDoorMgAZ
import Derived.Test.YtbabmkilbbbmoaaDoorMgAY
import Derived.Laws.EntriesVeiled

/-
  The pairs of two lists of nodes rise, plainly.
-/
namespace Go.Proofs.YtbabmkilbbbmoaaDoor
set_option linter.unusedVariables false
set_option linter.unusedSimpArgs false

/-- What match makes of whole pairs: the places alone. -/
def mtN (A : Nat → Nat → Bool) (n m : Nat) : Nat → Nat → List (Nat × Nat) → List (Nat × Nat)
  | i, j, [] => alF A m (n - i) i j
  | i, j, p :: r => alF A p.2 (p.1 - i) i j ++ p :: mtN A n m (p.1 + 1) (p.2 + 1) r
theorem risep_app {n m i1 j1 : Nat} (hn : i1 ≤ n) (hm : j1 ≤ m) : ∀ (l r : List (Nat × Nat)) (i j : Nat), i ≤ i1 → j ≤ j1 → RiseP i1 j1 i j l → RiseP n m i1 j1 r → RiseP n m i j (l ++ r)
  | [], r, i, j, hi, hj, _, h => risep_weak hi hj h
  | p :: l, r, i, j, hi, hj, hl, h => by
    obtain ⟨a1, a2, a3, a4, a5⟩ := risep_cons hl
    exact risep_mk a1 a2 (by omega) (by omega) (risep_app hn hm l r _ _ (by omega) (by omega) a5 h)
theorem alF_rise (A : Nat → Nat → Bool) (j1 : Nat) : ∀ (f i j : Nat), RiseP (i + f) j1 i j (alF A j1 f i j)
  | 0, _, _ => trivial
  | f + 1, i, j => by
    rw [alF]
    cases h : fdF (A i) (j1 - j) j with
    | some x =>
      obtain ⟨b1, b2, _⟩ := fdF_in _ _ _ _ h
      have := alF_rise A j1 f (i + 1) (x + 1)
      rw [show i + 1 + f = i + (f + 1) by omega] at this
      exact risep_mk (Nat.le_refl _) b1 (by show i < i + (f + 1); omega) (by show x < j1; omega) this
    | none =>
      have := alF_rise A j1 f (i + 1) j
      rw [show i + 1 + f = i + (f + 1) by omega] at this
      exact risep_weak (by omega) (Nat.le_refl _) this
theorem mtN_rise (A : Nat → Nat → Bool) (n m : Nat) : ∀ (P : List (Nat × Nat)) (i j : Nat), i ≤ n → j ≤ m → RiseP n m i j P → RiseP n m i j (mtN A n m i j P)
  | [], i, j, hi, hj, _ => by
    have := alF_rise A m (n - i) i j
    rw [show i + (n - i) = n by omega] at this
    exact this
  | p :: r, i, j, hi, hj, h => by
    obtain ⟨a1, a2, a3, a4, a5⟩ := risep_cons h
    have h1 := alF_rise A p.2 (p.1 - i) i j
    rw [show i + (p.1 - i) = p.1 by omega] at h1
    rw [mtN]
    exact risep_app (by omega) (by omega) _ _ _ _ a1 a2 h1 (risep_mk (Nat.le_refl _) (Nat.le_refl _) a3 a4 (mtN_rise A n m r _ _ (by omega) (by omega) a5))
def castP (p : Nat × Nat) : Int × Int := ((p.1 : Int), (p.2 : Int))
theorem mtF_mtN (A : Nat → Nat → Bool) (n m : Nat) : ∀ (P : List (Nat × Nat)) (i j : Nat), (mtF A n m i j P).map (fun x => (x.1, x.2.1)) = (mtN A n m i j P).map castP
  | [], i, j => by
    rw [mtF, mtN, whB, List.map_map]
    rfl
  | p :: r, i, j => by
    rw [mtF, mtN, whB, List.map_append, List.map_append, List.map_map, List.map_cons, List.map_cons, mtF_mtN A n m r _ _]
    rfl
/-- The places of the pairs of two lists of nodes. -/
def ltM (f h : Forest) : List (Nat × Nat) := mtN (eqT (lsT f) (lsT h)) f.len h.len 0 0 (lnP (eqT (ksT f) (ksT h)) f.len h.len 0 0)
theorem ltM_rise (f h : Forest) : RiseP f.len h.len 0 0 (ltM f h) := mtN_rise _ _ _ _ _ _ (Nat.zero_le _) (Nat.zero_le _) (rise_p _ _ _ (lnP_rise0 _ _ _ 0 0))
theorem ltP_ltM (f h : Forest) : (ltP f h).map (fun x => (x.1, x.2.1)) = (ltM f h).map castP := mtF_mtN _ _ _ _ _ _
theorem ltM_len (f h : Forest) : (ltM f h).length = (ltP f h).length := by
  have := congrArg List.length (ltP_ltM f h)
  rw [List.length_map, List.length_map] at this
  exact this.symm
theorem ltM_at (f h : Forest) (k : Nat) (hk : k < (ltP f h).length) : ((ltP f h).getD k p0).1 = (((ltM f h).getD k (0, 0)).1 : Int) ∧ ((ltP f h).getD k p0).2.1 = (((ltM f h).getD k (0, 0)).2 : Int) := by
  have e := congrArg (fun l => l[k]?) (ltP_ltM f h)
  rw [List.getElem?_map, List.getElem?_map, List.getElem?_eq_getElem hk, List.getElem?_eq_getElem (by rw [ltM_len]; exact hk)] at e
  rw [List.getD, List.getD, List.getElem?_eq_getElem hk, List.getElem?_eq_getElem (by rw [ltM_len]; exact hk)]
  simp only [Option.map_some, Option.some.injEq] at e
  have e1 := congrArg Prod.fst e
  have e2 := congrArg Prod.snd e
  exact ⟨e1, e2⟩
/-- Stretches of nodes. -/
def tkF : Nat → Forest → Forest
  | 0, _ => .nil
  | _ + 1, .nil => .nil
  | j + 1, .cons k sp n ats tx kids r => .cons k sp n ats tx kids (tkF j r)
theorem tkF_len : ∀ (j : Nat) (f : Forest), j ≤ f.len → (tkF j f).len = j
  | 0, _, _ => rfl
  | j + 1, .nil, h => by simp [Forest.len] at h
  | j + 1, .cons _ _ _ _ _ _ r, h => by
    have := tkF_len j r (by simp only [Forest.len] at h; omega)
    simp only [tkF, Forest.len, this]
theorem tkF_count : ∀ (j : Nat) (f : Forest), (tkF j f).count ≤ f.count
  | 0, _ => Nat.zero_le _
  | j + 1, .nil => Nat.le_refl _
  | j + 1, .cons _ _ _ _ _ _ r => by
    have := tkF_count j r
    simp only [tkF, Forest.count]; omega
theorem tkF_small : ∀ (j : Nat) (f : Forest), SmF f → SmF (tkF j f)
  | 0, _, _ => trivial
  | j + 1, .nil, _ => trivial
  | j + 1, .cons _ _ _ _ _ _ r, h => ⟨h.1, h.2.1, tkF_small j r h.2.2⟩
theorem tkF_lies {w : World} {g : Nat} : ∀ (j : Nat) (f : Forest) (o : Nat), Lies f g o w → Lies (tkF j f) g o w
  | 0, _, _, _ => trivial
  | j + 1, .nil, _, _ => trivial
  | j + 1, .cons _ _ _ _ _ _ r, o, h => ⟨h.1, tkF_lies j r (o + 6) h.2⟩
def subN (f : Forest) (i x : Nat) : Forest := tkF (x - i) (f.drop i)
theorem subN_len (f : Forest) (i x : Nat) (h : i ≤ x) (hx : x ≤ f.len) : (subN f i x).len = x - i := tkF_len _ _ (by rw [Forest.drop_len]; omega)
theorem subN_count (f : Forest) (i x : Nat) : (subN f i x).count ≤ f.count := Nat.le_trans (tkF_count _ _) (Forest.count_drop _ _)
theorem subN_small (f : Forest) (i x : Nat) (h : SmF f) : SmF (subN f i x) := tkF_small _ _ (sm_drop i f h)
def smM (f g h : Forest) : Sms := ⟨fun i i' j j' => sameF (subN g j j') (subN f i i'), fun i i' k k' => sameF (subN h k k') (subN f i i'), fun j j' k k' => sameF (subN g j j') (subN h k k')⟩
theorem sameF_comm (f g : Forest) : sameF f g = sameF g f := by
  have h1 := sameF_eq f g
  have h2 := sameF_eq g f
  cases e : sameF f g with
  | true => exact (h2.2 (h1.1 e).symm).symm
  | false =>
    cases e2 : sameF g f with
    | false => rfl
    | true => rw [h1.2 (h2.1 e2).symm] at e; cases e
/-- One node alone. -/
theorem sameF_one (k sp : Int) (n : ByteArray) (ats : List (ByteArray × ByteArray)) (tx : ByteArray) (kids r : Forest) (k' sp' : Int) (n' : ByteArray) (ats' : List (ByteArray × ByteArray)) (tx' : ByteArray) (kids' r' : Forest) :
    sameF (.cons k sp n ats tx kids r) (.cons k' sp' n' ats' tx' kids' r') = (sameF (.cons k sp n ats tx kids .nil) (.cons k' sp' n' ats' tx' kids' .nil) && sameF r r') := by
  simp only [sameF, Bool.and_true, Bool.and_assoc]
/-- The parts of three lists of nodes. -/
def ndP (f g h : Forest) : List PT := ptF (smM f g h) f.len g.len h.len 0 0 0 (trF (ltM f g) (ltM f h))
theorem ndP_up (f g h : Forest) : UpT f.len g.len h.len 0 0 0 (trF (ltM f g) (ltM f h)) := trF_up (ltM_rise f g) (ltM_rise f h)
end Go.Proofs.YtbabmkilbbbmoaaDoor

/-
  blend's three lists of nodes in memory; lists of nodes, cut; the pairs of two lists of nodes in memory.
-/
namespace Go.Proofs.YtbabmkilbbbmoaaDoor
open Go.RowKit
set_option linter.unusedVariables false
set_option linter.unusedSimpArgs false

def fromQ6 (q : Option Addr) (s c : Nat) : Option Addr := if c = s then q else q.map (·.add (s * 6))
theorem run_partN (q : Option Addr) (n c s x : Nat) (h : s ≤ x) (hx : x ≤ c) (w : World) : (Instr.slice 22 (.slice q n c) (some (.int .i64 (s : Int))) (some (.int .i64 (x : Int))) none).run Tryd.prog w = .ok (.slice (fromQ6 q s c) (x - s) (c - s)) w := by
  have ht : Tryd.prog.underlying 22 = some (.slice (Tryd.prog.elem 22)) := by kernel_rfl
  have hs : (sizeOf (Tryd.prog.elem 22)).run Tryd.prog w = .ok 6 w := by kernel_rfl
  rw [run_slice_lh w 22 q n c ht .i64 .i64 (s : Int) (x : Int) (by omega) (by omega) (by omega), hs]
  simp [Result.andThen, sliced, fromQ6]
theorem fo_part {w : World} {q : Option Addr} {f : Forest} {c : Nat} (h : Fo q f w) {i x : Nat} (hi : i ≤ x) (hx : x ≤ f.len) (hc : f.len ≤ c) : Fo (fromQ6 q i c) (subN f i x) w := by
  rcases h with rfl | ⟨g, o, rfl, hl⟩
  · refine Or.inl ?_
    have hx0 : x - i = 0 := by have : x ≤ 0 := hx; omega
    unfold subN
    rw [hx0]
    rfl
  · by_cases e : c = i
    · refine Or.inl ?_
      have hx0 : x - i = 0 := by omega
      unfold subN
      rw [hx0]
      rfl
    · refine Or.inr ⟨g, o + i * 6, ?_, tkF_lies _ _ _ (hl.drop i)⟩
      unfold fromQ6
      rw [if_neg e]
      simp [Addr.add]
/-- blend's three lists, in a block. -/
def ThreeN (w : World) (tb : Nat) (qo qa qb : Option Addr) (co ca cb : Nat) (o a b : Forest) : Prop :=
  w.cell? ⟨tb, 0, none⟩ = some (.slice qo o.len co) ∧ w.cell? ⟨tb, 1, none⟩ = some (.slice qa a.len ca) ∧ w.cell? ⟨tb, 2, none⟩ = some (.slice qb b.len cb) ∧ w.cell? ⟨tb, 3, none⟩ = some (.func (Fn.func 54) #[] #[]) ∧
  Fo qo o w ∧ Fo qa a w ∧ Fo qb b w ∧ o.len ≤ co ∧ a.len ≤ ca ∧ b.len ≤ cb
theorem pairsN_at {w : World} {base : Nat} {u : Value} {f h : Forest} (hp : PairsV w base u (ltP f h)) : ∃ q c, u = .slice q (ltM f h).length c ∧ (ltM f h).length ≤ c ∧ c ≤ 9223372036854775807 ∧ PrAt w q (ltM f h) := by
  obtain ⟨q, c, h1, h2⟩ := PairsV.cells hp
  have hl := ltM_len f h
  have hcc : (ltP f h).length ≤ c ∧ c ≤ 9223372036854775807 := by
    obtain ⟨_, hp⟩ := hp
    rcases hp with ⟨e1, e2⟩ | ⟨g, cap, cur, e1, e2, e3, e4, e5, e6⟩
    · have e9 : c = 0 := by rw [h1] at e1; injection e1
      rw [e2, e9]; exact ⟨Nat.zero_le _, by decide⟩
    · have e9 : cap = c := by rw [h1] at e1; injection e1 with _ _ h; exact h.symm
      simp only [maxLen] at e5
      omega
  refine ⟨q, c, by rw [hl]; exact h1, by rw [hl]; exact hcc.1, hcc.2, fun h0 => ?_⟩
  rw [hl] at h0
  obtain ⟨g, hq, _, h4⟩ := h2 h0
  refine ⟨g, 0, hq, fun k hk => ?_⟩
  rw [hl] at hk
  obtain ⟨e1, e2⟩ := ltM_at f h k hk
  have := h4 k hk
  rw [e1, e2] at this
  exact ⟨by simpa using this.1, by simpa using this.2.1, _, by simpa using this.2.2⟩
theorem prCellsN_at {w : World} {u : Value} {f h : Forest} (hp : PrCells w u (ltP f h)) : ∃ q c, u = .slice q (ltM f h).length c ∧ PrAt w q (ltM f h) := by
  have hl := ltM_len f h
  obtain ⟨q, c, h1, h2⟩ := hp
  refine ⟨q, c, by rw [hl]; exact h1, fun h0 => ?_⟩
  rw [hl] at h0
  obtain ⟨g, hq, h4⟩ := h2 h0
  refine ⟨g, 0, hq, fun k hk => ?_⟩
  rw [hl] at hk
  obtain ⟨e1, e2⟩ := ltM_at f h k hk
  have := h4 k hk
  rw [e1, e2] at this
  exact ⟨by simpa using this.1, by simpa using this.2.1, _, by simpa using this.2.2⟩
end Go.Proofs.YtbabmkilbbbmoaaDoor

/-
  What 'blend.sameNode', 'blend.same' of nodes and 'slices.EqualFunc' under it do.
-/
namespace Go.Proofs.YtbabmkilbbbmoaaDoor
open Go.RowKit
set_option linter.unusedVariables false
set_option linter.unusedSimpArgs false

theorem one_lies {W : World} {g : Nat} {k sp : Int} {n : ByteArray} {ats : List (ByteArray × ByteArray)} {tx : ByteArray} {kids : Forest} {qa qk : Option Addr} {ca ck : Nat} {t : TypeId}
    (h : Blk W g #[.int .i64 k, .int .i64 sp, .string n, .slice qa ats.length ca, .string tx, .slice qk kids.len ck] t) (hs : Sl qa ats W) (hk : Fo qk kids W) (hc : kids.len ≤ ck) : Lies (.cons k sp n ats tx kids .nil) g 0 W :=
  ⟨⟨h.cell 0, h.cell 1, h.cell 2, ⟨qa, ca, h.cell 3, hs⟩, h.cell 4, qk, ck, h.cell 5, hc, hk⟩, trivial⟩
set_option maxHeartbeats 4000000 in
theorem sameNode_any (k sp : Int) (n : ByteArray) (ats : List (ByteArray × ByteArray)) (tx : ByteArray) (kids : Forest) (k' sp' : Int) (n' : ByteArray) (ats' : List (ByteArray × ByteArray)) (tx' : ByteArray) (kids' : Forest) (qa qa' qk qk' : Option Addr) (ca ca' ck ck' : Nat) (w : World)
    (a1 : Sl qa ats w) (b1 : Sl qa' ats' w) (a2 : Fo qk kids w) (b2 : Fo qk' kids' w) (hck : kids.len ≤ ck) (hck' : kids'.len ≤ ck') (hs : SmF (.cons k sp n ats tx kids .nil)) (hc : kids.count ≤ 900000) (hc' : kids'.count ≤ 900000) :
    Calls Tryd.prog 54 #[.agg #[.int .i64 k, .int .i64 sp, .string n, .slice qa ats.length ca, .string tx, .slice qk kids.len ck], .agg #[.int .i64 k', .int .i64 sp', .string n', .slice qa' ats'.length ca', .string tx', .slice qk' kids'.len ck']] w fun e w' => e = .returned (.bool (sameF (.cons k sp n ats tx kids .nil) (.cons k' sp' n' ats' tx' kids' .nil))) ∧ Below w.heap.size w w' := by
  have S := hide (fun (W : World) (hW : Below w.heap.size w W) (g1 g2 c1 c2 : Nat) (t1 t2 : TypeId) (h1 : Blk W g1 #[.int .i64 k, .int .i64 sp, .string n, .slice qa ats.length ca, .string tx, .slice qk kids.len ck] t1) (h2 : Blk W g2 #[.int .i64 k', .int .i64 sp', .string n', .slice qa' ats'.length ca', .string tx', .slice qk' kids'.len ck'] t2) =>
    same_any (.cons k sp n ats tx kids .nil) (.cons k' sp' n' ats' tx' kids' .nil) (some ⟨g1, 0, none⟩) (some ⟨g2, 0, none⟩) c1 c2 W (Or.inr ⟨g1, 0, rfl, one_lies h1 (a1.below hW) (a2.below hW) hck⟩) (Or.inr ⟨g2, 0, rfl, one_lies h2 (b1.below hW) (b2.below hW) hck'⟩) hs (by simp only [Forest.count]; omega) (by simp only [Forest.count]; omega))
  generalize sameF (.cons k sp n ats tx kids .nil) (.cons k' sp' n' ats' tx' kids' .nil) = res at *
  clear a1 a2 b1 b2 hs hc hc'
  generalize kids.len = kl at *
  generalize kids'.len = kl' at *
  generalize ats.length = al at *
  generalize ats'.length = al' at *
  have S' : Hid (∀ (W : World), Below w.heap.size w W → ∀ (g1 g2 c1 c2 : Nat) (t1 t2 : TypeId), Blk W g1 #[.int .i64 k, .int .i64 sp, .string n, .slice qa al ca, .string tx, .slice qk kl ck] t1 → Blk W g2 #[.int .i64 k', .int .i64 sp', .string n', .slice qa' al' ca', .string tx', .slice qk' kl' ck'] t2 → Calls Tryd.prog 79 #[.slice (some ⟨g1, 0, none⟩) 1 c1, .slice (some ⟨g2, 0, none⟩) 1 c2] W fun e w' => e = .returned (.bool res) ∧ Below W.heap.size W w') := hide (fun W hW g1 g2 c1 c2 t1 t2 h1 h2 => unhide S W hW g1 g2 c1 c2 t1 t2 h1 h2)
  clear S hck hck'
  go_enter Tryd.func54, Tryd.ntmps54
  go_wp2_with fail
  refine (unhide S' _ ?hb _ _ _ _ 44 44 ?h1 ?h2).mono ?_
  case hb => exact ((((Below.refl w.heap.size w).alloc (Nat.le_refl _) _).alloc (by simp) _).alloc (by simp; omega) _).alloc (by simp; omega) _
  case h1 =>
    have h := (Blk.new ((w.alloc (Obj.cells #[.int .i64 k, .int .i64 sp, .string n, .slice qa al ca, .string tx, .slice qk kl ck] 44)).alloc (Obj.cells #[.int .i64 k', .int .i64 sp', .string n', .slice qa' al' ca', .string tx', .slice qk' kl' ck'] 44)) #[.int .i64 k, .int .i64 sp, .string n, .slice qa al ca, .string tx, .slice qk kl ck] 44).alloc (Obj.cells #[.int .i64 k', .int .i64 sp', .string n', .slice qa' al' ca', .string tx', .slice qk' kl' ck'] 44)
    simpa using h
  case h2 =>
    have h := Blk.new (((w.alloc (Obj.cells #[.int .i64 k, .int .i64 sp, .string n, .slice qa al ca, .string tx, .slice qk kl ck] 44)).alloc (Obj.cells #[.int .i64 k', .int .i64 sp', .string n', .slice qa' al' ca', .string tx', .slice qk' kl' ck'] 44)).alloc (Obj.cells #[.int .i64 k, .int .i64 sp, .string n, .slice qa al ca, .string tx, .slice qk kl ck] 44)) #[.int .i64 k', .int .i64 sp', .string n', .slice qa' al' ca', .string tx', .slice qk' kl' ck'] 44
    simpa using h
  rintro e w2 ⟨rfl, hb2⟩
  have hb : Below w.heap.size w w2 := tr2 (((((Below.refl w.heap.size w).alloc (Nat.le_refl _) _).alloc (by simp) _).alloc (by simp; omega) _).alloc (by simp; omega) _) hb2
  have HB := hide hb
  clear hb hb2 S'
  go_wp2
  go_ret
  exact ⟨rfl, unhide HB⟩

theorem eqN_other (qa qb : Option Addr) (la lb ca cb : Nat) (w : World) (h : ¬ la = lb) :
    Calls Tryd.prog 105 #[.slice qa la ca, .slice qb lb cb, .func (.func 54) #[] #[]] w fun e w' => e = .returned (.bool false) ∧ Below w.heap.size w w' := by
  have e : ((la : Int) == (lb : Int)) = false := beq_eq_false_iff_ne.2 (by omega)
  clear h
  go_enter Tryd.func105, Tryd.ntmps105
  go_wp2
  go_ret
  exact ⟨rfl, Below.refl _ _⟩
theorem eqN_none (qa qb : Option Addr) (ca cb : Nat) (w : World) :
    Calls Tryd.prog 105 #[.slice qa 0 ca, .slice qb 0 cb, .func (.func 54) #[] #[]] w fun e w' => e = .returned (.bool true) ∧ Below w.heap.size w w' := by
  go_enter Tryd.func105, Tryd.ntmps105
  go_wp2
  refine wp_loop_rounds 1 ?_
  rw [rounds_succ]; go_wp2
  go_ret
  exact ⟨rfl, Below.refl _ _⟩
set_option maxHeartbeats 4000000 in
theorem eqN_some (f h : Forest) (ga oa gb ob ca cb la : Nat) (w : World) (hla : Hid (f.len = la)) (hlb : Hid (h.len = la)) (hc : la ≤ 100000000) (hl1 : Lies f ga oa w) (hl2 : Lies h gb ob w) (hs : SmF f) (hcf : f.count ≤ 900000) (hch : h.count ≤ 900000) :
    Calls Tryd.prog 105 #[.slice (some ⟨ga, oa, none⟩) la ca, .slice (some ⟨gb, ob, none⟩) la cb, .func (.func 54) #[] #[]] w fun e w' => e = .returned (.bool (sameF f h)) ∧ Below w.heap.size w w' := by
  have H1 := hide hl1
  have H2 := hide hl2
  have HS := hide hs
  have HC1 := hide hcf
  have HC2 := hide hch
  have ell : ((la : Int) == (la : Int)) = true := by simp
  clear hl1 hl2 hs hcf hch
  go_enter Tryd.func105, Tryd.ntmps105
  go_wp2
  go_loopw [17] (fun i wr => ∃ j : Nat, j ≤ la ∧ i = .int .i64 j ∧ Below w.heap.size w wr ∧ sameF f h = sameF (f.drop j) (h.drop j)) (fun i _ => la - (intOf i).toNat)
  case atStart => exact ⟨0, Nat.zero_le _, rfl, Below.refl _ _, by rw [Forest.drop_zero, Forest.drop_zero]⟩
  case round =>
    obtain ⟨j, hj, rfl, hbw, heq⟩ := hrel
    by_cases hp : j < la
    · have hpi : (j : Int) < (la : Int) := by omega
      obtain ⟨k, sp, n, ats, tx, kids, hd⟩ := f.drop_cons j (by rw [unhide hla]; exact hp)
      obtain ⟨k', sp', n', ats', tx', kids', hd'⟩ := h.drop_cons j (by rw [unhide hlb]; exact hp)
      have hlw := ((unhide H1).drop j).below hbw
      have hlw' := ((unhide H2).drop j).below hbw
      have hsm := sm_drop j f (unhide HS)
      have hk1 := f.count_drop j
      have hk2 := h.count_drop j
      rw [hd] at hlw heq hsm hk1
      rw [hd'] at hlw' heq hk2
      have hx1 := unhide HC1
      have hx2 := unhide HC2
      simp only [Forest.count] at hk1 hk2
      rw [sameF_one] at heq
      obtain ⟨⟨c0, c1, c2, ⟨qa, ka, c3, hsl⟩, c4, ⟨qk, ck, c5, hck, hfk⟩⟩, _⟩ := hlw
      obtain ⟨⟨d0, d1, d2, ⟨qa', ka', d3, hsl'⟩, d4, ⟨qk', ck', d5, hck', hfk'⟩⟩, _⟩ := hlw'
      have HE := hide heq
      have hbA : Below wr.heap.size wr ((wr.alloc (Obj.cells #[.int .i64 k, .int .i64 sp, .string n, .slice qa ats.length ka, .string tx, .slice qk kids.len ck] 44)).alloc (Obj.cells #[.int .i64 k', .int .i64 sp', .string n', .slice qa' ats'.length ka', .string tx', .slice qk' kids'.len ck'] 44)) := ((Below.refl wr.heap.size wr).alloc (Nat.le_refl _) _).alloc (by simp) _
      have CA := hide (sameNode_any k sp n ats tx kids k' sp' n' ats' tx' kids' qa qa' qk qk' ka ka' ck ck' _ (hsl.below hbA) (hsl'.below hbA) (Fo.below hfk hbA) (Fo.below hfk' hbA) hck hck' ⟨hsm.1, hsm.2.1, trivial⟩ (by omega) (by omega))
      have HB := hide (tr2 hbw hbA)
      generalize sameF (.cons k sp n ats tx kids .nil) (.cons k' sp' n' ats' tx' kids' .nil) = bb at *
      clear hk1 hk2 hx1 hx2 hck hck' hfk hfk'
      generalize kids.len = kl at *
      generalize kids'.len = kl' at *
      generalize ats.length = al at *
      generalize ats'.length = al' at *
      have hgb : gb < wr.heap.size := World.block_lt_of_cell? wr _ d0
      have hne : gb ≠ wr.heap.size := by omega
      clear hsl hsl' hsm hd hd' heq hbA hbw
      cases bb with
      | true =>
        go_wp2_with fail
        refine (unhide CA).mono ?_
        rintro e w1 ⟨rfl, hb1⟩
        have HB1 := hide (tr2 (unhide HB) hb1)
        clear hb1 CA
        go_wp2
        go_roundw
        case rel => exact ⟨j + 1, by omega, by go_num, unhide HB1, by have := unhide HE; rw [Bool.true_and] at this; exact this⟩
        case measure => simp [intOf]; omega
      | false =>
        go_wp2_with fail
        refine (unhide CA).mono ?_
        rintro e w1 ⟨rfl, hb1⟩
        have HB1 := hide (tr2 (unhide HB) hb1)
        clear hb1 CA
        go_wp2
        go_ret
        exact ⟨by rw [unhide HE]; rfl, unhide HB1⟩
    · have hpi : ¬ (j : Int) < (la : Int) := by omega
      have HE : Hid (sameF f h = true) := hide (by rw [heq, f.drop_out j (by rw [unhide hla]; omega), h.drop_out j (by rw [unhide hlb]; omega)]; rfl)
      clear hp heq
      go_wp2
      go_ret
      exact ⟨by rw [unhide HE]; rfl, hbw⟩
theorem sameF_len (f h : Forest) (hl : ¬ f.len = h.len) : sameF f h = false := by
  cases e : sameF f h with
  | false => rfl
  | true => exact absurd (by rw [(sameF_eq f h).1 e]) hl
theorem eqN_any (f h : Forest) (qa qb : Option Addr) (ca cb : Nat) (w : World) (h1 : Fo qa f w) (h2 : Fo qb h w) (hs : SmF f) (hcf : f.count ≤ 900000) (hch : h.count ≤ 900000) :
    Calls Tryd.prog 105 #[.slice qa f.len ca, .slice qb h.len cb, .func (.func 54) #[] #[]] w fun e w' => e = .returned (.bool (sameF f h)) ∧ Below w.heap.size w w' := by
  have hfl := f.len_count
  by_cases hl : f.len = h.len
  · rcases h1 with rfl | ⟨ga, oa, rfl, hl1⟩
    · cases h with
      | nil => exact eqN_none qa qb ca cb w
      | cons _ _ _ _ _ _ _ => simp [Forest.len] at hl
    · rcases h2 with rfl | ⟨gb, ob, rfl, hl2⟩
      · cases f with
        | nil => exact eqN_none _ qb ca cb w
        | cons _ _ _ _ _ _ _ => simp [Forest.len] at hl
      · rw [← hl]
        exact eqN_some f h ga oa gb ob ca cb f.len w (hide rfl) (hide hl.symm) (by omega) hl1 hl2 hs hcf hch
  · rw [sameF_len f h hl]
    exact eqN_other qa qb f.len h.len ca cb w hl
theorem nsame_any (f h : Forest) (qa qb : Option Addr) (ca cb : Nat) (w : World) (h1 : Fo qa f w) (h2 : Fo qb h w) (hs : SmF f) (hcf : f.count ≤ 900000) (hch : h.count ≤ 900000) :
    Calls Tryd.prog 108 #[.slice qa f.len ca, .slice qb h.len cb, .func (.func 54) #[] #[]] w fun e w' => e = .returned (.bool (sameF f h)) ∧ Below w.heap.size w w' := by
  have C := hide (eqN_any f h qa qb ca cb w h1 h2 hs hcf hch)
  clear h1 h2 hs hcf hch
  generalize sameF f h = st at *
  generalize f.len = fl at *
  generalize h.len = hl at *
  go_enter Tryd.func108, Tryd.ntmps108
  go_wp2_with fail
  refine (unhide C).mono ?_
  rintro e1 w1 ⟨rfl, hb1⟩
  go_wp2
  go_ret
  exact ⟨rfl, hb1⟩
end Go.Proofs.YtbabmkilbbbmoaaDoor
