/-
  Several texts in one: what the functions of the program and of the document's answer do.
-/
import Derived.Test.YtbabmkilbbbmoaaDoorMgAO
import Derived.Test.YtbabmkilbbbmoaaDoorMgAL
import Derived.Maps.AppendAt

/-
  Unlike right nodes have unlike bytes, and no one's bytes begin with another one's (plain).
-/
namespace Go.Proofs.YtbabmkilbbbmoaaDoor
set_option linter.unusedVariables false
set_option linter.unusedSimpArgs false

theorem nb_uniq {a b : Int} {r s : List UInt8} (ha : 0 ≤ a ∧ a ≤ 1099511627776) (hb : 0 ≤ b ∧ b ≤ 1099511627776) (h : nb a ++ r = nb b ++ s) : a = b ∧ r = s := by
  have h1 := takeN_nb a r ha.1 ha.2
  rw [h, takeN_nb b s hb.1 hb.2] at h1
  have h2 : b = a := by simpa using congrArg (fun o => o.map (·.1)) h1
  subst h2
  exact ⟨rfl, List.append_cancel_left h⟩
theorem numW_uniq {a b : Int} {r s : List UInt8} (ha : 0 ≤ a ∧ a ≤ 1099511627776) (hb : 0 ≤ b ∧ b ≤ 1099511627776) (h : numW a ++ r = numW b ++ s) : a = b ∧ r = s := by
  rw [numW_nb ha.1 ha.2, numW_nb hb.1 hb.2] at h
  exact nb_uniq ha hb h
theorem tb_uniq {x y : ByteArray} {r s : List UInt8} (hx : x.size ≤ 65536) (hy : y.size ≤ 65536) (h : tb x ++ r = tb y ++ s) : x = y ∧ r = s := by
  unfold tb at h
  rw [List.append_assoc, List.append_assoc] at h
  obtain ⟨h1, h2⟩ := nb_uniq (by omega) (by omega) h
  have h3 : x.data.toList.length = y.data.toList.length := by
    have e1 : x.data.toList.length = x.size := by rw [Array.length_toList]; rfl
    have e2 : y.data.toList.length = y.size := by rw [Array.length_toList]; rfl
    omega
  obtain ⟨h4, h5⟩ := List.append_inj h2 h3
  refine ⟨?_, h5⟩
  rw [← bs_self x, ← bs_self y, h4]
def AtF (ats : List (ByteArray × ByteArray)) : Prop := ∀ a ∈ ats, a.1.size ≤ 65536 ∧ a.2.size ≤ 65536
theorem at_fits {ats : List (ByteArray × ByteArray)} (h : Fits ats) : AtF ats := by
  intro a ha
  obtain ⟨k, hk, rfl⟩ := List.getElem_of_mem ha
  have h1 := h.2 k hk
  have h3 : ats.getD k (ByteArray.empty, ByteArray.empty) = ats[k] := by simp [List.getD, List.getElem?_eq_getElem hk]
  unfold an av at h1
  rw [h3] at h1
  omega
theorem at_uniq : ∀ (a b : List (ByteArray × ByteArray)), a.length = b.length → AtF a → AtF b → ∀ r s : List UInt8, atW a ++ r = atW b ++ s → a = b ∧ r = s
  | [], [], _, _, _, r, s, h => ⟨rfl, h⟩
  | [], _ :: _, hl, _, _, _, _, _ => by simp at hl
  | _ :: _, [], hl, _, _, _, _, _ => by simp at hl
  | (x1, x2) :: a, (y1, y2) :: b, hl, ha, hb, r, s, h => by
    have a0 := ha _ (List.mem_cons_self ..)
    have b0 := hb _ (List.mem_cons_self ..)
    dsimp only at a0 b0
    simp only [atW, List.append_assoc] at h
    obtain ⟨e1, h⟩ := tb_uniq a0.1 b0.1 h
    obtain ⟨e2, h⟩ := tb_uniq a0.2 b0.2 h
    obtain ⟨e3, h⟩ := at_uniq a b (by simpa using hl) (fun z hz => ha z (List.mem_cons_of_mem _ hz)) (fun z hz => hb z (List.mem_cons_of_mem _ hz)) r s h
    exact ⟨by rw [e1, e2, e3], h⟩
theorem empty_of {n : ByteArray} (h : n.toList.isEmpty = true) : n = ⟨#[]⟩ := by
  rw [Lib.toList_data] at h
  have h1 : n.data.toList = [] := by simpa using h
  rw [← bs_self n, h1]; rfl
theorem ra_is {k sp : Int} {n : ByteArray} {ats : List (ByteArray × ByteArray)} {tx : ByteArray} {kl : Nat} (h : raB k sp n ats tx kl = true) :
    (k = 1 ∧ 0 ≤ sp ∧ sp ≤ 2 ∧ tx = ⟨#[]⟩) ∨ ((k = 2 ∨ k = 3) ∧ sp = 0 ∧ n = ⟨#[]⟩ ∧ ats = [] ∧ kl = 0) := by
  have ta : ∀ (h : taB sp n tx ats.length kl = true), sp = 0 ∧ n = ⟨#[]⟩ ∧ ats = [] ∧ kl = 0 := by
    intro h
    unfold taB at h
    simp only [Bool.and_eq_true, beq_iff_eq] at h
    exact ⟨h.2.1, empty_of h.2.2.1, List.eq_nil_of_length_eq_zero h.2.2.2.1, h.2.2.2.2⟩
  unfold raB at h
  by_cases h1 : k = 1
  · rw [if_pos h1] at h
    simp only [Bool.and_eq_true, decide_eq_true_eq] at h
    exact Or.inl ⟨h1, h.2.1, h.2.2.1, empty_of h.2.2.2⟩
  rw [if_neg h1] at h
  by_cases h2 : k = 2
  · rw [if_pos h2, Bool.and_eq_true] at h
    exact Or.inr ⟨Or.inl h2, ta h.2⟩
  rw [if_neg h2] at h
  by_cases h3 : k = 3
  · rw [if_pos h3] at h
    exact Or.inr ⟨Or.inr h3, ta h⟩
  · rw [if_neg h3] at h; cases h
theorem len0 {f : Forest} (h : f.len = 0) : f = .nil := len_nil h
theorem by_uniq : ∀ (f g : Forest), f.len = g.len → SmF f → SmF g → allB f = true → allB g = true → ∀ r s : List UInt8, byF f ++ r = byF g ++ s → f = g ∧ r = s
  | .nil, .nil, _, _, _, _, _, r, s, h => ⟨rfl, h⟩
  | .nil, .cons _ _ _ _ _ _ _, hl, _, _, _, _, _, _, _ => by simp [Forest.len] at hl
  | .cons _ _ _ _ _ _ _, .nil, hl, _, _, _, _, _, _, _ => by simp [Forest.len] at hl
  | .cons k sp n ats tx kids rest, .cons k' sp' n' ats' tx' kids' rest', hl, hs, hs', ha, ha', r, s, h => by
    have hl' : rest.len = rest'.len := by simpa [Forest.len] using hl
    obtain ⟨⟨htx, hn, hfit, hkc⟩, hsk, hsr⟩ := hs
    obtain ⟨⟨htx', hn', hfit', hkc'⟩, hsk', hsr'⟩ := hs'
    have ha1 : (raB k sp n ats tx kids.len && ((leafB k || (apartB kids && allB kids)) && allB rest)) = true := ha
    have ha1' : (raB k' sp' n' ats' tx' kids'.len && ((leafB k' || (apartB kids' && allB kids')) && allB rest')) = true := ha'
    rw [Bool.and_eq_true, Bool.and_eq_true] at ha1 ha1'
    obtain ⟨hra, hlf, hrest⟩ := ha1
    obtain ⟨hra', hlf', hrest'⟩ := ha1'
    have h : (nodeL k sp n ats tx kids.len ++ (byF kids ++ byF rest)) ++ r = (nodeL k' sp' n' ats' tx' kids'.len ++ (byF kids' ++ byF rest')) ++ s := h
    have hkl := kids.len_count
    have hkl' := kids'.len_count
    have ial := hfit.1
    have ial' := hfit'.1
    have hk : 0 ≤ k ∧ k ≤ 1099511627776 := by rcases ra_is hra with ⟨h1, _⟩ | ⟨h1 | h1, _⟩ <;> omega
    have hk' : 0 ≤ k' ∧ k' ≤ 1099511627776 := by rcases ra_is hra' with ⟨h1, _⟩ | ⟨h1 | h1, _⟩ <;> omega
    have hkk : k = k' := by
      unfold nodeL at h
      split at h <;> split at h <;> (simp only [List.append_assoc] at h; exact (numW_uniq hk hk' h).1)
    subst hkk
    unfold nodeL at h
    rcases ra_is hra with ⟨h1, hsp, hsp2, htx0⟩ | ⟨h1, hsp0, hn0, hat0, hkl0⟩
    · rcases ra_is hra' with ⟨_, hsp', hsp2', htx0'⟩ | ⟨h1', _⟩
      · rw [if_pos h1, if_pos h1] at h
        simp only [List.append_assoc] at h
        obtain ⟨_, h⟩ := numW_uniq hk hk h
        obtain ⟨e1, h⟩ := numW_uniq ⟨hsp, by omega⟩ ⟨hsp', by omega⟩ h
        obtain ⟨e2, h⟩ := tb_uniq (by omega) (by omega) h
        obtain ⟨e3, h⟩ := numW_uniq (by omega) (by omega) h
        obtain ⟨e4, h⟩ := at_uniq ats ats' (by omega) (at_fits hfit) (at_fits hfit') _ _ h
        obtain ⟨e5, h⟩ := numW_uniq (by omega) (by omega) h
        have hlk : leafB k = false := by rw [h1]; rfl
        rw [hlk, Bool.false_or, Bool.and_eq_true] at hlf hlf'
        obtain ⟨e6, h⟩ := by_uniq kids kids' (by omega) hsk hsk' hlf.2 hlf'.2 _ _ h
        obtain ⟨e7, h⟩ := by_uniq rest rest' hl' hsr hsr' hrest hrest' _ _ h
        exact ⟨by rw [e1, e2, e4, htx0, htx0', e6, e7], h⟩
      · omega
    · rcases ra_is hra' with ⟨h1', _⟩ | ⟨_, hsp0', hn0', hat0', hkl0'⟩
      · omega
      · have hk1 : ¬ k = 1 := by omega
        have q := len0 hkl0
        have q' := len0 hkl0'
        rw [if_neg hk1, if_neg hk1, q, q'] at h
        simp only [List.append_assoc] at h
        obtain ⟨_, h⟩ := numW_uniq hk hk h
        obtain ⟨e2, h⟩ := tb_uniq (by omega) (by omega) h
        have h : byF rest ++ r = byF rest' ++ s := h
        obtain ⟨e7, h⟩ := by_uniq rest rest' hl' hsr hsr' hrest hrest' _ _ h
        exact ⟨by rw [hsp0, hsp0', hn0, hn0', hat0, hat0', e2, q, q', e7], h⟩
theorem bytes_uniq {f g : Forest} (hs : SmF f) (hs' : SmF g) (hc : f.count ≤ 1000000) (hc' : g.count ≤ 1000000) (ha : allB f = true) (ha' : allB g = true) {r s : List UInt8} (h : bytesL f ++ r = bytesL g ++ s) : f = g ∧ r = s := by
  unfold bytesL at h
  simp only [List.append_assoc] at h
  have := f.len_count
  have := g.len_count
  obtain ⟨e, h⟩ := numW_uniq (by omega) (by omega) h
  exact by_uniq f g (by omega) hs hs' ha ha' _ _ h
theorem check0 {f : Forest} (h : checkN f = 0) : allB f = true ∧ f.count ≤ 300 := by
  rw [check_is] at h
  unfold rcheckN at h
  by_cases h2 : 300 < f.count ∨ 40 < f.depth
  · rw [if_pos h2] at h; omega
  rw [if_neg h2] at h
  have h3 : rightN f = true := by
    cases h4 : rightN f with
    | true => rfl
    | false => rw [h4] at h; simp at h
  unfold rightN at h3
  rw [Bool.and_eq_true] at h3
  exact ⟨h3.2, by omega⟩
theorem alikeN_eq {k sp : Int} {n : ByteArray} {ats : List (ByteArray × ByteArray)} {tx : ByteArray} {k' sp' : Int} {n' : ByteArray} {ats' : List (ByteArray × ByteArray)} {tx' : ByteArray} :
    alikeN k sp n ats tx k' sp' n' ats' tx' = true ↔ k = k' ∧ sp = sp' ∧ n = n' ∧ tx = tx' ∧ ats = ats' := by
  unfold alikeN sameA
  simp only [Bool.and_eq_true, decide_eq_true_eq]
theorem sameF_eq : ∀ (f g : Forest), sameF f g = true ↔ f = g
  | .nil, .nil => by simp [sameF]
  | .nil, .cons _ _ _ _ _ _ _ => by simp [sameF]
  | .cons _ _ _ _ _ _ _, .nil => by simp [sameF]
  | .cons k sp n ats tx kids r, .cons k' sp' n' ats' tx' kids' r' => by
    rw [sameF, Bool.and_eq_true, Bool.and_eq_true, alikeN_eq, sameF_eq kids kids', sameF_eq r r']
    constructor
    · rintro ⟨⟨rfl, rfl, rfl, rfl, rfl⟩, rfl, rfl⟩; rfl
    · intro h; injection h with h1 h2 h3 h4 h5 h6 h7; exact ⟨⟨h1, h2, h3, h5, h4⟩, h6, h7⟩
def begB (x y : List UInt8) : Bool := decide (y.length ≤ x.length ∧ x.take y.length = y)
theorem beg_app {x y : List UInt8} (h : begB x y = true) : ∃ r, x = y ++ r := by
  have := of_decide_eq_true h
  exact ⟨x.drop y.length, by rw [← this.2]; rw [List.length_take, Nat.min_eq_left this.1]; exact (List.take_append_drop _ _).symm⟩
theorem beg_self (x : List UInt8) : begB x x = true := decide_eq_true ⟨Nat.le_refl _, List.take_length⟩
theorem apart_is {f g : Forest} (hs : SmF f) (hs' : SmF g) (h0 : checkN f = 0) (h0' : checkN g = 0) : (begB (bytesL f) (bytesL g) || begB (bytesL g) (bytesL f)) = sameF f g := by
  obtain ⟨ha, hc⟩ := check0 h0
  obtain ⟨ha', hc'⟩ := check0 h0'
  cases hsf : sameF f g with
  | true =>
    have := (sameF_eq f g).1 hsf
    subst this
    rw [beg_self]; rfl
  | false =>
    have hne : ¬ f = g := fun e => by rw [(sameF_eq f g).2 e] at hsf; cases hsf
    have b1 : begB (bytesL f) (bytesL g) = false := by
      cases hb : begB (bytesL f) (bytesL g) with
      | false => rfl
      | true =>
        obtain ⟨r, hr⟩ := beg_app hb
        exact absurd (bytes_uniq (r := []) (s := r) hs hs' (by omega) (by omega) ha ha' (by rw [List.append_nil]; exact hr)).1 hne
    have b2 : begB (bytesL g) (bytesL f) = false := by
      cases hb : begB (bytesL g) (bytesL f) with
      | false => rfl
      | true =>
        obtain ⟨r, hr⟩ := beg_app hb
        exact absurd (bytes_uniq (r := r) (s := []) hs hs' (by omega) (by omega) ha ha' (by rw [List.append_nil]; exact hr.symm)).1 hne
    rw [b1, b2]; rfl
end Go.Proofs.YtbabmkilbbbmoaaDoor

/-
  A tree.reader, plainly: what its num, text, attrs, node and list take off bytes; and a world without one block.
-/
namespace Go.Proofs.YtbabmkilbbbmoaaDoor
open Go.RowKit
set_option linter.unusedVariables false
set_option linter.unusedSimpArgs false

/-! ### a world without some blocks -/
def mask (p : Nat → Bool) (W : World) : World := { W with heap := W.heap.mapIdx fun i o => if p i then .cells #[] 3 (0, 0) else o }
def hiP (B : Nat) : Nat → Bool := fun i => decide (i < B)
theorem mask_get (p : Nat → Bool) (W : World) (k : Nat) : (mask p W).heap[k]? = W.heap[k]?.map fun o => if p k then .cells #[] 3 (0, 0) else o := by
  show (W.heap.mapIdx _)[k]? = _
  rw [Array.getElem?_mapIdx]
theorem mask_cell {p : Nat → Bool} {W : World} {g o : Nat} {v : Value} : (mask p W).cell? ⟨g, o, none⟩ = some v ↔ p g = false ∧ W.cell? ⟨g, o, none⟩ = some v := by
  cases hp : p g with
  | true =>
    have h := mask_get p W g
    rw [hp] at h
    constructor
    · intro hc
      cases hw : W.heap[g]? with
      | none => rw [hw] at h; simp [World.cell?, h] at hc
      | some x => rw [hw] at h; simp [World.cell?, h] at hc
    · intro hc; cases hc.1
  | false =>
    have h : (mask p W).heap[g]? = W.heap[g]? := by rw [mask_get, hp]; cases W.heap[g]? <;> simp
    have e : (mask p W).cell? ⟨g, o, none⟩ = W.cell? ⟨g, o, none⟩ := World.cell?_of_block (w := W) h
    rw [e]; simp
def CellLe (W W' : World) : Prop := ∀ (g o : Nat) (v : Value), W.cell? ⟨g, o, none⟩ = some v → W'.cell? ⟨g, o, none⟩ = some v
theorem CellLe.trans {W W1 W2 : World} (h : CellLe W W1) (h' : CellLe W1 W2) : CellLe W W2 := fun g o v hc => h' g o v (h g o v hc)
theorem Sl.le {W W' : World} (hc : CellLe W W') {q : Option Addr} {ats : List (ByteArray × ByteArray)} (h : Sl q ats W) : Sl q ats W' :=
  h.imp id fun ⟨g, o, h1, h2⟩ => ⟨g, o, h1, fun k hk => ⟨hc _ _ _ (h2 k hk).1, hc _ _ _ (h2 k hk).2⟩⟩
theorem Lies.le {W W' : World} (hc : CellLe W W') : ∀ (f : Forest) (g o : Nat), Lies f g o W → Lies f g o W'
  | .nil, g, o, h => trivial
  | .cons k sp n ats tx kids rest, g, o, h => by
    obtain ⟨⟨h0, h1, h2, ⟨qa, ca, h3, h3'⟩, h4, ⟨qk, ck, h5, h6, h7⟩⟩, hr⟩ := h
    refine ⟨⟨hc _ _ _ h0, hc _ _ _ h1, hc _ _ _ h2, ⟨qa, ca, hc _ _ _ h3, h3'.le hc⟩, hc _ _ _ h4, ⟨qk, ck, hc _ _ _ h5, h6, ?_⟩⟩, Lies.le hc rest g (o + 6) hr⟩
    rcases h7 with h7 | ⟨g', o', hq, hl⟩
    · exact Or.inl h7
    · exact Or.inr ⟨g', o', hq, Lies.le hc kids g' o' hl⟩
theorem Fo.le {W W' : World} (hc : CellLe W W') {q : Option Addr} {f : Forest} (h : Fo q f W) : Fo q f W' :=
  h.imp id fun ⟨g, o, h1, h2⟩ => ⟨g, o, h1, h2.le hc⟩
theorem mask_out (p : Nat → Bool) (W : World) : CellLe (mask p W) W := fun g o v h => (mask_cell.1 h).2
theorem mask_less {p p' : Nat → Bool} (W : World) (h : ∀ i, p' i = true → p i = true) : CellLe (mask p W) (mask p' W) := fun g o v hc => by
  obtain ⟨h1, h2⟩ := mask_cell.1 hc
  refine mask_cell.2 ⟨?_, h2⟩
  cases hg : p' g with
  | false => rfl
  | true => rw [h g hg] at h1; cases h1
/-- What stands outside p stands so later, too. -/
theorem mask_kept {p p' : Nat → Bool} {W W' : World} (h : ∀ k, k < W.heap.size → p k = false → p' k = false ∧ W'.heap[k]? = W.heap[k]?) : CellLe (mask p W) (mask p' W') := fun g o v hc => by
  obtain ⟨h1, h2⟩ := mask_cell.1 hc
  have hl : g < W.heap.size := World.block_lt_of_cell? W ⟨g, o, none⟩ h2
  obtain ⟨h3, h4⟩ := h g hl h1
  exact mask_cell.2 ⟨h3, (World.cell?_of_block (w := W) (a := ⟨g, o, none⟩) h4).trans h2⟩
theorem mask_kpr {p : Nat → Bool} {R : Nat} {W W' : World} (hk : KpR R W W') (hp : p R = true) : CellLe (mask p W) (mask p W') :=
  mask_kept fun k hl h => ⟨h, hk.block k hl (fun e => by rw [e, hp] at h; cases h)⟩
theorem mask_set {p : Nat → Bool} {b o : Nat} {W : World} {v : Value} (hp : p b = true) : CellLe (mask p W) (mask p (W.setCell ⟨b, o, none⟩ v)) :=
  mask_kept fun k hl h => ⟨h, Below.heap_setCell W ⟨b, o, none⟩ v k (by show k ≠ b; intro e; rw [e, hp] at h; cases h)⟩
theorem hiP_at {B k : Nat} (h : k < B) : hiP B k = true := decide_eq_true h
theorem hiP_not {B k : Nat} (h : B ≤ k) : hiP B k = false := decide_eq_false (by omega)
theorem hiP_less {B B' : Nat} (h : B' ≤ B) : ∀ i, hiP B' i = true → hiP B i = true := fun i hi => by
  have := of_decide_eq_true hi
  exact hiP_at (by omega)

/-! ### what is taken off -/
def txF (l : List UInt8) (b : Bool) : ByteArray × List UInt8 × Bool :=
  match takeT l with
  | some (k, n) => (bs ((l.drop k).take n), (l.drop k).drop n, b)
  | none => (⟨#[]⟩, [], true)
def nmF (most : Int) (l : List UInt8) (b : Bool) : Int × List UInt8 × Bool :=
  match takeN l with
  | some (v, k) => if most < v then (0, [], true) else (v, l.drop k, b)
  | none => (0, [], true)
def atF : Nat → List UInt8 → Bool → List (ByteArray × ByteArray) × List UInt8 × Bool
  | 0, l, b => ([], l, b)
  | c + 1, l, b => (((txF l b).1, (txF (txF l b).2.1 (txF l b).2.2).1) :: (atF c (txF (txF l b).2.1 (txF l b).2.2).2.1 (txF (txF l b).2.1 (txF l b).2.2).2.2).1, (atF c (txF (txF l b).2.1 (txF l b).2.2).2.1 (txF (txF l b).2.1 (txF l b).2.2).2.2).2)
def asF (l : List UInt8) (b : Bool) : List (ByteArray × ByteArray) × List UInt8 × Bool := atF (nmF 12 l b).1.toNat (nmF 12 l b).2.1 (nmF 12 l b).2.2
structure Nd where
  k : Int
  sp : Int
  n : ByteArray
  ats : List (ByteArray × ByteArray)
  tx : ByteArray
  kids : Forest
def Nd.cons (x : Nd) (r : Forest) : Forest := .cons x.k x.sp x.n x.ats x.tx x.kids r
abbrev RS := List UInt8 × Nat × Bool
def ndF (kf : RS → Forest × RS) (dp : Bool) (s : RS) : Nd × RS :=
  if (nmF 3 s.1 s.2.2).1 = 2 ∨ (nmF 3 s.1 s.2.2).1 = 3 then
    (⟨(nmF 3 s.1 s.2.2).1, 0, ⟨#[]⟩, [], (txF (nmF 3 s.1 s.2.2).2.1 (nmF 3 s.1 s.2.2).2.2).1, .nil⟩, (txF (nmF 3 s.1 s.2.2).2.1 (nmF 3 s.1 s.2.2).2.2).2.1, s.2.1, (txF (nmF 3 s.1 s.2.2).2.1 (nmF 3 s.1 s.2.2).2.2).2.2)
  else if (nmF 3 s.1 s.2.2).1 = 1 ∧ dp = true then
    let k := nmF 3 s.1 s.2.2
    let p := nmF 2 k.2.1 k.2.2
    let t := txF p.2.1 p.2.2
    let a := asF t.2.1 t.2.2
    let ks := kf (a.2.1, s.2.1, a.2.2)
    (⟨1, p.1, t.1, a.1, ⟨#[]⟩, ks.1⟩, ks.2)
  else (⟨(nmF 3 s.1 s.2.2).1, 0, ⟨#[]⟩, [], ⟨#[]⟩, .nil⟩, [], s.2.1, true)
def stF (s : RS) : RS := if 300 < s.2.1 + 1 then ([], s.2.1 + 1, true) else (s.1, s.2.1 + 1, s.2.2)
def lpF (nd : RS → Nd × RS) : Nat → RS → Option Forest × RS
  | 0, s => (some .nil, s)
  | c + 1, s => if (stF s).2.2 = true then (none, stF s) else ((lpF nd c (nd (stF s)).2).1.map (nd (stF s)).1.cons, (lpF nd c (nd (stF s)).2).2)
def topF (nd : RS → Nd × RS) (s : RS) : Forest × RS :=
  ((lpF nd (nmF 300 s.1 s.2.2).1.toNat ((nmF 300 s.1 s.2.2).2.1, s.2.1, (nmF 300 s.1 s.2.2).2.2)).1.getD .nil, (lpF nd (nmF 300 s.1 s.2.2).1.toNat ((nmF 300 s.1 s.2.2).2.1, s.2.1, (nmF 300 s.1 s.2.2).2.2)).2)
def lsF : Nat → RS → Forest × RS
  | 0 => topF (ndF (fun s => (.nil, s)) false)
  | d + 1 => topF (ndF (lsF d) true)
/-- What holds all along: where it stopped nothing is left; and how many nodes were counted. -/
structure RsOk (X : Nat) (s : RS) : Prop where
  stop : s.2.2 = true → s.1 = []
  few : s.2.2 = false → s.2.1 ≤ 300
  most : s.2.1 ≤ X
theorem takeN_nil : takeN [] = none := rfl
theorem nmF_ok (most : Int) (l : List UInt8) (b : Bool) (h : b = true → l = []) : ((nmF most l b).2.2 = true → (nmF most l b).2.1 = []) ∧ (nmF most l b).2.1.length ≤ l.length ∧ 0 ≤ (nmF most l b).1 ∧ (0 ≤ most → (nmF most l b).1 ≤ most) ∧ ((nmF most l b).2.2 = false → b = false) ∧ ((nmF most l b).2.2 = true → (nmF most l b).1 = 0) := by
  unfold nmF
  cases ht : takeN l with
  | none => exact ⟨fun _ => rfl, Nat.zero_le _, Int.le_refl _, id, (fun h => by cases h), fun _ => rfl⟩
  | some x =>
    obtain ⟨v, k⟩ := x
    have hv := takeN_some ht
    dsimp only
    by_cases hm : most < v
    · rw [if_pos hm]; exact ⟨fun _ => rfl, Nat.zero_le _, Int.le_refl _, id, (fun h => by cases h), fun _ => rfl⟩
    · rw [if_neg hm]
      have hb : b = false := by
        cases b with
        | false => rfl
        | true => rw [h rfl, takeN_nil] at ht; cases ht
      subst hb
      exact ⟨(fun h => by cases h), by simp, hv.1, fun _ => by show v ≤ most; omega, id, fun h => by cases h⟩
theorem txF_ok (l : List UInt8) (b : Bool) (h : b = true → l = []) : ((txF l b).2.2 = true → (txF l b).2.1 = []) ∧ (txF l b).2.1.length + (txF l b).1.size ≤ l.length ∧ ((txF l b).2.2 = false → b = false) := by
  unfold txF
  cases ht : takeT l with
  | none => exact ⟨fun _ => rfl, Nat.zero_le _, fun h => by cases h⟩
  | some x =>
    obtain ⟨k, n⟩ := x
    have hv := takeT_some ht
    have hb : b = false := by
      cases b with
      | false => rfl
      | true => rw [h rfl] at ht; cases ht
    subst hb
    refine ⟨(fun h => by cases h), ?_, id⟩
    dsimp only
    rw [bs_size]
    simp
    omega
theorem atF_ok : ∀ (c : Nat) (l : List UInt8) (b : Bool), (b = true → l = []) → ((atF c l b).2.2 = true → (atF c l b).2.1 = []) ∧ (atF c l b).2.1.length ≤ l.length ∧ ((atF c l b).2.2 = false → b = false) ∧ (atF c l b).1.length = c ∧ ∀ a ∈ (atF c l b).1, a.1.size ≤ l.length ∧ a.2.size ≤ l.length
  | 0, l, b, h => ⟨h, Nat.le_refl _, id, rfl, fun a ha => by cases ha⟩
  | c + 1, l, b, h => by
    obtain ⟨x1, x2, x3⟩ := txF_ok l b h
    obtain ⟨y1, y2, y3⟩ := txF_ok (txF l b).2.1 (txF l b).2.2 x1
    obtain ⟨z1, z2, z3, z4, z5⟩ := atF_ok c (txF (txF l b).2.1 (txF l b).2.2).2.1 (txF (txF l b).2.1 (txF l b).2.2).2.2 y1
    refine ⟨z1, by show (atF c _ _).2.1.length ≤ _; omega, fun h => x3 (y3 (z3 h)), by show (_ :: (atF c _ _).1).length = _; rw [List.length_cons, z4], fun a ha => ?_⟩
    rcases List.mem_cons.1 (show a ∈ (_ :: (atF c _ _).1) from ha) with rfl | ha
    · exact ⟨by show (txF l b).1.size ≤ _; omega, by show (txF _ _).1.size ≤ _; omega⟩
    · have := z5 a ha; omega
theorem asF_ok (l : List UInt8) (b : Bool) (h : b = true → l = []) : ((asF l b).2.2 = true → (asF l b).2.1 = []) ∧ (asF l b).2.1.length ≤ l.length ∧ ((asF l b).2.2 = false → b = false) ∧ (asF l b).1.length ≤ 12 ∧ ∀ a ∈ (asF l b).1, a.1.size ≤ l.length ∧ a.2.size ≤ l.length := by
  obtain ⟨x1, x2, x3, x4, x5, _⟩ := nmF_ok 12 l b h
  obtain ⟨z1, z2, z3, z4, z5⟩ := atF_ok (nmF 12 l b).1.toNat (nmF 12 l b).2.1 (nmF 12 l b).2.2 x1
  have := x4 (by omega)
  refine ⟨z1, by unfold asF; omega, fun h => x5 (z3 h), by unfold asF; omega, fun a ha => ?_⟩
  have := z5 a ha
  omega
structure KfOk (Y : Nat) (s : RS) (z : Forest × RS) : Prop where
  rs : RsOk Y z.2
  len : z.2.1.length ≤ s.1.length
  sm : s.1.length ≤ 5000 → SmF z.1
  cnt : z.1.count + s.2.1 ≤ z.2.2.1
  was : z.2.2.2 = false → s.2.2 = false
structure NdOk (Y : Nat) (s : RS) (z : Nd × RS) : Prop where
  rs : RsOk Y z.2
  len : z.2.1.length ≤ s.1.length
  tx : s.1.length ≤ 5000 → z.1.tx.size ≤ 5000
  n : s.1.length ≤ 5000 → z.1.n.size ≤ 5000
  ats : s.1.length ≤ 5000 → Fits z.1.ats
  sm : s.1.length ≤ 5000 → SmF z.1.kids
  cnt : z.1.kids.count + s.2.1 ≤ z.2.2.1
  was : z.2.2.2 = false → s.2.2 = false
theorem fits_of {ats : List (ByteArray × ByteArray)} {L : Nat} (h1 : ats.length ≤ 1000) (hL : L ≤ 10000) (h2 : ∀ a ∈ ats, a.1.size ≤ L ∧ a.2.size ≤ L) : Fits ats := by
  refine ⟨h1, fun k hk => ?_⟩
  have h3 : ats.getD k (ByteArray.empty, ByteArray.empty) = ats[k] := by simp [List.getD, List.getElem?_eq_getElem hk]
  have := h2 ats[k] (List.getElem_mem hk)
  unfold an av
  rw [h3]; omega
theorem fits_nil : Fits [] := ⟨Nat.zero_le _, fun k hk => absurd hk (Nat.not_lt_zero k)⟩
theorem ndF_ok {Y : Nat} (hY : 300 ≤ Y) (kf : RS → Forest × RS) (hk : ∀ s : RS, (s.2.2 = true → s.1 = []) → s.2.1 ≤ 300 → s.1.length ≤ 1000000000000 → KfOk Y s (kf s)) (dp : Bool) (s : RS) (h1 : s.2.2 = true → s.1 = []) (h2 : s.2.1 ≤ 300) (h3 : s.1.length ≤ 1000000000000) : NdOk Y s (ndF kf dp s) := by
  obtain ⟨x1, x2, x3, x4, x5, _⟩ := nmF_ok 3 s.1 s.2.2 h1
  unfold ndF
  by_cases c1 : (nmF 3 s.1 s.2.2).1 = 2 ∨ (nmF 3 s.1 s.2.2).1 = 3
  · rw [if_pos c1]
    obtain ⟨y1, y2, y3⟩ := txF_ok (nmF 3 s.1 s.2.2).2.1 (nmF 3 s.1 s.2.2).2.2 x1
    exact ⟨⟨y1, fun _ => h2, by show s.2.1 ≤ Y; omega⟩, by show (txF _ _).2.1.length ≤ _; omega, (fun h5 => by show (txF _ _).1.size ≤ _; omega), (fun _ => by show (⟨#[]⟩ : ByteArray).size ≤ _; decide), fun _ => fits_nil, fun _ => trivial, by show 0 + s.2.1 ≤ s.2.1; omega, fun h => x5 (y3 h)⟩
  rw [if_neg c1]
  by_cases c2 : (nmF 3 s.1 s.2.2).1 = 1 ∧ dp = true
  · rw [if_pos c2]
    obtain ⟨p1, p2, p3, p4, p5, _⟩ := nmF_ok 2 (nmF 3 s.1 s.2.2).2.1 (nmF 3 s.1 s.2.2).2.2 x1
    dsimp only
    generalize nmF 2 (nmF 3 s.1 s.2.2).2.1 (nmF 3 s.1 s.2.2).2.2 = p at *
    obtain ⟨t1, t2, t3⟩ := txF_ok p.2.1 p.2.2 p1
    generalize txF p.2.1 p.2.2 = t at *
    obtain ⟨a1, a2, a3, a4, a5⟩ := asF_ok t.2.1 t.2.2 t1
    generalize asF t.2.1 t.2.2 = a at *
    have hkf := hk (a.2.1, s.2.1, a.2.2) a1 h2 (by show a.2.1.length ≤ _; omega)
    have hlen := hkf.len
    dsimp only at hlen
    exact ⟨hkf.rs, by dsimp only; omega, (fun _ => by show (⟨#[]⟩ : ByteArray).size ≤ _; decide), (fun h5 => by show t.1.size ≤ _; omega), (fun h5 => fits_of (L := t.2.1.length) (by show a.1.length ≤ _; omega) (by omega) a5), (fun h5 => hkf.sm (by show a.2.1.length ≤ _; omega)), hkf.cnt, fun h => x5 (p5 (t3 (a3 (hkf.was h))))⟩
  · rw [if_neg c2]
    exact ⟨⟨fun _ => rfl, (fun h => by cases h), by show s.2.1 ≤ Y; omega⟩, Nat.zero_le _, (fun _ => by show (⟨#[]⟩ : ByteArray).size ≤ _; decide), (fun _ => by show (⟨#[]⟩ : ByteArray).size ≤ _; decide), fun _ => fits_nil, fun _ => trivial, by show 0 + s.2.1 ≤ s.2.1; omega, fun h => by cases h⟩
theorem stF_ok {X : Nat} {s : RS} (h : RsOk X s) : ((stF s).2.2 = true → (stF s).1 = []) ∧ ((stF s).2.2 = false → (stF s).2.1 ≤ 300 ∧ s.2.2 = false) ∧ (stF s).2.1 = s.2.1 + 1 ∧ (stF s).1.length ≤ s.1.length := by
  unfold stF
  by_cases c : 300 < s.2.1 + 1
  · rw [if_pos c]; exact ⟨fun _ => rfl, (fun h => by cases h), rfl, Nat.zero_le _⟩
  · rw [if_neg c]; exact ⟨h.stop, fun hb => ⟨by show s.2.1 + 1 ≤ 300; omega, hb⟩, rfl, Nat.le_refl _⟩
structure LpOk (X c : Nat) (s : RS) (z : Option Forest × RS) : Prop where
  rs : RsOk (X + 1) z.2
  len : z.2.1.length ≤ s.1.length
  some : ∀ f, z.1 = .some f → (s.1.length ≤ 5000 → SmF f) ∧ f.count + s.2.1 ≤ z.2.2.1 ∧ f.len = c
  none : z.1 = .none → z.2.2.2 = true ∧ s.2.1 ≤ z.2.2.1
  was : z.2.2.2 = false → s.2.2 = false
theorem lpF_ok {X : Nat} (nd : RS → Nd × RS) (hn : ∀ s : RS, (s.2.2 = true → s.1 = []) → s.2.1 ≤ 300 → s.1.length ≤ 1000000000000 → NdOk X s (nd s)) (hX : X ≤ 1000) : ∀ (c : Nat) (s : RS), RsOk X s → s.1.length ≤ 1000000000000 → LpOk X c s (lpF nd c s)
  | 0, s, h, hl => ⟨⟨h.stop, h.few, Nat.le_succ_of_le h.most⟩, Nat.le_refl _, fun f hf => by
      have : Option.some Forest.nil = .some f := hf
      cases this; exact ⟨fun _ => trivial, by show 0 + _ ≤ s.2.1; omega, rfl⟩, (fun hf => by cases hf), id⟩
  | c + 1, s, h, hl => by
    obtain ⟨s1, s2, s3, s4⟩ := stF_ok h
    have hm := h.most
    rw [lpF]
    by_cases hb : (stF s).2.2 = true
    · rw [if_pos hb]
      exact ⟨⟨s1, (fun h => by rw [hb] at h; cases h), by rw [s3]; omega⟩, s4, (fun f hf => by cases hf), fun _ => ⟨hb, by rw [s3]; omega⟩, fun h => by rw [hb] at h; cases h⟩
    · rw [if_neg hb]
      have hb' : (stF s).2.2 = false := by simpa using hb
      have hnd := hn (stF s) s1 (s2 hb').1 (by omega)
      have ih := lpF_ok nd hn hX c (nd (stF s)).2 hnd.rs (by have := hnd.len; omega)
      refine ⟨ih.rs, by have h1 := ih.len; have h2 := hnd.len; dsimp only; omega, fun f hf => ?_, fun hf => ?_, fun h => (s2 hb').2⟩
      · dsimp only at hf
        cases hz : (lpF nd c (nd (stF s)).2).1 with
        | none => rw [hz] at hf; cases hf
        | some g =>
          rw [hz] at hf
          have hf : (nd (stF s)).1.cons g = f := by simpa using hf
          obtain ⟨g1, g2, g3⟩ := ih.some g hz
          have hcn := hnd.cnt
          subst hf
          refine ⟨fun h5 => ⟨⟨hnd.tx (by omega), hnd.n (by omega), hnd.ats (by omega), ?_⟩, hnd.sm (by omega), g1 (by have := hnd.len; omega)⟩, ?_, by show g.len + 1 = _; rw [g3]⟩
          · have := ih.rs.most
            omega
          · show 1 + (nd (stF s)).1.kids.count + g.count + s.2.1 ≤ (lpF nd c (nd (stF s)).2).2.2.1
            omega
      · dsimp only at hf
        cases hz : (lpF nd c (nd (stF s)).2).1 with
        | some g => rw [hz] at hf; cases hf
        | none =>
          have := ih.none hz
          have hcn := hnd.cnt
          exact ⟨this.1, by dsimp only; omega⟩
theorem topF_ok {X : Nat} (hX0 : 300 ≤ X) (nd : RS → Nd × RS) (hn : ∀ s : RS, (s.2.2 = true → s.1 = []) → s.2.1 ≤ 300 → s.1.length ≤ 1000000000000 → NdOk X s (nd s)) (hX : X ≤ 1000) (s : RS) (h1 : s.2.2 = true → s.1 = []) (h2 : s.2.1 ≤ 300) (h3 : s.1.length ≤ 1000000000000) : KfOk (X + 1) s (topF nd s) := by
  obtain ⟨x1, x2, x3, x4, x5, _⟩ := nmF_ok 300 s.1 s.2.2 h1
  unfold topF
  have hl := lpF_ok nd hn hX (nmF 300 s.1 s.2.2).1.toNat ((nmF 300 s.1 s.2.2).2.1, s.2.1, (nmF 300 s.1 s.2.2).2.2) ⟨x1, fun _ => h2, by show s.2.1 ≤ X; omega⟩ (by show (nmF 300 s.1 s.2.2).2.1.length ≤ _; omega)
  generalize lpF nd (nmF 300 s.1 s.2.2).1.toNat ((nmF 300 s.1 s.2.2).2.1, s.2.1, (nmF 300 s.1 s.2.2).2.2) = z at *
  obtain ⟨zo, z⟩ := z
  have hlen := hl.len
  dsimp only at hlen
  cases zo with
  | none => exact ⟨hl.rs, by dsimp only; omega, fun _ => trivial, by have := (hl.none rfl).2; show 0 + s.2.1 ≤ z.2.1; dsimp only at this; omega, fun h => x5 (hl.was h)⟩
  | some f => exact ⟨hl.rs, by dsimp only; omega, fun h5 => (hl.some f rfl).1 (by dsimp only; omega), (hl.some f rfl).2.1, fun h => x5 (hl.was h)⟩
theorem lsF_ok : ∀ (d : Nat), d ≤ 40 → ∀ (s : RS), (s.2.2 = true → s.1 = []) → s.2.1 ≤ 300 → s.1.length ≤ 1000000000000 → KfOk (302 + d) s (lsF d s)
  | 0, _, s, h1, h2, h3 => topF_ok (X := 301) (by omega) _ (fun s a b c => ndF_ok (Y := 301) (by omega) (fun s => (.nil, s)) (fun s a b c => ⟨⟨a, fun _ => b, by show s.2.1 ≤ 301; omega⟩, Nat.le_refl _, fun _ => trivial, by show 0 + s.2.1 ≤ s.2.1; omega, id⟩) false s a b c) (by omega) s h1 h2 h3
  | d + 1, hd, s, h1, h2, h3 => topF_ok (X := 302 + d) (by omega) _ (fun s a b c => ndF_ok (Y := 302 + d) (by omega) _ (lsF_ok d (by omega)) true s a b c) (by omega) s h1 h2 h3
end Go.Proofs.YtbabmkilbbbmoaaDoor

/-
  A tree.reader's num, text and attrs, of any bytes.
-/
namespace Go.Proofs.YtbabmkilbbbmoaaDoor
open Go.RowKit
set_option linter.unusedVariables false
set_option linter.unusedSimpArgs false

theorem numErr_is : numErr = .tuple #[.int .i64 0, .string ⟨#[]⟩, .int .i64 4] := rfl
theorem textErr_is : textErr = .tuple #[.string ⟨#[]⟩, .string ⟨#[]⟩, .int .i64 4] := rfl
end Go.Proofs.YtbabmkilbbbmoaaDoor

/-
  A tree.reader's attrs, of any bytes (made by mk_yrs.py).
-/
namespace Go.Proofs.YtbabmkilbbbmoaaDoor
open Go.RowKit
set_option linter.unusedVariables false
set_option linter.unusedSimpArgs false

/-- The cells of attributes, one behind the other. -/
def flatA (ats : List (ByteArray × ByteArray)) : List Value := ats.flatMap fun a => [.string a.1, .string a.2]
theorem flatA_len (ats : List (ByteArray × ByteArray)) : (flatA ats).length = ats.length * 2 := by
  induction ats with
  | nil => rfl
  | cons a l ih => rw [flatA, List.flatMap_cons, List.length_append]; unfold flatA at ih; rw [ih]; simp; omega
theorem flatA_snoc (ats : List (ByteArray × ByteArray)) (a : ByteArray × ByteArray) : flatA (ats ++ [a]) = flatA ats ++ [.string a.1, .string a.2] := by simp [flatA]
theorem flatA_get (ats : List (ByteArray × ByteArray)) : ∀ k, k < ats.length → (flatA ats)[k * 2]? = some (.string (an ats k)) ∧ (flatA ats)[k * 2 + 1]? = some (.string (av ats k)) := by
  induction ats with
  | nil => intro k h; simp at h
  | cons a l ih =>
    intro k h
    cases k with
    | zero => exact ⟨rfl, rfl⟩
    | succ k =>
      have := ih k (by simpa using h)
      have e1 : (flatA (a :: l))[(k + 1) * 2]? = (flatA l)[k * 2]? := by
        rw [show (k + 1) * 2 = k * 2 + 1 + 1 by omega]; rfl
      have e2 : (flatA (a :: l))[(k + 1) * 2 + 1]? = (flatA l)[k * 2 + 1]? := by
        rw [show (k + 1) * 2 + 1 = k * 2 + 1 + 1 + 1 by omega]; rfl
      rw [e1, e2]
      exact this
theorem cells_of_owns {w : World} {base : Nat} {v : Value} {ats : List (ByteArray × ByteArray)} (h : w.ownsRow base 112 2 v ats.length (flatA ats)) : ∃ q cap, v = .slice q ats.length cap ∧ (ats = [] ∨ ∃ g, q = some ⟨g, 0, none⟩ ∧ (base ≤ g ∧ ats.length ≤ cap) ∧ Cells2 g 0 ats w) := by
  obtain ⟨_, h⟩ := h
  rcases h with ⟨rfl, h0⟩ | ⟨g, cap, cur, rfl, h1, h2, h3, h4, h5, h6⟩
  · exact ⟨none, 0, by rw [h0], Or.inl (List.eq_nil_of_length_eq_zero h0)⟩
  · refine ⟨_, cap, rfl, Or.inr ⟨g, rfl, ⟨h1, by omega⟩, fun k hk => ?_⟩⟩
    have key : ∀ j x, (flatA ats)[j]? = some x → w.cell? ⟨g, 0 + j, none⟩ = some x := fun j x hj => by
      rw [Nat.zero_add, Joins.cell_of_block h2]
      rw [← h6, List.getElem?_take] at hj
      split at hj
      · simpa using hj
      · cases hj
    have := flatA_get ats k hk
    exact ⟨key _ _ this.1, by rw [Nat.add_assoc]; exact key _ _ this.2⟩
theorem infoAttr0 : (Tryd.prog.info? 112).map (fun i => (i.zero, i.size, i.bytes)) = some (some (.agg #[.string ⟨#[]⟩, .string ⟨#[]⟩]), 2, 32) := by kernel_rfl
theorem ownsRow_kpr {w w' : World} {R base : Nat} {e : TypeId} {size : Nat} {v : Value} {n : Nat} {xs : List Value} (h : w.ownsRow base e size v n xs) (hk : KpR R w w') (hR : R < base) : w'.ownsRow base e size v n xs := by
  obtain ⟨hl, h⟩ := h
  refine ⟨hl, ?_⟩
  rcases h with h | ⟨g, cap, cur, h1, h2, h3, h4⟩
  · exact .inl h
  · exact .inr ⟨g, cap, cur, h1, h2, (hk.block g (Array.getElem?_eq_some_iff.1 h3).1 (by omega)).trans h3, h4⟩
theorem KpR.grown {R : Nat} {w W W' : World} {row : Option Nat} (h : KpR R w W) (hg : W.grownBy W' row) (hr : ∀ k, row = some k → w.heap.size ≤ k) : KpR R w W' :=
  ⟨hg.os.trans h.os, hg.tape.trans h.tape, hg.output.trans h.output, Nat.le_trans h.size hg.size, fun k hk hkr => (hg.block k (by have := h.size; omega) (fun e => by have := hr k e.symm; omega)).trans (h.block k hk hkr)⟩
theorem sl_hi {base : Nat} {W : World} {q : Option Addr} {cap : Nat} {ats : List (ByteArray × ByteArray)} (h : ats = [] ∨ ∃ g, q = some ⟨g, 0, none⟩ ∧ (base ≤ g ∧ ats.length ≤ cap) ∧ Cells2 g 0 ats W) : Sl q ats (mask (hiP base) W) :=
  h.imp id fun ⟨g, h1, h2, h3⟩ => ⟨g, 0, h1, fun k hk => ⟨mask_cell.2 ⟨hiP_not h2.1, (h3 k hk).1⟩, mask_cell.2 ⟨hiP_not h2.1, (h3 k hk).2⟩⟩⟩
end Go.Proofs.YtbabmkilbbbmoaaDoor

/-
  A tree.reader's node, of any bytes (made by mk_yru.py).
-/
namespace Go.Proofs.YtbabmkilbbbmoaaDoor
open Go.RowKit
set_option linter.unusedVariables false
set_option linter.unusedSimpArgs false

end Go.Proofs.YtbabmkilbbbmoaaDoor
