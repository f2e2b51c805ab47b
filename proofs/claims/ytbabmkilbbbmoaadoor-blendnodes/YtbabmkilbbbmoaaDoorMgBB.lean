/-
  Several texts in one: what the functions of the program and of the document's answer do.
-/
import Derived.Test.YtbabmkilbbbmoaaDoorMgAX
import Derived.Test.YtbabmkilbbbmoaaDoorMgBA
import Derived.Maps.AppendAt

/-
  A tree.reader, plainly: what its num, text, attrs, node and list take off bytes; and a world without one block.
-/
namespace Go.Proofs.YtbabmkilbbbmoaaDoor
open Go.RowKit
set_option linter.unusedVariables false
set_option linter.unusedSimpArgs false

/-! ### a world without some blocks -/
def mask (p : Nat → Bool) (W : World) : World := { W with heap := W.heap.mapIdx fun i o => if p i then .cells #[] 3 (0, 0) else o }
def hiP (B : Nat) : Nat → Bool := fun i => decide (i < B)
theorem mask_get (p : Nat → Bool) (W : World) (k : Nat) : (mask p W).heap[k]? = W.heap[k]?.map fun o => if p k then .cells #[] 3 (0, 0) else o := by
  show (W.heap.mapIdx _)[k]? = _
  rw [Array.getElem?_mapIdx]
theorem mask_cell {p : Nat → Bool} {W : World} {g o : Nat} {v : Value} : (mask p W).cell? ⟨g, o, none⟩ = some v ↔ p g = false ∧ W.cell? ⟨g, o, none⟩ = some v := by
  cases hp : p g with
  | true =>
    have h := mask_get p W g
    rw [hp] at h
    constructor
    · intro hc
      cases hw : W.heap[g]? with
      | none => rw [hw] at h; simp [World.cell?, h] at hc
      | some x => rw [hw] at h; simp [World.cell?, h] at hc
    · intro hc; cases hc.1
  | false =>
    have h : (mask p W).heap[g]? = W.heap[g]? := by rw [mask_get, hp]; cases W.heap[g]? <;> simp
    have e : (mask p W).cell? ⟨g, o, none⟩ = W.cell? ⟨g, o, none⟩ := World.cell?_of_block (w := W) h
    rw [e]; simp
def CellLe (W W' : World) : Prop := ∀ (g o : Nat) (v : Value), W.cell? ⟨g, o, none⟩ = some v → W'.cell? ⟨g, o, none⟩ = some v
theorem CellLe.trans {W W1 W2 : World} (h : CellLe W W1) (h' : CellLe W1 W2) : CellLe W W2 := fun g o v hc => h' g o v (h g o v hc)
theorem Sl.le {W W' : World} (hc : CellLe W W') {q : Option Addr} {ats : List (ByteArray × ByteArray)} (h : Sl q ats W) : Sl q ats W' :=
  h.imp id fun ⟨g, o, h1, h2⟩ => ⟨g, o, h1, fun k hk => ⟨hc _ _ _ (h2 k hk).1, hc _ _ _ (h2 k hk).2⟩⟩
theorem Lies.le {W W' : World} (hc : CellLe W W') : ∀ (f : Forest) (g o : Nat), Lies f g o W → Lies f g o W'
  | .nil, g, o, h => trivial
  | .cons k sp n ats tx kids rest, g, o, h => by
    obtain ⟨⟨h0, h1, h2, ⟨qa, ca, h3, h3'⟩, h4, ⟨qk, ck, h5, h6, h7⟩⟩, hr⟩ := h
    refine ⟨⟨hc _ _ _ h0, hc _ _ _ h1, hc _ _ _ h2, ⟨qa, ca, hc _ _ _ h3, h3'.le hc⟩, hc _ _ _ h4, ⟨qk, ck, hc _ _ _ h5, h6, ?_⟩⟩, Lies.le hc rest g (o + 6) hr⟩
    rcases h7 with h7 | ⟨g', o', hq, hl⟩
    · exact Or.inl h7
    · exact Or.inr ⟨g', o', hq, Lies.le hc kids g' o' hl⟩
theorem Fo.le {W W' : World} (hc : CellLe W W') {q : Option Addr} {f : Forest} (h : Fo q f W) : Fo q f W' :=
  h.imp id fun ⟨g, o, h1, h2⟩ => ⟨g, o, h1, h2.le hc⟩
theorem mask_out (p : Nat → Bool) (W : World) : CellLe (mask p W) W := fun g o v h => (mask_cell.1 h).2
theorem mask_less {p p' : Nat → Bool} (W : World) (h : ∀ i, p' i = true → p i = true) : CellLe (mask p W) (mask p' W) := fun g o v hc => by
  obtain ⟨h1, h2⟩ := mask_cell.1 hc
  refine mask_cell.2 ⟨?_, h2⟩
  cases hg : p' g with
  | false => rfl
  | true => rw [h g hg] at h1; cases h1
/-- What stands outside p stands so later, too. -/
theorem mask_kept {p p' : Nat → Bool} {W W' : World} (h : ∀ k, k < W.heap.size → p k = false → p' k = false ∧ W'.heap[k]? = W.heap[k]?) : CellLe (mask p W) (mask p' W') := fun g o v hc => by
  obtain ⟨h1, h2⟩ := mask_cell.1 hc
  have hl : g < W.heap.size := World.block_lt_of_cell? W ⟨g, o, none⟩ h2
  obtain ⟨h3, h4⟩ := h g hl h1
  exact mask_cell.2 ⟨h3, (World.cell?_of_block (w := W) (a := ⟨g, o, none⟩) h4).trans h2⟩
theorem mask_kpr {p : Nat → Bool} {R : Nat} {W W' : World} (hk : KpR R W W') (hp : p R = true) : CellLe (mask p W) (mask p W') :=
  mask_kept fun k hl h => ⟨h, hk.block k hl (fun e => by rw [e, hp] at h; cases h)⟩
theorem mask_set {p : Nat → Bool} {b o : Nat} {W : World} {v : Value} (hp : p b = true) : CellLe (mask p W) (mask p (W.setCell ⟨b, o, none⟩ v)) :=
  mask_kept fun k hl h => ⟨h, Below.heap_setCell W ⟨b, o, none⟩ v k (by show k ≠ b; intro e; rw [e, hp] at h; cases h)⟩
theorem hiP_at {B k : Nat} (h : k < B) : hiP B k = true := decide_eq_true h
theorem hiP_not {B k : Nat} (h : B ≤ k) : hiP B k = false := decide_eq_false (by omega)
theorem hiP_less {B B' : Nat} (h : B' ≤ B) : ∀ i, hiP B' i = true → hiP B i = true := fun i hi => by
  have := of_decide_eq_true hi
  exact hiP_at (by omega)

/-! ### what is taken off -/
def txF (l : List UInt8) (b : Bool) : ByteArray × List UInt8 × Bool :=
  match takeT l with
  | some (k, n) => (bs ((l.drop k).take n), (l.drop k).drop n, b)
  | none => (⟨#[]⟩, [], true)
def nmF (most : Int) (l : List UInt8) (b : Bool) : Int × List UInt8 × Bool :=
  match takeN l with
  | some (v, k) => if most < v then (0, [], true) else (v, l.drop k, b)
  | none => (0, [], true)
def atF : Nat → List UInt8 → Bool → List (ByteArray × ByteArray) × List UInt8 × Bool
  | 0, l, b => ([], l, b)
  | c + 1, l, b => (((txF l b).1, (txF (txF l b).2.1 (txF l b).2.2).1) :: (atF c (txF (txF l b).2.1 (txF l b).2.2).2.1 (txF (txF l b).2.1 (txF l b).2.2).2.2).1, (atF c (txF (txF l b).2.1 (txF l b).2.2).2.1 (txF (txF l b).2.1 (txF l b).2.2).2.2).2)
def asF (l : List UInt8) (b : Bool) : List (ByteArray × ByteArray) × List UInt8 × Bool := atF (nmF 12 l b).1.toNat (nmF 12 l b).2.1 (nmF 12 l b).2.2
structure Nd where
  k : Int
  sp : Int
  n : ByteArray
  ats : List (ByteArray × ByteArray)
  tx : ByteArray
  kids : Forest
def Nd.cons (x : Nd) (r : Forest) : Forest := .cons x.k x.sp x.n x.ats x.tx x.kids r
abbrev RS := List UInt8 × Nat × Bool
def ndF (kf : RS → Forest × RS) (dp : Bool) (s : RS) : Nd × RS :=
  if (nmF 3 s.1 s.2.2).1 = 2 ∨ (nmF 3 s.1 s.2.2).1 = 3 then
    (⟨(nmF 3 s.1 s.2.2).1, 0, ⟨#[]⟩, [], (txF (nmF 3 s.1 s.2.2).2.1 (nmF 3 s.1 s.2.2).2.2).1, .nil⟩, (txF (nmF 3 s.1 s.2.2).2.1 (nmF 3 s.1 s.2.2).2.2).2.1, s.2.1, (txF (nmF 3 s.1 s.2.2).2.1 (nmF 3 s.1 s.2.2).2.2).2.2)
  else if (nmF 3 s.1 s.2.2).1 = 1 ∧ dp = true then
    let k := nmF 3 s.1 s.2.2
    let p := nmF 2 k.2.1 k.2.2
    let t := txF p.2.1 p.2.2
    let a := asF t.2.1 t.2.2
    let ks := kf (a.2.1, s.2.1, a.2.2)
    (⟨1, p.1, t.1, a.1, ⟨#[]⟩, ks.1⟩, ks.2)
  else (⟨(nmF 3 s.1 s.2.2).1, 0, ⟨#[]⟩, [], ⟨#[]⟩, .nil⟩, [], s.2.1, true)
def stF (s : RS) : RS := if 300 < s.2.1 + 1 then ([], s.2.1 + 1, true) else (s.1, s.2.1 + 1, s.2.2)
def lpF (nd : RS → Nd × RS) : Nat → RS → Option Forest × RS
  | 0, s => (some .nil, s)
  | c + 1, s => if (stF s).2.2 = true then (none, stF s) else ((lpF nd c (nd (stF s)).2).1.map (nd (stF s)).1.cons, (lpF nd c (nd (stF s)).2).2)
def topF (nd : RS → Nd × RS) (s : RS) : Forest × RS :=
  ((lpF nd (nmF 300 s.1 s.2.2).1.toNat ((nmF 300 s.1 s.2.2).2.1, s.2.1, (nmF 300 s.1 s.2.2).2.2)).1.getD .nil, (lpF nd (nmF 300 s.1 s.2.2).1.toNat ((nmF 300 s.1 s.2.2).2.1, s.2.1, (nmF 300 s.1 s.2.2).2.2)).2)
def lsF : Nat → RS → Forest × RS
  | 0 => topF (ndF (fun s => (.nil, s)) false)
  | d + 1 => topF (ndF (lsF d) true)
/-- What holds all along: where it stopped nothing is left; and how many nodes were counted. -/
structure RsOk (X : Nat) (s : RS) : Prop where
  stop : s.2.2 = true → s.1 = []
  few : s.2.2 = false → s.2.1 ≤ 300
  most : s.2.1 ≤ X
theorem takeN_nil : takeN [] = none := rfl
theorem nmF_ok (most : Int) (l : List UInt8) (b : Bool) (h : b = true → l = []) : ((nmF most l b).2.2 = true → (nmF most l b).2.1 = []) ∧ (nmF most l b).2.1.length ≤ l.length ∧ 0 ≤ (nmF most l b).1 ∧ (0 ≤ most → (nmF most l b).1 ≤ most) ∧ ((nmF most l b).2.2 = false → b = false) ∧ ((nmF most l b).2.2 = true → (nmF most l b).1 = 0) := by
  unfold nmF
  cases ht : takeN l with
  | none => exact ⟨fun _ => rfl, Nat.zero_le _, Int.le_refl _, id, (fun h => by cases h), fun _ => rfl⟩
  | some x =>
    obtain ⟨v, k⟩ := x
    have hv := takeN_some ht
    dsimp only
    by_cases hm : most < v
    · rw [if_pos hm]; exact ⟨fun _ => rfl, Nat.zero_le _, Int.le_refl _, id, (fun h => by cases h), fun _ => rfl⟩
    · rw [if_neg hm]
      have hb : b = false := by
        cases b with
        | false => rfl
        | true => rw [h rfl, takeN_nil] at ht; cases ht
      subst hb
      exact ⟨(fun h => by cases h), by simp, hv.1, fun _ => by show v ≤ most; omega, id, fun h => by cases h⟩
theorem txF_ok (l : List UInt8) (b : Bool) (h : b = true → l = []) : ((txF l b).2.2 = true → (txF l b).2.1 = []) ∧ (txF l b).2.1.length + (txF l b).1.size ≤ l.length ∧ ((txF l b).2.2 = false → b = false) := by
  unfold txF
  cases ht : takeT l with
  | none => exact ⟨fun _ => rfl, Nat.zero_le _, fun h => by cases h⟩
  | some x =>
    obtain ⟨k, n⟩ := x
    have hv := takeT_some ht
    have hb : b = false := by
      cases b with
      | false => rfl
      | true => rw [h rfl] at ht; cases ht
    subst hb
    refine ⟨(fun h => by cases h), ?_, id⟩
    dsimp only
    rw [bs_size]
    simp
    omega
theorem atF_ok : ∀ (c : Nat) (l : List UInt8) (b : Bool), (b = true → l = []) → ((atF c l b).2.2 = true → (atF c l b).2.1 = []) ∧ (atF c l b).2.1.length ≤ l.length ∧ ((atF c l b).2.2 = false → b = false) ∧ (atF c l b).1.length = c ∧ ∀ a ∈ (atF c l b).1, a.1.size ≤ l.length ∧ a.2.size ≤ l.length
  | 0, l, b, h => ⟨h, Nat.le_refl _, id, rfl, fun a ha => by cases ha⟩
  | c + 1, l, b, h => by
    obtain ⟨x1, x2, x3⟩ := txF_ok l b h
    obtain ⟨y1, y2, y3⟩ := txF_ok (txF l b).2.1 (txF l b).2.2 x1
    obtain ⟨z1, z2, z3, z4, z5⟩ := atF_ok c (txF (txF l b).2.1 (txF l b).2.2).2.1 (txF (txF l b).2.1 (txF l b).2.2).2.2 y1
    refine ⟨z1, by show (atF c _ _).2.1.length ≤ _; omega, fun h => x3 (y3 (z3 h)), by show (_ :: (atF c _ _).1).length = _; rw [List.length_cons, z4], fun a ha => ?_⟩
    rcases List.mem_cons.1 (show a ∈ (_ :: (atF c _ _).1) from ha) with rfl | ha
    · exact ⟨by show (txF l b).1.size ≤ _; omega, by show (txF _ _).1.size ≤ _; omega⟩
    · have := z5 a ha; omega
theorem asF_ok (l : List UInt8) (b : Bool) (h : b = true → l = []) : ((asF l b).2.2 = true → (asF l b).2.1 = []) ∧ (asF l b).2.1.length ≤ l.length ∧ ((asF l b).2.2 = false → b = false) ∧ (asF l b).1.length ≤ 12 ∧ ∀ a ∈ (asF l b).1, a.1.size ≤ l.length ∧ a.2.size ≤ l.length := by
  obtain ⟨x1, x2, x3, x4, x5, _⟩ := nmF_ok 12 l b h
  obtain ⟨z1, z2, z3, z4, z5⟩ := atF_ok (nmF 12 l b).1.toNat (nmF 12 l b).2.1 (nmF 12 l b).2.2 x1
  have := x4 (by omega)
  refine ⟨z1, by unfold asF; omega, fun h => x5 (z3 h), by unfold asF; omega, fun a ha => ?_⟩
  have := z5 a ha
  omega
structure KfOk (Y : Nat) (s : RS) (z : Forest × RS) : Prop where
  rs : RsOk Y z.2
  len : z.2.1.length ≤ s.1.length
  sm : s.1.length ≤ 5000 → SmF z.1
  cnt : z.1.count + s.2.1 ≤ z.2.2.1
  was : z.2.2.2 = false → s.2.2 = false
structure NdOk (Y : Nat) (s : RS) (z : Nd × RS) : Prop where
  rs : RsOk Y z.2
  len : z.2.1.length ≤ s.1.length
  tx : s.1.length ≤ 5000 → z.1.tx.size ≤ 5000
  n : s.1.length ≤ 5000 → z.1.n.size ≤ 5000
  ats : s.1.length ≤ 5000 → Fits z.1.ats
  sm : s.1.length ≤ 5000 → SmF z.1.kids
  cnt : z.1.kids.count + s.2.1 ≤ z.2.2.1
  was : z.2.2.2 = false → s.2.2 = false
theorem fits_of {ats : List (ByteArray × ByteArray)} {L : Nat} (h1 : ats.length ≤ 1000) (hL : L ≤ 10000) (h2 : ∀ a ∈ ats, a.1.size ≤ L ∧ a.2.size ≤ L) : Fits ats := by
  refine ⟨h1, fun k hk => ?_⟩
  have h3 : ats.getD k (ByteArray.empty, ByteArray.empty) = ats[k] := by simp [List.getD, List.getElem?_eq_getElem hk]
  have := h2 ats[k] (List.getElem_mem hk)
  unfold an av
  rw [h3]; omega
theorem fits_nil : Fits [] := ⟨Nat.zero_le _, fun k hk => absurd hk (Nat.not_lt_zero k)⟩
theorem ndF_ok {Y : Nat} (hY : 300 ≤ Y) (kf : RS → Forest × RS) (hk : ∀ s : RS, (s.2.2 = true → s.1 = []) → s.2.1 ≤ 300 → s.1.length ≤ 1000000000000 → KfOk Y s (kf s)) (dp : Bool) (s : RS) (h1 : s.2.2 = true → s.1 = []) (h2 : s.2.1 ≤ 300) (h3 : s.1.length ≤ 1000000000000) : NdOk Y s (ndF kf dp s) := by
  obtain ⟨x1, x2, x3, x4, x5, _⟩ := nmF_ok 3 s.1 s.2.2 h1
  unfold ndF
  by_cases c1 : (nmF 3 s.1 s.2.2).1 = 2 ∨ (nmF 3 s.1 s.2.2).1 = 3
  · rw [if_pos c1]
    obtain ⟨y1, y2, y3⟩ := txF_ok (nmF 3 s.1 s.2.2).2.1 (nmF 3 s.1 s.2.2).2.2 x1
    exact ⟨⟨y1, fun _ => h2, by show s.2.1 ≤ Y; omega⟩, by show (txF _ _).2.1.length ≤ _; omega, (fun h5 => by show (txF _ _).1.size ≤ _; omega), (fun _ => by show (⟨#[]⟩ : ByteArray).size ≤ _; decide), fun _ => fits_nil, fun _ => trivial, by show 0 + s.2.1 ≤ s.2.1; omega, fun h => x5 (y3 h)⟩
  rw [if_neg c1]
  by_cases c2 : (nmF 3 s.1 s.2.2).1 = 1 ∧ dp = true
  · rw [if_pos c2]
    obtain ⟨p1, p2, p3, p4, p5, _⟩ := nmF_ok 2 (nmF 3 s.1 s.2.2).2.1 (nmF 3 s.1 s.2.2).2.2 x1
    dsimp only
    generalize nmF 2 (nmF 3 s.1 s.2.2).2.1 (nmF 3 s.1 s.2.2).2.2 = p at *
    obtain ⟨t1, t2, t3⟩ := txF_ok p.2.1 p.2.2 p1
    generalize txF p.2.1 p.2.2 = t at *
    obtain ⟨a1, a2, a3, a4, a5⟩ := asF_ok t.2.1 t.2.2 t1
    generalize asF t.2.1 t.2.2 = a at *
    have hkf := hk (a.2.1, s.2.1, a.2.2) a1 h2 (by show a.2.1.length ≤ _; omega)
    have hlen := hkf.len
    dsimp only at hlen
    exact ⟨hkf.rs, by dsimp only; omega, (fun _ => by show (⟨#[]⟩ : ByteArray).size ≤ _; decide), (fun h5 => by show t.1.size ≤ _; omega), (fun h5 => fits_of (L := t.2.1.length) (by show a.1.length ≤ _; omega) (by omega) a5), (fun h5 => hkf.sm (by show a.2.1.length ≤ _; omega)), hkf.cnt, fun h => x5 (p5 (t3 (a3 (hkf.was h))))⟩
  · rw [if_neg c2]
    exact ⟨⟨fun _ => rfl, (fun h => by cases h), by show s.2.1 ≤ Y; omega⟩, Nat.zero_le _, (fun _ => by show (⟨#[]⟩ : ByteArray).size ≤ _; decide), (fun _ => by show (⟨#[]⟩ : ByteArray).size ≤ _; decide), fun _ => fits_nil, fun _ => trivial, by show 0 + s.2.1 ≤ s.2.1; omega, fun h => by cases h⟩
theorem stF_ok {X : Nat} {s : RS} (h : RsOk X s) : ((stF s).2.2 = true → (stF s).1 = []) ∧ ((stF s).2.2 = false → (stF s).2.1 ≤ 300 ∧ s.2.2 = false) ∧ (stF s).2.1 = s.2.1 + 1 ∧ (stF s).1.length ≤ s.1.length := by
  unfold stF
  by_cases c : 300 < s.2.1 + 1
  · rw [if_pos c]; exact ⟨fun _ => rfl, (fun h => by cases h), rfl, Nat.zero_le _⟩
  · rw [if_neg c]; exact ⟨h.stop, fun hb => ⟨by show s.2.1 + 1 ≤ 300; omega, hb⟩, rfl, Nat.le_refl _⟩
structure LpOk (X c : Nat) (s : RS) (z : Option Forest × RS) : Prop where
  rs : RsOk (X + 1) z.2
  len : z.2.1.length ≤ s.1.length
  some : ∀ f, z.1 = .some f → (s.1.length ≤ 5000 → SmF f) ∧ f.count + s.2.1 ≤ z.2.2.1 ∧ f.len = c
  none : z.1 = .none → z.2.2.2 = true ∧ s.2.1 ≤ z.2.2.1
  was : z.2.2.2 = false → s.2.2 = false
theorem lpF_ok {X : Nat} (nd : RS → Nd × RS) (hn : ∀ s : RS, (s.2.2 = true → s.1 = []) → s.2.1 ≤ 300 → s.1.length ≤ 1000000000000 → NdOk X s (nd s)) (hX : X ≤ 1000) : ∀ (c : Nat) (s : RS), RsOk X s → s.1.length ≤ 1000000000000 → LpOk X c s (lpF nd c s)
  | 0, s, h, hl => ⟨⟨h.stop, h.few, Nat.le_succ_of_le h.most⟩, Nat.le_refl _, fun f hf => by
      have : Option.some Forest.nil = .some f := hf
      cases this; exact ⟨fun _ => trivial, by show 0 + _ ≤ s.2.1; omega, rfl⟩, (fun hf => by cases hf), id⟩
  | c + 1, s, h, hl => by
    obtain ⟨s1, s2, s3, s4⟩ := stF_ok h
    have hm := h.most
    rw [lpF]
    by_cases hb : (stF s).2.2 = true
    · rw [if_pos hb]
      exact ⟨⟨s1, (fun h => by rw [hb] at h; cases h), by rw [s3]; omega⟩, s4, (fun f hf => by cases hf), fun _ => ⟨hb, by rw [s3]; omega⟩, fun h => by rw [hb] at h; cases h⟩
    · rw [if_neg hb]
      have hb' : (stF s).2.2 = false := by simpa using hb
      have hnd := hn (stF s) s1 (s2 hb').1 (by omega)
      have ih := lpF_ok nd hn hX c (nd (stF s)).2 hnd.rs (by have := hnd.len; omega)
      refine ⟨ih.rs, by have h1 := ih.len; have h2 := hnd.len; dsimp only; omega, fun f hf => ?_, fun hf => ?_, fun h => (s2 hb').2⟩
      · dsimp only at hf
        cases hz : (lpF nd c (nd (stF s)).2).1 with
        | none => rw [hz] at hf; cases hf
        | some g =>
          rw [hz] at hf
          have hf : (nd (stF s)).1.cons g = f := by simpa using hf
          obtain ⟨g1, g2, g3⟩ := ih.some g hz
          have hcn := hnd.cnt
          subst hf
          refine ⟨fun h5 => ⟨⟨hnd.tx (by omega), hnd.n (by omega), hnd.ats (by omega), ?_⟩, hnd.sm (by omega), g1 (by have := hnd.len; omega)⟩, ?_, by show g.len + 1 = _; rw [g3]⟩
          · have := ih.rs.most
            omega
          · show 1 + (nd (stF s)).1.kids.count + g.count + s.2.1 ≤ (lpF nd c (nd (stF s)).2).2.2.1
            omega
      · dsimp only at hf
        cases hz : (lpF nd c (nd (stF s)).2).1 with
        | some g => rw [hz] at hf; cases hf
        | none =>
          have := ih.none hz
          have hcn := hnd.cnt
          exact ⟨this.1, by dsimp only; omega⟩
theorem topF_ok {X : Nat} (hX0 : 300 ≤ X) (nd : RS → Nd × RS) (hn : ∀ s : RS, (s.2.2 = true → s.1 = []) → s.2.1 ≤ 300 → s.1.length ≤ 1000000000000 → NdOk X s (nd s)) (hX : X ≤ 1000) (s : RS) (h1 : s.2.2 = true → s.1 = []) (h2 : s.2.1 ≤ 300) (h3 : s.1.length ≤ 1000000000000) : KfOk (X + 1) s (topF nd s) := by
  obtain ⟨x1, x2, x3, x4, x5, _⟩ := nmF_ok 300 s.1 s.2.2 h1
  unfold topF
  have hl := lpF_ok nd hn hX (nmF 300 s.1 s.2.2).1.toNat ((nmF 300 s.1 s.2.2).2.1, s.2.1, (nmF 300 s.1 s.2.2).2.2) ⟨x1, fun _ => h2, by show s.2.1 ≤ X; omega⟩ (by show (nmF 300 s.1 s.2.2).2.1.length ≤ _; omega)
  generalize lpF nd (nmF 300 s.1 s.2.2).1.toNat ((nmF 300 s.1 s.2.2).2.1, s.2.1, (nmF 300 s.1 s.2.2).2.2) = z at *
  obtain ⟨zo, z⟩ := z
  have hlen := hl.len
  dsimp only at hlen
  cases zo with
  | none => exact ⟨hl.rs, by dsimp only; omega, fun _ => trivial, by have := (hl.none rfl).2; show 0 + s.2.1 ≤ z.2.1; dsimp only at this; omega, fun h => x5 (hl.was h)⟩
  | some f => exact ⟨hl.rs, by dsimp only; omega, fun h5 => (hl.some f rfl).1 (by dsimp only; omega), (hl.some f rfl).2.1, fun h => x5 (hl.was h)⟩
theorem lsF_ok : ∀ (d : Nat), d ≤ 40 → ∀ (s : RS), (s.2.2 = true → s.1 = []) → s.2.1 ≤ 300 → s.1.length ≤ 1000000000000 → KfOk (302 + d) s (lsF d s)
  | 0, _, s, h1, h2, h3 => topF_ok (X := 301) (by omega) _ (fun s a b c => ndF_ok (Y := 301) (by omega) (fun s => (.nil, s)) (fun s a b c => ⟨⟨a, fun _ => b, by show s.2.1 ≤ 301; omega⟩, Nat.le_refl _, fun _ => trivial, by show 0 + s.2.1 ≤ s.2.1; omega, id⟩) false s a b c) (by omega) s h1 h2 h3
  | d + 1, hd, s, h1, h2, h3 => topF_ok (X := 302 + d) (by omega) _ (fun s a b c => ndF_ok (Y := 302 + d) (by omega) _ (lsF_ok d (by omega)) true s a b c) (by omega) s h1 h2 h3
end Go.Proofs.YtbabmkilbbbmoaaDoor

/-
  A tree.reader's num, text and attrs, of any bytes.
-/
namespace Go.Proofs.YtbabmkilbbbmoaaDoor
open Go.RowKit
set_option linter.unusedVariables false
set_option linter.unusedSimpArgs false

theorem numErr_is : numErr = .tuple #[.int .i64 0, .string ⟨#[]⟩, .int .i64 4] := rfl
theorem textErr_is : textErr = .tuple #[.string ⟨#[]⟩, .string ⟨#[]⟩, .int .i64 4] := rfl
end Go.Proofs.YtbabmkilbbbmoaaDoor

/-
  A tree.reader's attrs, of any bytes (made by mk_yrs.py).
-/
namespace Go.Proofs.YtbabmkilbbbmoaaDoor
open Go.RowKit
set_option linter.unusedVariables false
set_option linter.unusedSimpArgs false

/-- The cells of attributes, one behind the other. -/
def flatA (ats : List (ByteArray × ByteArray)) : List Value := ats.flatMap fun a => [.string a.1, .string a.2]
theorem flatA_len (ats : List (ByteArray × ByteArray)) : (flatA ats).length = ats.length * 2 := by
  induction ats with
  | nil => rfl
  | cons a l ih => rw [flatA, List.flatMap_cons, List.length_append]; unfold flatA at ih; rw [ih]; simp; omega
theorem flatA_snoc (ats : List (ByteArray × ByteArray)) (a : ByteArray × ByteArray) : flatA (ats ++ [a]) = flatA ats ++ [.string a.1, .string a.2] := by simp [flatA]
theorem flatA_get (ats : List (ByteArray × ByteArray)) : ∀ k, k < ats.length → (flatA ats)[k * 2]? = some (.string (an ats k)) ∧ (flatA ats)[k * 2 + 1]? = some (.string (av ats k)) := by
  induction ats with
  | nil => intro k h; simp at h
  | cons a l ih =>
    intro k h
    cases k with
    | zero => exact ⟨rfl, rfl⟩
    | succ k =>
      have := ih k (by simpa using h)
      have e1 : (flatA (a :: l))[(k + 1) * 2]? = (flatA l)[k * 2]? := by
        rw [show (k + 1) * 2 = k * 2 + 1 + 1 by omega]; rfl
      have e2 : (flatA (a :: l))[(k + 1) * 2 + 1]? = (flatA l)[k * 2 + 1]? := by
        rw [show (k + 1) * 2 + 1 = k * 2 + 1 + 1 + 1 by omega]; rfl
      rw [e1, e2]
      exact this
theorem cells_of_owns {w : World} {base : Nat} {v : Value} {ats : List (ByteArray × ByteArray)} (h : w.ownsRow base 112 2 v ats.length (flatA ats)) : ∃ q cap, v = .slice q ats.length cap ∧ (ats = [] ∨ ∃ g, q = some ⟨g, 0, none⟩ ∧ (base ≤ g ∧ ats.length ≤ cap) ∧ Cells2 g 0 ats w) := by
  obtain ⟨_, h⟩ := h
  rcases h with ⟨rfl, h0⟩ | ⟨g, cap, cur, rfl, h1, h2, h3, h4, h5, h6⟩
  · exact ⟨none, 0, by rw [h0], Or.inl (List.eq_nil_of_length_eq_zero h0)⟩
  · refine ⟨_, cap, rfl, Or.inr ⟨g, rfl, ⟨h1, by omega⟩, fun k hk => ?_⟩⟩
    have key : ∀ j x, (flatA ats)[j]? = some x → w.cell? ⟨g, 0 + j, none⟩ = some x := fun j x hj => by
      rw [Nat.zero_add, Joins.cell_of_block h2]
      rw [← h6, List.getElem?_take] at hj
      split at hj
      · simpa using hj
      · cases hj
    have := flatA_get ats k hk
    exact ⟨key _ _ this.1, by rw [Nat.add_assoc]; exact key _ _ this.2⟩
theorem infoAttr0 : (Tryd.prog.info? 112).map (fun i => (i.zero, i.size, i.bytes)) = some (some (.agg #[.string ⟨#[]⟩, .string ⟨#[]⟩]), 2, 32) := by kernel_rfl
theorem ownsRow_kpr {w w' : World} {R base : Nat} {e : TypeId} {size : Nat} {v : Value} {n : Nat} {xs : List Value} (h : w.ownsRow base e size v n xs) (hk : KpR R w w') (hR : R < base) : w'.ownsRow base e size v n xs := by
  obtain ⟨hl, h⟩ := h
  refine ⟨hl, ?_⟩
  rcases h with h | ⟨g, cap, cur, h1, h2, h3, h4⟩
  · exact .inl h
  · exact .inr ⟨g, cap, cur, h1, h2, (hk.block g (Array.getElem?_eq_some_iff.1 h3).1 (by omega)).trans h3, h4⟩
theorem KpR.grown {R : Nat} {w W W' : World} {row : Option Nat} (h : KpR R w W) (hg : W.grownBy W' row) (hr : ∀ k, row = some k → w.heap.size ≤ k) : KpR R w W' :=
  ⟨hg.os.trans h.os, hg.tape.trans h.tape, hg.output.trans h.output, Nat.le_trans h.size hg.size, fun k hk hkr => (hg.block k (by have := h.size; omega) (fun e => by have := hr k e.symm; omega)).trans (h.block k hk hkr)⟩
theorem sl_hi {base : Nat} {W : World} {q : Option Addr} {cap : Nat} {ats : List (ByteArray × ByteArray)} (h : ats = [] ∨ ∃ g, q = some ⟨g, 0, none⟩ ∧ (base ≤ g ∧ ats.length ≤ cap) ∧ Cells2 g 0 ats W) : Sl q ats (mask (hiP base) W) :=
  h.imp id fun ⟨g, h1, h2, h3⟩ => ⟨g, 0, h1, fun k hk => ⟨mask_cell.2 ⟨hiP_not h2.1, (h3 k hk).1⟩, mask_cell.2 ⟨hiP_not h2.1, (h3 k hk).2⟩⟩⟩
end Go.Proofs.YtbabmkilbbbmoaaDoor

/-
  A tree.reader's node, of any bytes (made by mk_yru.py).
-/
namespace Go.Proofs.YtbabmkilbbbmoaaDoor
open Go.RowKit
set_option linter.unusedVariables false
set_option linter.unusedSimpArgs false

end Go.Proofs.YtbabmkilbbbmoaaDoor

/-
  The one text of rectolaw08.text: read off its bytes.
-/
namespace Go.Proofs.YtbabmkilbbbmoaaDoor
open Go.RowKit
set_option linter.unusedVariables false
set_option linter.unusedSimpArgs false

def f1 : Forest := .cons 2 0 ⟨#[]⟩ [] ⟨#[97]⟩ .nil .nil
def s1b : ByteArray := ⟨#[1, 1, 1, 2, 1, 1, 97]⟩
theorem add_off (g j : Nat) : (⟨g, 0, none⟩ : Addr).add j = ⟨g, j, none⟩ := by unfold Addr.add; split <;> simp_all
theorem infoNode0 : (Tryd.prog.info? 44).map (fun i => (i.zero, i.size, i.bytes)) = some (some (.agg #[.int .i64 0, .int .i64 0, .string ⟨#[]⟩, .slice none 0 0, .string ⟨#[]⟩, .slice none 0 0]), 6, 96) := by kernel_rfl
theorem lit6 {X : World} {vs : Array Value} {t : TypeId} {j : Nat} {u : Value} (h : vs.toList[j]? = some u) : (X.alloc (.cells vs t)).cell? ((⟨X.heap.size, 0, none⟩ : Addr).add j) = some u := by
  rw [add_off]
  exact ((Blk.new X vs t).cell j).trans (by simpa using h)
theorem one_row {w : World} {base : Nat} {v : Value} {xs : List Value} (h : w.ownsRow base 44 6 v 1 xs) : ∃ g cap, v = .slice (some ⟨g, 0, none⟩) 1 cap ∧ 1 ≤ cap ∧ base ≤ g ∧ g < w.heap.size ∧ ∀ j u, xs[j]? = some u → w.cell? ⟨g, j, none⟩ = some u := by
  rcases h.2 with ⟨_, h0⟩ | ⟨g, cap, cur, rfl, h1, h2, h3, _⟩
  · cases h0
  · refine ⟨g, cap, rfl, h3, h1, (Array.getElem?_eq_some_iff.1 h2).1, fun j u hj => ?_⟩
    have := h.cells (g := g) rfl j u hj
    rw [add_off] at this
    exact this
end Go.Proofs.YtbabmkilbbbmoaaDoor

/-
  A tree.reader's list, of any bytes.
-/
namespace Go.Proofs.YtbabmkilbbbmoaaDoor
open Go.RowKit
set_option linter.unusedVariables false
set_option linter.unusedSimpArgs false

def Forest.app : Forest → Forest → Forest
  | .nil, g => g
  | .cons k sp n ats tx kids r, g => .cons k sp n ats tx kids (r.app g)
theorem app_nil : ∀ (f : Forest), f.app .nil = f
  | .nil => rfl
  | .cons k sp n ats tx kids r => by rw [Forest.app, app_nil r]
theorem app_assoc : ∀ (f g h : Forest), (f.app g).app h = f.app (g.app h)
  | .nil, g, h => rfl
  | .cons k sp n ats tx kids r, g, h => by rw [Forest.app, Forest.app, Forest.app, app_assoc r g h]
theorem app_len : ∀ (f g : Forest), (f.app g).len = f.len + g.len
  | .nil, g => by show g.len = 0 + g.len; omega
  | .cons k sp n ats tx kids r, g => by show (r.app g).len + 1 = r.len + 1 + g.len; rw [app_len r g]; omega
def Desc : Forest → List Value → World → Prop
  | .nil, xs, _ => xs = []
  | .cons k sp n ats tx kids rest, xs, W => ∃ qa ca qk ck r, xs = .int .i64 k :: .int .i64 sp :: .string n :: .slice qa ats.length ca :: .string tx :: .slice qk kids.len ck :: r ∧ kids.len ≤ ck ∧ Sl qa ats W ∧ Fo qk kids W ∧ Desc rest r W
theorem Desc.le {W W' : World} (hc : CellLe W W') : ∀ (f : Forest) (xs : List Value), Desc f xs W → Desc f xs W'
  | .nil, xs, h => h
  | .cons k sp n ats tx kids rest, xs, ⟨qa, ca, qk, ck, r, h1, h2, h3, h4, h5⟩ => ⟨qa, ca, qk, ck, r, h1, h2, h3.le hc, h4.le hc, Desc.le hc rest r h5⟩
theorem Desc.snoc {W : World} (x : Nd) (qa : Option Addr) (ca : Nat) (qk : Option Addr) (ck : Nat) (hck : x.kids.len ≤ ck) (hsl : Sl qa x.ats W) (hfo : Fo qk x.kids W) : ∀ (f : Forest) (xs : List Value), Desc f xs W → Desc (f.app (x.cons .nil)) (xs ++ [.int .i64 x.k, .int .i64 x.sp, .string x.n, .slice qa x.ats.length ca, .string x.tx, .slice qk x.kids.len ck]) W
  | .nil, xs, h => by
    have : xs = [] := h
    subst this
    exact ⟨qa, ca, qk, ck, [], rfl, hck, hsl, hfo, rfl⟩
  | .cons k sp n ats tx kids rest, xs, ⟨qa', ca', qk', ck', r, h1, h2, h3, h4, h5⟩ => by
    subst h1
    exact ⟨qa', ca', qk', ck', _, rfl, h2, h3, h4, Desc.snoc x qa ca qk ck hck hsl hfo rest r h5⟩
theorem Desc.lies {W : World} {g : Nat} : ∀ (f : Forest) (xs : List Value) (o : Nat), (∀ j u, xs[j]? = some u → W.cell? ⟨g, o + j, none⟩ = some u) → Desc f xs W → Lies f g o W
  | .nil, xs, o, hc, h => trivial
  | .cons k sp n ats tx kids rest, xs, o, hc, ⟨qa, ca, qk, ck, r, h1, h2, h3, h4, h5⟩ => by
    subst h1
    exact ⟨⟨hc 0 _ rfl, hc 1 _ rfl, hc 2 _ rfl, ⟨qa, ca, hc 3 _ rfl, h3⟩, hc 4 _ rfl, ⟨qk, ck, hc 5 _ rfl, h2, h4⟩⟩, Desc.lies rest r (o + 6) (fun j u hj => by have := hc (j + 6) u (by simpa using hj); rw [show o + 6 + j = o + (j + 6) by omega]; exact this) h5⟩
theorem fo_of_row {w : World} {base : Nat} {v : Value} {f : Forest} {xs : List Value} {p : Nat → Bool} (h : w.ownsRow base 44 6 v f.len xs) (hd : Desc f xs (mask p w)) (hp : ∀ k, k < base → p k = true) : ∃ q cap, v = .slice q f.len cap ∧ f.len ≤ cap ∧ Fo q f (mask (hiP base) w) := by
  have hd' : Desc f xs (mask (hiP base) w) := hd.le (mask_less w fun i hi => hp i (of_decide_eq_true hi))
  obtain ⟨a, cap, hv⟩ := slice_n h
  subst hv
  rcases h.2 with ⟨h1, h0⟩ | ⟨g, cap', cur, h1, hb, h2, h3, _⟩
  · refine ⟨a, cap, rfl, by rw [h0]; exact Nat.zero_le _, Or.inl (len_nil h0)⟩
  · injection h1 with h4 h5 h6
    subst h4 h6
    refine ⟨_, _, rfl, h3, Or.inr ⟨g, 0, rfl, hd'.lies f xs 0 (fun j u hj => ?_)⟩⟩
    have := h.cells (g := g) rfl j u hj
    rw [add_off] at this
    rw [Nat.zero_add]
    exact mask_cell.2 ⟨hiP_not hb, this⟩
end Go.Proofs.YtbabmkilbbbmoaaDoor
