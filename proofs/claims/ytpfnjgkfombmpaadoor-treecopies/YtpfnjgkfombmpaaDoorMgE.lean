/-
  Several texts in one: what the functions of the program and of the document's answer do.
-/
import Derived.Test.YtpfnjgkfombmpaaDoorYRn
import Derived.Test.YtpfnjgkfombmpaaDoorYUn
import Derived.Maps.AppendAt
import Derived.Test.YtpfnjgkfombmpaaDoorYR1
import Derived.Deep.RegionHeld

/-
  A tree.reader, plainly: what its num, text, attrs, node and list take off bytes; and a world without one block.
-/
namespace Go.Proofs.YtpfnjgkfombmpaaDoor
open Go.RowKit
set_option linter.unusedVariables false
set_option linter.unusedSimpArgs false

/-! ### a world without some blocks -/
def mask (p : Nat → Bool) (W : World) : World := { W with heap := W.heap.mapIdx fun i o => if p i then .cells #[] 3 (0, 0) else o }
def hiP (B : Nat) : Nat → Bool := fun i => decide (i < B)
theorem mask_get (p : Nat → Bool) (W : World) (k : Nat) : (mask p W).heap[k]? = W.heap[k]?.map fun o => if p k then .cells #[] 3 (0, 0) else o := by
  show (W.heap.mapIdx _)[k]? = _
  rw [Array.getElem?_mapIdx]
theorem mask_cell {p : Nat → Bool} {W : World} {g o : Nat} {v : Value} : (mask p W).cell? ⟨g, o, none⟩ = some v ↔ p g = false ∧ W.cell? ⟨g, o, none⟩ = some v := by
  cases hp : p g with
  | true =>
    have h := mask_get p W g
    rw [hp] at h
    constructor
    · intro hc
      cases hw : W.heap[g]? with
      | none => rw [hw] at h; simp [World.cell?, h] at hc
      | some x => rw [hw] at h; simp [World.cell?, h] at hc
    · intro hc; cases hc.1
  | false =>
    have h : (mask p W).heap[g]? = W.heap[g]? := by rw [mask_get, hp]; cases W.heap[g]? <;> simp
    have e : (mask p W).cell? ⟨g, o, none⟩ = W.cell? ⟨g, o, none⟩ := World.cell?_of_block (w := W) h
    rw [e]; simp
def CellLe (W W' : World) : Prop := ∀ (g o : Nat) (v : Value), W.cell? ⟨g, o, none⟩ = some v → W'.cell? ⟨g, o, none⟩ = some v
theorem CellLe.trans {W W1 W2 : World} (h : CellLe W W1) (h' : CellLe W1 W2) : CellLe W W2 := fun g o v hc => h' g o v (h g o v hc)
theorem Sl.le {W W' : World} (hc : CellLe W W') {q : Option Addr} {ats : List (ByteArray × ByteArray)} (h : Sl q ats W) : Sl q ats W' :=
  h.imp id fun ⟨g, o, h1, h2⟩ => ⟨g, o, h1, fun k hk => ⟨hc _ _ _ (h2 k hk).1, hc _ _ _ (h2 k hk).2⟩⟩
theorem Lies.le {W W' : World} (hc : CellLe W W') : ∀ (f : Forest) (g o : Nat), Lies f g o W → Lies f g o W'
  | .nil, g, o, h => trivial
  | .cons k sp n ats tx kids rest, g, o, h => by
    obtain ⟨⟨h0, h1, h2, ⟨qa, ca, h3, h3'⟩, h4, ⟨qk, ck, h5, h6, h7⟩⟩, hr⟩ := h
    refine ⟨⟨hc _ _ _ h0, hc _ _ _ h1, hc _ _ _ h2, ⟨qa, ca, hc _ _ _ h3, h3'.le hc⟩, hc _ _ _ h4, ⟨qk, ck, hc _ _ _ h5, h6, ?_⟩⟩, Lies.le hc rest g (o + 6) hr⟩
    rcases h7 with h7 | ⟨g', o', hq, hl⟩
    · exact Or.inl h7
    · exact Or.inr ⟨g', o', hq, Lies.le hc kids g' o' hl⟩
theorem Fo.le {W W' : World} (hc : CellLe W W') {q : Option Addr} {f : Forest} (h : Fo q f W) : Fo q f W' :=
  h.imp id fun ⟨g, o, h1, h2⟩ => ⟨g, o, h1, h2.le hc⟩
theorem mask_out (p : Nat → Bool) (W : World) : CellLe (mask p W) W := fun g o v h => (mask_cell.1 h).2
theorem mask_less {p p' : Nat → Bool} (W : World) (h : ∀ i, p' i = true → p i = true) : CellLe (mask p W) (mask p' W) := fun g o v hc => by
  obtain ⟨h1, h2⟩ := mask_cell.1 hc
  refine mask_cell.2 ⟨?_, h2⟩
  cases hg : p' g with
  | false => rfl
  | true => rw [h g hg] at h1; cases h1
/-- What stands outside p stands so later, too. -/
theorem mask_kept {p p' : Nat → Bool} {W W' : World} (h : ∀ k, k < W.heap.size → p k = false → p' k = false ∧ W'.heap[k]? = W.heap[k]?) : CellLe (mask p W) (mask p' W') := fun g o v hc => by
  obtain ⟨h1, h2⟩ := mask_cell.1 hc
  have hl : g < W.heap.size := World.block_lt_of_cell? W ⟨g, o, none⟩ h2
  obtain ⟨h3, h4⟩ := h g hl h1
  exact mask_cell.2 ⟨h3, (World.cell?_of_block (w := W) (a := ⟨g, o, none⟩) h4).trans h2⟩
theorem mask_kpr {p : Nat → Bool} {R : Nat} {W W' : World} (hk : KpR R W W') (hp : p R = true) : CellLe (mask p W) (mask p W') :=
  mask_kept fun k hl h => ⟨h, hk.block k hl (fun e => by rw [e, hp] at h; cases h)⟩
theorem mask_set {p : Nat → Bool} {b o : Nat} {W : World} {v : Value} (hp : p b = true) : CellLe (mask p W) (mask p (W.setCell ⟨b, o, none⟩ v)) :=
  mask_kept fun k hl h => ⟨h, Below.heap_setCell W ⟨b, o, none⟩ v k (by show k ≠ b; intro e; rw [e, hp] at h; cases h)⟩
theorem hiP_at {B k : Nat} (h : k < B) : hiP B k = true := decide_eq_true h
theorem hiP_not {B k : Nat} (h : B ≤ k) : hiP B k = false := decide_eq_false (by omega)
theorem hiP_less {B B' : Nat} (h : B' ≤ B) : ∀ i, hiP B' i = true → hiP B i = true := fun i hi => by
  have := of_decide_eq_true hi
  exact hiP_at (by omega)

/-! ### what is taken off -/
def txF (l : List UInt8) (b : Bool) : ByteArray × List UInt8 × Bool :=
  match takeT l with
  | some (k, n) => (bs ((l.drop k).take n), (l.drop k).drop n, b)
  | none => (⟨#[]⟩, [], true)
def nmF (most : Int) (l : List UInt8) (b : Bool) : Int × List UInt8 × Bool :=
  match takeN l with
  | some (v, k) => if most < v then (0, [], true) else (v, l.drop k, b)
  | none => (0, [], true)
def atF : Nat → List UInt8 → Bool → List (ByteArray × ByteArray) × List UInt8 × Bool
  | 0, l, b => ([], l, b)
  | c + 1, l, b => (((txF l b).1, (txF (txF l b).2.1 (txF l b).2.2).1) :: (atF c (txF (txF l b).2.1 (txF l b).2.2).2.1 (txF (txF l b).2.1 (txF l b).2.2).2.2).1, (atF c (txF (txF l b).2.1 (txF l b).2.2).2.1 (txF (txF l b).2.1 (txF l b).2.2).2.2).2)
def asF (l : List UInt8) (b : Bool) : List (ByteArray × ByteArray) × List UInt8 × Bool := atF (nmF 12 l b).1.toNat (nmF 12 l b).2.1 (nmF 12 l b).2.2
structure Nd where
  k : Int
  sp : Int
  n : ByteArray
  ats : List (ByteArray × ByteArray)
  tx : ByteArray
  kids : Forest
def Nd.cons (x : Nd) (r : Forest) : Forest := .cons x.k x.sp x.n x.ats x.tx x.kids r
abbrev RS := List UInt8 × Nat × Bool
def ndF (kf : RS → Forest × RS) (dp : Bool) (s : RS) : Nd × RS :=
  if (nmF 3 s.1 s.2.2).1 = 2 ∨ (nmF 3 s.1 s.2.2).1 = 3 then
    (⟨(nmF 3 s.1 s.2.2).1, 0, ⟨#[]⟩, [], (txF (nmF 3 s.1 s.2.2).2.1 (nmF 3 s.1 s.2.2).2.2).1, .nil⟩, (txF (nmF 3 s.1 s.2.2).2.1 (nmF 3 s.1 s.2.2).2.2).2.1, s.2.1, (txF (nmF 3 s.1 s.2.2).2.1 (nmF 3 s.1 s.2.2).2.2).2.2)
  else if (nmF 3 s.1 s.2.2).1 = 1 ∧ dp = true then
    let k := nmF 3 s.1 s.2.2
    let p := nmF 2 k.2.1 k.2.2
    let t := txF p.2.1 p.2.2
    let a := asF t.2.1 t.2.2
    let ks := kf (a.2.1, s.2.1, a.2.2)
    (⟨1, p.1, t.1, a.1, ⟨#[]⟩, ks.1⟩, ks.2)
  else (⟨(nmF 3 s.1 s.2.2).1, 0, ⟨#[]⟩, [], ⟨#[]⟩, .nil⟩, [], s.2.1, true)
def stF (s : RS) : RS := if 300 < s.2.1 + 1 then ([], s.2.1 + 1, true) else (s.1, s.2.1 + 1, s.2.2)
def lpF (nd : RS → Nd × RS) : Nat → RS → Option Forest × RS
  | 0, s => (some .nil, s)
  | c + 1, s => if (stF s).2.2 = true then (none, stF s) else ((lpF nd c (nd (stF s)).2).1.map (nd (stF s)).1.cons, (lpF nd c (nd (stF s)).2).2)
def topF (nd : RS → Nd × RS) (s : RS) : Forest × RS :=
  ((lpF nd (nmF 300 s.1 s.2.2).1.toNat ((nmF 300 s.1 s.2.2).2.1, s.2.1, (nmF 300 s.1 s.2.2).2.2)).1.getD .nil, (lpF nd (nmF 300 s.1 s.2.2).1.toNat ((nmF 300 s.1 s.2.2).2.1, s.2.1, (nmF 300 s.1 s.2.2).2.2)).2)
def lsF : Nat → RS → Forest × RS
  | 0 => topF (ndF (fun s => (.nil, s)) false)
  | d + 1 => topF (ndF (lsF d) true)
/-- What holds all along: where it stopped nothing is left; and how many nodes were counted. -/
structure RsOk (X : Nat) (s : RS) : Prop where
  stop : s.2.2 = true → s.1 = []
  few : s.2.2 = false → s.2.1 ≤ 300
  most : s.2.1 ≤ X
theorem takeN_nil : takeN [] = none := rfl
theorem nmF_ok (most : Int) (l : List UInt8) (b : Bool) (h : b = true → l = []) : ((nmF most l b).2.2 = true → (nmF most l b).2.1 = []) ∧ (nmF most l b).2.1.length ≤ l.length ∧ 0 ≤ (nmF most l b).1 ∧ (0 ≤ most → (nmF most l b).1 ≤ most) ∧ ((nmF most l b).2.2 = false → b = false) ∧ ((nmF most l b).2.2 = true → (nmF most l b).1 = 0) := by
  unfold nmF
  cases ht : takeN l with
  | none => exact ⟨fun _ => rfl, Nat.zero_le _, Int.le_refl _, id, (fun h => by cases h), fun _ => rfl⟩
  | some x =>
    obtain ⟨v, k⟩ := x
    have hv := takeN_some ht
    dsimp only
    by_cases hm : most < v
    · rw [if_pos hm]; exact ⟨fun _ => rfl, Nat.zero_le _, Int.le_refl _, id, (fun h => by cases h), fun _ => rfl⟩
    · rw [if_neg hm]
      have hb : b = false := by
        cases b with
        | false => rfl
        | true => rw [h rfl, takeN_nil] at ht; cases ht
      subst hb
      exact ⟨(fun h => by cases h), by simp, hv.1, fun _ => by show v ≤ most; omega, id, fun h => by cases h⟩
theorem txF_ok (l : List UInt8) (b : Bool) (h : b = true → l = []) : ((txF l b).2.2 = true → (txF l b).2.1 = []) ∧ (txF l b).2.1.length + (txF l b).1.size ≤ l.length ∧ ((txF l b).2.2 = false → b = false) := by
  unfold txF
  cases ht : takeT l with
  | none => exact ⟨fun _ => rfl, Nat.zero_le _, fun h => by cases h⟩
  | some x =>
    obtain ⟨k, n⟩ := x
    have hv := takeT_some ht
    have hb : b = false := by
      cases b with
      | false => rfl
      | true => rw [h rfl] at ht; cases ht
    subst hb
    refine ⟨(fun h => by cases h), ?_, id⟩
    dsimp only
    rw [bs_size]
    simp
    omega
theorem atF_ok : ∀ (c : Nat) (l : List UInt8) (b : Bool), (b = true → l = []) → ((atF c l b).2.2 = true → (atF c l b).2.1 = []) ∧ (atF c l b).2.1.length ≤ l.length ∧ ((atF c l b).2.2 = false → b = false) ∧ (atF c l b).1.length = c ∧ ∀ a ∈ (atF c l b).1, a.1.size ≤ l.length ∧ a.2.size ≤ l.length
  | 0, l, b, h => ⟨h, Nat.le_refl _, id, rfl, fun a ha => by cases ha⟩
  | c + 1, l, b, h => by
    obtain ⟨x1, x2, x3⟩ := txF_ok l b h
    obtain ⟨y1, y2, y3⟩ := txF_ok (txF l b).2.1 (txF l b).2.2 x1
    obtain ⟨z1, z2, z3, z4, z5⟩ := atF_ok c (txF (txF l b).2.1 (txF l b).2.2).2.1 (txF (txF l b).2.1 (txF l b).2.2).2.2 y1
    refine ⟨z1, by show (atF c _ _).2.1.length ≤ _; omega, fun h => x3 (y3 (z3 h)), by show (_ :: (atF c _ _).1).length = _; rw [List.length_cons, z4], fun a ha => ?_⟩
    rcases List.mem_cons.1 (show a ∈ (_ :: (atF c _ _).1) from ha) with rfl | ha
    · exact ⟨by show (txF l b).1.size ≤ _; omega, by show (txF _ _).1.size ≤ _; omega⟩
    · have := z5 a ha; omega
theorem asF_ok (l : List UInt8) (b : Bool) (h : b = true → l = []) : ((asF l b).2.2 = true → (asF l b).2.1 = []) ∧ (asF l b).2.1.length ≤ l.length ∧ ((asF l b).2.2 = false → b = false) ∧ (asF l b).1.length ≤ 12 ∧ ∀ a ∈ (asF l b).1, a.1.size ≤ l.length ∧ a.2.size ≤ l.length := by
  obtain ⟨x1, x2, x3, x4, x5, _⟩ := nmF_ok 12 l b h
  obtain ⟨z1, z2, z3, z4, z5⟩ := atF_ok (nmF 12 l b).1.toNat (nmF 12 l b).2.1 (nmF 12 l b).2.2 x1
  have := x4 (by omega)
  refine ⟨z1, by unfold asF; omega, fun h => x5 (z3 h), by unfold asF; omega, fun a ha => ?_⟩
  have := z5 a ha
  omega
structure KfOk (Y : Nat) (s : RS) (z : Forest × RS) : Prop where
  rs : RsOk Y z.2
  len : z.2.1.length ≤ s.1.length
  sm : s.1.length ≤ 5000 → SmF z.1
  cnt : z.1.count + s.2.1 ≤ z.2.2.1
  was : z.2.2.2 = false → s.2.2 = false
structure NdOk (Y : Nat) (s : RS) (z : Nd × RS) : Prop where
  rs : RsOk Y z.2
  len : z.2.1.length ≤ s.1.length
  tx : s.1.length ≤ 5000 → z.1.tx.size ≤ 5000
  n : s.1.length ≤ 5000 → z.1.n.size ≤ 5000
  ats : s.1.length ≤ 5000 → Fits z.1.ats
  sm : s.1.length ≤ 5000 → SmF z.1.kids
  cnt : z.1.kids.count + s.2.1 ≤ z.2.2.1
  was : z.2.2.2 = false → s.2.2 = false
theorem fits_of {ats : List (ByteArray × ByteArray)} {L : Nat} (h1 : ats.length ≤ 1000) (hL : L ≤ 10000) (h2 : ∀ a ∈ ats, a.1.size ≤ L ∧ a.2.size ≤ L) : Fits ats := by
  refine ⟨h1, fun k hk => ?_⟩
  have h3 : ats.getD k (ByteArray.empty, ByteArray.empty) = ats[k] := by simp [List.getD, List.getElem?_eq_getElem hk]
  have := h2 ats[k] (List.getElem_mem hk)
  unfold an av
  rw [h3]; omega
theorem fits_nil : Fits [] := ⟨Nat.zero_le _, fun k hk => absurd hk (Nat.not_lt_zero k)⟩
theorem ndF_ok {Y : Nat} (hY : 300 ≤ Y) (kf : RS → Forest × RS) (hk : ∀ s : RS, (s.2.2 = true → s.1 = []) → s.2.1 ≤ 300 → s.1.length ≤ 1000000000000 → KfOk Y s (kf s)) (dp : Bool) (s : RS) (h1 : s.2.2 = true → s.1 = []) (h2 : s.2.1 ≤ 300) (h3 : s.1.length ≤ 1000000000000) : NdOk Y s (ndF kf dp s) := by
  obtain ⟨x1, x2, x3, x4, x5, _⟩ := nmF_ok 3 s.1 s.2.2 h1
  unfold ndF
  by_cases c1 : (nmF 3 s.1 s.2.2).1 = 2 ∨ (nmF 3 s.1 s.2.2).1 = 3
  · rw [if_pos c1]
    obtain ⟨y1, y2, y3⟩ := txF_ok (nmF 3 s.1 s.2.2).2.1 (nmF 3 s.1 s.2.2).2.2 x1
    exact ⟨⟨y1, fun _ => h2, by show s.2.1 ≤ Y; omega⟩, by show (txF _ _).2.1.length ≤ _; omega, (fun h5 => by show (txF _ _).1.size ≤ _; omega), (fun _ => by show (⟨#[]⟩ : ByteArray).size ≤ _; decide), fun _ => fits_nil, fun _ => trivial, by show 0 + s.2.1 ≤ s.2.1; omega, fun h => x5 (y3 h)⟩
  rw [if_neg c1]
  by_cases c2 : (nmF 3 s.1 s.2.2).1 = 1 ∧ dp = true
  · rw [if_pos c2]
    obtain ⟨p1, p2, p3, p4, p5, _⟩ := nmF_ok 2 (nmF 3 s.1 s.2.2).2.1 (nmF 3 s.1 s.2.2).2.2 x1
    dsimp only
    generalize nmF 2 (nmF 3 s.1 s.2.2).2.1 (nmF 3 s.1 s.2.2).2.2 = p at *
    obtain ⟨t1, t2, t3⟩ := txF_ok p.2.1 p.2.2 p1
    generalize txF p.2.1 p.2.2 = t at *
    obtain ⟨a1, a2, a3, a4, a5⟩ := asF_ok t.2.1 t.2.2 t1
    generalize asF t.2.1 t.2.2 = a at *
    have hkf := hk (a.2.1, s.2.1, a.2.2) a1 h2 (by show a.2.1.length ≤ _; omega)
    have hlen := hkf.len
    dsimp only at hlen
    exact ⟨hkf.rs, by dsimp only; omega, (fun _ => by show (⟨#[]⟩ : ByteArray).size ≤ _; decide), (fun h5 => by show t.1.size ≤ _; omega), (fun h5 => fits_of (L := t.2.1.length) (by show a.1.length ≤ _; omega) (by omega) a5), (fun h5 => hkf.sm (by show a.2.1.length ≤ _; omega)), hkf.cnt, fun h => x5 (p5 (t3 (a3 (hkf.was h))))⟩
  · rw [if_neg c2]
    exact ⟨⟨fun _ => rfl, (fun h => by cases h), by show s.2.1 ≤ Y; omega⟩, Nat.zero_le _, (fun _ => by show (⟨#[]⟩ : ByteArray).size ≤ _; decide), (fun _ => by show (⟨#[]⟩ : ByteArray).size ≤ _; decide), fun _ => fits_nil, fun _ => trivial, by show 0 + s.2.1 ≤ s.2.1; omega, fun h => by cases h⟩
theorem stF_ok {X : Nat} {s : RS} (h : RsOk X s) : ((stF s).2.2 = true → (stF s).1 = []) ∧ ((stF s).2.2 = false → (stF s).2.1 ≤ 300 ∧ s.2.2 = false) ∧ (stF s).2.1 = s.2.1 + 1 ∧ (stF s).1.length ≤ s.1.length := by
  unfold stF
  by_cases c : 300 < s.2.1 + 1
  · rw [if_pos c]; exact ⟨fun _ => rfl, (fun h => by cases h), rfl, Nat.zero_le _⟩
  · rw [if_neg c]; exact ⟨h.stop, fun hb => ⟨by show s.2.1 + 1 ≤ 300; omega, hb⟩, rfl, Nat.le_refl _⟩
structure LpOk (X c : Nat) (s : RS) (z : Option Forest × RS) : Prop where
  rs : RsOk (X + 1) z.2
  len : z.2.1.length ≤ s.1.length
  some : ∀ f, z.1 = .some f → (s.1.length ≤ 5000 → SmF f) ∧ f.count + s.2.1 ≤ z.2.2.1 ∧ f.len = c
  none : z.1 = .none → z.2.2.2 = true ∧ s.2.1 ≤ z.2.2.1
  was : z.2.2.2 = false → s.2.2 = false
theorem lpF_ok {X : Nat} (nd : RS → Nd × RS) (hn : ∀ s : RS, (s.2.2 = true → s.1 = []) → s.2.1 ≤ 300 → s.1.length ≤ 1000000000000 → NdOk X s (nd s)) (hX : X ≤ 1000) : ∀ (c : Nat) (s : RS), RsOk X s → s.1.length ≤ 1000000000000 → LpOk X c s (lpF nd c s)
  | 0, s, h, hl => ⟨⟨h.stop, h.few, Nat.le_succ_of_le h.most⟩, Nat.le_refl _, fun f hf => by
      have : Option.some Forest.nil = .some f := hf
      cases this; exact ⟨fun _ => trivial, by show 0 + _ ≤ s.2.1; omega, rfl⟩, (fun hf => by cases hf), id⟩
  | c + 1, s, h, hl => by
    obtain ⟨s1, s2, s3, s4⟩ := stF_ok h
    have hm := h.most
    rw [lpF]
    by_cases hb : (stF s).2.2 = true
    · rw [if_pos hb]
      exact ⟨⟨s1, (fun h => by rw [hb] at h; cases h), by rw [s3]; omega⟩, s4, (fun f hf => by cases hf), fun _ => ⟨hb, by rw [s3]; omega⟩, fun h => by rw [hb] at h; cases h⟩
    · rw [if_neg hb]
      have hb' : (stF s).2.2 = false := by simpa using hb
      have hnd := hn (stF s) s1 (s2 hb').1 (by omega)
      have ih := lpF_ok nd hn hX c (nd (stF s)).2 hnd.rs (by have := hnd.len; omega)
      refine ⟨ih.rs, by have h1 := ih.len; have h2 := hnd.len; dsimp only; omega, fun f hf => ?_, fun hf => ?_, fun h => (s2 hb').2⟩
      · dsimp only at hf
        cases hz : (lpF nd c (nd (stF s)).2).1 with
        | none => rw [hz] at hf; cases hf
        | some g =>
          rw [hz] at hf
          have hf : (nd (stF s)).1.cons g = f := by simpa using hf
          obtain ⟨g1, g2, g3⟩ := ih.some g hz
          have hcn := hnd.cnt
          subst hf
          refine ⟨fun h5 => ⟨⟨hnd.tx (by omega), hnd.n (by omega), hnd.ats (by omega), ?_⟩, hnd.sm (by omega), g1 (by have := hnd.len; omega)⟩, ?_, by show g.len + 1 = _; rw [g3]⟩
          · have := ih.rs.most
            omega
          · show 1 + (nd (stF s)).1.kids.count + g.count + s.2.1 ≤ (lpF nd c (nd (stF s)).2).2.2.1
            omega
      · dsimp only at hf
        cases hz : (lpF nd c (nd (stF s)).2).1 with
        | some g => rw [hz] at hf; cases hf
        | none =>
          have := ih.none hz
          have hcn := hnd.cnt
          exact ⟨this.1, by dsimp only; omega⟩
theorem topF_ok {X : Nat} (hX0 : 300 ≤ X) (nd : RS → Nd × RS) (hn : ∀ s : RS, (s.2.2 = true → s.1 = []) → s.2.1 ≤ 300 → s.1.length ≤ 1000000000000 → NdOk X s (nd s)) (hX : X ≤ 1000) (s : RS) (h1 : s.2.2 = true → s.1 = []) (h2 : s.2.1 ≤ 300) (h3 : s.1.length ≤ 1000000000000) : KfOk (X + 1) s (topF nd s) := by
  obtain ⟨x1, x2, x3, x4, x5, _⟩ := nmF_ok 300 s.1 s.2.2 h1
  unfold topF
  have hl := lpF_ok nd hn hX (nmF 300 s.1 s.2.2).1.toNat ((nmF 300 s.1 s.2.2).2.1, s.2.1, (nmF 300 s.1 s.2.2).2.2) ⟨x1, fun _ => h2, by show s.2.1 ≤ X; omega⟩ (by show (nmF 300 s.1 s.2.2).2.1.length ≤ _; omega)
  generalize lpF nd (nmF 300 s.1 s.2.2).1.toNat ((nmF 300 s.1 s.2.2).2.1, s.2.1, (nmF 300 s.1 s.2.2).2.2) = z at *
  obtain ⟨zo, z⟩ := z
  have hlen := hl.len
  dsimp only at hlen
  cases zo with
  | none => exact ⟨hl.rs, by dsimp only; omega, fun _ => trivial, by have := (hl.none rfl).2; show 0 + s.2.1 ≤ z.2.1; dsimp only at this; omega, fun h => x5 (hl.was h)⟩
  | some f => exact ⟨hl.rs, by dsimp only; omega, fun h5 => (hl.some f rfl).1 (by dsimp only; omega), (hl.some f rfl).2.1, fun h => x5 (hl.was h)⟩
theorem lsF_ok : ∀ (d : Nat), d ≤ 40 → ∀ (s : RS), (s.2.2 = true → s.1 = []) → s.2.1 ≤ 300 → s.1.length ≤ 1000000000000 → KfOk (302 + d) s (lsF d s)
  | 0, _, s, h1, h2, h3 => topF_ok (X := 301) (by omega) _ (fun s a b c => ndF_ok (Y := 301) (by omega) (fun s => (.nil, s)) (fun s a b c => ⟨⟨a, fun _ => b, by show s.2.1 ≤ 301; omega⟩, Nat.le_refl _, fun _ => trivial, by show 0 + s.2.1 ≤ s.2.1; omega, id⟩) false s a b c) (by omega) s h1 h2 h3
  | d + 1, hd, s, h1, h2, h3 => topF_ok (X := 302 + d) (by omega) _ (fun s a b c => ndF_ok (Y := 302 + d) (by omega) _ (lsF_ok d (by omega)) true s a b c) (by omega) s h1 h2 h3
end Go.Proofs.YtpfnjgkfombmpaaDoor

/-
  A tree.reader's num, text and attrs, of any bytes.
-/
namespace Go.Proofs.YtpfnjgkfombmpaaDoor
open Go.RowKit
set_option linter.unusedVariables false
set_option linter.unusedSimpArgs false

theorem rstop_any (R : Nat) (s : ByteArray) (m : Int) (b : Bool) (w : World) (h : Rdr R s m b w) :
    Calls Tryd.prog 88 #[.pointer (some ⟨R, 0, none⟩)] w fun e w' => e = .returned (.tuple #[]) ∧ Rdr R ⟨#[]⟩ m true w' ∧ KpR R w w' := by
  have f0 : w.frozen? ⟨R, 0, none⟩ = false := h.frozen 0
  have d0 : w.cell? ⟨R, 0, none⟩ = some (.string s) := h.cell 0
  have f2 : w.frozen? ⟨R, 2, none⟩ = false := h.frozen 2
  have d2 : w.cell? ⟨R, 2, none⟩ = some (.bool b) := h.cell 2
  have h1 : Rdr R ⟨#[]⟩ m b (w.setCell ⟨R, 0, none⟩ (.string ⟨#[]⟩)) := Blk.set (vs := #[.string s, .int .i64 m, .bool b]) h 0 (by simp) _
  have h2 : Rdr R ⟨#[]⟩ m true ((w.setCell ⟨R, 0, none⟩ (.string ⟨#[]⟩)).setCell ⟨R, 2, none⟩ (.bool true)) := Blk.set (vs := #[.string ⟨#[]⟩, .int .i64 m, .bool b]) h1 2 (by simp) _
  have HX := hide (And.intro h2 (((KpR.refl R w).set 0 (.string ⟨#[]⟩)).set 2 (.bool true)))
  clear h h1 h2
  go_enter Tryd.func88, Tryd.ntmps88
  go_wp2
  refine bodyPost_end (v := .tuple #[]) (results_none Tryd.results88 _ _ _) rfl ?_
  exact ⟨rfl, unhide HX⟩
theorem numErr_is : numErr = .tuple #[.int .i64 0, .string ⟨#[]⟩, .int .i64 4] := rfl
theorem textErr_is : textErr = .tuple #[.string ⟨#[]⟩, .string ⟨#[]⟩, .int .i64 4] := rfl
set_option maxHeartbeats 2000000 in
theorem rdnum_any (R : Nat) (l : List UInt8) (m most : Int) (b : Bool) (w : World) (h : Rdr R (bs l) m b w) (hs : l.length ≤ 1000000000000) :
    Calls Tryd.prog 87 #[.pointer (some ⟨R, 0, none⟩), .int .i64 most] w fun e w' => e = .returned (.int .i64 (nmF most l b).1) ∧ Rdr R (bs (nmF most l b).2.1) m (nmF most l b).2.2 w' ∧ KpR R w w' := by
  have C := takeNum_any (bs l) w (by rw [bs_size]; omega)
  rw [bs_toList] at C
  unfold nmF
  cases ht : takeN l with
  | some x =>
    obtain ⟨v, k⟩ := x
    dsimp only
    by_cases hv : most < v
    · rw [if_pos hv]
      rw [show takeNV l = .tuple #[.int .i64 v, .string (bs (l.drop k)), .int .i64 0] by unfold takeNV; rw [ht]] at C
      have HC := hide C
      have HR := hide h
      have c0 : w.cell? ⟨R, 0, none⟩ = some (.string (bs l)) := h.cell 0
      have CS := hide (fun W (hW : Rdr R (bs l) m b W) => rstop_any R (bs l) m b W hW)
      generalize bs (l.drop k) = z at *
      clear C h ht
      go_enter Tryd.func87, Tryd.ntmps87
      go_wp2_with fail
      refine (unhide HC).mono ?_
      rintro e w1 ⟨rfl, hb⟩
      have CS1 := hide (unhide CS w1 (Blk.later (unhide HR) hb))
      have HK := hide (KpR.of (R := R) hb)
      clear HC hb HR c0 CS
      go_wp2_with fail
      refine (unhide CS1).mono ?_
      rintro e w2 ⟨rfl, h2, hk2⟩
      have HX := hide (And.intro h2 ((unhide HK).trans hk2))
      clear h2 hk2 CS1 HK
      go_wp2
      go_ret
      exact ⟨rfl, unhide HX⟩
    · rw [if_neg hv]
      have := rnum_ok R (bs l) m most v k b w h (by rw [bs_size]; omega) (by rw [bs_toList]; exact ht) (by omega)
      rw [bs_toList] at this
      exact this
  | none =>
    dsimp only
    rw [show takeNV l = .tuple #[.int .i64 0, .string ⟨#[]⟩, .int .i64 4] by unfold takeNV; rw [ht]; rfl] at C
    have HC := hide C
    have HR := hide h
    have c0 : w.cell? ⟨R, 0, none⟩ = some (.string (bs l)) := h.cell 0
    have CS := hide (fun W (hW : Rdr R (bs l) m b W) => rstop_any R (bs l) m b W hW)
    clear C h ht
    go_enter Tryd.func87, Tryd.ntmps87
    go_wp2_with fail
    refine (unhide HC).mono ?_
    rintro e w1 ⟨rfl, hb⟩
    have CS1 := hide (unhide CS w1 (Blk.later (unhide HR) hb))
    have HK := hide (KpR.of (R := R) hb)
    clear HC hb HR c0 CS
    go_wp2_with fail
    refine (unhide CS1).mono ?_
    rintro e w2 ⟨rfl, h2, hk2⟩
    have HX := hide (And.intro h2 ((unhide HK).trans hk2))
    clear h2 hk2 CS1 HK
    go_wp2
    go_ret
    exact ⟨rfl, unhide HX⟩
set_option maxHeartbeats 2000000 in
theorem rtxt_any (R : Nat) (l : List UInt8) (m : Int) (b : Bool) (w : World) (h : Rdr R (bs l) m b w) (hs : l.length ≤ 1000000000000) :
    Calls Tryd.prog 109 #[.pointer (some ⟨R, 0, none⟩)] w fun e w' => e = .returned (.string (txF l b).1) ∧ Rdr R (bs (txF l b).2.1) m (txF l b).2.2 w' ∧ KpR R w w' := by
  unfold txF
  cases ht : takeT l with
  | some x =>
    obtain ⟨k, n⟩ := x
    have := rtext_ok R (bs l) m k n b w h (by rw [bs_size]; omega) (by rw [bs_toList]; exact ht)
    rw [bs_toList] at this
    exact this
  | none =>
    have C := takeText_any (bs l) w (by rw [bs_size]; omega)
    rw [bs_toList, show takeTV l = .tuple #[.string ⟨#[]⟩, .string ⟨#[]⟩, .int .i64 4] by unfold takeTV; rw [ht]; rfl] at C
    dsimp only
    have HC := hide C
    have HR := hide h
    have c0 : w.cell? ⟨R, 0, none⟩ = some (.string (bs l)) := h.cell 0
    have CS := hide (fun W (hW : Rdr R (bs l) m b W) => rstop_any R (bs l) m b W hW)
    clear C h ht
    go_enter Tryd.func109, Tryd.ntmps109
    go_wp2_with fail
    refine (unhide HC).mono ?_
    rintro e w1 ⟨rfl, hb⟩
    have CS1 := hide (unhide CS w1 (Blk.later (unhide HR) hb))
    have HK := hide (KpR.of (R := R) hb)
    clear HC hb HR c0 CS
    go_wp2_with fail
    refine (unhide CS1).mono ?_
    rintro e w2 ⟨rfl, h2, hk2⟩
    have HX := hide (And.intro h2 ((unhide HK).trans hk2))
    clear h2 hk2 CS1 HK
    go_wp2
    go_ret
    exact ⟨rfl, unhide HX⟩
end Go.Proofs.YtpfnjgkfombmpaaDoor

/-
  A tree.reader's attrs, of any bytes (made by mk_yrs.py).
-/
namespace Go.Proofs.YtpfnjgkfombmpaaDoor
open Go.RowKit
set_option linter.unusedVariables false
set_option linter.unusedSimpArgs false

/-- The cells of attributes, one behind the other. -/
def flatA (ats : List (ByteArray × ByteArray)) : List Value := ats.flatMap fun a => [.string a.1, .string a.2]
theorem flatA_len (ats : List (ByteArray × ByteArray)) : (flatA ats).length = ats.length * 2 := by
  induction ats with
  | nil => rfl
  | cons a l ih => rw [flatA, List.flatMap_cons, List.length_append]; unfold flatA at ih; rw [ih]; simp; omega
theorem flatA_snoc (ats : List (ByteArray × ByteArray)) (a : ByteArray × ByteArray) : flatA (ats ++ [a]) = flatA ats ++ [.string a.1, .string a.2] := by simp [flatA]
theorem flatA_get (ats : List (ByteArray × ByteArray)) : ∀ k, k < ats.length → (flatA ats)[k * 2]? = some (.string (an ats k)) ∧ (flatA ats)[k * 2 + 1]? = some (.string (av ats k)) := by
  induction ats with
  | nil => intro k h; simp at h
  | cons a l ih =>
    intro k h
    cases k with
    | zero => exact ⟨rfl, rfl⟩
    | succ k =>
      have := ih k (by simpa using h)
      have e1 : (flatA (a :: l))[(k + 1) * 2]? = (flatA l)[k * 2]? := by
        rw [show (k + 1) * 2 = k * 2 + 1 + 1 by omega]; rfl
      have e2 : (flatA (a :: l))[(k + 1) * 2 + 1]? = (flatA l)[k * 2 + 1]? := by
        rw [show (k + 1) * 2 + 1 = k * 2 + 1 + 1 + 1 by omega]; rfl
      rw [e1, e2]
      exact this
theorem cells_of_owns {w : World} {base : Nat} {v : Value} {ats : List (ByteArray × ByteArray)} (h : w.ownsRow base 55 2 v ats.length (flatA ats)) : ∃ q cap, v = .slice q ats.length cap ∧ (ats = [] ∨ ∃ g, q = some ⟨g, 0, none⟩ ∧ (base ≤ g ∧ ats.length ≤ cap) ∧ Cells2 g 0 ats w) := by
  obtain ⟨_, h⟩ := h
  rcases h with ⟨rfl, h0⟩ | ⟨g, cap, cur, rfl, h1, h2, h3, h4, h5, h6⟩
  · exact ⟨none, 0, by rw [h0], Or.inl (List.eq_nil_of_length_eq_zero h0)⟩
  · refine ⟨_, cap, rfl, Or.inr ⟨g, rfl, ⟨h1, by omega⟩, fun k hk => ?_⟩⟩
    have key : ∀ j x, (flatA ats)[j]? = some x → w.cell? ⟨g, 0 + j, none⟩ = some x := fun j x hj => by
      rw [Nat.zero_add, Joins.cell_of_block h2]
      rw [← h6, List.getElem?_take] at hj
      split at hj
      · simpa using hj
      · cases hj
    have := flatA_get ats k hk
    exact ⟨key _ _ this.1, by rw [Nat.add_assoc]; exact key _ _ this.2⟩
theorem infoAttr0 : (Tryd.prog.info? 55).map (fun i => (i.zero, i.size, i.bytes)) = some (some (.agg #[.string ⟨#[]⟩, .string ⟨#[]⟩]), 2, 32) := by kernel_rfl
theorem ownsRow_kpr {w w' : World} {R base : Nat} {e : TypeId} {size : Nat} {v : Value} {n : Nat} {xs : List Value} (h : w.ownsRow base e size v n xs) (hk : KpR R w w') (hR : R < base) : w'.ownsRow base e size v n xs := by
  obtain ⟨hl, h⟩ := h
  refine ⟨hl, ?_⟩
  rcases h with h | ⟨g, cap, cur, h1, h2, h3, h4⟩
  · exact .inl h
  · exact .inr ⟨g, cap, cur, h1, h2, (hk.block g (Array.getElem?_eq_some_iff.1 h3).1 (by omega)).trans h3, h4⟩
theorem KpR.grown {R : Nat} {w W W' : World} {row : Option Nat} (h : KpR R w W) (hg : W.grownBy W' row) (hr : ∀ k, row = some k → w.heap.size ≤ k) : KpR R w W' :=
  ⟨hg.os.trans h.os, hg.tape.trans h.tape, hg.output.trans h.output, Nat.le_trans h.size hg.size, fun k hk hkr => (hg.block k (by have := h.size; omega) (fun e => by have := hr k e.symm; omega)).trans (h.block k hk hkr)⟩
theorem Rdr.grown {R : Nat} {s : ByteArray} {m : Int} {b : Bool} {W W' : World} {row : Option Nat} (h : Rdr R s m b W) (hg : W.grownBy W' row) (hr : some R ≠ row) : Rdr R s m b W' := (hg.block R h.lt hr).trans h
theorem sl_hi {base : Nat} {W : World} {q : Option Addr} {cap : Nat} {ats : List (ByteArray × ByteArray)} (h : ats = [] ∨ ∃ g, q = some ⟨g, 0, none⟩ ∧ (base ≤ g ∧ ats.length ≤ cap) ∧ Cells2 g 0 ats W) : Sl q ats (mask (hiP base) W) :=
  h.imp id fun ⟨g, h1, h2, h3⟩ => ⟨g, 0, h1, fun k hk => ⟨mask_cell.2 ⟨hiP_not h2.1, (h3 k hk).1⟩, mask_cell.2 ⟨hiP_not h2.1, (h3 k hk).2⟩⟩⟩
def AsAt (w : World) (R : Nat) (m : Int) (c : Nat) (res : List (ByteArray × ByteArray) × List UInt8 × Bool) (v i : Value) (wr : World) : Prop :=
  ∃ (j : Nat) (ats : List (ByteArray × ByteArray)) (l : List UInt8) (b : Bool), j ≤ c ∧ i = .int .i64 j ∧ ats.length = j ∧ wr.ownsRow w.heap.size 55 2 v ats.length (flatA ats) ∧ Rdr R (bs l) m b wr ∧ KpR R w wr ∧ (ats ++ (atF (c - j) l b).1, (atF (c - j) l b).2) = res ∧ l.length ≤ 1000000000000 ∧ (b = true → l = [])
set_option maxHeartbeats 4000000 in
set_option maxRecDepth 100000 in
theorem rattrs_any (R : Nat) (l : List UInt8) (m : Int) (b : Bool) (w : World) (h : Rdr R (bs l) m b w) (hs : l.length ≤ 1000000000000) (hb : b = true → l = []) :
    Calls Tryd.prog 110 #[.pointer (some ⟨R, 0, none⟩)] w fun e w' => ∃ q cap, e = .returned (.slice q (asF l b).1.length cap) ∧ Sl q (asF l b).1 (mask (hiP w.heap.size) w') ∧ Rdr R (bs (asF l b).2.1) m (asF l b).2.2 w' ∧ KpR R w w' := by
  obtain ⟨i0, hi0, hi1, hi2, hi3⟩ := info_parts infoAttr0
  have hRl : R < w.heap.size := h.lt
  have CN := hide (rdnum_any R l m 12 b w h (by omega))
  obtain ⟨x1, x2, x3, x4, x5, x6⟩ := nmF_ok 12 l b hb
  have x4' := x4 (by omega)
  have HR : Hid (asF l b = asF l b) := hide rfl
  obtain ⟨res, hres⟩ : ∃ res, asF l b = res := ⟨_, rfl⟩
  have hres' : atF (nmF 12 l b).1.toNat (nmF 12 l b).2.1 (nmF 12 l b).2.2 = res := hres
  rw [hres]
  obtain ⟨c, hc⟩ : ∃ c : Nat, (nmF 12 l b).1 = (c : Int) := ⟨(nmF 12 l b).1.toNat, by omega⟩
  rw [hc] at CN hres' x4'
  simp only [Int.toNat_natCast] at hres'
  generalize (nmF 12 l b).2.1 = l1 at *
  generalize (nmF 12 l b).2.2 = b1 at *
  have HST := hide (And.intro x1 (And.intro x2 hres'))
  clear h hb x1 x2 x3 x4 x5 x6 hres hres' HR hc
  go_enter Tryd.func110, Tryd.ntmps110
  go_wp2_with fail
  refine (unhide CN).mono ?_
  rintro e w1 ⟨rfl, h1, hk1⟩
  have HAT : Hid (AsAt w R m c res (.slice none 0 0) (.int .i64 0) w1) := hide ⟨0, [], l1, b1, Nat.zero_le _, rfl, rfl, World.ownsRow_nil _ _ _ _, h1, hk1, by rw [Nat.sub_zero, (unhide HST).2.2]; rfl, by have := (unhide HST).2.1; omega, (unhide HST).1⟩
  clear CN h1 hk1 HST
  go_wp2
  go_loopw [3, 8] (fun v i wr => AsAt w R m c res v i wr) (fun _ i _ => c - (intOf i).toNat)
  case atStart => exact unhide HAT
  case round =>
    clear HAT
    obtain ⟨j, ats, l2, b2, hj, rfl, hal, hrow, hrd, hk, hres, hl2, hbl⟩ := hrel
    obtain ⟨a5, c5, rfl⟩ := slice_n hrow
    by_cases hp : j < c
    · have hpi : (j : Int) < (c : Int) := by omega
      have CT1 := hide (rtxt_any R l2 m b2 wr hrd (by omega))
      obtain ⟨y1, y2, y3⟩ := txF_ok l2 b2 hbl
      have CT2 := hide (fun W (hW : Rdr R (bs (txF l2 b2).2.1) m (txF l2 b2).2.2 W) => rtxt_any R (txF l2 b2).2.1 m (txF l2 b2).2.2 W hW (by omega))
      obtain ⟨z1, z2, z3⟩ := txF_ok (txF l2 b2).2.1 (txF l2 b2).2.2 y1
      have HRES : Hid (((ats ++ [((txF l2 b2).1, (txF (txF l2 b2).2.1 (txF l2 b2).2.2).1)]) ++ (atF (c - (j + 1)) (txF (txF l2 b2).2.1 (txF l2 b2).2.2).2.1 (txF (txF l2 b2).2.1 (txF l2 b2).2.2).2.2).1, (atF (c - (j + 1)) (txF (txF l2 b2).2.1 (txF l2 b2).2.2).2.1 (txF (txF l2 b2).2.1 (txF l2 b2).2.2).2.2).2) = res) := hide (by
        rw [← hres, show c - j = (c - (j + 1)) + 1 by omega, atF]
        simp only [List.append_assoc, List.cons_append, List.nil_append])
      have HST : Hid ((txF (txF l2 b2).2.1 (txF l2 b2).2.2).2.1.length ≤ 1000000000000 ∧ ((txF (txF l2 b2).2.1 (txF l2 b2).2.2).2.2 = true → (txF (txF l2 b2).2.1 (txF l2 b2).2.2).2.1 = [])) := hide ⟨by omega, z1⟩
      generalize txF (txF l2 b2).2.1 (txF l2 b2).2.2 = Y at *
      generalize txF l2 b2 = X at *
      obtain ⟨xv, xl, xb⟩ := X
      obtain ⟨yv, yl, yb⟩ := Y
      dsimp only at CT1 CT2 HRES HST
      have HROW := hide hrow
      have HK := hide hk
      have halN : ats.length ≤ 12 := by omega
      rw [hal]
      clear hrow hk hrd hres hbl y1 y2 y3 z1 z2 z3
      go_wp2_with fail
      refine (unhide CT1).mono ?_
      rintro e w2 ⟨rfl, h2, hk2⟩
      have CT3 := hide (unhide CT2 w2 h2)
      have HK2 := hide (And.intro hk2 ((unhide HK).trans hk2))
      clear CT1 CT2 h2 hk2
      go_wp2_with fail
      refine (unhide CT3).mono ?_
      rintro e w3 ⟨rfl, h3, hk3⟩
      have hrow3 := ownsRow_kpr (ownsRow_kpr (unhide HROW) (unhide HK2).1 hRl) hk3 hRl
      rw [hal] at hrow3
      have hkk := (unhide HK2).2.trans hk3
      have hsz3 : w.heap.size ≤ w3.heap.size := hkk.size
      have HY := hide (And.intro h3 hkk)
      clear CT3 h3 hk3 hkk HK2 HROW HK
      go_wp2_with (at_builtin; refine wpList_append_own _ rfl _ _ 29 rfl w.heap.size 55 i0 (.agg #[.string ⟨#[]⟩, .string ⟨#[]⟩]) 2 32 Tryd.underlying29 hi0 hi1 hi2 hi3 rfl (by decide) _ _ _ rfl (hrow3.alloc (Obj.cells #[.string xv, .string yv] 55)) ⟨w3.heap.size, 0, none⟩ 1 1 [.string xv, .string yv] rfl rfl (fun j u hj => lit2 rfl hj) (by intro u hu; simp at hu; rcases hu with rfl | rfl <;> rfl) (by unfold maxLen; omega) (by omega) (by simp; omega) ?_)
      intro v' w5 hrow5 hgrow5 _
      obtain ⟨a6, c6, hv5⟩ := slice_n hrow5
      have hown := fun k hk => (hrow3.lt k hk).1
      have hk5 : KpR R w w5 := ((unhide HY).2.alloc (Obj.cells #[.string xv, .string yv] 55)).grown hgrow5 hown
      have h5 : Rdr R (bs yl) m yb w5 := Rdr.grown (Blk.alloc (unhide HY).1 (Obj.cells #[.string xv, .string yv] 55)) hgrow5 (fun e => by have := hown R e.symm; omega)
      subst hv5
      have HZ := hide (And.intro hrow5 (And.intro h5 hk5))
      clear hrow5 hgrow5 hown hk5 h5 hrow3 HY
      go_wp2
      go_roundw
      case rel =>
        obtain ⟨hrow5, h5, hk5⟩ := unhide HZ
        refine ⟨j + 1, ats ++ [(xv, yv)], yl, yb, by omega, by go_num, by rw [List.length_append, hal]; rfl, ?_, h5, hk5, unhide HRES, (unhide HST).1, (unhide HST).2⟩
        rw [flatA_snoc, List.length_append, hal]
        exact hrow5
      case measure => simp [intOf]; omega
    · have hpi : ¬ (j : Int) < (c : Int) := by omega
      have hjc : c - j = 0 := by omega
      rw [hjc, atF, List.append_nil] at hres
      obtain ⟨q, cap, hv, hcs⟩ := cells_of_owns hrow
      injection hv with hv1 hv2 hv3
      subst hv1 hv3
      have HX : Hid (Sl a5 res.1 (mask (hiP w.heap.size) wr) ∧ Rdr R (bs res.2.1) m res.2.2 wr ∧ KpR R w wr ∧ ats.length = res.1.length) := hide (by
        rw [← hres]; exact ⟨sl_hi hcs, hrd, hk, rfl⟩)
      clear hrow hrd hk hres hcs hbl
      go_wp2
      go_ret
      exact ⟨a5, ⟨c5, by rw [← (unhide HX).2.2.2, hal]; rfl⟩, (unhide HX).1, (unhide HX).2.1, (unhide HX).2.2.1⟩
end Go.Proofs.YtpfnjgkfombmpaaDoor

/-
  A tree.reader's node, of any bytes (made by mk_yru.py).
-/
namespace Go.Proofs.YtpfnjgkfombmpaaDoor
open Go.RowKit
set_option linter.unusedVariables false
set_option linter.unusedSimpArgs false

def NdSaid (w : World) (R : Nat) (z : Nd × RS) (e : Ending) (w' : World) : Prop :=
  ∃ qa ca qk ck, e = .returned (.agg #[.int .i64 z.1.k, .int .i64 z.1.sp, .string z.1.n, .slice qa z.1.ats.length ca, .string z.1.tx, .slice qk z.1.kids.len ck]) ∧ z.1.kids.len ≤ ck ∧ Sl qa z.1.ats (mask (hiP w.heap.size) w') ∧ Fo qk z.1.kids (mask (hiP w.heap.size) w') ∧ Rdr R (bs z.2.1) (z.2.2.1 : Nat) z.2.2.2 w' ∧ KpR R w w'
def LsSaid (w : World) (R : Nat) (z : Forest × RS) (e : Ending) (w' : World) : Prop :=
  ∃ q cap, e = .returned (.slice q z.1.len cap) ∧ z.1.len ≤ cap ∧ Fo q z.1 (mask (hiP w.heap.size) w') ∧ Rdr R (bs z.2.1) (z.2.2.1 : Nat) z.2.2.2 w' ∧ KpR R w w'
set_option maxHeartbeats 4000000 in
set_option maxRecDepth 100000 in
theorem rnode_leafK (R : Nat) (m : Nat) (b1 : Bool) (l1 l2 : List UInt8) (t1 : ByteArray) (b2 : Bool) (dd : Int) (w : World) (hRl : R < w.heap.size) (k : Int) (hk : k = 2 ∨ k = 3)
    (CN : Hid (Calls Tryd.prog 87 #[.pointer (some ⟨R, 0, none⟩), .int .i64 3] (w.alloc (Obj.cells #[.int .i64 0, .int .i64 0, .string ⟨#[]⟩, .slice none 0 0, .string ⟨#[]⟩, .slice none 0 0] 31)) fun e w' => e = .returned (.int .i64 k) ∧ Rdr R (bs l1) m b1 w' ∧ KpR R (w.alloc (Obj.cells #[.int .i64 0, .int .i64 0, .string ⟨#[]⟩, .slice none 0 0, .string ⟨#[]⟩, .slice none 0 0] 31)) w'))
    (CT : Hid (∀ W, Rdr R (bs l1) m b1 W → Calls Tryd.prog 109 #[.pointer (some ⟨R, 0, none⟩)] W fun e w' => e = .returned (.string t1) ∧ Rdr R (bs l2) m b2 w' ∧ KpR R W w')) :
    Calls Tryd.prog 89 #[.pointer (some ⟨R, 0, none⟩), .int .i64 dd] w (NdSaid w R (⟨k, 0, ⟨#[]⟩, [], t1, .nil⟩, l2, m, b2)) := by
  have HZ0 : Hid (Blk (w.alloc (Obj.cells #[.int .i64 0, .int .i64 0, .string ⟨#[]⟩, .slice none 0 0, .string ⟨#[]⟩, .slice none 0 0] 31)) w.heap.size #[.int .i64 0, .int .i64 0, .string ⟨#[]⟩, .slice none 0 0, .string ⟨#[]⟩, .slice none 0 0] 31 ∧ KpR R w (w.alloc (Obj.cells #[.int .i64 0, .int .i64 0, .string ⟨#[]⟩, .slice none 0 0, .string ⟨#[]⟩, .slice none 0 0] 31)) ∧ (w.alloc (Obj.cells #[.int .i64 0, .int .i64 0, .string ⟨#[]⟩, .slice none 0 0, .string ⟨#[]⟩, .slice none 0 0] 31)).heap.size = w.heap.size + 1) := hide ⟨Blk.new w _ _, (KpR.refl R w).alloc _, by simp⟩
  rcases hk with rfl | rfl
  · skip
    go_enter Tryd.func89, Tryd.ntmps89
    go_wp2_with fail
    refine (unhide CN).mono ?_
    rintro e w1 ⟨rfl, h1, hk1⟩
    have hz1 : Blk w1 w.heap.size #[.int .i64 0, .int .i64 0, .string ⟨#[]⟩, .slice none 0 0, .string ⟨#[]⟩, .slice none 0 0] 31 := hk1.blk (unhide HZ0).1 (by omega)
    have hw1 : w.heap.size < w1.heap.size := by have h2 := hk1.size; have h3 := (unhide HZ0).2.2; omega
    have hK1 : KpR R w w1 := (unhide HZ0).2.1.trans hk1
    have hR1 : R < w1.heap.size := by omega
    have hbn := Blk.new w1 #[.int .i64 2, .int .i64 0, .string ⟨#[]⟩, .slice none 0 0, .string ⟨#[]⟩, .slice none 0 0] 31
    have hz2 := Blk.alloc hz1 (Obj.cells #[.int .i64 2, .int .i64 0, .string ⟨#[]⟩, .slice none 0 0, .string ⟨#[]⟩, .slice none 0 0] 31)
    have h2 : Rdr R (bs l1) m b1 (w1.alloc (Obj.cells #[.int .i64 2, .int .i64 0, .string ⟨#[]⟩, .slice none 0 0, .string ⟨#[]⟩, .slice none 0 0] 31)) := Blk.alloc h1 (Obj.cells #[.int .i64 2, .int .i64 0, .string ⟨#[]⟩, .slice none 0 0, .string ⟨#[]⟩, .slice none 0 0] 31)
    have hK2 := hK1.alloc (Obj.cells #[.int .i64 2, .int .i64 0, .string ⟨#[]⟩, .slice none 0 0, .string ⟨#[]⟩, .slice none 0 0] 31)
    have CT1 := hide (unhide CT _ h2)
    have HY := hide (And.intro hz2 (And.intro hbn hK2))
    clear CN CT h1 hk1 hz1 hbn hz2 h2 hK1 hK2 HZ0
    go_wp2_with fail
    refine (unhide CT1).mono ?_
    rintro e w2 ⟨rfl, h2, hk2⟩
    have hz2 := hk2.blk (unhide HY).1 (by omega)
    have hn2 := hk2.blk (unhide HY).2.1 (by omega)
    have HK := hide ((unhide HY).2.2.trans hk2)
    have HR2 := hide h2
    have HSZ : Hid (w.heap.size < w1.heap.size) := hide hw1
    clear CT1 h2 hk2 HY
    have n0 : w2.cell? ⟨w1.heap.size, 0, none⟩ = some (.int .i64 2) := hn2.cell 0
    have n1 : w2.cell? ⟨w1.heap.size, 1, none⟩ = some (.int .i64 0) := hn2.cell 1
    have n2 : w2.cell? ⟨w1.heap.size, 2, none⟩ = some (.string ⟨#[]⟩) := hn2.cell 2
    have n3 : w2.cell? ⟨w1.heap.size, 3, none⟩ = some (.slice none 0 0) := hn2.cell 3
    have n4 : w2.cell? ⟨w1.heap.size, 4, none⟩ = some (.string ⟨#[]⟩) := hn2.cell 4
    have n5 : w2.cell? ⟨w1.heap.size, 5, none⟩ = some (.slice none 0 0) := hn2.cell 5
    have z0 : w2.cell? ⟨w.heap.size, 0, none⟩ = some (.int .i64 0) := hz2.cell 0
    have zf0 : w2.frozen? ⟨w.heap.size, 0, none⟩ = false := hz2.frozen 0
    have z1 : w2.cell? ⟨w.heap.size, 1, none⟩ = some (.int .i64 0) := hz2.cell 1
    have zf1 : w2.frozen? ⟨w.heap.size, 1, none⟩ = false := hz2.frozen 1
    have z2 : w2.cell? ⟨w.heap.size, 2, none⟩ = some (.string ⟨#[]⟩) := hz2.cell 2
    have zf2 : w2.frozen? ⟨w.heap.size, 2, none⟩ = false := hz2.frozen 2
    have z3 : w2.cell? ⟨w.heap.size, 3, none⟩ = some (.slice none 0 0) := hz2.cell 3
    have zf3 : w2.frozen? ⟨w.heap.size, 3, none⟩ = false := hz2.frozen 3
    have z4 : w2.cell? ⟨w.heap.size, 4, none⟩ = some (.string ⟨#[]⟩) := hz2.cell 4
    have zf4 : w2.frozen? ⟨w.heap.size, 4, none⟩ = false := hz2.frozen 4
    have z5 : w2.cell? ⟨w.heap.size, 5, none⟩ = some (.slice none 0 0) := hz2.cell 5
    have zf5 : w2.frozen? ⟨w.heap.size, 5, none⟩ = false := hz2.frozen 5
    have nf4 : w2.frozen? ⟨w1.heap.size, 4, none⟩ = false := hn2.frozen 4
    have hRZ : R ≠ w.heap.size := by omega
    have hRN : R ≠ w1.heap.size := by omega
    have hNZ : w1.heap.size ≠ w.heap.size := by omega
    have hZN : w.heap.size ≠ w1.heap.size := by omega
    obtain ⟨N, hN⟩ : ∃ N, w1.heap.size = N := ⟨_, rfl⟩
    obtain ⟨Z, hZ⟩ : ∃ Z, w.heap.size = Z := ⟨_, rfl⟩
    rw [hN] at n0 n1 n2 n3 n4 n5 nf4 hRN hNZ hZN hn2
    rw [hZ] at z0 zf0 z1 zf1 z2 zf2 z3 zf3 z4 zf4 z5 zf5 hRZ hNZ hZN hz2
    have bk0 : Blk (w2.setCell ⟨N, 4, none⟩ (.string t1)) Z #[.int .i64 0, .int .i64 0, .string ⟨#[]⟩, .slice none 0 0, .string ⟨#[]⟩, .slice none 0 0] 31 := Blk.away hz2 hZN _
    have bk1 : Blk ((w2.setCell ⟨N, 4, none⟩ (.string t1)).setCell ⟨Z, 0, none⟩ (.int .i64 2)) Z #[.int .i64 2, .int .i64 0, .string ⟨#[]⟩, .slice none 0 0, .string ⟨#[]⟩, .slice none 0 0] 31 := Blk.set (vs := #[.int .i64 0, .int .i64 0, .string ⟨#[]⟩, .slice none 0 0, .string ⟨#[]⟩, .slice none 0 0]) bk0 0 (by simp) _
    have r0 : ((w2.setCell ⟨N, 4, none⟩ (.string t1)).setCell ⟨Z, 0, none⟩ (.int .i64 2)).cell? ⟨Z, 0, none⟩ = some (.int .i64 2) := bk1.cell 0
    have bk2 : Blk (((w2.setCell ⟨N, 4, none⟩ (.string t1)).setCell ⟨Z, 0, none⟩ (.int .i64 2)).setCell ⟨Z, 1, none⟩ (.int .i64 0)) Z #[.int .i64 2, .int .i64 0, .string ⟨#[]⟩, .slice none 0 0, .string ⟨#[]⟩, .slice none 0 0] 31 := Blk.set (vs := #[.int .i64 2, .int .i64 0, .string ⟨#[]⟩, .slice none 0 0, .string ⟨#[]⟩, .slice none 0 0]) bk1 1 (by simp) _
    have r1 : (((w2.setCell ⟨N, 4, none⟩ (.string t1)).setCell ⟨Z, 0, none⟩ (.int .i64 2)).setCell ⟨Z, 1, none⟩ (.int .i64 0)).cell? ⟨Z, 1, none⟩ = some (.int .i64 0) := bk2.cell 1
    have bk3 : Blk ((((w2.setCell ⟨N, 4, none⟩ (.string t1)).setCell ⟨Z, 0, none⟩ (.int .i64 2)).setCell ⟨Z, 1, none⟩ (.int .i64 0)).setCell ⟨Z, 2, none⟩ (.string ⟨#[]⟩)) Z #[.int .i64 2, .int .i64 0, .string ⟨#[]⟩, .slice none 0 0, .string ⟨#[]⟩, .slice none 0 0] 31 := Blk.set (vs := #[.int .i64 2, .int .i64 0, .string ⟨#[]⟩, .slice none 0 0, .string ⟨#[]⟩, .slice none 0 0]) bk2 2 (by simp) _
    have r2 : ((((w2.setCell ⟨N, 4, none⟩ (.string t1)).setCell ⟨Z, 0, none⟩ (.int .i64 2)).setCell ⟨Z, 1, none⟩ (.int .i64 0)).setCell ⟨Z, 2, none⟩ (.string ⟨#[]⟩)).cell? ⟨Z, 2, none⟩ = some (.string ⟨#[]⟩) := bk3.cell 2
    have bk4 : Blk (((((w2.setCell ⟨N, 4, none⟩ (.string t1)).setCell ⟨Z, 0, none⟩ (.int .i64 2)).setCell ⟨Z, 1, none⟩ (.int .i64 0)).setCell ⟨Z, 2, none⟩ (.string ⟨#[]⟩)).setCell ⟨Z, 3, none⟩ (.slice none 0 0)) Z #[.int .i64 2, .int .i64 0, .string ⟨#[]⟩, .slice none 0 0, .string ⟨#[]⟩, .slice none 0 0] 31 := Blk.set (vs := #[.int .i64 2, .int .i64 0, .string ⟨#[]⟩, .slice none 0 0, .string ⟨#[]⟩, .slice none 0 0]) bk3 3 (by simp) _
    have r3 : (((((w2.setCell ⟨N, 4, none⟩ (.string t1)).setCell ⟨Z, 0, none⟩ (.int .i64 2)).setCell ⟨Z, 1, none⟩ (.int .i64 0)).setCell ⟨Z, 2, none⟩ (.string ⟨#[]⟩)).setCell ⟨Z, 3, none⟩ (.slice none 0 0)).cell? ⟨Z, 3, none⟩ = some (.slice none 0 0) := bk4.cell 3
    have bk5 : Blk ((((((w2.setCell ⟨N, 4, none⟩ (.string t1)).setCell ⟨Z, 0, none⟩ (.int .i64 2)).setCell ⟨Z, 1, none⟩ (.int .i64 0)).setCell ⟨Z, 2, none⟩ (.string ⟨#[]⟩)).setCell ⟨Z, 3, none⟩ (.slice none 0 0)).setCell ⟨Z, 4, none⟩ (.string t1)) Z #[.int .i64 2, .int .i64 0, .string ⟨#[]⟩, .slice none 0 0, .string t1, .slice none 0 0] 31 := Blk.set (vs := #[.int .i64 2, .int .i64 0, .string ⟨#[]⟩, .slice none 0 0, .string ⟨#[]⟩, .slice none 0 0]) bk4 4 (by simp) _
    have r4 : ((((((w2.setCell ⟨N, 4, none⟩ (.string t1)).setCell ⟨Z, 0, none⟩ (.int .i64 2)).setCell ⟨Z, 1, none⟩ (.int .i64 0)).setCell ⟨Z, 2, none⟩ (.string ⟨#[]⟩)).setCell ⟨Z, 3, none⟩ (.slice none 0 0)).setCell ⟨Z, 4, none⟩ (.string t1)).cell? ⟨Z, 4, none⟩ = some (.string t1) := bk5.cell 4
    have bk6 : Blk (((((((w2.setCell ⟨N, 4, none⟩ (.string t1)).setCell ⟨Z, 0, none⟩ (.int .i64 2)).setCell ⟨Z, 1, none⟩ (.int .i64 0)).setCell ⟨Z, 2, none⟩ (.string ⟨#[]⟩)).setCell ⟨Z, 3, none⟩ (.slice none 0 0)).setCell ⟨Z, 4, none⟩ (.string t1)).setCell ⟨Z, 5, none⟩ (.slice none 0 0)) Z #[.int .i64 2, .int .i64 0, .string ⟨#[]⟩, .slice none 0 0, .string t1, .slice none 0 0] 31 := Blk.set (vs := #[.int .i64 2, .int .i64 0, .string ⟨#[]⟩, .slice none 0 0, .string t1, .slice none 0 0]) bk5 5 (by simp) _
    have r5 : (((((((w2.setCell ⟨N, 4, none⟩ (.string t1)).setCell ⟨Z, 0, none⟩ (.int .i64 2)).setCell ⟨Z, 1, none⟩ (.int .i64 0)).setCell ⟨Z, 2, none⟩ (.string ⟨#[]⟩)).setCell ⟨Z, 3, none⟩ (.slice none 0 0)).setCell ⟨Z, 4, none⟩ (.string t1)).setCell ⟨Z, 5, none⟩ (.slice none 0 0)).cell? ⟨Z, 5, none⟩ = some (.slice none 0 0) := bk6.cell 5
    have HRS := hide (And.intro r0 (And.intro r1 (And.intro r2 (And.intro r3 (And.intro r4 r5)))))
    have HE : Hid (NdSaid w R (⟨2, 0, ⟨#[]⟩, [], t1, .nil⟩, l2, m, b2) (.returned (.agg #[.int .i64 2, .int .i64 0, .string ⟨#[]⟩, .slice none 0 0, .string t1, .slice none 0 0])) (((((((w2.setCell ⟨N, 4, none⟩ (.string t1)).setCell ⟨Z, 0, none⟩ (.int .i64 2)).setCell ⟨Z, 1, none⟩ (.int .i64 0)).setCell ⟨Z, 2, none⟩ (.string ⟨#[]⟩)).setCell ⟨Z, 3, none⟩ (.slice none 0 0)).setCell ⟨Z, 4, none⟩ (.string t1)).setCell ⟨Z, 5, none⟩ (.slice none 0 0))) := hide ⟨none, 0, none, 0, rfl, Nat.le_refl _, .inl rfl, .inl rfl, Blk.away (Blk.away (Blk.away (Blk.away (Blk.away (Blk.away (Blk.away (unhide HR2) hRN _) hRZ _) hRZ _) hRZ _) hRZ _) hRZ _) hRZ _, KpR.setAt (KpR.setAt (KpR.setAt (KpR.setAt (KpR.setAt (KpR.setAt (KpR.setAt ((unhide HK)) (b := N) (by have h1 := (unhide HSZ); omega) 4 _) (b := Z) (Nat.le_of_eq hZ) 0 _) (b := Z) (Nat.le_of_eq hZ) 1 _) (b := Z) (Nat.le_of_eq hZ) 2 _) (b := Z) (Nat.le_of_eq hZ) 3 _) (b := Z) (Nat.le_of_eq hZ) 4 _) (b := Z) (Nat.le_of_eq hZ) 5 _⟩
    clear bk0 bk1 bk2 bk3 bk4 bk5 bk6 r0 r1 r2 r3 r4 r5 hz2 hn2 HK HR2
    simp only [hN, hZ]
    clear hN hZ
    go_wp2
    obtain ⟨r0, r1, r2, r3, r4, r5⟩ := unhide HRS
    refine bodyPost_ret (v := .agg #[.int .i64 2, .int .i64 0, .string ⟨#[]⟩, .slice none 0 0, .string t1, .slice none 0 0]) (by simp [results, Tryd.results89, go_sem, r0, r1, r2, r3, r4, r5]) rfl ?_
    exact unhide HE
  · skip
    go_enter Tryd.func89, Tryd.ntmps89
    go_wp2_with fail
    refine (unhide CN).mono ?_
    rintro e w1 ⟨rfl, h1, hk1⟩
    have hz1 : Blk w1 w.heap.size #[.int .i64 0, .int .i64 0, .string ⟨#[]⟩, .slice none 0 0, .string ⟨#[]⟩, .slice none 0 0] 31 := hk1.blk (unhide HZ0).1 (by omega)
    have hw1 : w.heap.size < w1.heap.size := by have h2 := hk1.size; have h3 := (unhide HZ0).2.2; omega
    have hK1 : KpR R w w1 := (unhide HZ0).2.1.trans hk1
    have hR1 : R < w1.heap.size := by omega
    have hbn := Blk.new w1 #[.int .i64 3, .int .i64 0, .string ⟨#[]⟩, .slice none 0 0, .string ⟨#[]⟩, .slice none 0 0] 31
    have hz2 := Blk.alloc hz1 (Obj.cells #[.int .i64 3, .int .i64 0, .string ⟨#[]⟩, .slice none 0 0, .string ⟨#[]⟩, .slice none 0 0] 31)
    have h2 : Rdr R (bs l1) m b1 (w1.alloc (Obj.cells #[.int .i64 3, .int .i64 0, .string ⟨#[]⟩, .slice none 0 0, .string ⟨#[]⟩, .slice none 0 0] 31)) := Blk.alloc h1 (Obj.cells #[.int .i64 3, .int .i64 0, .string ⟨#[]⟩, .slice none 0 0, .string ⟨#[]⟩, .slice none 0 0] 31)
    have hK2 := hK1.alloc (Obj.cells #[.int .i64 3, .int .i64 0, .string ⟨#[]⟩, .slice none 0 0, .string ⟨#[]⟩, .slice none 0 0] 31)
    have CT1 := hide (unhide CT _ h2)
    have HY := hide (And.intro hz2 (And.intro hbn hK2))
    clear CN CT h1 hk1 hz1 hbn hz2 h2 hK1 hK2 HZ0
    go_wp2_with fail
    refine (unhide CT1).mono ?_
    rintro e w2 ⟨rfl, h2, hk2⟩
    have hz2 := hk2.blk (unhide HY).1 (by omega)
    have hn2 := hk2.blk (unhide HY).2.1 (by omega)
    have HK := hide ((unhide HY).2.2.trans hk2)
    have HR2 := hide h2
    have HSZ : Hid (w.heap.size < w1.heap.size) := hide hw1
    clear CT1 h2 hk2 HY
    have n0 : w2.cell? ⟨w1.heap.size, 0, none⟩ = some (.int .i64 3) := hn2.cell 0
    have n1 : w2.cell? ⟨w1.heap.size, 1, none⟩ = some (.int .i64 0) := hn2.cell 1
    have n2 : w2.cell? ⟨w1.heap.size, 2, none⟩ = some (.string ⟨#[]⟩) := hn2.cell 2
    have n3 : w2.cell? ⟨w1.heap.size, 3, none⟩ = some (.slice none 0 0) := hn2.cell 3
    have n4 : w2.cell? ⟨w1.heap.size, 4, none⟩ = some (.string ⟨#[]⟩) := hn2.cell 4
    have n5 : w2.cell? ⟨w1.heap.size, 5, none⟩ = some (.slice none 0 0) := hn2.cell 5
    have z0 : w2.cell? ⟨w.heap.size, 0, none⟩ = some (.int .i64 0) := hz2.cell 0
    have zf0 : w2.frozen? ⟨w.heap.size, 0, none⟩ = false := hz2.frozen 0
    have z1 : w2.cell? ⟨w.heap.size, 1, none⟩ = some (.int .i64 0) := hz2.cell 1
    have zf1 : w2.frozen? ⟨w.heap.size, 1, none⟩ = false := hz2.frozen 1
    have z2 : w2.cell? ⟨w.heap.size, 2, none⟩ = some (.string ⟨#[]⟩) := hz2.cell 2
    have zf2 : w2.frozen? ⟨w.heap.size, 2, none⟩ = false := hz2.frozen 2
    have z3 : w2.cell? ⟨w.heap.size, 3, none⟩ = some (.slice none 0 0) := hz2.cell 3
    have zf3 : w2.frozen? ⟨w.heap.size, 3, none⟩ = false := hz2.frozen 3
    have z4 : w2.cell? ⟨w.heap.size, 4, none⟩ = some (.string ⟨#[]⟩) := hz2.cell 4
    have zf4 : w2.frozen? ⟨w.heap.size, 4, none⟩ = false := hz2.frozen 4
    have z5 : w2.cell? ⟨w.heap.size, 5, none⟩ = some (.slice none 0 0) := hz2.cell 5
    have zf5 : w2.frozen? ⟨w.heap.size, 5, none⟩ = false := hz2.frozen 5
    have nf4 : w2.frozen? ⟨w1.heap.size, 4, none⟩ = false := hn2.frozen 4
    have hRZ : R ≠ w.heap.size := by omega
    have hRN : R ≠ w1.heap.size := by omega
    have hNZ : w1.heap.size ≠ w.heap.size := by omega
    have hZN : w.heap.size ≠ w1.heap.size := by omega
    obtain ⟨N, hN⟩ : ∃ N, w1.heap.size = N := ⟨_, rfl⟩
    obtain ⟨Z, hZ⟩ : ∃ Z, w.heap.size = Z := ⟨_, rfl⟩
    rw [hN] at n0 n1 n2 n3 n4 n5 nf4 hRN hNZ hZN hn2
    rw [hZ] at z0 zf0 z1 zf1 z2 zf2 z3 zf3 z4 zf4 z5 zf5 hRZ hNZ hZN hz2
    have bk0 : Blk (w2.setCell ⟨N, 4, none⟩ (.string t1)) Z #[.int .i64 0, .int .i64 0, .string ⟨#[]⟩, .slice none 0 0, .string ⟨#[]⟩, .slice none 0 0] 31 := Blk.away hz2 hZN _
    have bk1 : Blk ((w2.setCell ⟨N, 4, none⟩ (.string t1)).setCell ⟨Z, 0, none⟩ (.int .i64 3)) Z #[.int .i64 3, .int .i64 0, .string ⟨#[]⟩, .slice none 0 0, .string ⟨#[]⟩, .slice none 0 0] 31 := Blk.set (vs := #[.int .i64 0, .int .i64 0, .string ⟨#[]⟩, .slice none 0 0, .string ⟨#[]⟩, .slice none 0 0]) bk0 0 (by simp) _
    have r0 : ((w2.setCell ⟨N, 4, none⟩ (.string t1)).setCell ⟨Z, 0, none⟩ (.int .i64 3)).cell? ⟨Z, 0, none⟩ = some (.int .i64 3) := bk1.cell 0
    have bk2 : Blk (((w2.setCell ⟨N, 4, none⟩ (.string t1)).setCell ⟨Z, 0, none⟩ (.int .i64 3)).setCell ⟨Z, 1, none⟩ (.int .i64 0)) Z #[.int .i64 3, .int .i64 0, .string ⟨#[]⟩, .slice none 0 0, .string ⟨#[]⟩, .slice none 0 0] 31 := Blk.set (vs := #[.int .i64 3, .int .i64 0, .string ⟨#[]⟩, .slice none 0 0, .string ⟨#[]⟩, .slice none 0 0]) bk1 1 (by simp) _
    have r1 : (((w2.setCell ⟨N, 4, none⟩ (.string t1)).setCell ⟨Z, 0, none⟩ (.int .i64 3)).setCell ⟨Z, 1, none⟩ (.int .i64 0)).cell? ⟨Z, 1, none⟩ = some (.int .i64 0) := bk2.cell 1
    have bk3 : Blk ((((w2.setCell ⟨N, 4, none⟩ (.string t1)).setCell ⟨Z, 0, none⟩ (.int .i64 3)).setCell ⟨Z, 1, none⟩ (.int .i64 0)).setCell ⟨Z, 2, none⟩ (.string ⟨#[]⟩)) Z #[.int .i64 3, .int .i64 0, .string ⟨#[]⟩, .slice none 0 0, .string ⟨#[]⟩, .slice none 0 0] 31 := Blk.set (vs := #[.int .i64 3, .int .i64 0, .string ⟨#[]⟩, .slice none 0 0, .string ⟨#[]⟩, .slice none 0 0]) bk2 2 (by simp) _
    have r2 : ((((w2.setCell ⟨N, 4, none⟩ (.string t1)).setCell ⟨Z, 0, none⟩ (.int .i64 3)).setCell ⟨Z, 1, none⟩ (.int .i64 0)).setCell ⟨Z, 2, none⟩ (.string ⟨#[]⟩)).cell? ⟨Z, 2, none⟩ = some (.string ⟨#[]⟩) := bk3.cell 2
    have bk4 : Blk (((((w2.setCell ⟨N, 4, none⟩ (.string t1)).setCell ⟨Z, 0, none⟩ (.int .i64 3)).setCell ⟨Z, 1, none⟩ (.int .i64 0)).setCell ⟨Z, 2, none⟩ (.string ⟨#[]⟩)).setCell ⟨Z, 3, none⟩ (.slice none 0 0)) Z #[.int .i64 3, .int .i64 0, .string ⟨#[]⟩, .slice none 0 0, .string ⟨#[]⟩, .slice none 0 0] 31 := Blk.set (vs := #[.int .i64 3, .int .i64 0, .string ⟨#[]⟩, .slice none 0 0, .string ⟨#[]⟩, .slice none 0 0]) bk3 3 (by simp) _
    have r3 : (((((w2.setCell ⟨N, 4, none⟩ (.string t1)).setCell ⟨Z, 0, none⟩ (.int .i64 3)).setCell ⟨Z, 1, none⟩ (.int .i64 0)).setCell ⟨Z, 2, none⟩ (.string ⟨#[]⟩)).setCell ⟨Z, 3, none⟩ (.slice none 0 0)).cell? ⟨Z, 3, none⟩ = some (.slice none 0 0) := bk4.cell 3
    have bk5 : Blk ((((((w2.setCell ⟨N, 4, none⟩ (.string t1)).setCell ⟨Z, 0, none⟩ (.int .i64 3)).setCell ⟨Z, 1, none⟩ (.int .i64 0)).setCell ⟨Z, 2, none⟩ (.string ⟨#[]⟩)).setCell ⟨Z, 3, none⟩ (.slice none 0 0)).setCell ⟨Z, 4, none⟩ (.string t1)) Z #[.int .i64 3, .int .i64 0, .string ⟨#[]⟩, .slice none 0 0, .string t1, .slice none 0 0] 31 := Blk.set (vs := #[.int .i64 3, .int .i64 0, .string ⟨#[]⟩, .slice none 0 0, .string ⟨#[]⟩, .slice none 0 0]) bk4 4 (by simp) _
    have r4 : ((((((w2.setCell ⟨N, 4, none⟩ (.string t1)).setCell ⟨Z, 0, none⟩ (.int .i64 3)).setCell ⟨Z, 1, none⟩ (.int .i64 0)).setCell ⟨Z, 2, none⟩ (.string ⟨#[]⟩)).setCell ⟨Z, 3, none⟩ (.slice none 0 0)).setCell ⟨Z, 4, none⟩ (.string t1)).cell? ⟨Z, 4, none⟩ = some (.string t1) := bk5.cell 4
    have bk6 : Blk (((((((w2.setCell ⟨N, 4, none⟩ (.string t1)).setCell ⟨Z, 0, none⟩ (.int .i64 3)).setCell ⟨Z, 1, none⟩ (.int .i64 0)).setCell ⟨Z, 2, none⟩ (.string ⟨#[]⟩)).setCell ⟨Z, 3, none⟩ (.slice none 0 0)).setCell ⟨Z, 4, none⟩ (.string t1)).setCell ⟨Z, 5, none⟩ (.slice none 0 0)) Z #[.int .i64 3, .int .i64 0, .string ⟨#[]⟩, .slice none 0 0, .string t1, .slice none 0 0] 31 := Blk.set (vs := #[.int .i64 3, .int .i64 0, .string ⟨#[]⟩, .slice none 0 0, .string t1, .slice none 0 0]) bk5 5 (by simp) _
    have r5 : (((((((w2.setCell ⟨N, 4, none⟩ (.string t1)).setCell ⟨Z, 0, none⟩ (.int .i64 3)).setCell ⟨Z, 1, none⟩ (.int .i64 0)).setCell ⟨Z, 2, none⟩ (.string ⟨#[]⟩)).setCell ⟨Z, 3, none⟩ (.slice none 0 0)).setCell ⟨Z, 4, none⟩ (.string t1)).setCell ⟨Z, 5, none⟩ (.slice none 0 0)).cell? ⟨Z, 5, none⟩ = some (.slice none 0 0) := bk6.cell 5
    have HRS := hide (And.intro r0 (And.intro r1 (And.intro r2 (And.intro r3 (And.intro r4 r5)))))
    have HE : Hid (NdSaid w R (⟨3, 0, ⟨#[]⟩, [], t1, .nil⟩, l2, m, b2) (.returned (.agg #[.int .i64 3, .int .i64 0, .string ⟨#[]⟩, .slice none 0 0, .string t1, .slice none 0 0])) (((((((w2.setCell ⟨N, 4, none⟩ (.string t1)).setCell ⟨Z, 0, none⟩ (.int .i64 3)).setCell ⟨Z, 1, none⟩ (.int .i64 0)).setCell ⟨Z, 2, none⟩ (.string ⟨#[]⟩)).setCell ⟨Z, 3, none⟩ (.slice none 0 0)).setCell ⟨Z, 4, none⟩ (.string t1)).setCell ⟨Z, 5, none⟩ (.slice none 0 0))) := hide ⟨none, 0, none, 0, rfl, Nat.le_refl _, .inl rfl, .inl rfl, Blk.away (Blk.away (Blk.away (Blk.away (Blk.away (Blk.away (Blk.away (unhide HR2) hRN _) hRZ _) hRZ _) hRZ _) hRZ _) hRZ _) hRZ _, KpR.setAt (KpR.setAt (KpR.setAt (KpR.setAt (KpR.setAt (KpR.setAt (KpR.setAt ((unhide HK)) (b := N) (by have h1 := (unhide HSZ); omega) 4 _) (b := Z) (Nat.le_of_eq hZ) 0 _) (b := Z) (Nat.le_of_eq hZ) 1 _) (b := Z) (Nat.le_of_eq hZ) 2 _) (b := Z) (Nat.le_of_eq hZ) 3 _) (b := Z) (Nat.le_of_eq hZ) 4 _) (b := Z) (Nat.le_of_eq hZ) 5 _⟩
    clear bk0 bk1 bk2 bk3 bk4 bk5 bk6 r0 r1 r2 r3 r4 r5 hz2 hn2 HK HR2
    simp only [hN, hZ]
    clear hN hZ
    go_wp2
    obtain ⟨r0, r1, r2, r3, r4, r5⟩ := unhide HRS
    refine bodyPost_ret (v := .agg #[.int .i64 3, .int .i64 0, .string ⟨#[]⟩, .slice none 0 0, .string t1, .slice none 0 0]) (by simp [results, Tryd.results89, go_sem, r0, r1, r2, r3, r4, r5]) rfl ?_
    exact unhide HE

set_option maxHeartbeats 4000000 in
set_option maxRecDepth 100000 in
theorem rnode_badK (R : Nat) (m : Nat) (b1 : Bool) (l1 : List UInt8) (dd : Int) (w : World) (hRl : R < w.heap.size) (k : Int) (hk : k = 0 ∨ (k = 1 ∧ ¬ dd ≤ 40))
    (CN : Hid (Calls Tryd.prog 87 #[.pointer (some ⟨R, 0, none⟩), .int .i64 3] (w.alloc (Obj.cells #[.int .i64 0, .int .i64 0, .string ⟨#[]⟩, .slice none 0 0, .string ⟨#[]⟩, .slice none 0 0] 31)) fun e w' => e = .returned (.int .i64 k) ∧ Rdr R (bs l1) m b1 w' ∧ KpR R (w.alloc (Obj.cells #[.int .i64 0, .int .i64 0, .string ⟨#[]⟩, .slice none 0 0, .string ⟨#[]⟩, .slice none 0 0] 31)) w'))
    (CX : Hid (∀ W, Rdr R (bs l1) m b1 W → Calls Tryd.prog 88 #[.pointer (some ⟨R, 0, none⟩)] W fun e w' => e = .returned (.tuple #[]) ∧ Rdr R (bs []) m true w' ∧ KpR R W w')) :
    Calls Tryd.prog 89 #[.pointer (some ⟨R, 0, none⟩), .int .i64 dd] w (NdSaid w R (⟨k, 0, ⟨#[]⟩, [], ⟨#[]⟩, .nil⟩, [], m, true)) := by
  have HZ0 : Hid (Blk (w.alloc (Obj.cells #[.int .i64 0, .int .i64 0, .string ⟨#[]⟩, .slice none 0 0, .string ⟨#[]⟩, .slice none 0 0] 31)) w.heap.size #[.int .i64 0, .int .i64 0, .string ⟨#[]⟩, .slice none 0 0, .string ⟨#[]⟩, .slice none 0 0] 31 ∧ KpR R w (w.alloc (Obj.cells #[.int .i64 0, .int .i64 0, .string ⟨#[]⟩, .slice none 0 0, .string ⟨#[]⟩, .slice none 0 0] 31)) ∧ (w.alloc (Obj.cells #[.int .i64 0, .int .i64 0, .string ⟨#[]⟩, .slice none 0 0, .string ⟨#[]⟩, .slice none 0 0] 31)).heap.size = w.heap.size + 1) := hide ⟨Blk.new w _ _, (KpR.refl R w).alloc _, by simp⟩
  rcases hk with rfl | ⟨rfl, hdd⟩
  · skip
    go_enter Tryd.func89, Tryd.ntmps89
    go_wp2_with fail
    refine (unhide CN).mono ?_
    rintro e w1 ⟨rfl, h1, hk1⟩
    have hz1 : Blk w1 w.heap.size #[.int .i64 0, .int .i64 0, .string ⟨#[]⟩, .slice none 0 0, .string ⟨#[]⟩, .slice none 0 0] 31 := hk1.blk (unhide HZ0).1 (by omega)
    have hw1 : w.heap.size < w1.heap.size := by have h2 := hk1.size; have h3 := (unhide HZ0).2.2; omega
    have hK1 : KpR R w w1 := (unhide HZ0).2.1.trans hk1
    have hR1 : R < w1.heap.size := by omega
    have hbn := Blk.new w1 #[.int .i64 0, .int .i64 0, .string ⟨#[]⟩, .slice none 0 0, .string ⟨#[]⟩, .slice none 0 0] 31
    have hz2 := Blk.alloc hz1 (Obj.cells #[.int .i64 0, .int .i64 0, .string ⟨#[]⟩, .slice none 0 0, .string ⟨#[]⟩, .slice none 0 0] 31)
    have h2 : Rdr R (bs l1) m b1 (w1.alloc (Obj.cells #[.int .i64 0, .int .i64 0, .string ⟨#[]⟩, .slice none 0 0, .string ⟨#[]⟩, .slice none 0 0] 31)) := Blk.alloc h1 (Obj.cells #[.int .i64 0, .int .i64 0, .string ⟨#[]⟩, .slice none 0 0, .string ⟨#[]⟩, .slice none 0 0] 31)
    have hK2 := hK1.alloc (Obj.cells #[.int .i64 0, .int .i64 0, .string ⟨#[]⟩, .slice none 0 0, .string ⟨#[]⟩, .slice none 0 0] 31)
    have CT1 := hide (unhide CX _ h2)
    have HY := hide (And.intro hz2 (And.intro hbn hK2))
    clear CN CX h1 hk1 hz1 hbn hz2 h2 hK1 hK2 HZ0
    go_wp2_with fail
    refine (unhide CT1).mono ?_
    rintro e w2 ⟨rfl, h2, hk2⟩
    have hz2 := hk2.blk (unhide HY).1 (by omega)
    have hn2 := hk2.blk (unhide HY).2.1 (by omega)
    have HK := hide ((unhide HY).2.2.trans hk2)
    have HR2 := hide h2
    have HSZ : Hid (w.heap.size < w1.heap.size) := hide hw1
    clear CT1 h2 hk2 HY
    have n0 : w2.cell? ⟨w1.heap.size, 0, none⟩ = some (.int .i64 0) := hn2.cell 0
    have n1 : w2.cell? ⟨w1.heap.size, 1, none⟩ = some (.int .i64 0) := hn2.cell 1
    have n2 : w2.cell? ⟨w1.heap.size, 2, none⟩ = some (.string ⟨#[]⟩) := hn2.cell 2
    have n3 : w2.cell? ⟨w1.heap.size, 3, none⟩ = some (.slice none 0 0) := hn2.cell 3
    have n4 : w2.cell? ⟨w1.heap.size, 4, none⟩ = some (.string ⟨#[]⟩) := hn2.cell 4
    have n5 : w2.cell? ⟨w1.heap.size, 5, none⟩ = some (.slice none 0 0) := hn2.cell 5
    have z0 : w2.cell? ⟨w.heap.size, 0, none⟩ = some (.int .i64 0) := hz2.cell 0
    have zf0 : w2.frozen? ⟨w.heap.size, 0, none⟩ = false := hz2.frozen 0
    have z1 : w2.cell? ⟨w.heap.size, 1, none⟩ = some (.int .i64 0) := hz2.cell 1
    have zf1 : w2.frozen? ⟨w.heap.size, 1, none⟩ = false := hz2.frozen 1
    have z2 : w2.cell? ⟨w.heap.size, 2, none⟩ = some (.string ⟨#[]⟩) := hz2.cell 2
    have zf2 : w2.frozen? ⟨w.heap.size, 2, none⟩ = false := hz2.frozen 2
    have z3 : w2.cell? ⟨w.heap.size, 3, none⟩ = some (.slice none 0 0) := hz2.cell 3
    have zf3 : w2.frozen? ⟨w.heap.size, 3, none⟩ = false := hz2.frozen 3
    have z4 : w2.cell? ⟨w.heap.size, 4, none⟩ = some (.string ⟨#[]⟩) := hz2.cell 4
    have zf4 : w2.frozen? ⟨w.heap.size, 4, none⟩ = false := hz2.frozen 4
    have z5 : w2.cell? ⟨w.heap.size, 5, none⟩ = some (.slice none 0 0) := hz2.cell 5
    have zf5 : w2.frozen? ⟨w.heap.size, 5, none⟩ = false := hz2.frozen 5
    have hRZ : R ≠ w.heap.size := by omega
    have hRN : R ≠ w1.heap.size := by omega
    have hNZ : w1.heap.size ≠ w.heap.size := by omega
    have hZN : w.heap.size ≠ w1.heap.size := by omega
    obtain ⟨N, hN⟩ : ∃ N, w1.heap.size = N := ⟨_, rfl⟩
    obtain ⟨Z, hZ⟩ : ∃ Z, w.heap.size = Z := ⟨_, rfl⟩
    rw [hN] at n0 n1 n2 n3 n4 n5 hRN hNZ hZN hn2
    rw [hZ] at z0 zf0 z1 zf1 z2 zf2 z3 zf3 z4 zf4 z5 zf5 hRZ hNZ hZN hz2
    have bk0 : Blk w2 Z #[.int .i64 0, .int .i64 0, .string ⟨#[]⟩, .slice none 0 0, .string ⟨#[]⟩, .slice none 0 0] 31 := hz2
    have bk1 : Blk (w2.setCell ⟨Z, 0, none⟩ (.int .i64 0)) Z #[.int .i64 0, .int .i64 0, .string ⟨#[]⟩, .slice none 0 0, .string ⟨#[]⟩, .slice none 0 0] 31 := Blk.set (vs := #[.int .i64 0, .int .i64 0, .string ⟨#[]⟩, .slice none 0 0, .string ⟨#[]⟩, .slice none 0 0]) bk0 0 (by simp) _
    have r0 : (w2.setCell ⟨Z, 0, none⟩ (.int .i64 0)).cell? ⟨Z, 0, none⟩ = some (.int .i64 0) := bk1.cell 0
    have bk2 : Blk ((w2.setCell ⟨Z, 0, none⟩ (.int .i64 0)).setCell ⟨Z, 1, none⟩ (.int .i64 0)) Z #[.int .i64 0, .int .i64 0, .string ⟨#[]⟩, .slice none 0 0, .string ⟨#[]⟩, .slice none 0 0] 31 := Blk.set (vs := #[.int .i64 0, .int .i64 0, .string ⟨#[]⟩, .slice none 0 0, .string ⟨#[]⟩, .slice none 0 0]) bk1 1 (by simp) _
    have r1 : ((w2.setCell ⟨Z, 0, none⟩ (.int .i64 0)).setCell ⟨Z, 1, none⟩ (.int .i64 0)).cell? ⟨Z, 1, none⟩ = some (.int .i64 0) := bk2.cell 1
    have bk3 : Blk (((w2.setCell ⟨Z, 0, none⟩ (.int .i64 0)).setCell ⟨Z, 1, none⟩ (.int .i64 0)).setCell ⟨Z, 2, none⟩ (.string ⟨#[]⟩)) Z #[.int .i64 0, .int .i64 0, .string ⟨#[]⟩, .slice none 0 0, .string ⟨#[]⟩, .slice none 0 0] 31 := Blk.set (vs := #[.int .i64 0, .int .i64 0, .string ⟨#[]⟩, .slice none 0 0, .string ⟨#[]⟩, .slice none 0 0]) bk2 2 (by simp) _
    have r2 : (((w2.setCell ⟨Z, 0, none⟩ (.int .i64 0)).setCell ⟨Z, 1, none⟩ (.int .i64 0)).setCell ⟨Z, 2, none⟩ (.string ⟨#[]⟩)).cell? ⟨Z, 2, none⟩ = some (.string ⟨#[]⟩) := bk3.cell 2
    have bk4 : Blk ((((w2.setCell ⟨Z, 0, none⟩ (.int .i64 0)).setCell ⟨Z, 1, none⟩ (.int .i64 0)).setCell ⟨Z, 2, none⟩ (.string ⟨#[]⟩)).setCell ⟨Z, 3, none⟩ (.slice none 0 0)) Z #[.int .i64 0, .int .i64 0, .string ⟨#[]⟩, .slice none 0 0, .string ⟨#[]⟩, .slice none 0 0] 31 := Blk.set (vs := #[.int .i64 0, .int .i64 0, .string ⟨#[]⟩, .slice none 0 0, .string ⟨#[]⟩, .slice none 0 0]) bk3 3 (by simp) _
    have r3 : ((((w2.setCell ⟨Z, 0, none⟩ (.int .i64 0)).setCell ⟨Z, 1, none⟩ (.int .i64 0)).setCell ⟨Z, 2, none⟩ (.string ⟨#[]⟩)).setCell ⟨Z, 3, none⟩ (.slice none 0 0)).cell? ⟨Z, 3, none⟩ = some (.slice none 0 0) := bk4.cell 3
    have bk5 : Blk (((((w2.setCell ⟨Z, 0, none⟩ (.int .i64 0)).setCell ⟨Z, 1, none⟩ (.int .i64 0)).setCell ⟨Z, 2, none⟩ (.string ⟨#[]⟩)).setCell ⟨Z, 3, none⟩ (.slice none 0 0)).setCell ⟨Z, 4, none⟩ (.string ⟨#[]⟩)) Z #[.int .i64 0, .int .i64 0, .string ⟨#[]⟩, .slice none 0 0, .string ⟨#[]⟩, .slice none 0 0] 31 := Blk.set (vs := #[.int .i64 0, .int .i64 0, .string ⟨#[]⟩, .slice none 0 0, .string ⟨#[]⟩, .slice none 0 0]) bk4 4 (by simp) _
    have r4 : (((((w2.setCell ⟨Z, 0, none⟩ (.int .i64 0)).setCell ⟨Z, 1, none⟩ (.int .i64 0)).setCell ⟨Z, 2, none⟩ (.string ⟨#[]⟩)).setCell ⟨Z, 3, none⟩ (.slice none 0 0)).setCell ⟨Z, 4, none⟩ (.string ⟨#[]⟩)).cell? ⟨Z, 4, none⟩ = some (.string ⟨#[]⟩) := bk5.cell 4
    have bk6 : Blk ((((((w2.setCell ⟨Z, 0, none⟩ (.int .i64 0)).setCell ⟨Z, 1, none⟩ (.int .i64 0)).setCell ⟨Z, 2, none⟩ (.string ⟨#[]⟩)).setCell ⟨Z, 3, none⟩ (.slice none 0 0)).setCell ⟨Z, 4, none⟩ (.string ⟨#[]⟩)).setCell ⟨Z, 5, none⟩ (.slice none 0 0)) Z #[.int .i64 0, .int .i64 0, .string ⟨#[]⟩, .slice none 0 0, .string ⟨#[]⟩, .slice none 0 0] 31 := Blk.set (vs := #[.int .i64 0, .int .i64 0, .string ⟨#[]⟩, .slice none 0 0, .string ⟨#[]⟩, .slice none 0 0]) bk5 5 (by simp) _
    have r5 : ((((((w2.setCell ⟨Z, 0, none⟩ (.int .i64 0)).setCell ⟨Z, 1, none⟩ (.int .i64 0)).setCell ⟨Z, 2, none⟩ (.string ⟨#[]⟩)).setCell ⟨Z, 3, none⟩ (.slice none 0 0)).setCell ⟨Z, 4, none⟩ (.string ⟨#[]⟩)).setCell ⟨Z, 5, none⟩ (.slice none 0 0)).cell? ⟨Z, 5, none⟩ = some (.slice none 0 0) := bk6.cell 5
    have HRS := hide (And.intro r0 (And.intro r1 (And.intro r2 (And.intro r3 (And.intro r4 r5)))))
    have HE : Hid (NdSaid w R (⟨0, 0, ⟨#[]⟩, [], ⟨#[]⟩, .nil⟩, [], m, true) (.returned (.agg #[.int .i64 0, .int .i64 0, .string ⟨#[]⟩, .slice none 0 0, .string ⟨#[]⟩, .slice none 0 0])) ((((((w2.setCell ⟨Z, 0, none⟩ (.int .i64 0)).setCell ⟨Z, 1, none⟩ (.int .i64 0)).setCell ⟨Z, 2, none⟩ (.string ⟨#[]⟩)).setCell ⟨Z, 3, none⟩ (.slice none 0 0)).setCell ⟨Z, 4, none⟩ (.string ⟨#[]⟩)).setCell ⟨Z, 5, none⟩ (.slice none 0 0))) := hide ⟨none, 0, none, 0, rfl, Nat.le_refl _, .inl rfl, .inl rfl, Blk.away (Blk.away (Blk.away (Blk.away (Blk.away (Blk.away ((unhide HR2)) hRZ _) hRZ _) hRZ _) hRZ _) hRZ _) hRZ _, KpR.setAt (KpR.setAt (KpR.setAt (KpR.setAt (KpR.setAt (KpR.setAt ((unhide HK)) (b := Z) (Nat.le_of_eq hZ) 0 _) (b := Z) (Nat.le_of_eq hZ) 1 _) (b := Z) (Nat.le_of_eq hZ) 2 _) (b := Z) (Nat.le_of_eq hZ) 3 _) (b := Z) (Nat.le_of_eq hZ) 4 _) (b := Z) (Nat.le_of_eq hZ) 5 _⟩
    clear bk0 bk1 bk2 bk3 bk4 bk5 bk6 r0 r1 r2 r3 r4 r5 hz2 hn2 HK HR2
    simp only [hN, hZ]
    clear hN hZ
    go_wp2
    obtain ⟨r0, r1, r2, r3, r4, r5⟩ := unhide HRS
    refine bodyPost_ret (v := .agg #[.int .i64 0, .int .i64 0, .string ⟨#[]⟩, .slice none 0 0, .string ⟨#[]⟩, .slice none 0 0]) (by simp [results, Tryd.results89, go_sem, r0, r1, r2, r3, r4, r5]) rfl ?_
    exact unhide HE
  · have hdg : decide (dd ≤ 40) = false := decide_eq_false hdd
    go_enter Tryd.func89, Tryd.ntmps89
    go_wp2_with fail
    refine (unhide CN).mono ?_
    rintro e w1 ⟨rfl, h1, hk1⟩
    have hz1 : Blk w1 w.heap.size #[.int .i64 0, .int .i64 0, .string ⟨#[]⟩, .slice none 0 0, .string ⟨#[]⟩, .slice none 0 0] 31 := hk1.blk (unhide HZ0).1 (by omega)
    have hw1 : w.heap.size < w1.heap.size := by have h2 := hk1.size; have h3 := (unhide HZ0).2.2; omega
    have hK1 : KpR R w w1 := (unhide HZ0).2.1.trans hk1
    have hR1 : R < w1.heap.size := by omega
    have hbn := Blk.new w1 #[.int .i64 1, .int .i64 0, .string ⟨#[]⟩, .slice none 0 0, .string ⟨#[]⟩, .slice none 0 0] 31
    have hz2 := Blk.alloc hz1 (Obj.cells #[.int .i64 1, .int .i64 0, .string ⟨#[]⟩, .slice none 0 0, .string ⟨#[]⟩, .slice none 0 0] 31)
    have h2 : Rdr R (bs l1) m b1 (w1.alloc (Obj.cells #[.int .i64 1, .int .i64 0, .string ⟨#[]⟩, .slice none 0 0, .string ⟨#[]⟩, .slice none 0 0] 31)) := Blk.alloc h1 (Obj.cells #[.int .i64 1, .int .i64 0, .string ⟨#[]⟩, .slice none 0 0, .string ⟨#[]⟩, .slice none 0 0] 31)
    have hK2 := hK1.alloc (Obj.cells #[.int .i64 1, .int .i64 0, .string ⟨#[]⟩, .slice none 0 0, .string ⟨#[]⟩, .slice none 0 0] 31)
    have CT1 := hide (unhide CX _ h2)
    have HY := hide (And.intro hz2 (And.intro hbn hK2))
    clear CN CX h1 hk1 hz1 hbn hz2 h2 hK1 hK2 HZ0
    go_wp2_with fail
    refine (unhide CT1).mono ?_
    rintro e w2 ⟨rfl, h2, hk2⟩
    have hz2 := hk2.blk (unhide HY).1 (by omega)
    have hn2 := hk2.blk (unhide HY).2.1 (by omega)
    have HK := hide ((unhide HY).2.2.trans hk2)
    have HR2 := hide h2
    have HSZ : Hid (w.heap.size < w1.heap.size) := hide hw1
    clear CT1 h2 hk2 HY
    have n0 : w2.cell? ⟨w1.heap.size, 0, none⟩ = some (.int .i64 1) := hn2.cell 0
    have n1 : w2.cell? ⟨w1.heap.size, 1, none⟩ = some (.int .i64 0) := hn2.cell 1
    have n2 : w2.cell? ⟨w1.heap.size, 2, none⟩ = some (.string ⟨#[]⟩) := hn2.cell 2
    have n3 : w2.cell? ⟨w1.heap.size, 3, none⟩ = some (.slice none 0 0) := hn2.cell 3
    have n4 : w2.cell? ⟨w1.heap.size, 4, none⟩ = some (.string ⟨#[]⟩) := hn2.cell 4
    have n5 : w2.cell? ⟨w1.heap.size, 5, none⟩ = some (.slice none 0 0) := hn2.cell 5
    have z0 : w2.cell? ⟨w.heap.size, 0, none⟩ = some (.int .i64 0) := hz2.cell 0
    have zf0 : w2.frozen? ⟨w.heap.size, 0, none⟩ = false := hz2.frozen 0
    have z1 : w2.cell? ⟨w.heap.size, 1, none⟩ = some (.int .i64 0) := hz2.cell 1
    have zf1 : w2.frozen? ⟨w.heap.size, 1, none⟩ = false := hz2.frozen 1
    have z2 : w2.cell? ⟨w.heap.size, 2, none⟩ = some (.string ⟨#[]⟩) := hz2.cell 2
    have zf2 : w2.frozen? ⟨w.heap.size, 2, none⟩ = false := hz2.frozen 2
    have z3 : w2.cell? ⟨w.heap.size, 3, none⟩ = some (.slice none 0 0) := hz2.cell 3
    have zf3 : w2.frozen? ⟨w.heap.size, 3, none⟩ = false := hz2.frozen 3
    have z4 : w2.cell? ⟨w.heap.size, 4, none⟩ = some (.string ⟨#[]⟩) := hz2.cell 4
    have zf4 : w2.frozen? ⟨w.heap.size, 4, none⟩ = false := hz2.frozen 4
    have z5 : w2.cell? ⟨w.heap.size, 5, none⟩ = some (.slice none 0 0) := hz2.cell 5
    have zf5 : w2.frozen? ⟨w.heap.size, 5, none⟩ = false := hz2.frozen 5
    have hRZ : R ≠ w.heap.size := by omega
    have hRN : R ≠ w1.heap.size := by omega
    have hNZ : w1.heap.size ≠ w.heap.size := by omega
    have hZN : w.heap.size ≠ w1.heap.size := by omega
    obtain ⟨N, hN⟩ : ∃ N, w1.heap.size = N := ⟨_, rfl⟩
    obtain ⟨Z, hZ⟩ : ∃ Z, w.heap.size = Z := ⟨_, rfl⟩
    rw [hN] at n0 n1 n2 n3 n4 n5 hRN hNZ hZN hn2
    rw [hZ] at z0 zf0 z1 zf1 z2 zf2 z3 zf3 z4 zf4 z5 zf5 hRZ hNZ hZN hz2
    have bk0 : Blk w2 Z #[.int .i64 0, .int .i64 0, .string ⟨#[]⟩, .slice none 0 0, .string ⟨#[]⟩, .slice none 0 0] 31 := hz2
    have bk1 : Blk (w2.setCell ⟨Z, 0, none⟩ (.int .i64 1)) Z #[.int .i64 1, .int .i64 0, .string ⟨#[]⟩, .slice none 0 0, .string ⟨#[]⟩, .slice none 0 0] 31 := Blk.set (vs := #[.int .i64 0, .int .i64 0, .string ⟨#[]⟩, .slice none 0 0, .string ⟨#[]⟩, .slice none 0 0]) bk0 0 (by simp) _
    have r0 : (w2.setCell ⟨Z, 0, none⟩ (.int .i64 1)).cell? ⟨Z, 0, none⟩ = some (.int .i64 1) := bk1.cell 0
    have bk2 : Blk ((w2.setCell ⟨Z, 0, none⟩ (.int .i64 1)).setCell ⟨Z, 1, none⟩ (.int .i64 0)) Z #[.int .i64 1, .int .i64 0, .string ⟨#[]⟩, .slice none 0 0, .string ⟨#[]⟩, .slice none 0 0] 31 := Blk.set (vs := #[.int .i64 1, .int .i64 0, .string ⟨#[]⟩, .slice none 0 0, .string ⟨#[]⟩, .slice none 0 0]) bk1 1 (by simp) _
    have r1 : ((w2.setCell ⟨Z, 0, none⟩ (.int .i64 1)).setCell ⟨Z, 1, none⟩ (.int .i64 0)).cell? ⟨Z, 1, none⟩ = some (.int .i64 0) := bk2.cell 1
    have bk3 : Blk (((w2.setCell ⟨Z, 0, none⟩ (.int .i64 1)).setCell ⟨Z, 1, none⟩ (.int .i64 0)).setCell ⟨Z, 2, none⟩ (.string ⟨#[]⟩)) Z #[.int .i64 1, .int .i64 0, .string ⟨#[]⟩, .slice none 0 0, .string ⟨#[]⟩, .slice none 0 0] 31 := Blk.set (vs := #[.int .i64 1, .int .i64 0, .string ⟨#[]⟩, .slice none 0 0, .string ⟨#[]⟩, .slice none 0 0]) bk2 2 (by simp) _
    have r2 : (((w2.setCell ⟨Z, 0, none⟩ (.int .i64 1)).setCell ⟨Z, 1, none⟩ (.int .i64 0)).setCell ⟨Z, 2, none⟩ (.string ⟨#[]⟩)).cell? ⟨Z, 2, none⟩ = some (.string ⟨#[]⟩) := bk3.cell 2
    have bk4 : Blk ((((w2.setCell ⟨Z, 0, none⟩ (.int .i64 1)).setCell ⟨Z, 1, none⟩ (.int .i64 0)).setCell ⟨Z, 2, none⟩ (.string ⟨#[]⟩)).setCell ⟨Z, 3, none⟩ (.slice none 0 0)) Z #[.int .i64 1, .int .i64 0, .string ⟨#[]⟩, .slice none 0 0, .string ⟨#[]⟩, .slice none 0 0] 31 := Blk.set (vs := #[.int .i64 1, .int .i64 0, .string ⟨#[]⟩, .slice none 0 0, .string ⟨#[]⟩, .slice none 0 0]) bk3 3 (by simp) _
    have r3 : ((((w2.setCell ⟨Z, 0, none⟩ (.int .i64 1)).setCell ⟨Z, 1, none⟩ (.int .i64 0)).setCell ⟨Z, 2, none⟩ (.string ⟨#[]⟩)).setCell ⟨Z, 3, none⟩ (.slice none 0 0)).cell? ⟨Z, 3, none⟩ = some (.slice none 0 0) := bk4.cell 3
    have bk5 : Blk (((((w2.setCell ⟨Z, 0, none⟩ (.int .i64 1)).setCell ⟨Z, 1, none⟩ (.int .i64 0)).setCell ⟨Z, 2, none⟩ (.string ⟨#[]⟩)).setCell ⟨Z, 3, none⟩ (.slice none 0 0)).setCell ⟨Z, 4, none⟩ (.string ⟨#[]⟩)) Z #[.int .i64 1, .int .i64 0, .string ⟨#[]⟩, .slice none 0 0, .string ⟨#[]⟩, .slice none 0 0] 31 := Blk.set (vs := #[.int .i64 1, .int .i64 0, .string ⟨#[]⟩, .slice none 0 0, .string ⟨#[]⟩, .slice none 0 0]) bk4 4 (by simp) _
    have r4 : (((((w2.setCell ⟨Z, 0, none⟩ (.int .i64 1)).setCell ⟨Z, 1, none⟩ (.int .i64 0)).setCell ⟨Z, 2, none⟩ (.string ⟨#[]⟩)).setCell ⟨Z, 3, none⟩ (.slice none 0 0)).setCell ⟨Z, 4, none⟩ (.string ⟨#[]⟩)).cell? ⟨Z, 4, none⟩ = some (.string ⟨#[]⟩) := bk5.cell 4
    have bk6 : Blk ((((((w2.setCell ⟨Z, 0, none⟩ (.int .i64 1)).setCell ⟨Z, 1, none⟩ (.int .i64 0)).setCell ⟨Z, 2, none⟩ (.string ⟨#[]⟩)).setCell ⟨Z, 3, none⟩ (.slice none 0 0)).setCell ⟨Z, 4, none⟩ (.string ⟨#[]⟩)).setCell ⟨Z, 5, none⟩ (.slice none 0 0)) Z #[.int .i64 1, .int .i64 0, .string ⟨#[]⟩, .slice none 0 0, .string ⟨#[]⟩, .slice none 0 0] 31 := Blk.set (vs := #[.int .i64 1, .int .i64 0, .string ⟨#[]⟩, .slice none 0 0, .string ⟨#[]⟩, .slice none 0 0]) bk5 5 (by simp) _
    have r5 : ((((((w2.setCell ⟨Z, 0, none⟩ (.int .i64 1)).setCell ⟨Z, 1, none⟩ (.int .i64 0)).setCell ⟨Z, 2, none⟩ (.string ⟨#[]⟩)).setCell ⟨Z, 3, none⟩ (.slice none 0 0)).setCell ⟨Z, 4, none⟩ (.string ⟨#[]⟩)).setCell ⟨Z, 5, none⟩ (.slice none 0 0)).cell? ⟨Z, 5, none⟩ = some (.slice none 0 0) := bk6.cell 5
    have HRS := hide (And.intro r0 (And.intro r1 (And.intro r2 (And.intro r3 (And.intro r4 r5)))))
    have HE : Hid (NdSaid w R (⟨1, 0, ⟨#[]⟩, [], ⟨#[]⟩, .nil⟩, [], m, true) (.returned (.agg #[.int .i64 1, .int .i64 0, .string ⟨#[]⟩, .slice none 0 0, .string ⟨#[]⟩, .slice none 0 0])) ((((((w2.setCell ⟨Z, 0, none⟩ (.int .i64 1)).setCell ⟨Z, 1, none⟩ (.int .i64 0)).setCell ⟨Z, 2, none⟩ (.string ⟨#[]⟩)).setCell ⟨Z, 3, none⟩ (.slice none 0 0)).setCell ⟨Z, 4, none⟩ (.string ⟨#[]⟩)).setCell ⟨Z, 5, none⟩ (.slice none 0 0))) := hide ⟨none, 0, none, 0, rfl, Nat.le_refl _, .inl rfl, .inl rfl, Blk.away (Blk.away (Blk.away (Blk.away (Blk.away (Blk.away ((unhide HR2)) hRZ _) hRZ _) hRZ _) hRZ _) hRZ _) hRZ _, KpR.setAt (KpR.setAt (KpR.setAt (KpR.setAt (KpR.setAt (KpR.setAt ((unhide HK)) (b := Z) (Nat.le_of_eq hZ) 0 _) (b := Z) (Nat.le_of_eq hZ) 1 _) (b := Z) (Nat.le_of_eq hZ) 2 _) (b := Z) (Nat.le_of_eq hZ) 3 _) (b := Z) (Nat.le_of_eq hZ) 4 _) (b := Z) (Nat.le_of_eq hZ) 5 _⟩
    clear bk0 bk1 bk2 bk3 bk4 bk5 bk6 r0 r1 r2 r3 r4 r5 hz2 hn2 HK HR2
    simp only [hN, hZ]
    clear hN hZ
    go_wp2
    obtain ⟨r0, r1, r2, r3, r4, r5⟩ := unhide HRS
    refine bodyPost_ret (v := .agg #[.int .i64 1, .int .i64 0, .string ⟨#[]⟩, .slice none 0 0, .string ⟨#[]⟩, .slice none 0 0]) (by simp [results, Tryd.results89, go_sem, r0, r1, r2, r3, r4, r5]) rfl ?_
    exact unhide HE

set_option maxHeartbeats 8000000 in
set_option maxRecDepth 100000 in
theorem rnode_elemK (R : Nat) (m m5 : Nat) (b1 b2 b3 b4 b5 : Bool) (l1 l2 l3 l4 l5 : List UInt8) (sp : Int) (t1 : ByteArray) (a1 : List (ByteArray × ByteArray)) (kf1 : Forest) (dd : Int) (w : World) (hRl : R < w.heap.size) (hdd : dd ≤ 40) (hd0 : 0 ≤ dd)
    (CN : Hid (Calls Tryd.prog 87 #[.pointer (some ⟨R, 0, none⟩), .int .i64 3] (w.alloc (Obj.cells #[.int .i64 0, .int .i64 0, .string ⟨#[]⟩, .slice none 0 0, .string ⟨#[]⟩, .slice none 0 0] 31)) fun e w' => e = .returned (.int .i64 1) ∧ Rdr R (bs l1) m b1 w' ∧ KpR R (w.alloc (Obj.cells #[.int .i64 0, .int .i64 0, .string ⟨#[]⟩, .slice none 0 0, .string ⟨#[]⟩, .slice none 0 0] 31)) w'))
    (CP : Hid (∀ W, Rdr R (bs l1) m b1 W → Calls Tryd.prog 87 #[.pointer (some ⟨R, 0, none⟩), .int .i64 2] W fun e w' => e = .returned (.int .i64 sp) ∧ Rdr R (bs l2) m b2 w' ∧ KpR R W w'))
    (CT : Hid (∀ W, Rdr R (bs l2) m b2 W → Calls Tryd.prog 109 #[.pointer (some ⟨R, 0, none⟩)] W fun e w' => e = .returned (.string t1) ∧ Rdr R (bs l3) m b3 w' ∧ KpR R W w'))
    (CA : Hid (∀ W, Rdr R (bs l3) m b3 W → Calls Tryd.prog 110 #[.pointer (some ⟨R, 0, none⟩)] W fun e w' => ∃ q cap, e = .returned (.slice q a1.length cap) ∧ Sl q a1 (mask (hiP W.heap.size) w') ∧ Rdr R (bs l4) m b4 w' ∧ KpR R W w'))
    (CK : Hid (∀ W, Rdr R (bs l4) m b4 W → Calls Tryd.prog 59 #[.pointer (some ⟨R, 0, none⟩), .int .i64 (dd + 1)] W (LsSaid W R (kf1, l5, m5, b5)))) :
    Calls Tryd.prog 89 #[.pointer (some ⟨R, 0, none⟩), .int .i64 dd] w (NdSaid w R (⟨1, sp, t1, a1, ⟨#[]⟩, kf1⟩, l5, m5, b5)) := by
  have HZ0 : Hid (Blk (w.alloc (Obj.cells #[.int .i64 0, .int .i64 0, .string ⟨#[]⟩, .slice none 0 0, .string ⟨#[]⟩, .slice none 0 0] 31)) w.heap.size #[.int .i64 0, .int .i64 0, .string ⟨#[]⟩, .slice none 0 0, .string ⟨#[]⟩, .slice none 0 0] 31 ∧ KpR R w (w.alloc (Obj.cells #[.int .i64 0, .int .i64 0, .string ⟨#[]⟩, .slice none 0 0, .string ⟨#[]⟩, .slice none 0 0] 31)) ∧ (w.alloc (Obj.cells #[.int .i64 0, .int .i64 0, .string ⟨#[]⟩, .slice none 0 0, .string ⟨#[]⟩, .slice none 0 0] 31)).heap.size = w.heap.size + 1) := hide ⟨Blk.new w _ _, (KpR.refl R w).alloc _, by simp⟩
  have hdg : decide (dd ≤ 40) = true := decide_eq_true hdd
  go_enter Tryd.func89, Tryd.ntmps89
  go_wp2_with fail
  refine (unhide CN).mono ?_
  rintro e w1 ⟨rfl, h1, hk1⟩
  have hz1 : Blk w1 w.heap.size #[.int .i64 0, .int .i64 0, .string ⟨#[]⟩, .slice none 0 0, .string ⟨#[]⟩, .slice none 0 0] 31 := hk1.blk (unhide HZ0).1 (by omega)
  have hw1 : w.heap.size < w1.heap.size := by have h2 := hk1.size; have h3 := (unhide HZ0).2.2; omega
  have hK1 : KpR R w w1 := (unhide HZ0).2.1.trans hk1
  have hR1 : R < w1.heap.size := by omega
  have hbn := Blk.new w1 #[.int .i64 1, .int .i64 0, .string ⟨#[]⟩, .slice none 0 0, .string ⟨#[]⟩, .slice none 0 0] 31
  have hz2 := Blk.alloc hz1 (Obj.cells #[.int .i64 1, .int .i64 0, .string ⟨#[]⟩, .slice none 0 0, .string ⟨#[]⟩, .slice none 0 0] 31)
  have h2 : Rdr R (bs l1) m b1 (w1.alloc (Obj.cells #[.int .i64 1, .int .i64 0, .string ⟨#[]⟩, .slice none 0 0, .string ⟨#[]⟩, .slice none 0 0] 31)) := Blk.alloc h1 (Obj.cells #[.int .i64 1, .int .i64 0, .string ⟨#[]⟩, .slice none 0 0, .string ⟨#[]⟩, .slice none 0 0] 31)
  have hK2 := hK1.alloc (Obj.cells #[.int .i64 1, .int .i64 0, .string ⟨#[]⟩, .slice none 0 0, .string ⟨#[]⟩, .slice none 0 0] 31)
  have CP1 := hide (unhide CP _ h2)
  have HY := hide (And.intro hz2 (And.intro hbn hK2))
  clear CN CP h1 hk1 hz1 hbn hz2 h2 hK1 hK2 HZ0
  go_wp2_with fail
  refine (unhide CP1).mono ?_
  rintro e w2 ⟨rfl, h2, hk2⟩
  obtain ⟨N, hN⟩ : ∃ N, w1.heap.size = N := ⟨_, rfl⟩
  have hNl : R < N ∧ w.heap.size < N := by omega
  rw [hN] at HY
  simp only [hN]
  have HSZ : Hid (R < N ∧ w.heap.size < N) := hide hNl
  have hRN : R ≠ N := by omega
  have hNR : N ≠ R := by omega
  have hZR : w.heap.size ≠ R := by omega
  have hZN : w.heap.size ≠ N := by omega
  clear hN hw1 hR1
  have hz2 := hk2.blk (unhide HY).1 hZR
  have hn2 := hk2.blk (unhide HY).2.1 hNR
  have hK2 := (unhide HY).2.2.trans hk2
  have m1 : w2.cell? ⟨N, 1, none⟩ = some (.int .i64 0) := hn2.cell 1
  have mf1 : w2.frozen? ⟨N, 1, none⟩ = false := hn2.frozen 1
  have hz3 : Blk (w2.setCell ⟨N, 1, none⟩ (.int .i64 sp)) w.heap.size #[.int .i64 0, .int .i64 0, .string ⟨#[]⟩, .slice none 0 0, .string ⟨#[]⟩, .slice none 0 0] 31 := Blk.away hz2 hZN _
  have hn3 : Blk (w2.setCell ⟨N, 1, none⟩ (.int .i64 sp)) N #[.int .i64 1, .int .i64 sp, .string ⟨#[]⟩, .slice none 0 0, .string ⟨#[]⟩, .slice none 0 0] 31 := Blk.set (vs := #[.int .i64 1, .int .i64 0, .string ⟨#[]⟩, .slice none 0 0, .string ⟨#[]⟩, .slice none 0 0]) hn2 1 (by simp) _
  have h3 : Rdr R (bs l2) m b2 (w2.setCell ⟨N, 1, none⟩ (.int .i64 sp)) := Blk.away h2 hRN _
  have hK3 := hK2.setAt (b := N) (by have h1 := unhide HSZ; omega) 1 (.int .i64 sp)
  have CT1 := hide (unhide CT _ h3)
  have HY2 := hide (And.intro hz3 (And.intro hn3 hK3))
  clear CP1 CT h2 hk2 hz2 hn2 hK2 hz3 hn3 h3 hK3 HY
  go_wp2_with fail
  refine (unhide CT1).mono ?_
  rintro e w3 ⟨rfl, h2, hk2⟩
  have hz2 := hk2.blk (unhide HY2).1 hZR
  have hn2 := hk2.blk (unhide HY2).2.1 hNR
  have hK2 := (unhide HY2).2.2.trans hk2
  have q2 : w3.cell? ⟨N, 2, none⟩ = some (.string ⟨#[]⟩) := hn2.cell 2
  have qf2 : w3.frozen? ⟨N, 2, none⟩ = false := hn2.frozen 2
  have hNw : N < w3.heap.size := hn2.lt
  have hz3 : Blk (w3.setCell ⟨N, 2, none⟩ (.string t1)) w.heap.size #[.int .i64 0, .int .i64 0, .string ⟨#[]⟩, .slice none 0 0, .string ⟨#[]⟩, .slice none 0 0] 31 := Blk.away hz2 hZN _
  have hn3 : Blk (w3.setCell ⟨N, 2, none⟩ (.string t1)) N #[.int .i64 1, .int .i64 sp, .string t1, .slice none 0 0, .string ⟨#[]⟩, .slice none 0 0] 31 := Blk.set (vs := #[.int .i64 1, .int .i64 sp, .string ⟨#[]⟩, .slice none 0 0, .string ⟨#[]⟩, .slice none 0 0]) hn2 2 (by simp) _
  have h3 : Rdr R (bs l3) m b3 (w3.setCell ⟨N, 2, none⟩ (.string t1)) := Blk.away h2 hRN _
  have hK3 := hK2.setAt (b := N) (by have h1 := unhide HSZ; omega) 2 (.string t1)
  have hsz3 : (w3.setCell ⟨N, 2, none⟩ (.string t1)).heap.size = w3.heap.size := by simp
  have CA1 := hide (unhide CA _ h3)
  rw [hsz3] at CA1
  have HY3 := hide (And.intro hz3 (And.intro hn3 hK3))
  clear CT1 CA h2 hk2 hz2 hn2 hK2 hz3 hn3 h3 hK3 HY2 m1 mf1 hsz3
  obtain ⟨B3, hB3⟩ : ∃ B, w3.heap.size = B := ⟨_, rfl⟩
  rw [hB3] at CA1 hNw
  have HB3 : Hid (R < N ∧ w.heap.size < N ∧ N < B3) := hide ⟨(unhide HSZ).1, (unhide HSZ).2, hNw⟩
  clear hB3 hNw
  go_wp2_with fail
  refine (unhide CA1).mono ?_
  rintro e w4 ⟨qa, ca, rfl, hsl, h2, hk2⟩
  have hz2 := hk2.blk (unhide HY3).1 hZR
  have hn2 := hk2.blk (unhide HY3).2.1 hNR
  have hK2 := (unhide HY3).2.2.trans hk2
  have q3 : w4.cell? ⟨N, 3, none⟩ = some (.slice none 0 0) := hn2.cell 3
  have qf3 : w4.frozen? ⟨N, 3, none⟩ = false := hn2.frozen 3
  have hNw : N < w4.heap.size := hn2.lt
  have hz3 : Blk (w4.setCell ⟨N, 3, none⟩ (.slice qa a1.length ca)) w.heap.size #[.int .i64 0, .int .i64 0, .string ⟨#[]⟩, .slice none 0 0, .string ⟨#[]⟩, .slice none 0 0] 31 := Blk.away hz2 hZN _
  have hn3 : Blk (w4.setCell ⟨N, 3, none⟩ (.slice qa a1.length ca)) N #[.int .i64 1, .int .i64 sp, .string t1, .slice qa a1.length ca, .string ⟨#[]⟩, .slice none 0 0] 31 := Blk.set (vs := #[.int .i64 1, .int .i64 sp, .string t1, .slice none 0 0, .string ⟨#[]⟩, .slice none 0 0]) hn2 3 (by simp) _
  have h3 : Rdr R (bs l4) m b4 (w4.setCell ⟨N, 3, none⟩ (.slice qa a1.length ca)) := Blk.away h2 hRN _
  have hK3 := hK2.setAt (b := N) (by have h1 := unhide HSZ; omega) 3 (.slice qa a1.length ca)
  have hsl3 : Sl qa a1 (mask (hiP B3) (w4.setCell ⟨N, 3, none⟩ (.slice qa a1.length ca))) := hsl.le (mask_set (hiP_at (by have h1 := unhide HB3; omega)))
  have hsz4 : (w4.setCell ⟨N, 3, none⟩ (.slice qa a1.length ca)).heap.size = w4.heap.size := by simp
  have CK1 := hide (unhide CK _ h3)
  have HY4 := hide (And.intro hz3 (And.intro hn3 (And.intro hK3 hsl3)))
  clear CA1 CK h2 hk2 hz2 hn2 hK2 hz3 hn3 h3 hK3 HY3 q2 qf2 hsl hsl3
  unfold LsSaid at CK1
  rw [hsz4] at CK1
  obtain ⟨B4, hB4⟩ : ∃ B, w4.heap.size = B := ⟨_, rfl⟩
  rw [hB4] at CK1 hNw
  have HB4 : Hid (R < N ∧ w.heap.size < N ∧ N < B4) := hide ⟨(unhide HSZ).1, (unhide HSZ).2, hNw⟩
  clear hB4 hNw hsz4
  obtain ⟨al, hal⟩ : ∃ x, a1.length = x := ⟨_, rfl⟩
  rw [hal] at CK1 HY4
  rw [hal]
  have HAL := hide hal
  clear hal
  go_wp2_with fail
  refine (unhide CK1).mono ?_
  rintro e w5 ⟨qk, ck, rfl, hck, hfo, h2, hk2⟩
  have hz2 := hk2.blk (unhide HY4).1 hZR
  have hn2 := hk2.blk (unhide HY4).2.1 hNR
  have HK := hide ((unhide HY4).2.2.1.trans hk2)
  have HR2 := hide h2
  have HSF : Hid (Sl qa a1 (mask (hiP B3) w5) ∧ Fo qk kf1 (mask (hiP B4) w5) ∧ kf1.len ≤ ck) := hide ⟨(unhide HY4).2.2.2.le (mask_kpr hk2 (hiP_at (by have h1 := unhide HB3; omega))), hfo, hck⟩
  obtain ⟨kl, hkl⟩ : ∃ x, kf1.len = x := ⟨_, rfl⟩
  rw [hkl]
  have HKL := hide hkl
  clear CK1 h2 hk2 HY4 q3 qf3 hfo hck hkl
  have n0 : w5.cell? ⟨N, 0, none⟩ = some (.int .i64 1) := hn2.cell 0
  have n1 : w5.cell? ⟨N, 1, none⟩ = some (.int .i64 sp) := hn2.cell 1
  have n2 : w5.cell? ⟨N, 2, none⟩ = some (.string t1) := hn2.cell 2
  have n3 : w5.cell? ⟨N, 3, none⟩ = some (.slice qa al ca) := hn2.cell 3
  have n4 : w5.cell? ⟨N, 4, none⟩ = some (.string ⟨#[]⟩) := hn2.cell 4
  have n5 : w5.cell? ⟨N, 5, none⟩ = some (.slice none 0 0) := hn2.cell 5
  have z0 : w5.cell? ⟨w.heap.size, 0, none⟩ = some (.int .i64 0) := hz2.cell 0
  have zf0 : w5.frozen? ⟨w.heap.size, 0, none⟩ = false := hz2.frozen 0
  have z1 : w5.cell? ⟨w.heap.size, 1, none⟩ = some (.int .i64 0) := hz2.cell 1
  have zf1 : w5.frozen? ⟨w.heap.size, 1, none⟩ = false := hz2.frozen 1
  have z2 : w5.cell? ⟨w.heap.size, 2, none⟩ = some (.string ⟨#[]⟩) := hz2.cell 2
  have zf2 : w5.frozen? ⟨w.heap.size, 2, none⟩ = false := hz2.frozen 2
  have z3 : w5.cell? ⟨w.heap.size, 3, none⟩ = some (.slice none 0 0) := hz2.cell 3
  have zf3 : w5.frozen? ⟨w.heap.size, 3, none⟩ = false := hz2.frozen 3
  have z4 : w5.cell? ⟨w.heap.size, 4, none⟩ = some (.string ⟨#[]⟩) := hz2.cell 4
  have zf4 : w5.frozen? ⟨w.heap.size, 4, none⟩ = false := hz2.frozen 4
  have z5 : w5.cell? ⟨w.heap.size, 5, none⟩ = some (.slice none 0 0) := hz2.cell 5
  have zf5 : w5.frozen? ⟨w.heap.size, 5, none⟩ = false := hz2.frozen 5
  have nf5 : w5.frozen? ⟨N, 5, none⟩ = false := hn2.frozen 5
  have hRZ : R ≠ w.heap.size := by omega
  have hNZ : N ≠ w.heap.size := by omega
  obtain ⟨Z, hZ⟩ : ∃ Z, w.heap.size = Z := ⟨_, rfl⟩
  rw [hZ] at z0 zf0 z1 zf1 z2 zf2 z3 zf3 z4 zf4 z5 zf5 hRZ hNZ hZN hz2
  have bk0 : Blk (w5.setCell ⟨N, 5, none⟩ (.slice qk kl ck)) Z #[.int .i64 0, .int .i64 0, .string ⟨#[]⟩, .slice none 0 0, .string ⟨#[]⟩, .slice none 0 0] 31 := Blk.away hz2 hZN _
  have bk1 : Blk ((w5.setCell ⟨N, 5, none⟩ (.slice qk kl ck)).setCell ⟨Z, 0, none⟩ (.int .i64 1)) Z #[.int .i64 1, .int .i64 0, .string ⟨#[]⟩, .slice none 0 0, .string ⟨#[]⟩, .slice none 0 0] 31 := Blk.set (vs := #[.int .i64 0, .int .i64 0, .string ⟨#[]⟩, .slice none 0 0, .string ⟨#[]⟩, .slice none 0 0]) bk0 0 (by simp) _
  have r0 : ((w5.setCell ⟨N, 5, none⟩ (.slice qk kl ck)).setCell ⟨Z, 0, none⟩ (.int .i64 1)).cell? ⟨Z, 0, none⟩ = some (.int .i64 1) := bk1.cell 0
  have bk2 : Blk (((w5.setCell ⟨N, 5, none⟩ (.slice qk kl ck)).setCell ⟨Z, 0, none⟩ (.int .i64 1)).setCell ⟨Z, 1, none⟩ (.int .i64 sp)) Z #[.int .i64 1, .int .i64 sp, .string ⟨#[]⟩, .slice none 0 0, .string ⟨#[]⟩, .slice none 0 0] 31 := Blk.set (vs := #[.int .i64 1, .int .i64 0, .string ⟨#[]⟩, .slice none 0 0, .string ⟨#[]⟩, .slice none 0 0]) bk1 1 (by simp) _
  have r1 : (((w5.setCell ⟨N, 5, none⟩ (.slice qk kl ck)).setCell ⟨Z, 0, none⟩ (.int .i64 1)).setCell ⟨Z, 1, none⟩ (.int .i64 sp)).cell? ⟨Z, 1, none⟩ = some (.int .i64 sp) := bk2.cell 1
  have bk3 : Blk ((((w5.setCell ⟨N, 5, none⟩ (.slice qk kl ck)).setCell ⟨Z, 0, none⟩ (.int .i64 1)).setCell ⟨Z, 1, none⟩ (.int .i64 sp)).setCell ⟨Z, 2, none⟩ (.string t1)) Z #[.int .i64 1, .int .i64 sp, .string t1, .slice none 0 0, .string ⟨#[]⟩, .slice none 0 0] 31 := Blk.set (vs := #[.int .i64 1, .int .i64 sp, .string ⟨#[]⟩, .slice none 0 0, .string ⟨#[]⟩, .slice none 0 0]) bk2 2 (by simp) _
  have r2 : ((((w5.setCell ⟨N, 5, none⟩ (.slice qk kl ck)).setCell ⟨Z, 0, none⟩ (.int .i64 1)).setCell ⟨Z, 1, none⟩ (.int .i64 sp)).setCell ⟨Z, 2, none⟩ (.string t1)).cell? ⟨Z, 2, none⟩ = some (.string t1) := bk3.cell 2
  have bk4 : Blk (((((w5.setCell ⟨N, 5, none⟩ (.slice qk kl ck)).setCell ⟨Z, 0, none⟩ (.int .i64 1)).setCell ⟨Z, 1, none⟩ (.int .i64 sp)).setCell ⟨Z, 2, none⟩ (.string t1)).setCell ⟨Z, 3, none⟩ (.slice qa al ca)) Z #[.int .i64 1, .int .i64 sp, .string t1, .slice qa al ca, .string ⟨#[]⟩, .slice none 0 0] 31 := Blk.set (vs := #[.int .i64 1, .int .i64 sp, .string t1, .slice none 0 0, .string ⟨#[]⟩, .slice none 0 0]) bk3 3 (by simp) _
  have r3 : (((((w5.setCell ⟨N, 5, none⟩ (.slice qk kl ck)).setCell ⟨Z, 0, none⟩ (.int .i64 1)).setCell ⟨Z, 1, none⟩ (.int .i64 sp)).setCell ⟨Z, 2, none⟩ (.string t1)).setCell ⟨Z, 3, none⟩ (.slice qa al ca)).cell? ⟨Z, 3, none⟩ = some (.slice qa al ca) := bk4.cell 3
  have bk5 : Blk ((((((w5.setCell ⟨N, 5, none⟩ (.slice qk kl ck)).setCell ⟨Z, 0, none⟩ (.int .i64 1)).setCell ⟨Z, 1, none⟩ (.int .i64 sp)).setCell ⟨Z, 2, none⟩ (.string t1)).setCell ⟨Z, 3, none⟩ (.slice qa al ca)).setCell ⟨Z, 4, none⟩ (.string ⟨#[]⟩)) Z #[.int .i64 1, .int .i64 sp, .string t1, .slice qa al ca, .string ⟨#[]⟩, .slice none 0 0] 31 := Blk.set (vs := #[.int .i64 1, .int .i64 sp, .string t1, .slice qa al ca, .string ⟨#[]⟩, .slice none 0 0]) bk4 4 (by simp) _
  have r4 : ((((((w5.setCell ⟨N, 5, none⟩ (.slice qk kl ck)).setCell ⟨Z, 0, none⟩ (.int .i64 1)).setCell ⟨Z, 1, none⟩ (.int .i64 sp)).setCell ⟨Z, 2, none⟩ (.string t1)).setCell ⟨Z, 3, none⟩ (.slice qa al ca)).setCell ⟨Z, 4, none⟩ (.string ⟨#[]⟩)).cell? ⟨Z, 4, none⟩ = some (.string ⟨#[]⟩) := bk5.cell 4
  have bk6 : Blk (((((((w5.setCell ⟨N, 5, none⟩ (.slice qk kl ck)).setCell ⟨Z, 0, none⟩ (.int .i64 1)).setCell ⟨Z, 1, none⟩ (.int .i64 sp)).setCell ⟨Z, 2, none⟩ (.string t1)).setCell ⟨Z, 3, none⟩ (.slice qa al ca)).setCell ⟨Z, 4, none⟩ (.string ⟨#[]⟩)).setCell ⟨Z, 5, none⟩ (.slice qk kl ck)) Z #[.int .i64 1, .int .i64 sp, .string t1, .slice qa al ca, .string ⟨#[]⟩, .slice qk kl ck] 31 := Blk.set (vs := #[.int .i64 1, .int .i64 sp, .string t1, .slice qa al ca, .string ⟨#[]⟩, .slice none 0 0]) bk5 5 (by simp) _
  have r5 : (((((((w5.setCell ⟨N, 5, none⟩ (.slice qk kl ck)).setCell ⟨Z, 0, none⟩ (.int .i64 1)).setCell ⟨Z, 1, none⟩ (.int .i64 sp)).setCell ⟨Z, 2, none⟩ (.string t1)).setCell ⟨Z, 3, none⟩ (.slice qa al ca)).setCell ⟨Z, 4, none⟩ (.string ⟨#[]⟩)).setCell ⟨Z, 5, none⟩ (.slice qk kl ck)).cell? ⟨Z, 5, none⟩ = some (.slice qk kl ck) := bk6.cell 5
  have HRS := hide (And.intro r0 (And.intro r1 (And.intro r2 (And.intro r3 (And.intro r4 r5)))))
  have HE : Hid (NdSaid w R (⟨1, sp, t1, a1, ⟨#[]⟩, kf1⟩, l5, m5, b5) (.returned (.agg #[.int .i64 1, .int .i64 sp, .string t1, .slice qa al ca, .string ⟨#[]⟩, .slice qk kl ck])) (((((((w5.setCell ⟨N, 5, none⟩ (.slice qk kl ck)).setCell ⟨Z, 0, none⟩ (.int .i64 1)).setCell ⟨Z, 1, none⟩ (.int .i64 sp)).setCell ⟨Z, 2, none⟩ (.string t1)).setCell ⟨Z, 3, none⟩ (.slice qa al ca)).setCell ⟨Z, 4, none⟩ (.string ⟨#[]⟩)).setCell ⟨Z, 5, none⟩ (.slice qk kl ck))) := hide ⟨qa, ca, qk, ck, by rw [unhide HAL, unhide HKL], (unhide HSF).2.2, ((unhide HSF).1.le (CellLe.trans (mask_set (b := N) (o := 5) (hiP_at (by have h1 := unhide HB3; omega))) (CellLe.trans (mask_set (b := Z) (o := 0) (hiP_at (by have h1 := unhide HB3; omega))) (CellLe.trans (mask_set (b := Z) (o := 1) (hiP_at (by have h1 := unhide HB3; omega))) (CellLe.trans (mask_set (b := Z) (o := 2) (hiP_at (by have h1 := unhide HB3; omega))) (CellLe.trans (mask_set (b := Z) (o := 3) (hiP_at (by have h1 := unhide HB3; omega))) (CellLe.trans (mask_set (b := Z) (o := 4) (hiP_at (by have h1 := unhide HB3; omega))) ((mask_set (b := Z) (o := 5) (hiP_at (by have h1 := unhide HB3; omega))))))))))).le (mask_less _ (hiP_less (by have h1 := unhide HB3; omega))), ((unhide HSF).2.1.le (CellLe.trans (mask_set (b := N) (o := 5) (hiP_at (by have h1 := unhide HB4; omega))) (CellLe.trans (mask_set (b := Z) (o := 0) (hiP_at (by have h1 := unhide HB4; omega))) (CellLe.trans (mask_set (b := Z) (o := 1) (hiP_at (by have h1 := unhide HB4; omega))) (CellLe.trans (mask_set (b := Z) (o := 2) (hiP_at (by have h1 := unhide HB4; omega))) (CellLe.trans (mask_set (b := Z) (o := 3) (hiP_at (by have h1 := unhide HB4; omega))) (CellLe.trans (mask_set (b := Z) (o := 4) (hiP_at (by have h1 := unhide HB4; omega))) ((mask_set (b := Z) (o := 5) (hiP_at (by have h1 := unhide HB4; omega))))))))))).le (mask_less _ (hiP_less (by have h1 := unhide HB4; omega))), Blk.away (Blk.away (Blk.away (Blk.away (Blk.away (Blk.away (Blk.away (unhide HR2) hRN _) hRZ _) hRZ _) hRZ _) hRZ _) hRZ _) hRZ _, KpR.setAt (KpR.setAt (KpR.setAt (KpR.setAt (KpR.setAt (KpR.setAt (KpR.setAt ((unhide HK)) (b := N) (by have h1 := (unhide HSZ); omega) 5 _) (b := Z) (Nat.le_of_eq hZ) 0 _) (b := Z) (Nat.le_of_eq hZ) 1 _) (b := Z) (Nat.le_of_eq hZ) 2 _) (b := Z) (Nat.le_of_eq hZ) 3 _) (b := Z) (Nat.le_of_eq hZ) 4 _) (b := Z) (Nat.le_of_eq hZ) 5 _⟩
  clear bk0 bk1 bk2 bk3 bk4 bk5 bk6 r0 r1 r2 r3 r4 r5 hz2 hn2 HK HR2 HSF
  simp only [hZ]
  clear hZ
  go_wp2
  obtain ⟨r0, r1, r2, r3, r4, r5⟩ := unhide HRS
  refine bodyPost_ret (v := .agg #[.int .i64 1, .int .i64 sp, .string t1, .slice qa al ca, .string ⟨#[]⟩, .slice qk kl ck]) (by simp [results, Tryd.results89, go_sem, r0, r1, r2, r3, r4, r5]) rfl ?_
  exact unhide HE
end Go.Proofs.YtpfnjgkfombmpaaDoor

/-
  A tree.reader's list, of any bytes.
-/
namespace Go.Proofs.YtpfnjgkfombmpaaDoor
open Go.RowKit
set_option linter.unusedVariables false
set_option linter.unusedSimpArgs false

def Forest.app : Forest → Forest → Forest
  | .nil, g => g
  | .cons k sp n ats tx kids r, g => .cons k sp n ats tx kids (r.app g)
theorem app_nil : ∀ (f : Forest), f.app .nil = f
  | .nil => rfl
  | .cons k sp n ats tx kids r => by rw [Forest.app, app_nil r]
theorem app_assoc : ∀ (f g h : Forest), (f.app g).app h = f.app (g.app h)
  | .nil, g, h => rfl
  | .cons k sp n ats tx kids r, g, h => by rw [Forest.app, Forest.app, Forest.app, app_assoc r g h]
theorem app_len : ∀ (f g : Forest), (f.app g).len = f.len + g.len
  | .nil, g => by show g.len = 0 + g.len; omega
  | .cons k sp n ats tx kids r, g => by show (r.app g).len + 1 = r.len + 1 + g.len; rw [app_len r g]; omega
def Desc : Forest → List Value → World → Prop
  | .nil, xs, _ => xs = []
  | .cons k sp n ats tx kids rest, xs, W => ∃ qa ca qk ck r, xs = .int .i64 k :: .int .i64 sp :: .string n :: .slice qa ats.length ca :: .string tx :: .slice qk kids.len ck :: r ∧ kids.len ≤ ck ∧ Sl qa ats W ∧ Fo qk kids W ∧ Desc rest r W
theorem Desc.le {W W' : World} (hc : CellLe W W') : ∀ (f : Forest) (xs : List Value), Desc f xs W → Desc f xs W'
  | .nil, xs, h => h
  | .cons k sp n ats tx kids rest, xs, ⟨qa, ca, qk, ck, r, h1, h2, h3, h4, h5⟩ => ⟨qa, ca, qk, ck, r, h1, h2, h3.le hc, h4.le hc, Desc.le hc rest r h5⟩
theorem Desc.snoc {W : World} (x : Nd) (qa : Option Addr) (ca : Nat) (qk : Option Addr) (ck : Nat) (hck : x.kids.len ≤ ck) (hsl : Sl qa x.ats W) (hfo : Fo qk x.kids W) : ∀ (f : Forest) (xs : List Value), Desc f xs W → Desc (f.app (x.cons .nil)) (xs ++ [.int .i64 x.k, .int .i64 x.sp, .string x.n, .slice qa x.ats.length ca, .string x.tx, .slice qk x.kids.len ck]) W
  | .nil, xs, h => by
    have : xs = [] := h
    subst this
    exact ⟨qa, ca, qk, ck, [], rfl, hck, hsl, hfo, rfl⟩
  | .cons k sp n ats tx kids rest, xs, ⟨qa', ca', qk', ck', r, h1, h2, h3, h4, h5⟩ => by
    subst h1
    exact ⟨qa', ca', qk', ck', _, rfl, h2, h3, h4, Desc.snoc x qa ca qk ck hck hsl hfo rest r h5⟩
theorem Desc.lies {W : World} {g : Nat} : ∀ (f : Forest) (xs : List Value) (o : Nat), (∀ j u, xs[j]? = some u → W.cell? ⟨g, o + j, none⟩ = some u) → Desc f xs W → Lies f g o W
  | .nil, xs, o, hc, h => trivial
  | .cons k sp n ats tx kids rest, xs, o, hc, ⟨qa, ca, qk, ck, r, h1, h2, h3, h4, h5⟩ => by
    subst h1
    exact ⟨⟨hc 0 _ rfl, hc 1 _ rfl, hc 2 _ rfl, ⟨qa, ca, hc 3 _ rfl, h3⟩, hc 4 _ rfl, ⟨qk, ck, hc 5 _ rfl, h2, h4⟩⟩, Desc.lies rest r (o + 6) (fun j u hj => by have := hc (j + 6) u (by simpa using hj); rw [show o + 6 + j = o + (j + 6) by omega]; exact this) h5⟩
theorem fo_of_row {w : World} {base : Nat} {v : Value} {f : Forest} {xs : List Value} {p : Nat → Bool} (h : w.ownsRow base 31 6 v f.len xs) (hd : Desc f xs (mask p w)) (hp : ∀ k, k < base → p k = true) : ∃ q cap, v = .slice q f.len cap ∧ f.len ≤ cap ∧ Fo q f (mask (hiP base) w) := by
  have hd' : Desc f xs (mask (hiP base) w) := hd.le (mask_less w fun i hi => hp i (of_decide_eq_true hi))
  obtain ⟨a, cap, hv⟩ := slice_n h
  subst hv
  rcases h.2 with ⟨h1, h0⟩ | ⟨g, cap', cur, h1, hb, h2, h3, _⟩
  · refine ⟨a, cap, rfl, by rw [h0]; exact Nat.zero_le _, Or.inl (len_nil h0)⟩
  · injection h1 with h4 h5 h6
    subst h4 h6
    refine ⟨_, _, rfl, h3, Or.inr ⟨g, 0, rfl, hd'.lies f xs 0 (fun j u hj => ?_)⟩⟩
    have := h.cells (g := g) rfl j u hj
    rw [add_off] at this
    rw [Nat.zero_add]
    exact mask_cell.2 ⟨hiP_not hb, this⟩
theorem rnode_all (kf : RS → Forest × RS) (dp : Bool) (dd : Int) (hdp : dp = decide (dd ≤ 40)) (hd0 : 0 ≤ dd)
    (ih : dp = true → ∀ s : RS, (s.2.2 = true → s.1 = []) → s.2.1 ≤ 300 → s.1.length ≤ 1000000000000 → ∀ (R : Nat) (W : World), Rdr R (bs s.1) (s.2.1 : Nat) s.2.2 W → Calls Tryd.prog 59 #[.pointer (some ⟨R, 0, none⟩), .int .i64 (dd + 1)] W (LsSaid W R (kf s)))
    (s : RS) (h1 : s.2.2 = true → s.1 = []) (h2 : s.2.1 ≤ 300) (h3 : s.1.length ≤ 1000000000000) (R : Nat) (w : World) (h : Rdr R (bs s.1) (s.2.1 : Nat) s.2.2 w) :
    Calls Tryd.prog 89 #[.pointer (some ⟨R, 0, none⟩), .int .i64 dd] w (NdSaid w R (ndF kf dp s)) := by
  have hRl : R < w.heap.size := h.lt
  obtain ⟨x1, x2, x3, x4, x5, _⟩ := nmF_ok 3 s.1 s.2.2 h1
  have x4' := x4 (by omega)
  have CN := hide (rdnum_any R s.1 (s.2.1 : Nat) 3 s.2.2 _ (Blk.alloc h (Obj.cells #[.int .i64 0, .int .i64 0, .string ⟨#[]⟩, .slice none 0 0, .string ⟨#[]⟩, .slice none 0 0] 31)) (by omega))
  unfold ndF
  generalize nmF 3 s.1 s.2.2 = K at *
  obtain ⟨k, l1, b1⟩ := K
  dsimp only at *
  by_cases c1 : k = 2 ∨ k = 3
  · rw [if_pos c1]
    exact rnode_leafK R s.2.1 b1 l1 _ _ _ dd w hRl k c1 CN (hide fun W hW => rtxt_any R l1 (s.2.1 : Nat) b1 W hW (by omega))
  · rw [if_neg c1]
    by_cases c2 : k = 1 ∧ dp = true
    · rw [if_pos c2]
      obtain ⟨hk1, hdt⟩ := c2
      subst hk1
      obtain ⟨p1, p2, p3, p4, p5, _⟩ := nmF_ok 2 l1 b1 x1
      have CP := hide (fun W (hW : Rdr R (bs l1) (s.2.1 : Nat) b1 W) => rdnum_any R l1 (s.2.1 : Nat) 2 b1 W hW (by omega))
      generalize nmF 2 l1 b1 = P at *
      obtain ⟨sp, l2, b2⟩ := P
      dsimp only at *
      obtain ⟨t1, t2, t3⟩ := txF_ok l2 b2 p1
      have CT := hide (fun W (hW : Rdr R (bs l2) (s.2.1 : Nat) b2 W) => rtxt_any R l2 (s.2.1 : Nat) b2 W hW (by omega))
      generalize txF l2 b2 = T at *
      obtain ⟨tx, l3, b3⟩ := T
      dsimp only at *
      obtain ⟨a1, a2, a3, a4, a5⟩ := asF_ok l3 b3 t1
      have CA := hide (fun W (hW : Rdr R (bs l3) (s.2.1 : Nat) b3 W) => rattrs_any R l3 (s.2.1 : Nat) b3 W hW (by omega) t1)
      generalize asF l3 b3 = A at *
      obtain ⟨ats, l4, b4⟩ := A
      dsimp only at *
      have CK := hide (fun W (hW : Rdr R (bs l4) (s.2.1 : Nat) b4 W) => ih hdt (l4, s.2.1, b4) a1 h2 (by show l4.length ≤ _; omega) R W hW)
      generalize kf (l4, s.2.1, b4) = Z at *
      obtain ⟨kf1, l5, m5, b5⟩ := Z
      exact rnode_elemK R s.2.1 m5 b1 b2 b3 b4 b5 l1 l2 l3 l4 l5 sp tx ats kf1 dd w hRl (of_decide_eq_true (by rw [← hdp]; exact hdt)) hd0 CN CP CT CA CK
    · rw [if_neg c2]
      refine rnode_badK R s.2.1 b1 l1 dd w hRl k ?_ CN (hide fun W hW => rstop_any R (bs l1) (s.2.1 : Nat) b1 W hW)
      by_cases hk0 : k = 1
      · right
        refine ⟨hk0, fun hle => c2 ⟨hk0, by rw [hdp]; exact decide_eq_true hle⟩⟩
      · left; omega
def LtAt (w : World) (R X c : Nat) (nd : RS → Nd × RS) (z : Option Forest × RS) (v i : Value) (wr : World) : Prop :=
  ∃ (j : Nat) (acc : Forest) (xs : List Value) (s : RS) (p : Nat → Bool), j ≤ c ∧ i = .int .i64 j ∧ acc.len = j ∧ wr.ownsRow w.heap.size 31 6 v acc.len xs ∧ Desc acc xs (mask p wr) ∧ (∀ k, k < w.heap.size → p k = true) ∧ (∀ k, v.ownBlock = some k → p k = true) ∧ (∀ k, p k = true → k < wr.heap.size) ∧
    Rdr R (bs s.1) (s.2.1 : Nat) s.2.2 wr ∧ KpR R w wr ∧ RsOk X s ∧ s.1.length ≤ 1000000000000 ∧ ((lpF nd (c - j) s).1.map acc.app, (lpF nd (c - j) s).2) = z
set_option maxHeartbeats 8000000 in
set_option maxRecDepth 100000 in
theorem rlist_all (nd : RS → Nd × RS) (X : Nat) (hX0 : 300 ≤ X) (hX : X ≤ 1000) (dd : Int)
    (hn : ∀ s : RS, (s.2.2 = true → s.1 = []) → s.2.1 ≤ 300 → s.1.length ≤ 1000000000000 → NdOk X s (nd s))
    (hc : ∀ s : RS, (s.2.2 = true → s.1 = []) → s.2.1 ≤ 300 → s.1.length ≤ 1000000000000 → ∀ (R : Nat) (W : World), Rdr R (bs s.1) (s.2.1 : Nat) s.2.2 W → Calls Tryd.prog 89 #[.pointer (some ⟨R, 0, none⟩), .int .i64 dd] W (NdSaid W R (nd s)))
    (s : RS) (h1 : s.2.2 = true → s.1 = []) (h2 : s.2.1 ≤ 300) (h3 : s.1.length ≤ 1000000000000) (R : Nat) (w : World) (h : Rdr R (bs s.1) (s.2.1 : Nat) s.2.2 w) :
    Calls Tryd.prog 59 #[.pointer (some ⟨R, 0, none⟩), .int .i64 dd] w (LsSaid w R (topF nd s)) := by
  obtain ⟨i0, hi0, hi1, hi2, hi3⟩ := info_parts infoNode0
  have hRl : R < w.heap.size := h.lt
  obtain ⟨x1, x2, x3, x4, x5, _⟩ := nmF_ok 300 s.1 s.2.2 h1
  have x4' := x4 (by omega)
  have CN := hide (rdnum_any R s.1 (s.2.1 : Nat) 300 s.2.2 w h (by omega))
  unfold topF
  obtain ⟨c, hcq⟩ : ∃ c : Nat, (nmF 300 s.1 s.2.2).1 = (c : Int) := ⟨(nmF 300 s.1 s.2.2).1.toNat, by omega⟩
  rw [hcq] at CN x4' ⊢
  simp only [Int.toNat_natCast]
  generalize (nmF 300 s.1 s.2.2).2.1 = l1 at *
  generalize (nmF 300 s.1 s.2.2).2.2 = b1 at *
  obtain ⟨z, hz⟩ : ∃ z, lpF nd c (l1, s.2.1, b1) = z := ⟨_, rfl⟩
  rw [hz]
  have HST := hide (And.intro x1 (And.intro x2 hz))
  have HN := hide hn
  have HC := hide hc
  clear h x1 x2 x3 x4 x5 hcq hz hn hc
  go_enter Tryd.func59, Tryd.ntmps59
  go_wp2_with fail
  refine (unhide CN).mono ?_
  rintro e w1 ⟨rfl, hr1, hk1⟩
  have HAT : Hid (LtAt w R X c nd z (.slice none 0 0) (.int .i64 0) w1) := hide ⟨0, .nil, [], (l1, s.2.1, b1), hiP w.heap.size, Nat.zero_le _, rfl, rfl, World.ownsRow_nil _ _ _ _, rfl, fun k hk => hiP_at hk, (fun k hk => by cases hk), (fun k hk => by have h5 := of_decide_eq_true hk; have h6 := hk1.size; omega), hr1, hk1, ⟨(unhide HST).1, fun _ => h2, by show s.2.1 ≤ X; omega⟩, by show l1.length ≤ _; have := (unhide HST).2.1; omega, by rw [Nat.sub_zero, (unhide HST).2.2]; obtain ⟨zo, z2⟩ := z; cases zo <;> rfl⟩
  clear CN hr1 hk1 HST
  go_wp2
  go_loopw [5, 8] (fun v i wr => LtAt w R X c nd z v i wr) (fun _ i _ => c - (intOf i).toNat)
  case atStart => exact unhide HAT
  case round =>
    clear HAT
    obtain ⟨j, acc, xs, ⟨ll, mm, bb⟩, p, hj, rfl, hal, hrow, hdes, hpl, hpo, hpu, hrd, hk, hok, hl2, hres⟩ := hrel
    obtain ⟨a5, c5, rfl⟩ := slice_n hrow
    by_cases hp : j < c
    · have hpi : (j : Int) < (c : Int) := by omega
      obtain ⟨st1, st2, st3, st4⟩ := stF_ok hok
      have hms := hok.most
      dsimp only at hms hl2 hrd
      have hmi : (mm : Int) + 1 ≤ 1002 := by omega
      have hmc : ((mm + 1 : Nat) : Int) = (mm : Int) + 1 := by omega
      have q1 : wr.cell? ⟨R, 1, none⟩ = some (.int .i64 (mm : Nat)) := hrd.cell 1
      have qf1 : wr.frozen? ⟨R, 1, none⟩ = false := hrd.frozen 1
      have q2 : wr.cell? ⟨R, 2, none⟩ = some (.bool bb) := hrd.cell 2
      have hrd1 : Rdr R (bs ll) ((mm : Int) + 1) bb (wr.setCell ⟨R, 1, none⟩ (.int .i64 ((mm : Int) + 1))) := Blk.set (vs := #[.string (bs ll), .int .i64 (mm : Nat), .bool bb]) hrd 1 (by simp) _
      have hk1 := hk.set 1 (.int .i64 ((mm : Int) + 1))
      have r1 : (wr.setCell ⟨R, 1, none⟩ (.int .i64 ((mm : Int) + 1))).cell? ⟨R, 1, none⟩ = some (.int .i64 ((mm : Int) + 1)) := hrd1.cell 1
      have hres' := hres
      rw [show c - j = (c - (j + 1)) + 1 by omega, lpF] at hres'
      by_cases c1 : 300 < mm + 1
      · have c1i : (300 : Int) < (mm : Int) + 1 := by omega
        have hst : stF (ll, mm, bb) = ([], mm + 1, true) := if_pos c1
        rw [hst, if_pos rfl] at hres'
        have CS := hide (rstop_any R (bs ll) ((mm : Int) + 1) bb _ hrd1)
        have HZ : Hid (z = (none, [], mm + 1, true)) := hide hres'.symm
        have HK := hide hk1
        have HMC := hide hmc
        clear hrow hdes hpo hrd hk hres hres' hst hrd1 hk1 hok st1 st2 st3 st4 hmc hpu
        go_wp2_with fail
        refine (unhide CS).mono ?_
        rintro e w2 ⟨rfl, h2, hk2⟩
        have d2 : w2.cell? ⟨R, 2, none⟩ = some (.bool true) := h2.cell 2
        have HE : Hid (LsSaid w R (z.1.getD .nil, z.2) (.returned (.slice none 0 0)) w2) := hide (by
          rw [unhide HZ]
          exact ⟨none, 0, rfl, Nat.le_refl _, Or.inl rfl, by rw [unhide HMC]; exact h2, (unhide HK).trans hk2⟩)
        clear h2 hk2 CS HK q1 qf1 q2 r1
        go_wp2
        go_ret
        exact unhide HE
      · have c1i : ¬ (300 : Int) < (mm : Int) + 1 := by omega
        have hst : stF (ll, mm, bb) = (ll, mm + 1, bb) := if_neg c1
        rw [hst] at hres' st1
        cases bb with
        | true =>
          rw [if_pos rfl] at hres'
          have HE : Hid (LsSaid w R (z.1.getD .nil, z.2) (.returned (.slice none 0 0)) (wr.setCell ⟨R, 1, none⟩ (.int .i64 ((mm : Int) + 1)))) := hide (by
            rw [← hres']
            exact ⟨none, 0, rfl, Nat.le_refl _, Or.inl rfl, by rw [hmc]; exact hrd1, hk1⟩)
          clear hrow hdes hpo hrd hk hres hres' hst hrd1 hk1 hok st1 st2 st3 st4 hmc hpu
          go_wp2
          go_ret
          exact unhide HE
        | false =>
          rw [if_neg (by simp)] at hres'
          have hm3 : mm + 1 ≤ 300 := by omega
          have hndo := unhide HN (ll, mm + 1, false) st1 hm3 (by show ll.length ≤ _; omega)
          have CC := hide (unhide HC (ll, mm + 1, false) st1 hm3 (by show ll.length ≤ _; omega) R _ (by rw [hmc]; exact hrd1))
          have hszS : (wr.setCell ⟨R, 1, none⟩ (.int .i64 ((mm : Int) + 1))).heap.size = wr.heap.size := by simp
          have hrowS := ownsRow_kpr hrow ((KpR.refl R wr).set 1 (.int .i64 ((mm : Int) + 1))) hRl
          have hdesS : Desc acc xs (mask p (wr.setCell ⟨R, 1, none⟩ (.int .i64 ((mm : Int) + 1)))) := hdes.le (mask_set (hpl R hRl))
          have HRES : Hid (((lpF nd (c - (j + 1)) (nd (ll, mm + 1, false)).2).1.map (acc.app ((nd (ll, mm + 1, false)).1.cons .nil)).app, (lpF nd (c - (j + 1)) (nd (ll, mm + 1, false)).2).2) = z) := hide (by
            rw [← hres']
            dsimp only
            cases (lpF nd (c - (j + 1)) (nd (ll, mm + 1, false)).2).1 with
            | none => rfl
            | some g => show (some ((acc.app _).app g), _) = (some (acc.app _), _); rw [app_assoc]; rfl)
          have HNO : Hid (RsOk X (nd (ll, mm + 1, false)).2 ∧ (nd (ll, mm + 1, false)).2.1.length ≤ 1000000000000) := hide ⟨hndo.rs, by have := hndo.len; dsimp only at this; omega⟩
          unfold NdSaid at CC
          rw [hszS] at CC
          generalize nd (ll, mm + 1, false) = y at *
          obtain ⟨x, l3, m3, b3⟩ := y
          dsimp only at CC HRES HNO
          have HY := hide (And.intro hrowS (And.intro hdesS (And.intro hk1 (And.intro hpl (And.intro hpo hpu)))))
          obtain ⟨al, hatl⟩ : ∃ q, x.ats.length = q := ⟨_, rfl⟩
          obtain ⟨kl, hkl⟩ : ∃ q, x.kids.len = q := ⟨_, rfl⟩
          have HLN := hide (And.intro hatl hkl)
          have halc : acc.len ≤ 300 := by omega
          obtain ⟨WS, hWS⟩ : ∃ W, wr.setCell ⟨R, 1, none⟩ (.int .i64 ((mm : Int) + 1)) = W := ⟨_, rfl⟩
          have HWS : Hid (WS.heap.size = wr.heap.size) := hide (by rw [← hWS]; exact hszS)
          rw [hWS] at HY CC
          have HWE := hide hWS
          clear hWS
          clear hrow hdes hpo hrd hk hres hres' hst hrd1 hk1 hok st1 st2 st3 st4 hmc hpu hndo hrowS hdesS hszS
          go_wp2_with fail
          simp only [unhide HWE]
          refine (unhide CC).mono ?_
          rintro e w3 ⟨qa, ca, qk, ck, rfl, hck, hsl, hfo, h3, hk3⟩
          rw [hatl, hkl]
          obtain ⟨hrowS, hdesS, hk1, hpl, hpo, hpu⟩ := unhide HY
          have hrow3 := ownsRow_kpr hrowS hk3 hRl
          have hpR : p R = true := hpl R hRl
          have hd3 : Desc acc xs (mask p w3) := hdesS.le (mask_kpr hk3 hpR)
          have hd4 : Desc (acc.app (x.cons .nil)) (xs ++ [.int .i64 x.k, .int .i64 x.sp, .string x.n, .slice qa x.ats.length ca, .string x.tx, .slice qk x.kids.len ck]) (mask p w3) :=
            hd3.snoc x qa ca qk ck hck (hsl.le (mask_less w3 fun i hi => hiP_at (hpu i hi))) (hfo.le (mask_less w3 fun i hi => hiP_at (hpu i hi)))
          rw [hatl, hkl] at hd4
          have hkk := hk1.trans hk3
          have hsz3 : w.heap.size ≤ w3.heap.size := hkk.size
          have hwr3 : wr.heap.size ≤ w3.heap.size := by have h5 := hk3.size; have h6 := unhide HWS; omega
          have HZ := hide (And.intro h3 (And.intro hkk (And.intro hd4 (And.intro hpl (And.intro hpo hpu)))))
          rw [hal] at hrow3
          clear CC hck hsl hfo h3 hk3 hrowS hdesS hk1 hpl hpo hpu hpR hd3 hd4 hkk HY hatl hkl
          go_wp2_with (at_builtin; refine wpList_append_own_at _ rfl _ _ 22 rfl w.heap.size 31 i0 (.agg #[.int .i64 0, .int .i64 0, .string ⟨#[]⟩, .slice none 0 0, .string ⟨#[]⟩, .slice none 0 0]) 6 96 Tryd.underlying22 hi0 hi1 hi2 hi3 rfl (by decide) _ _ _ rfl (hrow3.alloc (Obj.cells #[.int .i64 x.k, .int .i64 x.sp, .string x.n, .slice qa al ca, .string x.tx, .slice qk kl ck] 31)) ⟨w3.heap.size, 0, none⟩ 1 1 [.int .i64 x.k, .int .i64 x.sp, .string x.n, .slice qa al ca, .string x.tx, .slice qk kl ck] rfl rfl (fun j u hj => lit2 rfl hj) (by intro u hu; simp at hu; rcases hu with rfl | rfl | rfl | rfl | rfl | rfl <;> rfl) (by unfold maxLen; omega) (by omega) (by simp; omega) ?_)
          intro v' w5 hrow5 hgrow5 _ hob5
          obtain ⟨h3, hkk, hd4, hpl, hpo, hpu⟩ := unhide HZ
          have hown := fun k hk => (hrow3.lt k hk).1
          have hk5 : KpR R w w5 := (hkk.alloc (Obj.cells #[.int .i64 x.k, .int .i64 x.sp, .string x.n, .slice qa al ca, .string x.tx, .slice qk kl ck] 31)).grown hgrow5 hown
          have h5 : Rdr R (bs l3) (m3 : Nat) b3 w5 := Rdr.grown (Blk.alloc h3 (Obj.cells #[.int .i64 x.k, .int .i64 x.sp, .string x.n, .slice qa al ca, .string x.tx, .slice qk kl ck] 31)) hgrow5 (fun e => by have := hown R e.symm; omega)
          have hle : CellLe (mask p w3) (mask (fun i => p i || decide (v'.ownBlock = some i)) w5) := mask_kept fun k hkl hpk => by
            have hne : some k ≠ (Value.slice a5 j c5).ownBlock := fun e => by rw [hpo k (by rw [hal]; exact e.symm)] at hpk; cases hpk
            refine ⟨?_, (hgrow5.block k (by simp; omega) hne).trans (by have := (Below.refl w3.heap.size w3).alloc (Nat.le_refl _) (Obj.cells #[.int .i64 x.k, .int .i64 x.sp, .string x.n, .slice qa al ca, .string x.tx, .slice qk kl ck] 31); exact this.block k hkl)⟩
            rw [hpk, Bool.false_or]
            refine decide_eq_false fun e => ?_
            rcases hob5 with h | h
            · exact hne (by rw [← e, h])
            · rw [h] at e; simp at e; omega
          have HV : Hid (LtAt w R X c nd z v' (.int .i64 ((j : Int) + 1)) w5) := hide ⟨j + 1, acc.app (x.cons .nil), _, (l3, m3, b3), fun i => p i || decide (v'.ownBlock = some i), by omega, by congr 1, by rw [app_len, hal]; rfl, by rw [app_len, hal]; exact hrow5, hd4.le hle, fun k hk => by simp [hpl k hk], fun k hk => by simp [hk], fun k hk => by
              rcases Bool.or_eq_true _ _ ▸ hk with h | h
              · have h7 := hpu k h
                have h8 := hgrow5.size
                simp at h8
                omega
              · exact (hrow5.lt k (of_decide_eq_true h)).2, h5, hk5, (unhide HNO).1, (unhide HNO).2, unhide HRES⟩
          clear hrow5 hgrow5 hown hk5 h5 hrow3 HZ h3 hkk hd4 hpl hpo hpu hle hob5 HRES HNO
          go_wp2
          go_roundw
          case rel => exact unhide HV
          case measure => simp [intOf]; omega
    · have hpi : ¬ (j : Int) < (c : Int) := by omega
      have hjc : c - j = 0 := by omega
      rw [hjc, lpF] at hres
      obtain ⟨q, cap, hv, hcap, hfo⟩ := fo_of_row hrow hdes hpl
      injection hv with hv1 hv2 hv3
      subst hv1 hv3
      have HE : Hid (LsSaid w R (z.1.getD .nil, z.2) (.returned (.slice a5 j c5)) wr) := hide (by
        rw [← hres]
        show LsSaid w R (acc.app .nil, (ll, mm, bb)) _ _
        rw [app_nil]
        exact ⟨a5, c5, by rw [hal], hcap, hfo, hrd, hk⟩)
      clear hrow hdes hpo hrd hk hres hpu hfo
      rw [hal]
      go_wp2
      go_ret
      exact unhide HE
end Go.Proofs.YtpfnjgkfombmpaaDoor

/-
  What slices.Clone does of attributes and of nodes (made by mk_ycl.py).
-/
namespace Go.Proofs.YtpfnjgkfombmpaaDoor
open Go.RowKit
set_option linter.unusedVariables false
set_option linter.unusedSimpArgs false

set_option maxHeartbeats 1000000 in
set_option maxRecDepth 100000 in
theorem cloneA_some (ad : Addr) (n c : Nat) (xs : List Value) (w : World) (hl : Hid (xs.length = n * 2)) (hc : Hid (∀ j u, xs[j]? = some u → w.cell? (ad.add j) = some u)) (h1 : Hid (∀ u ∈ xs, u.oneCell' = true)) (hn : n ≤ 1000000000) :
    Calls Tryd.prog 36 #[.slice (some ad) n c] w fun e w' => ∃ v', e = .returned v' ∧ w'.ownsRow w.heap.size 55 2 v' n xs ∧ Below w.heap.size w w' := by
  obtain ⟨i0, hi0, hi1, hi2, hi3⟩ := info_parts infoAttr0
  have hrow : (w.alloc (Obj.cells #[] 55)).ownsRow w.heap.size 55 2 (.slice (some ⟨w.heap.size, 0, none⟩) 0 0) 0 [] := World.ownsRow_made w #[] 0 (Nat.le_refl _) (by simp [maxLen]) rfl
  have b1 : Below w.heap.size w (w.alloc (Obj.cells #[] 55)) := (Below.refl _ _).alloc (Nat.le_refl _) _
  have HC : Hid (∀ j u, xs[j]? = some u → (w.alloc (Obj.cells #[] 55)).cell? (ad.add j) = some u) := hide (fun j u hu => by
    have h2 := unhide hc j u hu
    exact (b1.cell (World.block_lt_of_cell? w _ h2)).trans h2)
  have HR := hide hrow
  clear hrow b1 hc
  have q22 : ∀ (w : World) (a : Option Addr) (n c n' c' : Nat), (binOp .eql 29 (.slice a n c) (.slice none n' c')).run Tryd.prog w = .ok (.bool a.isNone) w := fun w a n c n' c' => Lib.run_eql_slice_nil w _ _ a n c n' c' Tryd.underlying29
  go_enter Tryd.func36, Tryd.ntmps36
  go_wp2_with (at_builtin; refine wpList_append_own_at _ rfl _ _ 29 rfl w.heap.size 55 i0 (.agg #[.string ⟨#[]⟩, .string ⟨#[]⟩]) 2 32 Tryd.underlying29 hi0 hi1 hi2 hi3 rfl (by decide) _ 0 [] rfl (unhide HR) ad n c xs rfl (unhide hl) (unhide HC) (unhide h1) (by simp only [maxLen]; omega) (by omega) (by simp) ?_)
  intro v' w1 hown' hgrow _ hat
  have HB := hide (((Below.refl w.heap.size w).alloc (Nat.le_refl _) (Obj.cells #[] 55)).grown hgrow (by simp) (fun k hk => by simp [Value.ownBlock] at hk; omega))
  have HO := hide hown'
  obtain ⟨q2, c2, rfl⟩ := slice_n hown'
  clear hown' hgrow hat
  go_wp2
  go_ret
  exact ⟨_, rfl, unhide HO, unhide HB⟩
theorem cloneA_nil (n c : Nat) (w : World) : Calls Tryd.prog 36 #[.slice none n c] w fun e w' => e = .returned (.slice none 0 0) ∧ w' = w := by
  have q22 : ∀ (w : World) (a : Option Addr) (n c n' c' : Nat), (binOp .eql 29 (.slice a n c) (.slice none n' c')).run Tryd.prog w = .ok (.bool a.isNone) w := fun w a n c n' c' => Lib.run_eql_slice_nil w _ _ a n c n' c' Tryd.underlying29
  go_enter Tryd.func36, Tryd.ntmps36
  go_wp2
  go_ret
  exact ⟨rfl, rfl⟩
set_option maxHeartbeats 1000000 in
set_option maxRecDepth 100000 in
theorem cloneN_some (ad : Addr) (n c : Nat) (xs : List Value) (w : World) (hl : Hid (xs.length = n * 6)) (hc : Hid (∀ j u, xs[j]? = some u → w.cell? (ad.add j) = some u)) (h1 : Hid (∀ u ∈ xs, u.oneCell' = true)) (hn : n ≤ 1000000000) :
    Calls Tryd.prog 33 #[.slice (some ad) n c] w fun e w' => ∃ v', e = .returned v' ∧ w'.ownsRow w.heap.size 31 6 v' n xs ∧ Below w.heap.size w w' := by
  obtain ⟨i0, hi0, hi1, hi2, hi3⟩ := info_parts infoNode0
  have hrow : (w.alloc (Obj.cells #[] 31)).ownsRow w.heap.size 31 6 (.slice (some ⟨w.heap.size, 0, none⟩) 0 0) 0 [] := World.ownsRow_made w #[] 0 (Nat.le_refl _) (by simp [maxLen]) rfl
  have b1 : Below w.heap.size w (w.alloc (Obj.cells #[] 31)) := (Below.refl _ _).alloc (Nat.le_refl _) _
  have HC : Hid (∀ j u, xs[j]? = some u → (w.alloc (Obj.cells #[] 31)).cell? (ad.add j) = some u) := hide (fun j u hu => by
    have h2 := unhide hc j u hu
    exact (b1.cell (World.block_lt_of_cell? w _ h2)).trans h2)
  have HR := hide hrow
  clear hrow b1 hc
  have q22 : ∀ (w : World) (a : Option Addr) (n c n' c' : Nat), (binOp .eql 22 (.slice a n c) (.slice none n' c')).run Tryd.prog w = .ok (.bool a.isNone) w := fun w a n c n' c' => Lib.run_eql_slice_nil w _ _ a n c n' c' Tryd.underlying22
  go_enter Tryd.func33, Tryd.ntmps33
  go_wp2_with (at_builtin; refine wpList_append_own_at _ rfl _ _ 22 rfl w.heap.size 31 i0 (.agg #[.int .i64 0, .int .i64 0, .string ⟨#[]⟩, .slice none 0 0, .string ⟨#[]⟩, .slice none 0 0]) 6 96 Tryd.underlying22 hi0 hi1 hi2 hi3 rfl (by decide) _ 0 [] rfl (unhide HR) ad n c xs rfl (unhide hl) (unhide HC) (unhide h1) (by simp only [maxLen]; omega) (by omega) (by simp) ?_)
  intro v' w1 hown' hgrow _ hat
  have HB := hide (((Below.refl w.heap.size w).alloc (Nat.le_refl _) (Obj.cells #[] 31)).grown hgrow (by simp) (fun k hk => by simp [Value.ownBlock] at hk; omega))
  have HO := hide hown'
  obtain ⟨q2, c2, rfl⟩ := slice_n hown'
  clear hown' hgrow hat
  go_wp2
  go_ret
  exact ⟨_, rfl, unhide HO, unhide HB⟩
theorem cloneN_nil (n c : Nat) (w : World) : Calls Tryd.prog 33 #[.slice none n c] w fun e w' => e = .returned (.slice none 0 0) ∧ w' = w := by
  have q22 : ∀ (w : World) (a : Option Addr) (n c n' c' : Nat), (binOp .eql 22 (.slice a n c) (.slice none n' c')).run Tryd.prog w = .ok (.bool a.isNone) w := fun w a n c n' c' => Lib.run_eql_slice_nil w _ _ a n c n' c' Tryd.underlying22
  go_enter Tryd.func33, Tryd.ntmps33
  go_wp2
  go_ret
  exact ⟨rfl, rfl⟩

theorem add_at (g o j : Nat) : (⟨g, o, none⟩ : Addr).add j = ⟨g, o + j, none⟩ := by unfold Addr.add; split <;> simp_all
theorem flatA_one (ats : List (ByteArray × ByteArray)) : ∀ u ∈ flatA ats, u.oneCell' = true := by
  intro u hu
  unfold flatA at hu
  rw [List.mem_flatMap] at hu
  obtain ⟨a, _, h⟩ := hu
  simp at h
  rcases h with rfl | rfl <;> rfl
/-- A clone of attributes: the same ones, in new memory. -/
theorem cloneA_any (q : Option Addr) (ats : List (ByteArray × ByteArray)) (c : Nat) (w : World) (h : Sl q ats w) (hn : ats.length ≤ 1000000) :
    Calls Tryd.prog 36 #[.slice q ats.length c] w fun e w' => ∃ q' c', e = .returned (.slice q' ats.length c') ∧ Sl q' ats (mask (hiP w.heap.size) w') ∧ Below w.heap.size w w' := by
  cases q with
  | none =>
    have h0 : ats = [] := by
      rcases h with h | ⟨g, o, h, _⟩
      · exact h
      · cases h
    subst h0
    refine (cloneA_nil 0 c w).mono ?_
    rintro e w' ⟨rfl, rfl⟩
    exact ⟨none, 0, rfl, Or.inl rfl, Below.refl _ _⟩
  | some ad =>
    have hcs : ∀ j u, (flatA ats)[j]? = some u → w.cell? (ad.add j) = some u := by
      rcases h with h | ⟨g, o, h, hc⟩
      · subst h; intro j u hj; simp [flatA] at hj
      · injection h with h
        subst h
        intro j u hj
        rw [add_at]
        have hlt : j < ats.length * 2 := by rw [← flatA_len]; exact (List.getElem?_eq_some_iff.1 hj).1
        have hk : j / 2 < ats.length := by omega
        obtain ⟨g1, g2⟩ := flatA_get ats (j / 2) hk
        obtain ⟨c1, c2⟩ := hc (j / 2) hk
        rcases Nat.mod_two_eq_zero_or_one j with e | e
        · rw [show j = j / 2 * 2 by omega] at hj ⊢
          rw [g1] at hj
          rw [← hj]; exact c1
        · rw [show j = j / 2 * 2 + 1 by omega] at hj ⊢
          rw [g2] at hj
          rw [← hj, ← Nat.add_assoc]; exact c2
    refine (cloneA_some ad ats.length c (flatA ats) w (hide (flatA_len ats)) (hide hcs) (hide (flatA_one ats)) (by omega)).mono ?_
    rintro e w' ⟨v', rfl, hrow, hb⟩
    obtain ⟨q', cap, rfl, hcl⟩ := cells_of_owns hrow
    exact ⟨q', cap, rfl, sl_hi hcl, hb⟩
/-- The cells of nodes, one behind the other, as they lie. -/
theorem lies_cells {w : World} {g : Nat} : ∀ (f : Forest) (o : Nat), Lies f g o w → ∃ xs : List Value, xs.length = f.len * 6 ∧ (∀ j u, xs[j]? = some u → w.cell? ⟨g, o + j, none⟩ = some u) ∧ Desc f xs w ∧ ∀ u ∈ xs, u.oneCell' = true
  | .nil, o, _ => ⟨[], rfl, fun j u h => by simp at h, rfl, fun u h => by cases h⟩
  | .cons k sp n ats tx kids rest, o, h => by
    obtain ⟨⟨h0, h1, h2, ⟨qa, ca, h3, h3'⟩, h4, ⟨qk, ck, h5, h6, h7⟩⟩, hr⟩ := h
    obtain ⟨xs, x1, x2, x3, x4⟩ := lies_cells rest (o + 6) hr
    refine ⟨.int .i64 k :: .int .i64 sp :: .string n :: .slice qa ats.length ca :: .string tx :: .slice qk kids.len ck :: xs, by simp [x1, Forest.len]; omega, fun j u hj => ?_, ⟨qa, ca, qk, ck, xs, rfl, h6, h3', h7, x3⟩, fun u hu => ?_⟩
    · match j, hj with
      | 0, hj => simp at hj; rw [← hj]; exact h0
      | 1, hj => simp at hj; rw [← hj]; exact h1
      | 2, hj => simp at hj; rw [← hj]; exact h2
      | 3, hj => simp at hj; rw [← hj]; exact h3
      | 4, hj => simp at hj; rw [← hj]; exact h4
      | 5, hj => simp at hj; rw [← hj]; exact h5
      | j + 6, hj =>
        have := x2 j u (by simpa using hj)
        rw [show o + (j + 6) = o + 6 + j by omega]; exact this
    · simp only [List.mem_cons] at hu
      rcases hu with rfl | rfl | rfl | rfl | rfl | rfl | hu
      · rfl
      · rfl
      · rfl
      · rfl
      · rfl
      · rfl
      · exact x4 u hu
/-- A clone of nodes: a new row with the very cells. -/
theorem cloneN_any (q : Option Addr) (f : Forest) (c : Nat) (w : World) (h : Fo q f w) (hn : f.len ≤ 1000000) :
    Calls Tryd.prog 33 #[.slice q f.len c] w fun e w' => ∃ v' xs, e = .returned v' ∧ w'.ownsRow w.heap.size 31 6 v' f.len xs ∧ Desc f xs w ∧ Below w.heap.size w w' := by
  cases q with
  | none =>
    have h0 : f = .nil := by
      rcases h with h | ⟨g, o, h, _⟩
      · exact h
      · cases h
    subst h0
    refine (cloneN_nil 0 c w).mono ?_
    rintro e w' ⟨rfl, rfl⟩
    exact ⟨_, [], rfl, World.ownsRow_nil _ _ _ _, rfl, Below.refl _ _⟩
  | some ad =>
    obtain ⟨xs, x1, x2, x3, x4⟩ : ∃ xs : List Value, xs.length = f.len * 6 ∧ (∀ j u, xs[j]? = some u → w.cell? (ad.add j) = some u) ∧ Desc f xs w ∧ ∀ u ∈ xs, u.oneCell' = true := by
      rcases h with h | ⟨g, o, h, hl⟩
      · subst h; exact ⟨[], rfl, fun j u h => by simp at h, rfl, fun u h => by cases h⟩
      · injection h with h
        subst h
        obtain ⟨xs, x1, x2, x3, x4⟩ := lies_cells f o hl
        exact ⟨xs, x1, fun j u hj => by rw [add_at]; exact x2 j u hj, x3, x4⟩
    refine (cloneN_some ad f.len c xs w (hide x1) (hide x2) (hide x4) (by omega)).mono ?_
    rintro e w' ⟨v', rfl, hrow, hb⟩
    exact ⟨v', xs, rfl, hrow, x3, hb⟩
end Go.Proofs.YtpfnjgkfombmpaaDoor

/-
  Nodes that are copied, some of them not yet: plain facts.
-/
namespace Go.Proofs.YtpfnjgkfombmpaaDoor
open Go.RowKit
set_option linter.unusedVariables false
set_option linter.unusedSimpArgs false

theorem ats_uniq {g o : Nat} {w : World} {ats ats' : List (ByteArray × ByteArray)} (h : Cells2 g o ats w) (h' : Cells2 g o ats' w) (hl : ats.length = ats'.length) : ats = ats' := by
  apply List.ext_getElem hl
  intro k hk hk'
  obtain ⟨a1, a2⟩ := h k hk
  obtain ⟨b1, b2⟩ := h' k hk'
  rw [a1] at b1
  rw [a2] at b2
  simp only [Option.some.injEq, Value.string.injEq] at b1 b2
  have e1 : ats.getD k (ByteArray.empty, ByteArray.empty) = ats[k] := by simp [List.getD, List.getElem?_eq_getElem hk]
  have e2 : ats'.getD k (ByteArray.empty, ByteArray.empty) = ats'[k] := by simp [List.getD, List.getElem?_eq_getElem hk']
  unfold an at b1
  unfold av at b2
  rw [e1, e2] at b1 b2
  exact Prod.ext b1 b2
theorem Sl.uniq {q : Option Addr} {w : World} {ats ats' : List (ByteArray × ByteArray)} (h : Sl q ats w) (h' : Sl q ats' w) (hl : ats.length = ats'.length) : ats = ats' := by
  rcases h with rfl | ⟨g, o, hq, hc⟩
  · exact (List.eq_nil_of_length_eq_zero hl.symm).symm
  · rcases h' with rfl | ⟨g', o', hq', hc'⟩
    · exact List.eq_nil_of_length_eq_zero hl
    · rw [hq] at hq'
      injection hq' with hq'
      injection hq' with e1 e2
      subst e1 e2
      exact ats_uniq hc hc' hl
theorem Lies.uniq {w : World} : ∀ (f f' : Forest) (g o : Nat), Lies f g o w → Lies f' g o w → f.len = f'.len → f = f'
  | .nil, f', g, o, _, _, hl => (len_nil hl.symm).symm
  | .cons k sp n ats tx kids rest, .nil, g, o, _, _, hl => by simp [Forest.len] at hl
  | .cons k sp n ats tx kids rest, .cons k' sp' n' ats' tx' kids' rest', g, o, h, h', hl => by
    obtain ⟨⟨h0, h1, h2, ⟨qa, ca, h3, h3'⟩, h4, ⟨qk, ck, h5, h6, h7⟩⟩, hr⟩ := h
    obtain ⟨⟨i0, i1, i2, ⟨qa', ca', i3, i3'⟩, i4, ⟨qk', ck', i5, i6, i7⟩⟩, ir⟩ := h'
    rw [h0] at i0; rw [h1] at i1; rw [h2] at i2; rw [h3] at i3; rw [h4] at i4; rw [h5] at i5
    simp only [Option.some.injEq, Value.string.injEq, Value.int.injEq, Value.slice.injEq] at i0 i1 i2 i3 i4 i5
    obtain ⟨_, rfl⟩ := i0
    obtain ⟨_, rfl⟩ := i1
    subst i2 i4
    obtain ⟨rfl, e3, rfl⟩ := i3
    obtain ⟨rfl, e5, rfl⟩ := i5
    obtain rfl := h3'.uniq i3' e3
    obtain rfl := Lies.uniq rest rest' g (o + 6) hr ir (by simp [Forest.len] at hl; exact hl)
    have : kids = kids' := by
      rcases h7 with rfl | ⟨g1, o1, hq, hk⟩
      · exact (len_nil e5.symm).symm
      · rcases i7 with rfl | ⟨g2, o2, hq', hk'⟩
        · exact len_nil e5
        · rw [hq] at hq'
          injection hq' with hq'
          injection hq' with e1 e2
          subst e1 e2
          exact Lies.uniq kids kids' g1 o1 hk hk' e5
    subst this
    rfl
theorem Fo.uniq {q : Option Addr} {w : World} {f f' : Forest} (h : Fo q f w) (h' : Fo q f' w) (hl : f.len = f'.len) : f = f' := by
  rcases h with rfl | ⟨g, o, hq, hc⟩
  · exact (len_nil hl.symm).symm
  · rcases h' with rfl | ⟨g', o', hq', hc'⟩
    · exact len_nil hl
    · rw [hq] at hq'
      injection hq' with hq'
      injection hq' with e1 e2
      subst e1 e2
      exact Lies.uniq _ _ _ _ hc hc' hl

/-- Attributes in a block of their own, that is no row of nodes. -/
def AtOwn (B0 : Nat) (N : Nat → Bool) (q : Option Addr) (ats : List (ByteArray × ByteArray)) (w : World) : Prop :=
  ats = [] ∨ ∃ ga cur, q = some ⟨ga, 0, none⟩ ∧ B0 ≤ ga ∧ N ga = false ∧ Blk w ga cur 55 ∧ Cells2 ga 0 ats w
/-- Nodes whose attributes and kids lie as they lay at the beginning. -/
def Half (w0 : World) : Forest → Nat → Nat → World → Prop
  | .nil, _, _, _ => True
  | .cons k sp n ats tx kids rest, g, o, w =>
    (w.cell? ⟨g, o, none⟩ = some (.int .i64 k) ∧ w.cell? ⟨g, o + 1, none⟩ = some (.int .i64 sp) ∧ w.cell? ⟨g, o + 2, none⟩ = some (.string n) ∧
      (∃ qa ca, w.cell? ⟨g, o + 3, none⟩ = some (.slice qa ats.length ca) ∧ Sl qa ats w0) ∧ w.cell? ⟨g, o + 4, none⟩ = some (.string tx) ∧
      ∃ qk ck, w.cell? ⟨g, o + 5, none⟩ = some (.slice qk kids.len ck) ∧ kids.len ≤ ck ∧ Fo qk kids w0) ∧
    Half w0 rest g (o + 6) w
/-- Nodes in new memory; those at the places P are not gone through yet. -/
def Mix (w0 : World) (B0 : Nat) (N : Nat → Bool) (P : Nat → Nat → Prop) : Forest → Nat → Nat → World → Prop
  | .nil, _, _, _ => True
  | .cons k sp n ats tx kids rest, g, o, w =>
    ((N g = true ∧ o % 6 = 0) ∧ w.cell? ⟨g, o, none⟩ = some (.int .i64 k) ∧ w.cell? ⟨g, o + 1, none⟩ = some (.int .i64 sp) ∧ w.cell? ⟨g, o + 2, none⟩ = some (.string n) ∧ w.cell? ⟨g, o + 4, none⟩ = some (.string tx) ∧
      ∃ qa ca qk ck, w.cell? ⟨g, o + 3, none⟩ = some (.slice qa ats.length ca) ∧ w.cell? ⟨g, o + 5, none⟩ = some (.slice qk kids.len ck) ∧ kids.len ≤ ck ∧
        (P g o → Sl qa ats w0 ∧ Fo qk kids w0) ∧ (¬ P g o → AtOwn B0 N qa ats w) ∧ (¬ P g o → kids = .nil ∨ ∃ g', qk = some ⟨g', 0, none⟩ ∧ Mix w0 B0 N P kids g' 0 w)) ∧
    Mix w0 B0 N P rest g (o + 6) w
theorem Half.keep {w0 w w' : World} : ∀ (f : Forest) (g o : Nat), Half w0 f g o w → (∀ i v, o ≤ i → w.cell? ⟨g, i, none⟩ = some v → w'.cell? ⟨g, i, none⟩ = some v) → Half w0 f g o w'
  | .nil, g, o, _, _ => trivial
  | .cons k sp n ats tx kids rest, g, o, h, hc => by
    obtain ⟨⟨h0, h1, h2, ⟨qa, ca, h3, h3'⟩, h4, ⟨qk, ck, h5, h6, h7⟩⟩, hr⟩ := h
    exact ⟨⟨hc _ _ (by omega) h0, hc _ _ (by omega) h1, hc _ _ (by omega) h2, ⟨qa, ca, hc _ _ (by omega) h3, h3'⟩, hc _ _ (by omega) h4, ⟨qk, ck, hc _ _ (by omega) h5, h6, h7⟩⟩, Half.keep rest g (o + 6) hr fun i v hi => hc i v (by omega)⟩
theorem Half.mix {w0 w : World} {B0 : Nat} {N : Nat → Bool} {P : Nat → Nat → Prop} {g : Nat} (hN : N g = true) : ∀ (f : Forest) (o : Nat), Half w0 f g o w → o % 6 = 0 → (∀ j, j < f.len → P g (o + 6 * j)) → Mix w0 B0 N P f g o w
  | .nil, o, _, _, _ => trivial
  | .cons k sp n ats tx kids rest, o, h, ho, hP => by
    obtain ⟨⟨h0, h1, h2, ⟨qa, ca, h3, h3'⟩, h4, ⟨qk, ck, h5, h6, h7⟩⟩, hr⟩ := h
    have hp : P g o := by have := hP 0 (by simp [Forest.len]); simpa using this
    exact ⟨⟨⟨hN, ho⟩, h0, h1, h2, h4, qa, ca, qk, ck, h3, h5, h6, fun _ => ⟨h3', h7⟩, fun h => absurd hp h, fun h => absurd hp h⟩, Half.mix hN rest (o + 6) hr (by omega) fun j hj => by
      have := hP (j + 1) (by simp [Forest.len]; omega)
      rw [show o + 6 + 6 * j = o + 6 * (j + 1) by omega]; exact this⟩
theorem Desc.half {w0 w : World} {g : Nat} : ∀ (f : Forest) (xs : List Value) (o : Nat), (∀ j u, xs[j]? = some u → w.cell? ⟨g, o + j, none⟩ = some u) → Desc f xs w0 → Half w0 f g o w
  | .nil, xs, o, hc, h => trivial
  | .cons k sp n ats tx kids rest, xs, o, hc, ⟨qa, ca, qk, ck, r, h1, h2, h3, h4, h5⟩ => by
    subst h1
    exact ⟨⟨hc 0 _ rfl, hc 1 _ rfl, hc 2 _ rfl, ⟨qa, ca, hc 3 _ rfl, h3⟩, hc 4 _ rfl, ⟨qk, ck, hc 5 _ rfl, h2, h4⟩⟩, Desc.half rest r (o + 6) (fun j u hj => by have := hc (j + 6) u (by simpa using hj); rw [show o + 6 + j = o + (j + 6) by omega]; exact this) h5⟩
/-- Nothing but one block changes, and new ones come. -/
def Only (b : Nat) (w w' : World) : Prop := w.heap.size ≤ w'.heap.size ∧ ∀ i, i < w.heap.size → i ≠ b → w'.heap[i]? = w.heap[i]?
theorem Only.cell {b : Nat} {w w' : World} (h : Only b w w') {g o : Nat} {v : Value} (hc : w.cell? ⟨g, o, none⟩ = some v) (hg : g ≠ b) : w'.cell? ⟨g, o, none⟩ = some v :=
  (World.cell?_of_block (w := w) (a := ⟨g, o, none⟩) (h.2 g (World.block_lt_of_cell? w ⟨g, o, none⟩ hc) hg)).trans hc
theorem Only.blk {b : Nat} {w w' : World} (h : Only b w w') {g : Nat} {vs : Array Value} {t : TypeId} (hc : Blk w g vs t) (hg : g ≠ b) : Blk w' g vs t := (h.2 g hc.lt hg).trans hc
theorem Only.trans {b : Nat} {w w1 w2 : World} (h : Only b w w1) (h' : Only b w1 w2) : Only b w w2 := ⟨Nat.le_trans h.1 h'.1, fun i hi hb => (h'.2 i (Nat.lt_of_lt_of_le hi h.1) hb).trans (h.2 i hi hb)⟩
theorem Only.set (w : World) (b o : Nat) (v : Value) : Only b w (w.setCell ⟨b, o, none⟩ v) := ⟨by simp, fun i _ hb => Below.heap_setCell w ⟨b, o, none⟩ v i hb⟩
theorem AtOwn.only {B0 b : Nat} {N : Nat → Bool} {q : Option Addr} {ats : List (ByteArray × ByteArray)} {w w' : World} (h : AtOwn B0 N q ats w) (ho : Only b w w') (hb : ∀ cur, ¬ Blk w b cur 55) : AtOwn B0 N q ats w' :=
  h.imp id fun ⟨ga, cur, h1, h2, h3, h4, h5⟩ => by
    have hne : ga ≠ b := fun e => hb cur (e ▸ h4)
    exact ⟨ga, cur, h1, h2, h3, ho.blk h4 hne, fun k hk => ⟨ho.cell (h5 k hk).1 hne, ho.cell (h5 k hk).2 hne⟩⟩
theorem Mix.only {w0 w w' : World} {B0 b : Nat} {N : Nat → Bool} {P : Nat → Nat → Prop} (ho : Only b w w') (hb : ∀ cur, ¬ Blk w b cur 55) (hN : ∀ i, N i = true → i ≠ b) : ∀ (f : Forest) (g o : Nat), Mix w0 B0 N P f g o w → Mix w0 B0 N P f g o w'
  | .nil, g, o, _ => trivial
  | .cons k sp n ats tx kids rest, g, o, ⟨⟨⟨hg, ho6⟩, h0, h1, h2, h4, qa, ca, qk, ck, h3, h5, h6, h7, h8, h9⟩, hr⟩ => by
    have hne := hN g hg
    refine ⟨⟨⟨hg, ho6⟩, ho.cell h0 hne, ho.cell h1 hne, ho.cell h2 hne, ho.cell h4 hne, qa, ca, qk, ck, ho.cell h3 hne, ho.cell h5 hne, h6, h7, fun hp => (h8 hp).only ho hb, fun hp => ?_⟩, Mix.only ho hb hN rest g (o + 6) hr⟩
    rcases h9 hp with h | ⟨g', hq, hm⟩
    · exact Or.inl h
    · exact Or.inr ⟨g', hq, Mix.only ho hb hN kids g' 0 hm⟩
/-- One node is gone through. -/
theorem Mix.step {w0 w w' : World} {B0 g o : Nat} {N N' : Nat → Bool} {P P' : Nat → Nat → Prop} {ats : List (ByteArray × ByteArray)} {kids : Forest} {qa qk qa' qk' : Option Addr} {ca ck ca' ck' : Nat}
    (c3 : w.cell? ⟨g, o + 3, none⟩ = some (.slice qa ats.length ca)) (c5 : w.cell? ⟨g, o + 5, none⟩ = some (.slice qk kids.len ck)) (hsl : Sl qa ats w0) (hfo : Fo qk kids w0)
    (d3 : w'.cell? ⟨g, o + 3, none⟩ = some (.slice qa' ats.length ca')) (d5 : w'.cell? ⟨g, o + 5, none⟩ = some (.slice qk' kids.len ck')) (hck : kids.len ≤ ck') (hao : AtOwn B0 N' qa' ats w')
    (hki : kids = .nil ∨ ∃ g', qk' = some ⟨g', 0, none⟩ ∧ Mix w0 B0 N' P' kids g' 0 w')
    (hp : P g o) (hp' : ¬ P' g o) (ho6 : o % 6 = 0) (hNg : N g = true)
    (hpp : ∀ g' o', g' < w.heap.size → ¬ (g' = g ∧ o' = o) → (P g' o' ↔ P' g' o'))
    (hcell : ∀ g' o' v, w.cell? ⟨g', o', none⟩ = some v → ¬ (g' = g ∧ (o' = o + 3 ∨ o' = o + 5)) → w'.cell? ⟨g', o', none⟩ = some v)
    (hN : ∀ i, N i = true → N' i = true) (hN' : ∀ i, i < w.heap.size → N i = false → N' i = false) (hblk : ∀ i, i < w.heap.size → i ≠ g → w'.heap[i]? = w.heap[i]?) :
    ∀ (f : Forest) (g1 o1 : Nat), Mix w0 B0 N P f g1 o1 w → Mix w0 B0 N' P' f g1 o1 w'
  | .nil, g1, o1, _ => trivial
  | .cons k sp n ats1 tx kids1 rest, g1, o1, ⟨⟨⟨hg, h16⟩, h0, h1, h2, h4, qa1, ca1, qk1, ck1, h3, h5, h6, h7, h8, h9⟩, hr⟩ => by
    have hrest := Mix.step c3 c5 hsl hfo d3 d5 hck hao hki hp hp' ho6 hNg hpp hcell hN hN' hblk rest g1 (o1 + 6) hr
    have hlt : g1 < w.heap.size := World.block_lt_of_cell? w ⟨g1, o1, none⟩ h0
    have hc : ∀ i v, i < 6 → i ≠ 3 → i ≠ 5 → w.cell? ⟨g1, o1 + i, none⟩ = some v → w'.cell? ⟨g1, o1 + i, none⟩ = some v := fun i v hi e3 e5 hv => hcell g1 (o1 + i) v hv (by omega)
    refine ⟨⟨⟨hN g1 hg, h16⟩, hc 0 _ (by omega) (by omega) (by omega) h0, hc 1 _ (by omega) (by omega) (by omega) h1, hc 2 _ (by omega) (by omega) (by omega) h2, hc 4 _ (by omega) (by omega) (by omega) h4, ?_⟩, hrest⟩
    by_cases he : g1 = g ∧ o1 = o
    · obtain ⟨rfl, rfl⟩ := he
      obtain ⟨s1, s2⟩ := h7 hp
      rw [h3] at c3
      rw [h5] at c5
      simp only [Option.some.injEq, Value.slice.injEq] at c3 c5
      obtain ⟨rfl, e3, rfl⟩ := c3
      obtain ⟨rfl, e5, rfl⟩ := c5
      obtain rfl := s1.uniq hsl e3
      obtain rfl := s2.uniq hfo e5
      exact ⟨qa', ca', qk', ck', d3, d5, hck, fun h => absurd h hp', fun _ => hao, fun _ => hki⟩
    · have hiff := hpp g1 o1 hlt he
      refine ⟨qa1, ca1, qk1, ck1, hcell _ _ _ h3 (by omega), hcell _ _ _ h5 (by omega), h6, fun h => h7 (hiff.2 h), fun h => ?_, fun h => ?_⟩
      · refine (h8 fun h' => h (hiff.1 h')).imp id fun ⟨ga, cur, x1, x2, x3, x4, x5⟩ => ?_
        have hne : ga ≠ g := fun e => by rw [e, hNg] at x3; cases x3
        have hb := hblk ga x4.lt hne
        exact ⟨ga, cur, x1, x2, hN' ga x4.lt x3, hb.trans x4, fun k hk => ⟨hcell _ _ _ (x5 k hk).1 (fun h => hne h.1), hcell _ _ _ (x5 k hk).2 (fun h => hne h.1)⟩⟩
      · refine (h9 fun h' => h (hiff.1 h')).imp id fun ⟨g', hq, hm⟩ => ⟨g', hq, ?_⟩
        exact Mix.step c3 c5 hsl hfo d3 d5 hck hao hki hp hp' ho6 hNg hpp hcell hN hN' hblk kids1 g' 0 hm
/-- All are gone through. -/
theorem Mix.done {w0 w : World} {B0 : Nat} {N : Nat → Bool} {P : Nat → Nat → Prop} (hP : ∀ g o, ¬ P g o) (hN : ∀ i, N i = true → B0 ≤ i) : ∀ (f : Forest) (g o : Nat), Mix w0 B0 N P f g o w → Lies f g o (mask (hiP B0) w)
  | .nil, g, o, _ => trivial
  | .cons k sp n ats tx kids rest, g, o, ⟨⟨⟨hg, h16⟩, h0, h1, h2, h4, qa, ca, qk, ck, h3, h5, h6, h7, h8, h9⟩, hr⟩ => by
    have hp := hP g o
    have hm : hiP B0 g = false := hiP_not (hN g hg)
    refine ⟨⟨mask_cell.2 ⟨hm, h0⟩, mask_cell.2 ⟨hm, h1⟩, mask_cell.2 ⟨hm, h2⟩, ⟨qa, ca, mask_cell.2 ⟨hm, h3⟩, ?_⟩, mask_cell.2 ⟨hm, h4⟩, ⟨qk, ck, mask_cell.2 ⟨hm, h5⟩, h6, ?_⟩⟩, Mix.done hP hN rest g (o + 6) hr⟩
    · exact (h8 hp).imp id fun ⟨ga, cur, x1, x2, x3, x4, x5⟩ => ⟨ga, 0, x1, fun k hk => ⟨mask_cell.2 ⟨hiP_not x2, (x5 k hk).1⟩, mask_cell.2 ⟨hiP_not x2, (x5 k hk).2⟩⟩⟩
    · exact (h9 hp).imp id fun ⟨g', hq, hm⟩ => ⟨g', 0, hq, Mix.done hP hN kids g' 0 hm⟩
end Go.Proofs.YtpfnjgkfombmpaaDoor

/-
  What holds all along while nodes are copied: plain facts.
-/
namespace Go.Proofs.YtpfnjgkfombmpaaDoor
open Go.RowKit
set_option linter.unusedVariables false
set_option linter.unusedSimpArgs false

def inSt (st : List Entry) (g o : Nat) : Prop := ∃ e ∈ st, ∃ o0 j, e.2.1 = some ⟨g, o0, none⟩ ∧ j < e.1.len ∧ o = o0 + 6 * j
def ApE (a b : Entry) : Prop := a.1 = .nil ∨ b.1 = .nil ∨ ∀ g o o', a.2.1 = some ⟨g, o, none⟩ → b.2.1 = some ⟨g, o', none⟩ → False
structure CpI (w0 : World) (N : Nat → Bool) (st : List Entry) (f : Forest) (q : Option Addr) (w : World) : Prop where
  nb : ∀ i, N i = true → w0.heap.size ≤ i ∧ ∃ cur, Blk w i cur 31
  stk : ∀ e ∈ st, e.1.len ≤ e.2.2 ∧ (e.1 = .nil ∨ ∃ g o, e.2.1 = some ⟨g, o, none⟩ ∧ o % 6 = 0 ∧ N g = true ∧ Half w0 e.1 g o w)
  ap : st.Pairwise ApE
  top : f = .nil ∨ ∃ g, q = some ⟨g, 0, none⟩ ∧ Mix w0 w0.heap.size N (inSt st) f g 0 w
  bel : Below w0.heap.size w0 w
/-- What the copying of one node leaves. -/
structure C1S (w0 : World) (g o : Nat) (ats : List (ByteArray × ByteArray)) (kids : Forest) (W W' : World) (qa' : Option Addr) (ca' : Nat) (qk' : Option Addr) (ck' : Nat) : Prop where
  size : W.heap.size ≤ W'.heap.size
  blk : ∀ i, i < W.heap.size → i ≠ g → W'.heap[i]? = W.heap[i]?
  row : ∃ cur', Blk W' g cur' 31
  d3 : W'.cell? ⟨g, o + 3, none⟩ = some (.slice qa' ats.length ca')
  d5 : W'.cell? ⟨g, o + 5, none⟩ = some (.slice qk' kids.len ck')
  oth : ∀ i v, i ≠ o + 3 → i ≠ o + 5 → W.cell? ⟨g, i, none⟩ = some v → W'.cell? ⟨g, i, none⟩ = some v
  at' : ats = [] ∨ ∃ ga cur, qa' = some ⟨ga, 0, none⟩ ∧ W.heap.size ≤ ga ∧ Blk W' ga cur 55 ∧ Cells2 ga 0 ats W'
  ki : kids = .nil ∨ ∃ g' cur, qk' = some ⟨g', 0, none⟩ ∧ W.heap.size ≤ g' ∧ Blk W' g' cur 31 ∧ Half w0 kids g' 0 W'
  ck : kids.len ≤ ck'
  bel : Below w0.heap.size w0 W'
theorem CpI.only {w0 w w' : World} {N : Nat → Bool} {st : List Entry} {f : Forest} {q : Option Addr} {b : Nat} (h : CpI w0 N st f q w) (ho : Only b w w') (hA : ∀ cur, ¬ Blk w b cur 55) (hN : ∀ cur, ¬ Blk w b cur 31) (hb : Below w0.heap.size w0 w') : CpI w0 N st f q w' := by
  have hne : ∀ i, N i = true → i ≠ b := fun i hi e => by
    obtain ⟨_, cur, hc⟩ := h.nb i hi
    exact hN cur (e ▸ hc)
  refine ⟨fun i hi => ?_, fun e he => ?_, h.ap, ?_, hb⟩
  · obtain ⟨h1, cur, hc⟩ := h.nb i hi
    exact ⟨h1, cur, ho.blk hc (hne i hi)⟩
  · obtain ⟨h1, h2⟩ := h.stk e he
    refine ⟨h1, h2.imp id fun ⟨g, o, x1, x2, x3, x4⟩ => ⟨g, o, x1, x2, x3, x4.keep _ _ _ fun i v _ hv => ho.cell hv (hne g x3)⟩⟩
  · exact h.top.imp id fun ⟨g, x1, x2⟩ => ⟨g, x1, x2.only ho hA hne⟩
theorem blk_types {w : World} {b : Nat} {c c' : Array Value} {t t' : TypeId} (h : Blk w b c t) (h' : Blk w b c' t') : t = t' := by
  unfold Blk at h h'
  rw [h] at h'
  simp at h'
  exact h'.2
theorem CpI.pop {w0 w : World} {N : Nat → Bool} {st : List Entry} {f : Forest} {q : Option Addr} {qe : Option Addr} {ce : Nat} (h : CpI w0 N ((.nil, qe, ce) :: st) f q w) : CpI w0 N st f q w := by
  have hs : ∀ g o, inSt ((.nil, qe, ce) :: st) g o ↔ inSt st g o := fun g o => ⟨fun ⟨e, he, o0, j, x1, x2, x3⟩ => by
      rcases List.mem_cons.1 he with rfl | he
      · simp [Forest.len] at x2
      · exact ⟨e, he, o0, j, x1, x2, x3⟩, fun ⟨e, he, r⟩ => ⟨e, List.mem_cons_of_mem _ he, r⟩⟩
  have he : inSt ((.nil, qe, ce) :: st) = inSt st := funext fun g => funext fun o => propext (hs g o)
  have ht := h.top
  rw [he] at ht
  exact ⟨h.nb, fun e he => h.stk e (List.mem_cons_of_mem _ he), (List.pairwise_cons.1 h.ap).2, ht, h.bel⟩
theorem CpI.step {w0 W W' : World} {N : Nat → Bool} {st : List Entry} {f : Forest} {q : Option Addr} {k sp : Int} {n : ByteArray} {ats : List (ByteArray × ByteArray)} {tx : ByteArray} {kids rest : Forest} {g o ce : Nat} {qr qa qk qa' qk' : Option Addr} {ca ck ca' ck' : Nat}
    (h : CpI w0 N ((.cons k sp n ats tx kids rest, some ⟨g, o, none⟩, ce) :: st) f q W) (hs : C1S w0 g o ats kids W W' qa' ca' qk' ck')
    (c3 : W.cell? ⟨g, o + 3, none⟩ = some (.slice qa ats.length ca)) (c5 : W.cell? ⟨g, o + 5, none⟩ = some (.slice qk kids.len ck)) (hsl : Sl qa ats w0) (hfo : Fo qk kids w0)
    (hqr : rest = .nil ∨ qr = some ⟨g, o + 6, none⟩) : ∃ N', CpI w0 N' ((kids, qk', ck') :: (rest, qr, ce - 1) :: st) f q W' := by
  obtain ⟨hce, hh⟩ := h.stk _ (List.mem_cons_self ..)
  have hce' : rest.len + 1 ≤ ce := hce
  obtain ⟨ho6, hNg, hhalf⟩ : o % 6 = 0 ∧ N g = true ∧ Half w0 (.cons k sp n ats tx kids rest) g o W := by
    rcases hh with hh | ⟨g1, o1, x1, x2, x3, x4⟩
    · cases hh
    · have x1' : (some ⟨g, o, none⟩ : Option Addr) = some ⟨g1, o1, none⟩ := x1
      injection x1' with x1'
      injection x1' with e1 e2
      subst e1 e2
      exact ⟨x2, x3, x4⟩
  obtain ⟨hap0, hap⟩ := List.pairwise_cons.1 h.ap
  have hlt : ∀ i, N i = true → i < W.heap.size := fun i hi => by obtain ⟨_, cur, hc⟩ := h.nb i hi; exact hc.lt
  have hgl := hlt g hNg
  have hw0 : w0.heap.size ≤ W.heap.size := h.bel.size
  have hcell : ∀ g' o' v, W.cell? ⟨g', o', none⟩ = some v → ¬ (g' = g ∧ (o' = o + 3 ∨ o' = o + 5)) → W'.cell? ⟨g', o', none⟩ = some v := fun g' o' v hv hx => by
    by_cases hg : g' = g
    · subst hg
      exact hs.oth o' v (fun e => hx ⟨rfl, Or.inl e⟩) (fun e => hx ⟨rfl, Or.inr e⟩) hv
    · exact (World.cell?_of_block (w := W) (a := ⟨g', o', none⟩) (hs.blk g' (World.block_lt_of_cell? W ⟨g', o', none⟩ hv) hg)).trans hv
  -- the rows that are there
  have hrestE : rest = .nil ∨ (qr = some ⟨g, o + 6, none⟩ ∧ Half w0 rest g (o + 6) W') := by
    refine hqr.imp id fun e => ⟨e, hhalf.2.keep _ _ _ fun i v hi hv => hcell g i v hv (by omega)⟩
  have hstE : ∀ e ∈ st, e.1 = .nil ∨ ∃ g1 o1, e.2.1 = some ⟨g1, o1, none⟩ ∧ o1 % 6 = 0 ∧ N g1 = true ∧ g1 ≠ g ∧ Half w0 e.1 g1 o1 W' := fun e he => by
    by_cases hn : e.1 = .nil
    · exact Or.inl hn
    rcases (h.stk e (List.mem_cons_of_mem _ he)).2 with hh | ⟨g1, o1, x1, x2, x3, x4⟩
    · exact Or.inl hh
    have hne : g1 ≠ g := fun e1 => by
      subst e1
      rcases hap0 e he with hh | hh | hh
      · cases hh
      · exact hn hh
      · exact hh g1 o o1 rfl x1
    exact Or.inr ⟨g1, o1, x1, x2, x3, hne, x4.keep _ _ _ fun i v hi hv => hcell g1 i v hv (fun h => hne h.1)⟩
  -- the new set of rows
  have main : ∀ N' : Nat → Bool, (∀ i, N i = true → N' i = true) → (∀ i, i < W.heap.size → N i = false → N' i = false) → (∀ i, N' i = true → N i = true ∨ (W.heap.size ≤ i ∧ ∃ cur, Blk W' i cur 31)) → (kids = .nil ∨ ∃ g' cur, qk' = some ⟨g', 0, none⟩ ∧ W.heap.size ≤ g' ∧ N' g' = true ∧ Blk W' g' cur 31 ∧ Half w0 kids g' 0 W') → CpI w0 N' ((kids, qk', ck') :: (rest, qr, ce - 1) :: st) f q W' := fun N' hN hN' hNn hki => by
    refine ⟨fun i hi => ?_, fun e he => ?_, ?_, ?_, hs.bel⟩
    · rcases hNn i hi with hi | ⟨x1, x2⟩
      · obtain ⟨y1, cur, y2⟩ := h.nb i hi
        refine ⟨y1, ?_⟩
        by_cases hg : i = g
        · subst hg; exact hs.row
        · exact ⟨cur, (hs.blk i y2.lt hg).trans y2⟩
      · exact ⟨by omega, x2⟩
    · rcases List.mem_cons.1 he with rfl | he
      · exact ⟨hs.ck, hki.imp id fun ⟨g', cur, x1, x2, x3, x4, x5⟩ => ⟨g', 0, x1, rfl, x3, x5⟩⟩
      rcases List.mem_cons.1 he with rfl | he
      · refine ⟨by show rest.len ≤ ce - 1; omega, hrestE.imp id fun ⟨x1, x2⟩ => ⟨g, o + 6, x1, by omega, hN g hNg, x2⟩⟩
      · exact ⟨(h.stk e (List.mem_cons_of_mem _ he)).1, (hstE e he).imp id fun ⟨g1, o1, x1, x2, x3, _, x4⟩ => ⟨g1, o1, x1, x2, hN g1 x3, x4⟩⟩
    · refine List.pairwise_cons.2 ⟨fun e he => ?_, List.pairwise_cons.2 ⟨fun e he => ?_, hap⟩⟩
      · rcases hki with hk | ⟨g', cur, x1, x2, _⟩
        · exact Or.inl hk
        rcases List.mem_cons.1 he with rfl | he
        · rcases hrestE with hr | ⟨y1, y2⟩
          · exact Or.inr (Or.inl hr)
          · refine Or.inr (Or.inr fun g1 o1 o2 z1 z2 => ?_)
            have z1' : qk' = some ⟨g1, o1, none⟩ := z1
            have z2' : qr = some ⟨g1, o2, none⟩ := z2
            rw [x1] at z1'
            rw [y1] at z2'
            injection z1' with z1'
            injection z1' with a1 a2
            injection z2' with z2'
            injection z2' with b1 b2
            omega
        · rcases hstE e he with hr | ⟨g2, o2, y1, _, y2, _⟩
          · exact Or.inr (Or.inl hr)
          · refine Or.inr (Or.inr fun g1 o1 o3 z1 z2 => ?_)
            have z1' : qk' = some ⟨g1, o1, none⟩ := z1
            rw [x1] at z1'
            rw [y1] at z2
            injection z1' with z1'
            injection z1' with a1 a2
            injection z2 with z2
            injection z2 with b1 b2
            have := hlt g2 y2
            omega
      · rcases hrestE with hr | ⟨y1, y2⟩
        · exact Or.inl hr
        rcases hap0 e he with hh | hh | hh
        · cases hh
        · exact Or.inr (Or.inl hh)
        · refine Or.inr (Or.inr fun g1 o1 o2 z1 z2 => ?_)
          have z1' : qr = some ⟨g1, o1, none⟩ := z1
          rw [y1] at z1'
          injection z1' with z1'
          injection z1' with a1 a2
          subst a1
          exact hh g o o2 rfl z2
    · refine h.top.imp id fun ⟨gt, x1, x2⟩ => ⟨gt, x1, ?_⟩
      refine Mix.step c3 c5 hsl hfo hs.d3 hs.d5 hs.ck ?_ ?_ ⟨_, List.mem_cons_self .., o, 0, rfl, by simp [Forest.len], by simp⟩ ?_ ho6 hNg ?_ hcell hN hN' hs.blk f gt 0 x2
      · refine hs.at'.imp id fun ⟨ga, cur, y1, y2, y3, y4⟩ => ⟨ga, cur, y1, by omega, ?_, y3, y4⟩
        cases hx : N' ga with
        | false => rfl
        | true =>
          rcases hNn ga hx with hx | ⟨_, cur', hc⟩
          · have := hlt ga hx; omega
          · exact absurd (blk_types y3 hc) (by decide)
      · refine hki.imp id fun ⟨g', cur, y1, y2, y3, y4, y5⟩ => ⟨g', y1, y5.mix y3 _ _ rfl fun j hj => ?_⟩
        exact ⟨_, List.mem_cons_self .., 0, j, y1, hj, by omega⟩
      · rintro ⟨e, he, o0, j, y1, y2, y3⟩
        rcases List.mem_cons.1 he with rfl | he
        · rcases hki with hk | ⟨g', cur, z1, z2, _⟩
          · have y2' : j < kids.len := y2
            rw [hk] at y2'; simp [Forest.len] at y2'
          · have y1' : qk' = some ⟨g, o0, none⟩ := y1
            rw [z1] at y1'
            injection y1' with y1'
            injection y1' with a1 a2
            omega
        rcases List.mem_cons.1 he with rfl | he
        · rcases hrestE with hr | ⟨z1, _⟩
          · have y2' : j < rest.len := y2
            rw [hr] at y2'; simp [Forest.len] at y2'
          · have y1' : qr = some ⟨g, o0, none⟩ := y1
            rw [z1] at y1'
            injection y1' with y1'
            injection y1' with a1 a2
            omega
        · rcases hstE e he with hr | ⟨g1, o1, z1, _, _, z2, _⟩
          · rw [hr] at y2; simp [Forest.len] at y2
          · rw [z1] at y1
            injection y1 with y1
            injection y1 with a1 a2
            exact z2 a1
      · intro g' o' hg' hne
        constructor
        · rintro ⟨e, he, o0, j, y1, y2, y3⟩
          rcases List.mem_cons.1 he with rfl | he
          · have y1' : (some ⟨g, o, none⟩ : Option Addr) = some ⟨g', o0, none⟩ := y1
            injection y1' with y1'
            injection y1' with a1 a2
            have y2' : j < rest.len + 1 := y2
            have hj : j ≠ 0 := fun e => hne ⟨a1.symm, by omega⟩
            rcases hrestE with hr | ⟨z1, _⟩
            · rw [hr] at y2'; simp [Forest.len] at y2'; omega
            · exact ⟨_, List.mem_cons_of_mem _ (List.mem_cons_self ..), o + 6, j - 1, by rw [← a1]; exact z1, by show j - 1 < rest.len; omega, by omega⟩
          · exact ⟨e, List.mem_cons_of_mem _ (List.mem_cons_of_mem _ he), o0, j, y1, y2, y3⟩
        · rintro ⟨e, he, o0, j, y1, y2, y3⟩
          rcases List.mem_cons.1 he with rfl | he
          · rcases hki with hk | ⟨g2, cur, z1, z2, _⟩
            · have y2' : j < kids.len := y2
              rw [hk] at y2'; simp [Forest.len] at y2'
            · have y1' : qk' = some ⟨g', o0, none⟩ := y1
              rw [z1] at y1'
              injection y1' with y1'
              injection y1' with a1 a2
              omega
          rcases List.mem_cons.1 he with rfl | he
          · rcases hrestE with hr | ⟨z1, _⟩
            · have y2' : j < rest.len := y2
              rw [hr] at y2'; simp [Forest.len] at y2'
            · have y1' : qr = some ⟨g', o0, none⟩ := y1
              rw [z1] at y1'
              injection y1' with y1'
              injection y1' with a1 a2
              have y2' : j < rest.len := y2
              exact ⟨_, List.mem_cons_self .., o, j + 1, by rw [a1], by show j + 1 < rest.len + 1; omega, by omega⟩
          · exact ⟨e, List.mem_cons_of_mem _ he, o0, j, y1, y2, y3⟩
  rcases hs.ki with hk | ⟨g', cur, x1, x2, x3, x4⟩
  · exact ⟨N, main N (fun _ h => h) (fun _ _ h => h) (fun _ h => Or.inl h) (Or.inl hk)⟩
  · refine ⟨fun i => N i || (i == g'), main _ (fun i hi => by simp [hi]) (fun i hi hf => by simp [hf]; omega) (fun i hi => ?_) (Or.inr ⟨g', cur, x1, x2, by simp, x3, x4⟩)⟩
    simp at hi
    exact hi.imp id fun e => by subst e; exact ⟨x2, cur, x3⟩
end Go.Proofs.YtpfnjgkfombmpaaDoor

/-
  What the copying of one node does (the closure in tree.Copy), and tree.walk under it (made by mk_ycp.py).
-/
namespace Go.Proofs.YtpfnjgkfombmpaaDoor
open Go.RowKit
set_option linter.unusedVariables false
set_option linter.unusedSimpArgs false

theorem cloneA_own (q : Option Addr) (ats : List (ByteArray × ByteArray)) (c : Nat) (w0 w : World) (h : Sl q ats w0) (hb : Below w0.heap.size w0 w) (hn : ats.length ≤ 1000000) :
    Calls Tryd.prog 36 #[.slice q ats.length c] w fun e w' => ∃ q' c', e = .returned (.slice q' ats.length c') ∧ (ats = [] ∨ ∃ ga cur, q' = some ⟨ga, 0, none⟩ ∧ w.heap.size ≤ ga ∧ Blk w' ga cur 55 ∧ Cells2 ga 0 ats w') ∧ Below w.heap.size w w' := by
  cases q with
  | none =>
    have h0 : ats = [] := by
      rcases h with h | ⟨g, o, h, _⟩
      · exact h
      · cases h
    subst h0
    refine (cloneA_nil 0 c w).mono ?_
    rintro e w' ⟨rfl, rfl⟩
    exact ⟨none, 0, rfl, Or.inl rfl, Below.refl _ _⟩
  | some ad =>
    have hcs : ∀ j u, (flatA ats)[j]? = some u → w.cell? (ad.add j) = some u := by
      rcases h with h | ⟨g, o, h, hc⟩
      · subst h; intro j u hj; simp [flatA] at hj
      · injection h with h
        subst h
        intro j u hj
        rw [add_at]
        have hlt : j < ats.length * 2 := by rw [← flatA_len]; exact (List.getElem?_eq_some_iff.1 hj).1
        have hk : j / 2 < ats.length := by omega
        obtain ⟨g1, g2⟩ := flatA_get ats (j / 2) hk
        obtain ⟨c1, c2⟩ := hc (j / 2) hk
        rcases Nat.mod_two_eq_zero_or_one j with e | e
        · rw [show j = j / 2 * 2 by omega] at hj ⊢
          rw [g1] at hj
          rw [← hj]; exact cell_later hb c1
        · rw [show j = j / 2 * 2 + 1 by omega] at hj ⊢
          rw [g2] at hj
          rw [← hj, ← Nat.add_assoc]; exact cell_later hb c2
    refine (cloneA_some ad ats.length c (flatA ats) w (hide (flatA_len ats)) (hide hcs) (hide (flatA_one ats)) (by omega)).mono ?_
    rintro e w' ⟨v', rfl, hrow, hb⟩
    obtain ⟨q', cap, rfl, hcl⟩ := cells_of_owns hrow
    refine ⟨q', cap, rfl, ?_, hb⟩
    rcases hcl with h | ⟨ga, hq, hx, hc⟩
    · exact Or.inl h
    · right
      rcases hrow.2 with ⟨h1, h0⟩ | ⟨g, cap', cur, h1, hb, h2, h3, _⟩
      · rw [hq] at h1; injection h1 with h1; cases h1
      · injection h1 with h4 h5 h6
        rw [hq] at h4
        injection h4 with h4
        injection h4 with h4
        subst h4
        exact ⟨ga, cur, hq, hb, h2, hc⟩
theorem cloneN_own (q : Option Addr) (f : Forest) (c : Nat) (w0 w : World) (h : Fo q f w0) (hb : Below w0.heap.size w0 w) (hn : f.len ≤ 1000000) :
    Calls Tryd.prog 33 #[.slice q f.len c] w fun e w' => ∃ q' c', e = .returned (.slice q' f.len c') ∧ f.len ≤ c' ∧ (f = .nil ∨ ∃ g cur, q' = some ⟨g, 0, none⟩ ∧ w.heap.size ≤ g ∧ Blk w' g cur 31 ∧ Half w0 f g 0 w') ∧ Below w.heap.size w w' := by
  cases q with
  | none =>
    have h0 : f = .nil := by
      rcases h with h | ⟨g, o, h, _⟩
      · exact h
      · cases h
    subst h0
    refine (cloneN_nil 0 c w).mono ?_
    rintro e w' ⟨rfl, rfl⟩
    exact ⟨none, 0, rfl, Nat.le_refl _, Or.inl rfl, Below.refl _ _⟩
  | some ad =>
    obtain ⟨xs, x1, x2, x3, x4⟩ : ∃ xs : List Value, xs.length = f.len * 6 ∧ (∀ j u, xs[j]? = some u → w.cell? (ad.add j) = some u) ∧ Desc f xs w0 ∧ ∀ u ∈ xs, u.oneCell' = true := by
      rcases h with h | ⟨g, o, h, hl⟩
      · subst h; exact ⟨[], rfl, fun j u h => by simp at h, rfl, fun u h => by cases h⟩
      · injection h with h
        subst h
        obtain ⟨xs, x1, x2, x3, x4⟩ := lies_cells f o hl
        exact ⟨xs, x1, fun j u hj => by rw [add_at]; exact cell_later hb (x2 j u hj), x3, x4⟩
    refine (cloneN_some ad f.len c xs w (hide x1) (hide x2) (hide x4) (by omega)).mono ?_
    rintro e w' ⟨v', rfl, hrow, hb⟩
    obtain ⟨a, cap, hv⟩ := slice_n hrow
    subst hv
    rcases hrow.2 with ⟨h1, h0⟩ | ⟨g, cap', cur, h1, hb', h2, h3, _⟩
    · exact ⟨a, cap, rfl, by rw [h0]; exact Nat.zero_le _, Or.inl (len_nil h0), hb⟩
    · injection h1 with h4 h5 h6
      subst h4 h6
      refine ⟨_, _, rfl, h3, Or.inr ⟨g, cur, rfl, hb', h2, x3.half f xs 0 (fun j u hj => ?_)⟩, hb⟩
      have := hrow.cells (g := g) rfl j u hj
      rw [add_off] at this
      rw [Nat.zero_add]
      exact this
theorem away5 {w : World} {g o : Nat} {v u : Value} (h : w.cell? ⟨g, o + 5, none⟩ = some u) : (w.setCell ⟨g, o + 3, none⟩ v).cell? ⟨g, o + 5, none⟩ = some u := by
  rw [World.cell?_setCell_other _ _ _ _ (by simp)]
  exact h
theorem froz5 {w : World} {g o : Nat} {v : Value} {cur : Array Value} {t : TypeId} (h : Blk w g cur t) : (w.setCell ⟨g, o + 3, none⟩ v).frozen? ⟨g, o + 5, none⟩ = false := by
  have h' : w.heap[g]? = some (.cells cur t (0, 0)) := h
  have : ∃ cur', Blk (w.setCell ⟨g, o + 3, none⟩ v) g cur' t := ⟨cur.setIfInBounds (o + 3) v, by simp [Blk, World.setCell, Array.getElem?_modify, h']⟩
  obtain ⟨cur', h2⟩ := this
  exact h2.frozen _
theorem c1s_of {w0 w w1 w2 : World} {g o al kl : Nat} {cur : Array Value} {ats : List (ByteArray × ByteArray)} {kids : Forest} {qa qk qa' qk' : Option Addr} {ca ck ca' ck' : Nat} (hll : ats.length = al ∧ kids.len = kl) (hrow : Blk w g cur 31)
    (hc : w.cell? ⟨g, o + 3, none⟩ = some (.slice qa al ca) ∧ w.cell? ⟨g, o + 5, none⟩ = some (.slice qk kl ck)) (hb : Below w0.heap.size w0 w ∧ w0.heap.size ≤ g) (hd : Below w.heap.size w w.drew)
    (hA : ats = [] ∨ ∃ ga cur, qa' = some ⟨ga, 0, none⟩ ∧ w.drew.heap.size ≤ ga ∧ Blk w1 ga cur 55 ∧ Cells2 ga 0 ats w1) (b1 : Below w.drew.heap.size w.drew w1)
    (hN : kl ≤ ck' ∧ (kids = .nil ∨ ∃ g' cur, qk' = some ⟨g', 0, none⟩ ∧ w1.heap.size ≤ g' ∧ Blk w2 g' cur 31 ∧ Half w0 kids g' 0 w2)) (b2 : Below w1.heap.size w1 w2) :
    C1S w0 g o ats kids w ((w2.setCell ⟨g, o + 3, none⟩ (.slice qa' al ca')).setCell ⟨g, o + 5, none⟩ (.slice qk' kl ck')) qa' ca' qk' ck' := by
  obtain ⟨rfl, rfl⟩ := hll
  have s1 := hd.size
  have s2 := b1.size
  have s3 := b2.size
  have hgl := hrow.lt
  have k2 : Blk w2 g cur 31 := ((hrow.later hd).later b1).later b2
  have z5 : o + 5 < cur.size := by
    have := (hrow.cell (o + 5)).symm.trans hc.2
    exact (Array.getElem?_eq_some_iff.1 this).1
  have k3 := k2.set (o + 3) (by omega) (.slice qa' ats.length ca')
  have k4 := k3.set (o + 5) (by simpa using z5) (.slice qk' kids.len ck')
  have hblk : ∀ i, i < w2.heap.size → i ≠ g → ((w2.setCell ⟨g, o + 3, none⟩ (.slice qa' ats.length ca')).setCell ⟨g, o + 5, none⟩ (.slice qk' kids.len ck')).heap[i]? = w2.heap[i]? := fun i hi hne =>
    (Below.heap_setCell _ ⟨g, o + 5, none⟩ _ i hne).trans (Below.heap_setCell _ ⟨g, o + 3, none⟩ _ i hne)
  have ho : Only g w2 ((w2.setCell ⟨g, o + 3, none⟩ (.slice qa' ats.length ca')).setCell ⟨g, o + 5, none⟩ (.slice qk' kids.len ck')) := ⟨by simp, hblk⟩
  refine ⟨by simp; omega, fun i hi hne => ?_, ⟨_, k4⟩, ?_, ?_, fun i v h3 h5 hv => ?_, ?_, ?_, hN.1, ?_⟩
  · rw [hblk i (by omega) hne, b2.block i (by omega), b1.block i (by omega), hd.block i hi]
  · rw [k4.cell]; simp [Array.getElem?_set]
  · rw [k4.cell]; simp
  · rw [k4.cell]
    have hv' := (hrow.cell i).symm.trans hv
    rw [Array.getElem?_set_ne _ (by omega), Array.getElem?_set_ne _ (by omega)]
    exact hv'
  · refine hA.imp id fun ⟨ga, ca, x1, x2, x3, x4⟩ => ⟨ga, ca, x1, by omega, ho.blk (x3.later b2) (by omega), fun k hk => ⟨ho.cell (cell_later b2 (x4 k hk).1) (by omega), ho.cell (cell_later b2 (x4 k hk).2) (by omega)⟩⟩
  · refine hN.2.imp id fun ⟨g', c', x1, x2, x3, x4⟩ => ⟨g', c', x1, by omega, ho.blk x3 (by omega), x4.keep _ _ _ fun i v _ hv => ho.cell hv (by omega)⟩
  · have hw2 : Below w0.heap.size w0 w2 := ((hb.1.trans (hd.mono hb.1.size)).trans (b1.mono (by have := hb.1.size; omega))).trans (b2.mono (by have := hb.1.size; omega))
    exact (hw2.setCell (p := ⟨g, o + 3, none⟩) hb.2 _).setCell (p := ⟨g, o + 5, none⟩) hb.2 _
set_option maxHeartbeats 4000000 in
set_option maxRecDepth 100000 in
theorem copy1_any (w0 w : World) (g o : Nat) (d : Int) (cur : Array Value) (ats : List (ByteArray × ByteArray)) (kids : Forest) (qa qk : Option Addr) (ca ck : Nat) (hrow : Blk w g cur 31) (hg : w0.heap.size ≤ g)
    (c3 : w.cell? ⟨g, o + 3, none⟩ = some (.slice qa ats.length ca)) (c5 : w.cell? ⟨g, o + 5, none⟩ = some (.slice qk kids.len ck)) (hsl : Sl qa ats w0) (hfo : Fo qk kids w0) (hb : Below w0.heap.size w0 w) (hn : ats.length ≤ 1000000) (hk : kids.len ≤ 1000000) :
    Calls Tryd.prog 35 #[.pointer (some ⟨g, o, none⟩), .int .i64 d] w fun e w' => e = .returned (.bool true) ∧ ∃ qa' ca' qk' ck', C1S w0 g o ats kids w w' qa' ca' qk' ck' := by
  have D0 : Below w.heap.size w w.drew := below_draws w 1
  have CA := hide (cloneA_own qa ats ca w0 w.drew hsl (hb.trans (D0.mono hb.size)) hn)
  have CN := hide (fun W (hW : Below w0.heap.size w0 W) => cloneN_own qk kids ck w0 W hfo hW hk)
  have HR := hide hrow
  have HC := hide (And.intro c3 c5)
  have HB := hide (And.intro hb hg)
  have HK0 := hide (show w.heap.size ≤ w.drew.heap.size from D0.size)
  have HD := hide D0
  have e3 : w.drew.cell? ⟨g, o + 3, none⟩ = some (.slice qa ats.length ca) := cell_later D0 c3
  have e5 : w.drew.cell? ⟨g, o + 5, none⟩ = some (.slice qk kids.len ck) := cell_later D0 c5
  have HE := hide (And.intro e3 e5)
  generalize hal : ats.length = al at *
  generalize hkl : kids.len = kl at *
  have HLL := hide (And.intro hal hkl)
  clear hrow hsl hfo hb hn hk hg hal hkl D0 e3 e5 c3 c5
  go_enter Tryd.func35, Tryd.ntmps35
  go_wp2_with fail
  have hSa : True := trivial
  refine wp_region_held (S := fun _ => True) (by kernel_rfl) ?_
  change wpAnyH _ _ _ _ _ _ _ _ (World.drew _)
  refine wpAnyH_take (i := 0) (oi := { dst := some 5, op := _, type := _, pos := _, after := _, guard := _ }) (v := ?va0_1) rfl (by kernel_rfl) (by kernel_rfl) (by kernel_rfl) (fun _ _ _ h => h) (Or.inl ⟨by kernel_rfl, ?ha0_1⟩) hSa ?ra0_1
  case ha0_1 => first | (intro w hSw; obtain _ := hSw; go_simp; done) | (intro w hSw; obtain _ := hSw; go_simp; with_reducible rfl)
  try simp only [Act.put, List.setIfInBounds_toArray, List.set_cons_zero, List.set_cons_succ]
  refine wpAnyH_take (i := 1) (oi := { dst := some 6, op := _, type := _, pos := _, after := _, guard := _ }) (v := ?va1_2) rfl (by kernel_rfl) (by kernel_rfl) (by kernel_rfl) (fun _ _ _ h => h) (Or.inl ⟨by kernel_rfl, ?ha1_2⟩) hSa ?ra1_2
  case ha1_2 => first | (intro w hSw; obtain _ := hSw; go_simp; done) | (intro w hSw; obtain _ := hSw; go_simp; with_reducible rfl)
  try simp only [Act.put, List.setIfInBounds_toArray, List.set_cons_zero, List.set_cons_succ]
  refine wpAnyH_take (i := 2) (oi := { dst := some 7, op := _, type := _, pos := _, after := _, guard := _ }) (v := ?va2_3) rfl (by kernel_rfl) (by kernel_rfl) (by kernel_rfl) (fun _ _ _ h => h) (Or.inl ⟨by kernel_rfl, ?ha2_3⟩) hSa ?ra2_3
  case ha2_3 => first | (intro w hSw; obtain _ := hSw; go_simp; done) | (intro w hSw; obtain _ := hSw; go_simp; with_reducible rfl)
  try simp only [Act.put, List.setIfInBounds_toArray, List.set_cons_zero, List.set_cons_succ]
  refine wpAnyH_take (i := 3) (oi := { dst := some 8, op := _, type := _, pos := _, after := _, guard := _ }) (v := ?va3_4) rfl (by kernel_rfl) (by kernel_rfl) (by kernel_rfl) (fun _ _ _ h => h) (Or.inl ⟨by kernel_rfl, ?ha3_4⟩) hSa ?ra3_4
  case ha3_4 => first | (intro w hSw; obtain _ := hSw; go_simp; done) | (intro w hSw; obtain _ := hSw; go_simp; with_reducible rfl)
  try simp only [Act.put, List.setIfInBounds_toArray, List.set_cons_zero, List.set_cons_succ]
  refine wpAnyH_take (i := 4) (oi := { dst := some 9, op := _, type := _, pos := _, after := _, guard := _ }) (v := ?va4_5) rfl (by kernel_rfl) (by kernel_rfl) (by kernel_rfl) (fun _ _ _ h => h) (Or.inl ⟨by kernel_rfl, ?ha4_5⟩) hSa ?ra4_5
  case ha4_5 => first | (intro w hSw; obtain _ := hSw; go_simp; done) | (intro w hSw; obtain _ := hSw; go_simp; with_reducible rfl)
  try simp only [Act.put, List.setIfInBounds_toArray, List.set_cons_zero, List.set_cons_succ]
  refine wpAnyH_take (i := 7) (oi := { dst := some 12, op := _, type := _, pos := _, after := _, guard := _ }) (v := ?va7_6) rfl (by kernel_rfl) (by kernel_rfl) (by kernel_rfl) (fun _ _ _ h => h) (Or.inl ⟨by kernel_rfl, ?ha7_6⟩) hSa ?ra7_6
  case ha7_6 => first | (intro w hSw; obtain _ := hSw; go_simp; done) | (intro w hSw; obtain _ := hSw; go_simp; with_reducible rfl)
  try simp only [Act.put, List.setIfInBounds_toArray, List.set_cons_zero, List.set_cons_succ]
  refine wpAnyH_take (i := 8) (oi := { dst := some 13, op := _, type := _, pos := _, after := _, guard := _ }) (v := ?va8_7) rfl (by kernel_rfl) (by kernel_rfl) (by kernel_rfl) (fun _ _ _ h => h) (Or.inl ⟨by kernel_rfl, ?ha8_7⟩) hSa ?ra8_7
  case ha8_7 => first | (intro w hSw; obtain _ := hSw; go_simp; done) | (intro w hSw; obtain _ := hSw; go_simp; with_reducible rfl)
  try simp only [Act.put, List.setIfInBounds_toArray, List.set_cons_zero, List.set_cons_succ]
  refine wpAnyH_take (i := 9) (oi := { dst := some 14, op := _, type := _, pos := _, after := _, guard := _ }) (v := ?va9_8) rfl (by kernel_rfl) (by kernel_rfl) (by kernel_rfl) (fun _ _ _ h => h) (Or.inl ⟨by kernel_rfl, ?ha9_8⟩) hSa ?ra9_8
  case ha9_8 => first | (intro w hSw; obtain _ := hSw; go_simp; done) | (intro w hSw; obtain _ := hSw; go_simp; with_reducible rfl)
  try simp only [Act.put, List.setIfInBounds_toArray, List.set_cons_zero, List.set_cons_succ]
  refine wpAnyH_ready (rs := [5, 10]) (by kernel_rfl) (by simp) ?_
  refine AllReadyH.cons rfl (fun K hK => ?_) (AllReadyH.cons rfl (fun K hK => ?_) AllReadyH.nil)
  · have x3 := (unhide HE).1
    go_simp
    have hSa' : True := trivial
    clear x3
    refine hK _ _ hSa' (fun _ => ?_)
    clear hK K hSa
    have hSa := hSa'
    clear hSa'
    refine wpAnyH_ready (rs := [6, 10]) (by kernel_rfl) (by simp) ?_
    refine AllReadyH.cons rfl (fun K hK => ?_) (AllReadyH.cons rfl (fun K hK => ?_) AllReadyH.nil)
    · go_simp
      refine (unhide CA).mono ?_
      rintro e w1 ⟨qa', ca', rfl, hA, hb1⟩
      have HA := hide hA
      have B1 := hide hb1
      have hSa' : True := trivial
      clear hA hb1 CA
      refine hK _ _ hSa' (fun _ => ?_)
      clear hK K hSa
      have hSa := hSa'
      clear hSa'
      refine wpAnyH_ready (rs := [10]) (by kernel_rfl) (by simp) ?_
      refine AllReadyH.cons rfl (fun K hK => ?_) AllReadyH.nil
      have x5 : w1.cell? ⟨g, o + 5, none⟩ = some (.slice qk kl ck) := cell_later (unhide B1) (unhide HE).2
      go_simp
      have hSa' : True := trivial
      clear x5
      refine hK _ _ hSa' (fun _ => ?_)
      clear hK K hSa
      have hSa := hSa'
      clear hSa'
      refine wpAnyH_ready (rs := [11]) (by kernel_rfl) (by simp) ?_
      refine AllReadyH.cons rfl (fun K hK => ?_) AllReadyH.nil
      go_simp
      refine (unhide CN w1 (((unhide HB).1.trans ((unhide HD).mono (unhide HB).1.size)).trans ((unhide B1).mono (Nat.le_trans (unhide HB).1.size (unhide HK0))))).mono ?_
      rintro e w2 ⟨qk', ck', rfl, hck, hN, hb2⟩
      have HN := hide (And.intro hck hN)
      have B2 := hide hb2
      have hSa' : True := trivial
      clear hN hck hb2 CN
      refine hK _ _ hSa' (fun _ => ?_)
      clear hK K hSa
      have hSa := hSa'
      clear hSa'
      refine wpAnyH_take (i := 12) (oi := { dst := some 17, op := _, type := _, pos := _, after := _, guard := _ }) (v := ?va12_9) rfl (by kernel_rfl) (by kernel_rfl) (by kernel_rfl) (fun _ _ _ h => h) (Or.inl ⟨by kernel_rfl, ?ha12_9⟩) hSa ?ra12_9
      case ha12_9 => first | (intro w hSw; obtain _ := hSw; go_simp; done) | (intro w hSw; obtain _ := hSw; go_simp; with_reducible rfl)
      try simp only [Act.put, List.setIfInBounds_toArray, List.set_cons_zero, List.set_cons_succ]
      refine wpAnyH_take (i := 13) (oi := { dst := some 18, op := _, type := _, pos := _, after := _, guard := _ }) (v := ?va13_10) rfl (by kernel_rfl) (by kernel_rfl) (by kernel_rfl) (fun _ _ _ h => h) (Or.inl ⟨by kernel_rfl, ?ha13_10⟩) hSa ?ra13_10
      case ha13_10 => first | (intro w hSw; obtain _ := hSw; go_simp; done) | (intro w hSw; obtain _ := hSw; go_simp; with_reducible rfl)
      try simp only [Act.put, List.setIfInBounds_toArray, List.set_cons_zero, List.set_cons_succ]
      refine wpAnyH_ready (rs := [14]) (by kernel_rfl) (by simp) ?_
      refine AllReadyH.cons rfl (fun K hK => ?_) AllReadyH.nil
      have K2 := hide (((unhide HR).later (unhide HD)).later (unhide B1) |>.later (unhide B2))
      have x3 : w2.cell? ⟨g, o + 3, none⟩ = some (.slice qa al ca) := cell_later (unhide B2) (cell_later (unhide B1) (unhide HE).1)
      have f3 := (unhide K2).frozen (o + 3)
      go_simp
      have hSa' : True := trivial
      clear x3 f3
      refine hK _ _ hSa' (fun _ => ?_)
      clear hK K hSa
      have hSa := hSa'
      clear hSa'
      refine wpAnyH_take (i := 15) (oi := { dst := some 19, op := _, type := _, pos := _, after := _, guard := _ }) (v := ?va15_11) rfl (by kernel_rfl) (by kernel_rfl) (by kernel_rfl) (fun _ _ _ h => h) (Or.inl ⟨by kernel_rfl, ?ha15_11⟩) hSa ?ra15_11
      case ha15_11 => first | (intro w hSw; obtain _ := hSw; go_simp; done) | (intro w hSw; obtain _ := hSw; go_simp; with_reducible rfl)
      try simp only [Act.put, List.setIfInBounds_toArray, List.set_cons_zero, List.set_cons_succ]
      refine wpAnyH_take (i := 16) (oi := { dst := some 20, op := _, type := _, pos := _, after := _, guard := _ }) (v := ?va16_12) rfl (by kernel_rfl) (by kernel_rfl) (by kernel_rfl) (fun _ _ _ h => h) (Or.inl ⟨by kernel_rfl, ?ha16_12⟩) hSa ?ra16_12
      case ha16_12 => first | (intro w hSw; obtain _ := hSw; go_simp; done) | (intro w hSw; obtain _ := hSw; go_simp; with_reducible rfl)
      try simp only [Act.put, List.setIfInBounds_toArray, List.set_cons_zero, List.set_cons_succ]
      refine wpAnyH_ready (rs := [17]) (by kernel_rfl) (by simp) ?_
      refine AllReadyH.cons rfl (fun K hK => ?_) AllReadyH.nil
      have x5 : (w2.setCell ⟨g, o + 3, none⟩ (.slice qa' al ca')).cell? ⟨g, o + 5, none⟩ = some (.slice qk kl ck) := away5 (cell_later (unhide B2) (cell_later (unhide B1) (unhide HE).2))
      have f5 := froz5 (unhide K2) (o := o) (v := .slice qa' al ca')
      go_simp
      have hSa' : True := trivial
      clear x5 f5
      refine hK _ _ hSa' (fun _ => ?_)
      clear hK K hSa
      have hSa := hSa'
      clear hSa'
      refine wpAnyH_done (by kernel_rfl) ?_ _
      clear hSa
      go_wp2
      go_ret
      refine ⟨rfl, qa', ca', qk', ck', ?_⟩
      exact c1s_of (unhide HLL) (unhide HR) (unhide HC) (unhide HB) (unhide HD) (unhide HA) (unhide B1) (unhide HN) (unhide B2)
    · have x5 := (unhide HE).2
      go_simp
      have hSa' : True := trivial
      clear x5
      refine hK _ _ hSa' (fun _ => ?_)
      clear hK K hSa
      have hSa := hSa'
      clear hSa'
      refine wpAnyH_ready (rs := [6]) (by kernel_rfl) (by simp) ?_
      refine AllReadyH.cons rfl (fun K hK => ?_) AllReadyH.nil
      go_simp
      refine (unhide CA).mono ?_
      rintro e w1 ⟨qa', ca', rfl, hA, hb1⟩
      have HA := hide hA
      have B1 := hide hb1
      have hSa' : True := trivial
      clear hA hb1 CA
      refine hK _ _ hSa' (fun _ => ?_)
      clear hK K hSa
      have hSa := hSa'
      clear hSa'
      refine wpAnyH_ready (rs := [11]) (by kernel_rfl) (by simp) ?_
      refine AllReadyH.cons rfl (fun K hK => ?_) AllReadyH.nil
      go_simp
      refine (unhide CN w1 (((unhide HB).1.trans ((unhide HD).mono (unhide HB).1.size)).trans ((unhide B1).mono (Nat.le_trans (unhide HB).1.size (unhide HK0))))).mono ?_
      rintro e w2 ⟨qk', ck', rfl, hck, hN, hb2⟩
      have HN := hide (And.intro hck hN)
      have B2 := hide hb2
      have hSa' : True := trivial
      clear hN hck hb2 CN
      refine hK _ _ hSa' (fun _ => ?_)
      clear hK K hSa
      have hSa := hSa'
      clear hSa'
      refine wpAnyH_take (i := 12) (oi := { dst := some 17, op := _, type := _, pos := _, after := _, guard := _ }) (v := ?va12_13) rfl (by kernel_rfl) (by kernel_rfl) (by kernel_rfl) (fun _ _ _ h => h) (Or.inl ⟨by kernel_rfl, ?ha12_13⟩) hSa ?ra12_13
      case ha12_13 => first | (intro w hSw; obtain _ := hSw; go_simp; done) | (intro w hSw; obtain _ := hSw; go_simp; with_reducible rfl)
      try simp only [Act.put, List.setIfInBounds_toArray, List.set_cons_zero, List.set_cons_succ]
      refine wpAnyH_take (i := 13) (oi := { dst := some 18, op := _, type := _, pos := _, after := _, guard := _ }) (v := ?va13_14) rfl (by kernel_rfl) (by kernel_rfl) (by kernel_rfl) (fun _ _ _ h => h) (Or.inl ⟨by kernel_rfl, ?ha13_14⟩) hSa ?ra13_14
      case ha13_14 => first | (intro w hSw; obtain _ := hSw; go_simp; done) | (intro w hSw; obtain _ := hSw; go_simp; with_reducible rfl)
      try simp only [Act.put, List.setIfInBounds_toArray, List.set_cons_zero, List.set_cons_succ]
      refine wpAnyH_ready (rs := [14]) (by kernel_rfl) (by simp) ?_
      refine AllReadyH.cons rfl (fun K hK => ?_) AllReadyH.nil
      have K2 := hide (((unhide HR).later (unhide HD)).later (unhide B1) |>.later (unhide B2))
      have x3 : w2.cell? ⟨g, o + 3, none⟩ = some (.slice qa al ca) := cell_later (unhide B2) (cell_later (unhide B1) (unhide HE).1)
      have f3 := (unhide K2).frozen (o + 3)
      go_simp
      have hSa' : True := trivial
      clear x3 f3
      refine hK _ _ hSa' (fun _ => ?_)
      clear hK K hSa
      have hSa := hSa'
      clear hSa'
      refine wpAnyH_take (i := 15) (oi := { dst := some 19, op := _, type := _, pos := _, after := _, guard := _ }) (v := ?va15_15) rfl (by kernel_rfl) (by kernel_rfl) (by kernel_rfl) (fun _ _ _ h => h) (Or.inl ⟨by kernel_rfl, ?ha15_15⟩) hSa ?ra15_15
      case ha15_15 => first | (intro w hSw; obtain _ := hSw; go_simp; done) | (intro w hSw; obtain _ := hSw; go_simp; with_reducible rfl)
      try simp only [Act.put, List.setIfInBounds_toArray, List.set_cons_zero, List.set_cons_succ]
      refine wpAnyH_take (i := 16) (oi := { dst := some 20, op := _, type := _, pos := _, after := _, guard := _ }) (v := ?va16_16) rfl (by kernel_rfl) (by kernel_rfl) (by kernel_rfl) (fun _ _ _ h => h) (Or.inl ⟨by kernel_rfl, ?ha16_16⟩) hSa ?ra16_16
      case ha16_16 => first | (intro w hSw; obtain _ := hSw; go_simp; done) | (intro w hSw; obtain _ := hSw; go_simp; with_reducible rfl)
      try simp only [Act.put, List.setIfInBounds_toArray, List.set_cons_zero, List.set_cons_succ]
      refine wpAnyH_ready (rs := [17]) (by kernel_rfl) (by simp) ?_
      refine AllReadyH.cons rfl (fun K hK => ?_) AllReadyH.nil
      have x5 : (w2.setCell ⟨g, o + 3, none⟩ (.slice qa' al ca')).cell? ⟨g, o + 5, none⟩ = some (.slice qk kl ck) := away5 (cell_later (unhide B2) (cell_later (unhide B1) (unhide HE).2))
      have f5 := froz5 (unhide K2) (o := o) (v := .slice qa' al ca')
      go_simp
      have hSa' : True := trivial
      clear x5 f5
      refine hK _ _ hSa' (fun _ => ?_)
      clear hK K hSa
      have hSa := hSa'
      clear hSa'
      refine wpAnyH_done (by kernel_rfl) ?_ _
      clear hSa
      go_wp2
      go_ret
      refine ⟨rfl, qa', ca', qk', ck', ?_⟩
      exact c1s_of (unhide HLL) (unhide HR) (unhide HC) (unhide HB) (unhide HD) (unhide HA) (unhide B1) (unhide HN) (unhide B2)
  · have x5 := (unhide HE).2
    go_simp
    have hSa' : True := trivial
    clear x5
    refine hK _ _ hSa' (fun _ => ?_)
    clear hK K hSa
    have hSa := hSa'
    clear hSa'
    refine wpAnyH_ready (rs := [5]) (by kernel_rfl) (by simp) ?_
    refine AllReadyH.cons rfl (fun K hK => ?_) AllReadyH.nil
    have x3 := (unhide HE).1
    go_simp
    have hSa' : True := trivial
    clear x3
    refine hK _ _ hSa' (fun _ => ?_)
    clear hK K hSa
    have hSa := hSa'
    clear hSa'
    refine wpAnyH_ready (rs := [6]) (by kernel_rfl) (by simp) ?_
    refine AllReadyH.cons rfl (fun K hK => ?_) AllReadyH.nil
    go_simp
    refine (unhide CA).mono ?_
    rintro e w1 ⟨qa', ca', rfl, hA, hb1⟩
    have HA := hide hA
    have B1 := hide hb1
    have hSa' : True := trivial
    clear hA hb1 CA
    refine hK _ _ hSa' (fun _ => ?_)
    clear hK K hSa
    have hSa := hSa'
    clear hSa'
    refine wpAnyH_ready (rs := [11]) (by kernel_rfl) (by simp) ?_
    refine AllReadyH.cons rfl (fun K hK => ?_) AllReadyH.nil
    go_simp
    refine (unhide CN w1 (((unhide HB).1.trans ((unhide HD).mono (unhide HB).1.size)).trans ((unhide B1).mono (Nat.le_trans (unhide HB).1.size (unhide HK0))))).mono ?_
    rintro e w2 ⟨qk', ck', rfl, hck, hN, hb2⟩
    have HN := hide (And.intro hck hN)
    have B2 := hide hb2
    have hSa' : True := trivial
    clear hN hck hb2 CN
    refine hK _ _ hSa' (fun _ => ?_)
    clear hK K hSa
    have hSa := hSa'
    clear hSa'
    refine wpAnyH_take (i := 12) (oi := { dst := some 17, op := _, type := _, pos := _, after := _, guard := _ }) (v := ?va12_17) rfl (by kernel_rfl) (by kernel_rfl) (by kernel_rfl) (fun _ _ _ h => h) (Or.inl ⟨by kernel_rfl, ?ha12_17⟩) hSa ?ra12_17
    case ha12_17 => first | (intro w hSw; obtain _ := hSw; go_simp; done) | (intro w hSw; obtain _ := hSw; go_simp; with_reducible rfl)
    try simp only [Act.put, List.setIfInBounds_toArray, List.set_cons_zero, List.set_cons_succ]
    refine wpAnyH_take (i := 13) (oi := { dst := some 18, op := _, type := _, pos := _, after := _, guard := _ }) (v := ?va13_18) rfl (by kernel_rfl) (by kernel_rfl) (by kernel_rfl) (fun _ _ _ h => h) (Or.inl ⟨by kernel_rfl, ?ha13_18⟩) hSa ?ra13_18
    case ha13_18 => first | (intro w hSw; obtain _ := hSw; go_simp; done) | (intro w hSw; obtain _ := hSw; go_simp; with_reducible rfl)
    try simp only [Act.put, List.setIfInBounds_toArray, List.set_cons_zero, List.set_cons_succ]
    refine wpAnyH_ready (rs := [14]) (by kernel_rfl) (by simp) ?_
    refine AllReadyH.cons rfl (fun K hK => ?_) AllReadyH.nil
    have K2 := hide (((unhide HR).later (unhide HD)).later (unhide B1) |>.later (unhide B2))
    have x3 : w2.cell? ⟨g, o + 3, none⟩ = some (.slice qa al ca) := cell_later (unhide B2) (cell_later (unhide B1) (unhide HE).1)
    have f3 := (unhide K2).frozen (o + 3)
    go_simp
    have hSa' : True := trivial
    clear x3 f3
    refine hK _ _ hSa' (fun _ => ?_)
    clear hK K hSa
    have hSa := hSa'
    clear hSa'
    refine wpAnyH_take (i := 15) (oi := { dst := some 19, op := _, type := _, pos := _, after := _, guard := _ }) (v := ?va15_19) rfl (by kernel_rfl) (by kernel_rfl) (by kernel_rfl) (fun _ _ _ h => h) (Or.inl ⟨by kernel_rfl, ?ha15_19⟩) hSa ?ra15_19
    case ha15_19 => first | (intro w hSw; obtain _ := hSw; go_simp; done) | (intro w hSw; obtain _ := hSw; go_simp; with_reducible rfl)
    try simp only [Act.put, List.setIfInBounds_toArray, List.set_cons_zero, List.set_cons_succ]
    refine wpAnyH_take (i := 16) (oi := { dst := some 20, op := _, type := _, pos := _, after := _, guard := _ }) (v := ?va16_20) rfl (by kernel_rfl) (by kernel_rfl) (by kernel_rfl) (fun _ _ _ h => h) (Or.inl ⟨by kernel_rfl, ?ha16_20⟩) hSa ?ra16_20
    case ha16_20 => first | (intro w hSw; obtain _ := hSw; go_simp; done) | (intro w hSw; obtain _ := hSw; go_simp; with_reducible rfl)
    try simp only [Act.put, List.setIfInBounds_toArray, List.set_cons_zero, List.set_cons_succ]
    refine wpAnyH_ready (rs := [17]) (by kernel_rfl) (by simp) ?_
    refine AllReadyH.cons rfl (fun K hK => ?_) AllReadyH.nil
    have x5 : (w2.setCell ⟨g, o + 3, none⟩ (.slice qa' al ca')).cell? ⟨g, o + 5, none⟩ = some (.slice qk kl ck) := away5 (cell_later (unhide B2) (cell_later (unhide B1) (unhide HE).2))
    have f5 := froz5 (unhide K2) (o := o) (v := .slice qa' al ca')
    go_simp
    have hSa' : True := trivial
    clear x5 f5
    refine hK _ _ hSa' (fun _ => ?_)
    clear hK K hSa
    have hSa := hSa'
    clear hSa'
    refine wpAnyH_done (by kernel_rfl) ?_ _
    clear hSa
    go_wp2
    go_ret
    refine ⟨rfl, qa', ca', qk', ck', ?_⟩
    exact c1s_of (unhide HLL) (unhide HR) (unhide HC) (unhide HB) (unhide HD) (unhide HA) (unhide B1) (unhide HN) (unhide B2)
end Go.Proofs.YtpfnjgkfombmpaaDoor

/-
  tree.walk under the closure of tree.Copy, and tree.Copy (made by mk_ycw.py).
-/
namespace Go.Proofs.YtpfnjgkfombmpaaDoor
open Go.RowKit
set_option linter.unusedVariables false
set_option linter.unusedSimpArgs false

theorem owns_blk {w w' : World} {base : Nat} {e : TypeId} {size : Nat} {v : Value} {n : Nat} {xs : List Value} (h : w.ownsRow base e size v n xs) (hs : ∀ b, v.ownBlock = some b → b < w.heap.size → w'.heap[b]? = w.heap[b]?) : w'.ownsRow base e size v n xs := by
  obtain ⟨hl, h⟩ := h
  refine ⟨hl, ?_⟩
  rcases h with h | ⟨g, cap, cur, h1, h2, h3, h4, h5, h6, h7⟩
  · exact .inl h
  · have hg : g < w.heap.size := by
      rcases Nat.lt_or_ge g w.heap.size with h | h
      · exact h
      · rw [Array.getElem?_eq_none h] at h3; cases h3
    refine .inr ⟨g, cap, cur, h1, h2, ?_, h4, h5, h6, h7⟩
    rw [hs g (by rw [h1]; rfl) hg]; exact h3
theorem owns_type {w : World} {base : Nat} {e : TypeId} {size b n cap : Nat} {m : Nat} {xs : List Value} (h : w.ownsRow base e size (.slice (some ⟨b, 0, none⟩) n cap) m xs) : ∃ cur, Blk w b cur e := by
  rcases h.2 with ⟨h, _⟩ | ⟨g', _, cur, h, _, hb, _⟩
  · injection h with h; cases h
  · injection h with h1 _ _
    injection h1 with h1
    injection h1 with h1
    subst h1
    exact ⟨cur, hb⟩
theorem notA {w : World} {b : Nat} (h : ∃ cur, Blk w b cur 22) : (∀ cur, ¬ Blk w b cur 55) ∧ ∀ cur, ¬ Blk w b cur 31 := by
  obtain ⟨c, h⟩ := h
  exact ⟨fun cur h' => absurd (blk_types h h') (by decide), fun cur h' => absurd (blk_types h h') (by decide)⟩
def WalkC (w0 : World) (B1 : Nat) (f : Forest) (q : Option Addr) (gk : Nat) (left : Value) (wr : World) : Prop :=
  ∃ (st : List Entry) (N : Nat → Bool), cnt st ≤ 1000000 ∧ st.length + cnt st ≤ 1000001 ∧ 2 * cnt st + st.length = gk ∧ (∀ e ∈ st, SmF e.1) ∧ CpI w0 N st f q wr ∧ wr.ownsRow B1 22 1 left st.length (rowOf st) ∧ w0.heap.size ≤ B1 ∧ B1 ≤ wr.heap.size
set_option maxHeartbeats 8000000 in
set_option maxRecDepth 100000 in
theorem walk_copy (w0 : World) (f : Forest) (q : Option Addr) (cap : Nat) (w : World) (N : Nat → Bool) (hI : CpI w0 N [(f, q, cap)] f q w) (hc : f.count ≤ 1000000) (hsm : SmF f) :
    Calls Tryd.prog 34 #[.slice q f.len cap, .func (.func 35) #[] #[]] w fun e w' => e = .returned (.tuple #[]) ∧ ∃ N', CpI w0 N' [] f q w' := by
  obtain ⟨i0, hi0, hi1, hi2, hi3⟩ := info_parts infoNodes0
  have hrow0 : (w.alloc (Obj.cells #[.slice q f.len cap] 22)).ownsRow w.heap.size 22 1 (.slice (some ⟨w.heap.size, 0, none⟩) 1 1) 1 [.slice q f.len cap] :=
    ⟨rfl, Or.inr ⟨w.heap.size, 1, #[.slice q f.len cap], rfl, Nat.le_refl _, Blk.new w _ _, Nat.le_refl _, by unfold maxLen; omega, rfl, rfl⟩⟩
  have hbA := (Below.refl w.heap.size w).alloc (Nat.le_refl _) (Obj.cells #[.slice q f.len cap] 22)
  have hI0 : CpI w0 N [(f, q, cap)] f q (w.alloc (Obj.cells #[.slice q f.len cap] 22)) := hI.only (b := w.heap.size) ⟨hbA.size, fun i hi _ => hbA.block i hi⟩ (fun cur h => absurd h.lt (by omega)) (fun cur h => absurd h.lt (by omega)) (hI.bel.alloc hI.bel.size _)
  have HAT : Hid (WalkC w0 w.heap.size f q (2 * f.count + 1) (.slice (some ⟨w.heap.size, 0, none⟩) 1 1) (w.alloc (Obj.cells #[.slice q f.len cap] 22))) := hide ⟨[(f, q, cap)], N, by simpa [cnt] using hc, by simp [cnt]; omega, by simp [cnt], fun e he => by rw [List.mem_singleton.1 he]; exact hsm, hI0, hrow0, hI.bel.size, by simp⟩
  clear hrow0 hI hI0 hbA hsm
  go_enter Tryd.func34, Tryd.ntmps34
  go_wp2
  go_loopg [4] (2 * f.count + 1) (fun gk left wr => WalkC w0 w.heap.size f q gk left wr)
  case atStart => exact unhide HAT
  case round =>
    clear HAT
    obtain ⟨st, N, hc1, hc2, hgk, hsm, hcp, hrow, hB1, hsz⟩ := hrel
    match st, hc1, hc2, hgk, hsm, hcp, hrow with
    | [], hc1, hc2, hgk, hsm, hcp, hrow =>
      obtain ⟨a4, cap4, rfl⟩ := slice_n hrow
      have HX := hide hcp
      simp only [List.length_nil]
      clear hsm hrow hcp
      go_wp2
      refine bodyPost_end (v := .tuple #[]) (results_none Tryd.results34 _ _ _) rfl ?_
      exact ⟨rfl, N, unhide HX⟩
    | (fo, qe, ce) :: st, hc1, hc2, hgk, hsm, hcp, hrow =>
      rw [rowOf_cons] at hrow
      have hty0 := hrow
      obtain ⟨b, capb, rfl, hbb, hcb, c0, cf0, hblt, hpop, hset⟩ := row_last hrow (rowOf_len st)
      have hty := notA (owns_type hty0)
      have hln : (st.length : Int) + 1 ≤ 1000001 := by simp at hc2; omega
      have hcbi : (st.length : Int) + 1 ≤ (capb : Int) := by omega
      cases fo with
      | nil =>
        have HX := hide (And.intro hcp.pop (And.intro hsz (And.intro hpop (And.intro hB1 (show ∀ e ∈ st, SmF e.1 from fun e he => hsm e (List.mem_cons_of_mem _ he))))))
        have hg' : 2 * cnt st + st.length < gk := by simp [cnt, Forest.count] at hgk; omega
        have hc1' : cnt st ≤ 1000000 := by simp [cnt, Forest.count] at hc1; omega
        have hc2' : st.length + cnt st ≤ 1000001 := by simp [cnt, Forest.count] at hc2; omega
        simp only [Entry.val, Forest.len] at c0
        clear hsm hcp hrow hset hpop hgk hc1 hc2 hty hty0 hB1
        go_wp2
        go_roundg (2 * cnt st + st.length)
        case measure => exact hg'
        case rel => exact ⟨st, N, hc1', hc2', rfl, (unhide HX).2.2.2.2, (unhide HX).1, (unhide HX).2.2.1, (unhide HX).2.2.2.1, (unhide HX).2.1⟩
      | cons k sp n ats tx kids rest =>
        obtain ⟨hce, hfo⟩ := hcp.stk _ (List.mem_cons_self ..)
        rcases hfo with h | ⟨g, o, hq, ho6, hNg, hl⟩
        · cases h
        have hq' : qe = some ⟨g, o, none⟩ := hq
        subst hq'
        have hs0 : SmF (.cons k sp n ats tx kids rest) := hsm _ (List.mem_cons_self ..)
        have hsk : ∀ e ∈ st, SmF e.1 := fun e he => hsm e (List.mem_cons_of_mem _ he)
        have hce' : rest.len + 1 ≤ ce := hce
        have hcei : (rest.len : Int) + 1 ≤ (ce : Int) := by omega
        have hrl : (rest.len : Int) + 1 ≤ 1000001 := by
          have := rest.len_count
          simp [cnt, Forest.count] at hc1
          omega
        have hkl : kids.len ≤ 1000000 := by
          have := kids.len_count
          simp [cnt, Forest.count] at hc1
          omega
        simp only [Entry.val, Forest.len] at c0
        have HP := hide hset
        have e1 : ((rest.len : Int) + 1 == 0) = false := beq_eq_false_iff_ne.2 (by omega)
        have HX := hide (And.intro hcp (And.intro hB1 (And.intro hsz (And.intro hc1 (And.intro hc2 (And.intro hgk (And.intro hs0 hsk)))))))
        have HT := hide (And.intro hty (And.intro hkl hNg))
        clear hsm hcp hrow hpop hce hset hB1 hsz hc1 hc2 hgk hs0 hsk hl hce' hty hty0 hkl hNg ho6
        obtain ⟨rl, hrlq⟩ : ∃ rl, rest.len = rl := ⟨_, rfl⟩
        obtain ⟨sl, hslq⟩ : ∃ sl, st.length = sl := ⟨_, rfl⟩
        rw [hrlq] at c0 hcei hrl e1
        rw [hslq] at c0 cf0 hln hcbi HP hcb
        rw [hslq]
        have HQ := hide (And.intro hrlq hslq)
        clear hrlq hslq
        have j1 : (1 : Int) ≤ (rl : Int) + 1 := by omega
        have j2 : (0 : Int) < (rl : Int) + 1 := by omega
        go_upto_region 7 with fail
        generalize hqr : (if ce = 1 then some (⟨g, o, none⟩ : Addr) else some ⟨g, o + 6, none⟩) = qr at *
        have HQR : Hid (rest = .nil ∨ qr = some ⟨g, o + 6, none⟩) := hide (by
          by_cases h1 : ce = 1
          · left
            have hr0 : rest.len = 0 := by have := (unhide HQ).1; omega
            exact len_nil hr0
          · right; rw [if_neg h1] at hqr; exact hqr.symm)
        clear hqr
        have hb0 : w0.heap.size ≤ b := by have := (unhide HX).2.1; omega
        have hX1 := (unhide HX).1.only (Only.set wr b sl (.slice qr rl (ce - 1))) (unhide HT).1.1 (unhide HT).1.2 ((unhide HX).1.bel.setCell (p := ⟨b, sl, none⟩) hb0 (.slice qr rl (ce - 1)))
        have HR := hide (unhide HP (.slice qr rl (ce - 1)))
        have HZ : Hid ((wr.setCell ⟨b, sl, none⟩ (.slice qr rl (ce - 1))).heap.size = wr.heap.size) := hide (by simp)
        obtain ⟨hg0, cur, hgb⟩ := hX1.nb g (unhide HT).2.2
        obtain ⟨q3, a3, m3, x3, q5, a5, m5, x5⟩ : ∃ qa ca, (wr.setCell ⟨b, sl, none⟩ (.slice qr rl (ce - 1))).cell? ⟨g, o + 3, none⟩ = some (.slice qa ats.length ca) ∧ Sl qa ats w0 ∧ ∃ qk ck, (wr.setCell ⟨b, sl, none⟩ (.slice qr rl (ce - 1))).cell? ⟨g, o + 5, none⟩ = some (.slice qk kids.len ck) ∧ Fo qk kids w0 := by
          rcases (hX1.stk _ (List.mem_cons_self ..)).2 with h | ⟨g1, o1, y1, _, _, y4⟩
          · cases h
          · have y1' : (some ⟨g, o, none⟩ : Option Addr) = some ⟨g1, o1, none⟩ := y1
            injection y1' with y1'
            injection y1' with z1 z2
            subst z1 z2
            obtain ⟨⟨_, _, _, ⟨qa, ca, h3, h3'⟩, _, ⟨qk, ck, h5, _, h7⟩⟩, _⟩ := y4
            exact ⟨qa, ca, h3, h3', qk, ck, h5, h7⟩
        have hal : ats.length ≤ 1000000 := by have := (unhide HX).2.2.2.2.2.2.1.1.2.2.1.1; omega
        have CC := hide (copy1_any w0 _ g o ((sl : Int) + 1) cur ats kids q3 q5 a3 a5 hgb hg0 m3 m5 x3 x5 hX1.bel hal (unhide HT).2.1)
        have HM := hide (And.intro m3 (And.intro m5 (And.intro x3 (And.intro x5 (And.intro hX1 hgb)))))
        clear hX1 m3 m5 x3 x5 hgb hg0 hal
        go_wp2_with fail
        refine (unhide CC).mono ?_
        rintro e3 W3 ⟨rfl, qa', ca', qk', ck', hs3⟩
        clear CC
        have hbg : b ≠ g := fun e => by
          have h1 := (unhide HM).2.2.2.2.2
          obtain ⟨c', h2⟩ := owns_type (unhide HR)
          have h3 : Blk (wr.setCell ⟨b, sl, none⟩ (.slice qr rl (ce - 1))) b cur 31 := by
            rw [← e] at h1
            exact h1
          exact absurd (blk_types h2 h3) (by decide)
        have hrow3 := owns_blk (unhide HR) (w' := W3) (fun b' hb' hlt => hs3.blk b' hlt (by simp [Value.ownBlock] at hb'; omega))
        have k5 : W3.cell? ⟨g, o + 5, none⟩ = some (.slice qk' kids.len ck') := hs3.d5
        have hsz3 : w.heap.size ≤ W3.heap.size := by have h1 := hs3.size; rw [unhide HZ] at h1; have := (unhide HX).2.2.1; omega
        obtain ⟨N', hN'⟩ := (unhide HM).2.2.2.2.1.step hs3 (unhide HM).1 (unhide HM).2.1 (unhide HM).2.2.1 (unhide HM).2.2.2.1 (unhide HQR)
        have hlb : ∀ j, some j = (Value.slice (some ⟨b, 0, none⟩) (sl + 1) capb).ownBlock → w.heap.size ≤ j := fun j hj => (hrow3.lt j hj.symm).1
        have hty3 := notA (owns_type hrow3)
        have HY := hide (And.intro hN' hty3)
        clear hs3 hN' HM hty3 hbg
        go_wp2_with (at_builtin; refine wpList_append_own _ rfl _ _ 89 rfl w.heap.size 22 i0 (.slice none 0 0) 1 24 Tryd.underlying89 hi0 hi1 hi2 hi3 rfl (by decide) _ _ _ rfl (hrow3.alloc _) ⟨W3.heap.size, 0, none⟩ 1 1 [.slice qk' kids.len ck'] rfl rfl ?c1 ?c2 ?c3 ?c4 ?c5 ?_)
        case c1 => intro j u hj; exact lit1 hj
        case c2 => intro u hu; simp at hu; rw [hu]; rfl
        case c3 => unfold maxLen; omega
        case c4 => omega
        case c5 => simp; omega
        intro v' w5 hrow5 hgrow5 _
        obtain ⟨a5', c5', hv5⟩ := slice_n hrow5
        subst hv5
        have hbL := (unhide HY).1.bel.alloc (unhide HY).1.bel.size (Obj.cells #[.slice qk' kids.len ck'] 22)
        have hb5 := hbL.grown hgrow5 hbL.size (fun j hj => by have h1 := hlb _ hj.symm; have h2 := (unhide HX).2.1; omega)
        have ho5 : Only b W3 w5 := ⟨by have := hgrow5.size; simp at this; omega, fun i hi hne => by
          have h1 : (W3.alloc (Obj.cells #[.slice qk' kids.len ck'] 22)).heap[i]? = W3.heap[i]? := ((Below.refl W3.heap.size W3).alloc (Nat.le_refl _) _).block i hi
          rw [← h1]
          exact hgrow5.block i (by simp; omega) (fun e => by simp [Value.ownBlock] at e; omega)⟩
        have hI5 := (unhide HY).1.only ho5 (unhide HY).2.1 (unhide HY).2.2 hb5
        have hs5 : w.heap.size ≤ w5.heap.size := by
          have := hgrow5.size
          simp at this
          omega
        have HZ5 := hide (And.intro hrow5 (And.intro hI5 hs5))
        clear hrow5 hgrow5 hbL hb5 hI5 hs5 hrow3 hlb ho5
        go_wp2
        obtain ⟨hrow5, hI5, hs5⟩ := unhide HZ5
        obtain ⟨_, hB1, _, hc1, hc2, hgk, hs0, hsk⟩ := unhide HX
        obtain ⟨hrlq, hslq⟩ := unhide HQ
        simp only [cnt, Forest.count, List.length_cons] at hc1 hc2 hgk
        go_roundg (2 * (kids.count + (rest.count + cnt st)) + (st.length + 1 + 1))
        case measure => omega
        case rel =>
          refine ⟨(kids, qk', ck') :: (rest, qr, ce - 1) :: st, N', ?_, ?_, rfl, ?_, hI5, ?_, hB1, hs5⟩
          · show kids.count + (rest.count + cnt st) ≤ 1000000; omega
          · show st.length + 1 + 1 + (kids.count + (rest.count + cnt st)) ≤ 1000001; omega
          · intro e he
            rcases List.mem_cons.1 he with rfl | he
            · exact hs0.2.1
            rcases List.mem_cons.1 he with rfl | he
            · exact hs0.2.2
            · exact hsk e he
          · rw [rowOf_cons, rowOf_cons, List.append_assoc, List.length_cons, List.length_cons, hslq]
            show w5.ownsRow _ _ _ _ _ (rowOf st ++ ([.slice qr rest.len (ce - 1)] ++ [.slice qk' kids.len ck']))
            rw [hrlq]; exact hrow5
/-- A copy of nodes lies in new memory. -/
theorem copy_any (f : Forest) (q : Option Addr) (cap : Nat) (w : World) (hf : Fo q f w) (hc : f.count ≤ 1000000) (hsm : SmF f) :
    Calls Tryd.prog 11 #[.slice q f.len cap] w fun e w' => ∃ q' c' N, e = .returned (.slice q' f.len c') ∧ f.len ≤ c' ∧ CpI w N [] f q' w' := by
  have hfl := f.len_count
  have C1 := hide (cloneN_own q f cap w w hf (Below.refl _ _) (by omega))
  have C2 := hide (fun q' c' N W hI => walk_copy w f q' c' W N hI hc hsm)
  generalize hfq : f.len = fl at *
  have HFQ := hide hfq
  clear hf hsm hfq hfl
  go_enter Tryd.func11, Tryd.ntmps11
  go_wp2_with fail
  refine (unhide C1).mono ?_
  rintro e w1 ⟨q', c', rfl, hc', hH, hb1⟩
  have HI : Hid (∃ N, CpI w N [(f, q', c')] f q' w1) := hide (by
    rcases hH with h0 | ⟨g, cur, h1, h2, h3, h4⟩
    · exact ⟨fun _ => false, ⟨(fun i hi => by cases hi), (fun e he => by rw [List.mem_singleton.1 he]; exact ⟨by show f.len ≤ c'; rw [unhide HFQ]; exact hc', Or.inl h0⟩), List.pairwise_singleton _ _, Or.inl h0, hb1⟩⟩
    · refine ⟨fun i => i == g, ⟨fun i hi => ?_, fun e he => ?_, List.pairwise_singleton _ _, Or.inr ⟨g, h1, ?_⟩, hb1⟩⟩
      · have hi' : i = g := by simpa using hi
        subst hi'
        exact ⟨h2, cur, h3⟩
      · rw [List.mem_singleton.1 he]; exact ⟨by show f.len ≤ c'; rw [unhide HFQ]; exact hc', Or.inr ⟨g, 0, h1, rfl, by simp, h4⟩⟩
      · exact h4.mix (by simp) _ _ rfl fun j hj => ⟨_, List.mem_singleton.2 rfl, 0, j, h1, hj, by omega⟩)
  have HC' := hide hc'
  clear hH hb1 hc'
  obtain ⟨N, hI⟩ := unhide HI
  have C3 := hide (unhide C2 q' c' N w1 hI)
  clear hI HI C1 C2
  go_wp2_with fail
  refine (unhide C3).mono ?_
  rintro e w2 ⟨rfl, N', hI'⟩
  have HI' := hide hI'
  clear hI' C3
  go_wp2
  go_ret
  exact ⟨q', c', N', rfl, unhide HC', unhide HI'⟩
end Go.Proofs.YtpfnjgkfombmpaaDoor

/-
  What spoil does to nodes that lie in memory of their own.
-/
namespace Go.Proofs.YtpfnjgkfombmpaaDoor
open Go.RowKit
set_option linter.unusedVariables false
set_option linter.unusedSimpArgs false

def ShA (B0 B1 : Nat) (N : Nat → Bool) (q : Option Addr) (n : Nat) (w : World) : Prop :=
  n = 0 ∨ ∃ ga, q = some ⟨ga, 0, none⟩ ∧ B0 ≤ ga ∧ ga < B1 ∧ N ga = false ∧ ∀ j, j < n → (∃ v, w.cell? ⟨ga, j * 2 + 1, none⟩ = some v) ∧ w.frozen? ⟨ga, j * 2 + 1, none⟩ = false
/-- How nodes lie, whatever they are. -/
def Shp (B0 B1 : Nat) (N : Nat → Bool) : Forest → Nat → Nat → World → Prop
  | .nil, _, _, _ => True
  | .cons _ _ _ ats _ kids rest, g, o, w =>
    ((N g = true ∧ B0 ≤ g ∧ g < B1 ∧ o % 6 = 0) ∧ (∃ v, w.cell? ⟨g, o, none⟩ = some v) ∧ w.frozen? ⟨g, o, none⟩ = false ∧ (∃ v, w.cell? ⟨g, o + 4, none⟩ = some v) ∧ w.frozen? ⟨g, o + 4, none⟩ = false ∧
      (∃ qa ca, w.cell? ⟨g, o + 3, none⟩ = some (.slice qa ats.length ca) ∧ ShA B0 B1 N qa ats.length w) ∧
      ∃ qk ck, w.cell? ⟨g, o + 5, none⟩ = some (.slice qk kids.len ck) ∧ (kids = .nil ∨ ∃ g', qk = some ⟨g', 0, none⟩ ∧ Shp B0 B1 N kids g' 0 w)) ∧
    Shp B0 B1 N rest g (o + 6) w
structure Spl (B0 B1 : Nat) (N : Nat → Bool) (w w' : World) : Prop where
  bel : Below B0 w w'
  sz : w'.heap.size = w.heap.size
  hi : ∀ k, B1 ≤ k → w'.heap[k]? = w.heap[k]?
  nod : ∀ g o v, N g = true → o % 6 ≠ 0 → o % 6 ≠ 4 → w.cell? ⟨g, o, none⟩ = some v → w'.cell? ⟨g, o, none⟩ = some v
  has : ∀ g o v, w.cell? ⟨g, o, none⟩ = some v → ∃ v', w'.cell? ⟨g, o, none⟩ = some v'
  fro : ∀ g o, w'.frozen? ⟨g, o, none⟩ = w.frozen? ⟨g, o, none⟩
theorem Spl.refl (B0 B1 : Nat) (N : Nat → Bool) (w : World) : Spl B0 B1 N w w := ⟨Below.refl _ _, rfl, fun _ _ => rfl, fun _ _ _ _ _ _ h => h, fun _ _ v h => ⟨v, h⟩, fun _ _ => rfl⟩
theorem Spl.trans {B0 B1 : Nat} {N : Nat → Bool} {w w1 w2 : World} (h : Spl B0 B1 N w w1) (h' : Spl B0 B1 N w1 w2) : Spl B0 B1 N w w2 :=
  ⟨h.bel.trans h'.bel, h'.sz.trans h.sz, fun k hk => (h'.hi k hk).trans (h.hi k hk), fun g o v a b c d => h'.nod g o v a b c (h.nod g o v a b c d), fun g o v d => by obtain ⟨v', x⟩ := h.has g o v d; exact h'.has g o v' x, fun g o => (h'.fro g o).trans (h.fro g o)⟩
theorem Spl.set {B0 B1 : Nat} {N : Nat → Bool} {w w1 : World} (h : Spl B0 B1 N w w1) {b o : Nat} (h0 : B0 ≤ b) (h1 : b < B1) (hN : N b = true → o % 6 = 0 ∨ o % 6 = 4) (v : Value) : Spl B0 B1 N w (w1.setCell ⟨b, o, none⟩ v) := by
  refine h.trans ⟨(Below.refl B0 w1).setCell (p := ⟨b, o, none⟩) h0 v, by simp, fun k hk => Below.heap_setCell w1 ⟨b, o, none⟩ v k (by show k ≠ b; omega), fun g o' v' a x y d => ?_, fun g o' v' d => cell?_setCell_some d, fun g o' => World.frozen?_setCell _ _ _ _⟩
  rw [World.cell?_setCell_other _ _ _ _ (by
    intro e
    injection e with e1 e2
    subst e1 e2
    rcases hN a with z | z
    · exact x z
    · exact y z)]
  exact d
theorem ShA.spl {B0 B1 : Nat} {N : Nat → Bool} {q : Option Addr} {n : Nat} {w w' : World} (h : ShA B0 B1 N q n w) (hs : Spl B0 B1 N w w') : ShA B0 B1 N q n w' :=
  h.imp id fun ⟨ga, x1, x2, x3, x4, x5⟩ => ⟨ga, x1, x2, x3, x4, fun j hj => ⟨by obtain ⟨v, hv⟩ := (x5 j hj).1; exact hs.has _ _ v hv, (hs.fro _ _).trans (x5 j hj).2⟩⟩
theorem Shp.spl {B0 B1 : Nat} {N : Nat → Bool} {w w' : World} (hs : Spl B0 B1 N w w') : ∀ (f : Forest) (g o : Nat), Shp B0 B1 N f g o w → Shp B0 B1 N f g o w'
  | .nil, g, o, _ => trivial
  | .cons k sp n ats tx kids rest, g, o, ⟨⟨⟨hN, h0, h1, h6⟩, ⟨v0, x0⟩, f0, ⟨v4, x4⟩, f4, ⟨qa, ca, x3, y3⟩, qk, ck, x5, y5⟩, hr⟩ =>
    ⟨⟨⟨hN, h0, h1, h6⟩, hs.has _ _ _ x0, (hs.fro _ _).trans f0, hs.has _ _ _ x4, (hs.fro _ _).trans f4, ⟨qa, ca, hs.nod _ _ _ hN (by omega) (by omega) x3, y3.spl hs⟩, qk, ck, hs.nod _ _ _ hN (by omega) (by omega) x5, y5.imp id fun ⟨g', e, z⟩ => ⟨g', e, Shp.spl hs kids g' 0 z⟩⟩, Shp.spl hs rest g (o + 6) hr⟩
theorem Shp.drop {B0 B1 : Nat} {N : Nat → Bool} {w : World} {g : Nat} : ∀ (j : Nat) (f : Forest) (o : Nat), Shp B0 B1 N f g o w → Shp B0 B1 N (f.drop j) g (o + j * 6) w
  | 0, f, o, h => by rw [Forest.drop_zero]; simpa using h
  | j + 1, .nil, o, h => by rw [Forest.drop_nil]; trivial
  | j + 1, .cons _ _ _ _ _ _ r, o, h => by
    have := Shp.drop j r (o + 6) h.2
    show Shp B0 B1 N (r.drop j) g _ w
    rw [show o + (j + 1) * 6 = o + 6 + j * 6 by omega]; exact this
/-- What was copied lies so. -/
theorem Mix.shp {w0 w : World} {N : Nat → Bool} {P : Nat → Nat → Prop} (hP : ∀ g o, ¬ P g o) (hN : ∀ i, N i = true → w0.heap.size ≤ i ∧ ∃ cur, Blk w i cur 31) : ∀ (f : Forest) (g o : Nat), Mix w0 w0.heap.size N P f g o w → Shp w0.heap.size w.heap.size N f g o w
  | .nil, g, o, _ => trivial
  | .cons k sp n ats tx kids rest, g, o, ⟨⟨⟨hg, h16⟩, h0, h1, h2, h4, qa, ca, qk, ck, h3, h5, h6, h7, h8, h9⟩, hr⟩ => by
    have hp := hP g o
    obtain ⟨hB, cur, hb⟩ := hN g hg
    refine ⟨⟨⟨hg, hB, hb.lt, h16⟩, ⟨_, h0⟩, hb.frozen o, ⟨_, h4⟩, hb.frozen (o + 4), ⟨qa, ca, h3, ?_⟩, qk, ck, h5, ?_⟩, Mix.shp hP hN rest g (o + 6) hr⟩
    · rcases h8 hp with h | ⟨ga, cu, x1, x2, x3, x4, x5⟩
      · left; rw [h]; rfl
      · refine Or.inr ⟨ga, x1, x2, x4.lt, x3, fun j hj => ⟨⟨.string (av ats j), ?_⟩, x4.frozen _⟩⟩
        have := (x5 j hj).2
        rw [Nat.zero_add] at this
        exact this
    · exact (h9 hp).imp id fun ⟨g', e, z⟩ => ⟨g', e, Mix.shp hP hN kids g' 0 z⟩

set_option maxHeartbeats 1000000 in
theorem spoil_none (q : Option Addr) (cap : Nat) (w : World) : Calls Tryd.prog 13 #[.slice q 0 cap] w fun e w' => e = .returned (.tuple #[]) ∧ w' = w := by
  go_enter Tryd.func13, Tryd.ntmps13
  go_wp2
  refine wp_loop_rounds 1 ?_
  rw [rounds_succ]; go_wp2
  refine bodyPost_end (v := .tuple #[]) (results_none Tryd.results13 _ _ _) rfl ?_
  exact ⟨rfl, rfl⟩
set_option maxHeartbeats 4000000 in
set_option maxRecDepth 100000 in
theorem spoil_some (B0 B1 : Nat) (N : Nat → Bool) (f : Forest) (g o cap : Nat) (w : World) (hl : Shp B0 B1 N f g o w) (hc : f.count ≤ 1000000) (hsm : SmF f)
    (ih : ∀ j k sp n ats tx kids, f.drop j = .cons k sp n ats tx kids (f.drop (j + 1)) → ∀ q cap W, (kids = .nil ∨ ∃ g', q = some ⟨g', 0, none⟩ ∧ Shp B0 B1 N kids g' 0 W) → Calls Tryd.prog 13 #[.slice q kids.len cap] W fun e w' => e = .returned (.tuple #[]) ∧ Spl B0 B1 N W w') :
    Calls Tryd.prog 13 #[.slice (some ⟨g, o, none⟩) f.len cap] w fun e w' => e = .returned (.tuple #[]) ∧ Spl B0 B1 N w w' := by
  have HL := hide hl
  have IH := hide ih
  have hlc := f.len_count
  have HSM := hide (fun j => sm_drop j f hsm)
  clear hl ih hsm
  go_enter Tryd.func13, Tryd.ntmps13
  go_wp2
  go_loopw [6] (fun b wr => ∃ j : Nat, j ≤ f.len ∧ b = .int .i64 j ∧ Spl B0 B1 N w wr) (fun b _ => f.len - (intOf b).toNat)
  case atStart => exact ⟨0, Nat.zero_le _, rfl, Spl.refl _ _ _ _⟩
  case round =>
    obtain ⟨j, hj, rfl, hsp⟩ := hrel
    by_cases hp : j < f.len
    · have hpi : (j : Int) < (f.len : Int) := by omega
      have hji : (j : Int) < 1000001 := by omega
      obtain ⟨k, sp, n, ats, tx, kids, hd⟩ := f.drop_cons j hp
      have hlw := ((unhide HL).spl hsp _ _ _).drop j
      have hfit := unhide HSM j
      rw [hd] at hlw hfit
      have hal : ats.length ≤ 1000 := hfit.1.2.2.1.1
      have CK := hide (fun q c W h => unhide IH j k sp n ats tx kids hd q c W h)
      obtain ⟨⟨⟨hN, h0, h1, h6⟩, ⟨v0, x0⟩, f0, ⟨v4, x4⟩, f4, ⟨qa, ca, x3, y3⟩, qk, ck, x5, y5⟩, hr⟩ := hlw
      have s1 := hsp.set h0 h1 (o := o + j * 6) (fun _ => Or.inl h6) (.int .i64 9)
      have s2 := s1.set h0 h1 (o := o + j * 6 + 4) (fun _ => Or.inr (by omega)) (.string ⟨#[122, 122]⟩)
      have t1 := (Spl.refl B0 B1 N wr).set h0 h1 (o := o + j * 6) (fun _ => Or.inl h6) (.int .i64 9)
      have t2 := t1.set h0 h1 (o := o + j * 6 + 4) (fun _ => Or.inr (by omega)) (.string ⟨#[122, 122]⟩)
      obtain ⟨u4, z4⟩ := t1.has _ _ _ x4
      have g4 := (t1.fro g (o + j * 6 + 4)).trans f4
      have z3 := t2.nod _ _ _ hN (by omega) (by omega) x3
      have HS2 := hide s2
      have HX := hide (And.intro hN (And.intro h0 (And.intro h1 h6)))
      have HY := hide (And.intro x5 (And.intro y5 (And.intro y3 (And.intro x3 t2))))
      generalize hkl : kids.len = kl at *
      generalize hal' : ats.length = al at *
      clear hlc hd hfit s1 s2 t1 t2 x5 y5 y3 x3 hsp hr hN h0 h1 h6
      rename World => Wo
      go_wp2_with fail
      go_loopw [23] (fun c W => ∃ i : Nat, i ≤ al ∧ c = .int .i64 i ∧ Spl B0 B1 N ((Wo.setCell ⟨g, o + j * 6, none⟩ (.int .i64 9)).setCell ⟨g, o + j * 6 + 4, none⟩ (.string ⟨#[122, 122]⟩)) W) (fun c _ => al - (intOf c).toNat)
      case atStart => exact ⟨0, Nat.zero_le _, rfl, Spl.refl _ _ _ _⟩
      case round =>
        obtain ⟨i, hi, rfl, hsi⟩ := hrel
        by_cases hq : i < al
        · have hqi : (i : Int) < (al : Int) := by omega
          have hii : (i : Int) < 1000001 := by omega
          have x3' := hsi.nod _ _ _ (unhide HX).1 (by have := (unhide HX).2.2.2; omega) (by have := (unhide HX).2.2.2; omega) ((unhide HY).2.2.2.2.nod _ _ _ (unhide HX).1 (by have := (unhide HX).2.2.2; omega) (by have := (unhide HX).2.2.2; omega) (unhide HY).2.2.2.1)
          rcases ((unhide HY).2.2.1.spl (unhide HY).2.2.2.2).spl hsi with h | ⟨ga, hqa, ha0, ha1, haN, hac⟩
          · omega
          subst hqa
          obtain ⟨⟨va, hva⟩, hfa⟩ := hac i hq
          have HS3 := hide (hsi.set ha0 ha1 (o := i * 2 + 1) (fun h => by rw [haN] at h; cases h) (.string ⟨#[122, 122]⟩))
          clear hsi hac ha0 ha1 haN
          go_wp2
          go_roundw
          case rel => exact ⟨i + 1, by omega, by go_num, unhide HS3⟩
          case measure => simp [intOf]; omega
        · have hqi : ¬ (i : Int) < (al : Int) := by omega
          have x5' := hsi.nod _ _ _ (unhide HX).1 (by have := (unhide HX).2.2.2; omega) (by have := (unhide HX).2.2.2; omega) ((unhide HY).2.2.2.2.nod _ _ _ (unhide HX).1 (by have := (unhide HX).2.2.2; omega) (by have := (unhide HX).2.2.2; omega) (unhide HY).1)
          have CK' := hide (unhide CK qk ck wr ((unhide HY).2.1.imp id fun ⟨g', e, z⟩ => ⟨g', e, (z.spl (unhide HY).2.2.2.2 _ _ _).spl hsi _ _ _⟩))
          have HS3 := hide ((unhide HS2).trans hsi)
          clear hsi CK
          go_wp2_with fail
          refine (unhide CK').mono ?_
          rintro e W5 ⟨rfl, hs5⟩
          have HS5 := hide ((unhide HS3).trans hs5)
          clear hs5 CK'
          go_wp2
          go_roundw
          case rel => exact ⟨j + 1, by omega, by go_num, unhide HS5⟩
          case measure => simp [intOf]; omega
    · have hpi : ¬ (j : Int) < (f.len : Int) := by omega
      have HS := hide hsp
      clear hp hsp
      go_wp2
      refine bodyPost_end (v := .tuple #[]) (results_none Tryd.results13 _ _ _) rfl ?_
      exact ⟨rfl, unhide HS⟩
theorem spoil_any (B0 B1 : Nat) (N : Nat → Bool) : ∀ (m : Nat) (f : Forest), f.count ≤ m → m ≤ 1000000 → SmF f → ∀ (q : Option Addr) (cap : Nat) (w : World), (f = .nil ∨ ∃ g', q = some ⟨g', 0, none⟩ ∧ Shp B0 B1 N f g' 0 w) → Calls Tryd.prog 13 #[.slice q f.len cap] w fun e w' => e = .returned (.tuple #[]) ∧ Spl B0 B1 N w w'
  | m, f, hm, hM, hsm, q, cap, w, h => by
    rcases h with rfl | ⟨g, rfl, hl⟩
    · refine (spoil_none q cap w).mono ?_
      rintro e w' ⟨rfl, rfl⟩
      exact ⟨rfl, Spl.refl _ _ _ _⟩
    · refine spoil_some B0 B1 N f g 0 cap w hl (by omega) hsm (fun j k sp n ats tx kids hd q cap w hf => ?_)
      have h1 : (f.drop j).count ≤ f.count := f.count_drop j
      have hs := sm_drop j f hsm
      rw [hd] at h1 hs
      have h2 : 1 + kids.count + (f.drop (j + 1)).count ≤ f.count := h1
      match m, hm with
      | 0, hm => omega
      | m + 1, hm => exact spoil_any B0 B1 N m kids (by omega) (by omega) hs.2.1 q cap w hf
end Go.Proofs.YtpfnjgkfombmpaaDoor
