/-
  Several texts in one: what the functions of the program and of the document's answer do.
-/
import Derived.Test.YtmlmpongcpojjaaDoorYRn
import Derived.Test.YtmlmpongcpojjaaDoorYUn
import Derived.Maps.AppendAt
import Derived.Test.YtmlmpongcpojjaaDoorYR1

/-
  A tree.reader, plainly: what its num, text, attrs, node and list take off bytes; and a world without one block.
-/
namespace Go.Proofs.YtmlmpongcpojjaaDoor
open Go.RowKit
set_option linter.unusedVariables false
set_option linter.unusedSimpArgs false

/-! ### a world without some blocks -/
def mask (p : Nat → Bool) (W : World) : World := { W with heap := W.heap.mapIdx fun i o => if p i then .cells #[] 3 (0, 0) else o }
def hiP (B : Nat) : Nat → Bool := fun i => decide (i < B)
theorem mask_get (p : Nat → Bool) (W : World) (k : Nat) : (mask p W).heap[k]? = W.heap[k]?.map fun o => if p k then .cells #[] 3 (0, 0) else o := by
  show (W.heap.mapIdx _)[k]? = _
  rw [Array.getElem?_mapIdx]
theorem mask_cell {p : Nat → Bool} {W : World} {g o : Nat} {v : Value} : (mask p W).cell? ⟨g, o, none⟩ = some v ↔ p g = false ∧ W.cell? ⟨g, o, none⟩ = some v := by
  cases hp : p g with
  | true =>
    have h := mask_get p W g
    rw [hp] at h
    constructor
    · intro hc
      cases hw : W.heap[g]? with
      | none => rw [hw] at h; simp [World.cell?, h] at hc
      | some x => rw [hw] at h; simp [World.cell?, h] at hc
    · intro hc; cases hc.1
  | false =>
    have h : (mask p W).heap[g]? = W.heap[g]? := by rw [mask_get, hp]; cases W.heap[g]? <;> simp
    have e : (mask p W).cell? ⟨g, o, none⟩ = W.cell? ⟨g, o, none⟩ := World.cell?_of_block (w := W) h
    rw [e]; simp
def CellLe (W W' : World) : Prop := ∀ (g o : Nat) (v : Value), W.cell? ⟨g, o, none⟩ = some v → W'.cell? ⟨g, o, none⟩ = some v
theorem CellLe.trans {W W1 W2 : World} (h : CellLe W W1) (h' : CellLe W1 W2) : CellLe W W2 := fun g o v hc => h' g o v (h g o v hc)
theorem Sl.le {W W' : World} (hc : CellLe W W') {q : Option Addr} {ats : List (ByteArray × ByteArray)} (h : Sl q ats W) : Sl q ats W' :=
  h.imp id fun ⟨g, o, h1, h2⟩ => ⟨g, o, h1, fun k hk => ⟨hc _ _ _ (h2 k hk).1, hc _ _ _ (h2 k hk).2⟩⟩
theorem Lies.le {W W' : World} (hc : CellLe W W') : ∀ (f : Forest) (g o : Nat), Lies f g o W → Lies f g o W'
  | .nil, g, o, h => trivial
  | .cons k sp n ats tx kids rest, g, o, h => by
    obtain ⟨⟨h0, h1, h2, ⟨qa, ca, h3, h3'⟩, h4, ⟨qk, ck, h5, h6, h7⟩⟩, hr⟩ := h
    refine ⟨⟨hc _ _ _ h0, hc _ _ _ h1, hc _ _ _ h2, ⟨qa, ca, hc _ _ _ h3, h3'.le hc⟩, hc _ _ _ h4, ⟨qk, ck, hc _ _ _ h5, h6, ?_⟩⟩, Lies.le hc rest g (o + 6) hr⟩
    rcases h7 with h7 | ⟨g', o', hq, hl⟩
    · exact Or.inl h7
    · exact Or.inr ⟨g', o', hq, Lies.le hc kids g' o' hl⟩
theorem Fo.le {W W' : World} (hc : CellLe W W') {q : Option Addr} {f : Forest} (h : Fo q f W) : Fo q f W' :=
  h.imp id fun ⟨g, o, h1, h2⟩ => ⟨g, o, h1, h2.le hc⟩
theorem mask_out (p : Nat → Bool) (W : World) : CellLe (mask p W) W := fun g o v h => (mask_cell.1 h).2
theorem mask_less {p p' : Nat → Bool} (W : World) (h : ∀ i, p' i = true → p i = true) : CellLe (mask p W) (mask p' W) := fun g o v hc => by
  obtain ⟨h1, h2⟩ := mask_cell.1 hc
  refine mask_cell.2 ⟨?_, h2⟩
  cases hg : p' g with
  | false => rfl
  | true => rw [h g hg] at h1; cases h1
/-- What stands outside p stands so later, too. -/
theorem mask_kept {p p' : Nat → Bool} {W W' : World} (h : ∀ k, k < W.heap.size → p k = false → p' k = false ∧ W'.heap[k]? = W.heap[k]?) : CellLe (mask p W) (mask p' W') := fun g o v hc => by
  obtain ⟨h1, h2⟩ := mask_cell.1 hc
  have hl : g < W.heap.size := World.block_lt_of_cell? W ⟨g, o, none⟩ h2
  obtain ⟨h3, h4⟩ := h g hl h1
  exact mask_cell.2 ⟨h3, (World.cell?_of_block (w := W) (a := ⟨g, o, none⟩) h4).trans h2⟩
theorem mask_kpr {p : Nat → Bool} {R : Nat} {W W' : World} (hk : KpR R W W') (hp : p R = true) : CellLe (mask p W) (mask p W') :=
  mask_kept fun k hl h => ⟨h, hk.block k hl (fun e => by rw [e, hp] at h; cases h)⟩
theorem mask_set {p : Nat → Bool} {b o : Nat} {W : World} {v : Value} (hp : p b = true) : CellLe (mask p W) (mask p (W.setCell ⟨b, o, none⟩ v)) :=
  mask_kept fun k hl h => ⟨h, Below.heap_setCell W ⟨b, o, none⟩ v k (by show k ≠ b; intro e; rw [e, hp] at h; cases h)⟩
theorem hiP_at {B k : Nat} (h : k < B) : hiP B k = true := decide_eq_true h
theorem hiP_not {B k : Nat} (h : B ≤ k) : hiP B k = false := decide_eq_false (by omega)
theorem hiP_less {B B' : Nat} (h : B' ≤ B) : ∀ i, hiP B' i = true → hiP B i = true := fun i hi => by
  have := of_decide_eq_true hi
  exact hiP_at (by omega)

/-! ### what is taken off -/
def txF (l : List UInt8) (b : Bool) : ByteArray × List UInt8 × Bool :=
  match takeT l with
  | some (k, n) => (bs ((l.drop k).take n), (l.drop k).drop n, b)
  | none => (⟨#[]⟩, [], true)
def nmF (most : Int) (l : List UInt8) (b : Bool) : Int × List UInt8 × Bool :=
  match takeN l with
  | some (v, k) => if most < v then (0, [], true) else (v, l.drop k, b)
  | none => (0, [], true)
def atF : Nat → List UInt8 → Bool → List (ByteArray × ByteArray) × List UInt8 × Bool
  | 0, l, b => ([], l, b)
  | c + 1, l, b => (((txF l b).1, (txF (txF l b).2.1 (txF l b).2.2).1) :: (atF c (txF (txF l b).2.1 (txF l b).2.2).2.1 (txF (txF l b).2.1 (txF l b).2.2).2.2).1, (atF c (txF (txF l b).2.1 (txF l b).2.2).2.1 (txF (txF l b).2.1 (txF l b).2.2).2.2).2)
def asF (l : List UInt8) (b : Bool) : List (ByteArray × ByteArray) × List UInt8 × Bool := atF (nmF 12 l b).1.toNat (nmF 12 l b).2.1 (nmF 12 l b).2.2
structure Nd where
  k : Int
  sp : Int
  n : ByteArray
  ats : List (ByteArray × ByteArray)
  tx : ByteArray
  kids : Forest
def Nd.cons (x : Nd) (r : Forest) : Forest := .cons x.k x.sp x.n x.ats x.tx x.kids r
abbrev RS := List UInt8 × Nat × Bool
def ndF (kf : RS → Forest × RS) (dp : Bool) (s : RS) : Nd × RS :=
  if (nmF 3 s.1 s.2.2).1 = 2 ∨ (nmF 3 s.1 s.2.2).1 = 3 then
    (⟨(nmF 3 s.1 s.2.2).1, 0, ⟨#[]⟩, [], (txF (nmF 3 s.1 s.2.2).2.1 (nmF 3 s.1 s.2.2).2.2).1, .nil⟩, (txF (nmF 3 s.1 s.2.2).2.1 (nmF 3 s.1 s.2.2).2.2).2.1, s.2.1, (txF (nmF 3 s.1 s.2.2).2.1 (nmF 3 s.1 s.2.2).2.2).2.2)
  else if (nmF 3 s.1 s.2.2).1 = 1 ∧ dp = true then
    let k := nmF 3 s.1 s.2.2
    let p := nmF 2 k.2.1 k.2.2
    let t := txF p.2.1 p.2.2
    let a := asF t.2.1 t.2.2
    let ks := kf (a.2.1, s.2.1, a.2.2)
    (⟨1, p.1, t.1, a.1, ⟨#[]⟩, ks.1⟩, ks.2)
  else (⟨(nmF 3 s.1 s.2.2).1, 0, ⟨#[]⟩, [], ⟨#[]⟩, .nil⟩, [], s.2.1, true)
def stF (s : RS) : RS := if 300 < s.2.1 + 1 then ([], s.2.1 + 1, true) else (s.1, s.2.1 + 1, s.2.2)
def lpF (nd : RS → Nd × RS) : Nat → RS → Option Forest × RS
  | 0, s => (some .nil, s)
  | c + 1, s => if (stF s).2.2 = true then (none, stF s) else ((lpF nd c (nd (stF s)).2).1.map (nd (stF s)).1.cons, (lpF nd c (nd (stF s)).2).2)
def topF (nd : RS → Nd × RS) (s : RS) : Forest × RS :=
  ((lpF nd (nmF 300 s.1 s.2.2).1.toNat ((nmF 300 s.1 s.2.2).2.1, s.2.1, (nmF 300 s.1 s.2.2).2.2)).1.getD .nil, (lpF nd (nmF 300 s.1 s.2.2).1.toNat ((nmF 300 s.1 s.2.2).2.1, s.2.1, (nmF 300 s.1 s.2.2).2.2)).2)
def lsF : Nat → RS → Forest × RS
  | 0 => topF (ndF (fun s => (.nil, s)) false)
  | d + 1 => topF (ndF (lsF d) true)
/-- What holds all along: where it stopped nothing is left; and how many nodes were counted. -/
structure RsOk (X : Nat) (s : RS) : Prop where
  stop : s.2.2 = true → s.1 = []
  few : s.2.2 = false → s.2.1 ≤ 300
  most : s.2.1 ≤ X
theorem takeN_nil : takeN [] = none := rfl
theorem nmF_ok (most : Int) (l : List UInt8) (b : Bool) (h : b = true → l = []) : ((nmF most l b).2.2 = true → (nmF most l b).2.1 = []) ∧ (nmF most l b).2.1.length ≤ l.length ∧ 0 ≤ (nmF most l b).1 ∧ (0 ≤ most → (nmF most l b).1 ≤ most) ∧ ((nmF most l b).2.2 = false → b = false) ∧ ((nmF most l b).2.2 = true → (nmF most l b).1 = 0) := by
  unfold nmF
  cases ht : takeN l with
  | none => exact ⟨fun _ => rfl, Nat.zero_le _, Int.le_refl _, id, (fun h => by cases h), fun _ => rfl⟩
  | some x =>
    obtain ⟨v, k⟩ := x
    have hv := takeN_some ht
    dsimp only
    by_cases hm : most < v
    · rw [if_pos hm]; exact ⟨fun _ => rfl, Nat.zero_le _, Int.le_refl _, id, (fun h => by cases h), fun _ => rfl⟩
    · rw [if_neg hm]
      have hb : b = false := by
        cases b with
        | false => rfl
        | true => rw [h rfl, takeN_nil] at ht; cases ht
      subst hb
      exact ⟨(fun h => by cases h), by simp, hv.1, fun _ => by show v ≤ most; omega, id, fun h => by cases h⟩
theorem txF_ok (l : List UInt8) (b : Bool) (h : b = true → l = []) : ((txF l b).2.2 = true → (txF l b).2.1 = []) ∧ (txF l b).2.1.length + (txF l b).1.size ≤ l.length ∧ ((txF l b).2.2 = false → b = false) := by
  unfold txF
  cases ht : takeT l with
  | none => exact ⟨fun _ => rfl, Nat.zero_le _, fun h => by cases h⟩
  | some x =>
    obtain ⟨k, n⟩ := x
    have hv := takeT_some ht
    have hb : b = false := by
      cases b with
      | false => rfl
      | true => rw [h rfl] at ht; cases ht
    subst hb
    refine ⟨(fun h => by cases h), ?_, id⟩
    dsimp only
    rw [bs_size]
    simp
    omega
theorem atF_ok : ∀ (c : Nat) (l : List UInt8) (b : Bool), (b = true → l = []) → ((atF c l b).2.2 = true → (atF c l b).2.1 = []) ∧ (atF c l b).2.1.length ≤ l.length ∧ ((atF c l b).2.2 = false → b = false) ∧ (atF c l b).1.length = c ∧ ∀ a ∈ (atF c l b).1, a.1.size ≤ l.length ∧ a.2.size ≤ l.length
  | 0, l, b, h => ⟨h, Nat.le_refl _, id, rfl, fun a ha => by cases ha⟩
  | c + 1, l, b, h => by
    obtain ⟨x1, x2, x3⟩ := txF_ok l b h
    obtain ⟨y1, y2, y3⟩ := txF_ok (txF l b).2.1 (txF l b).2.2 x1
    obtain ⟨z1, z2, z3, z4, z5⟩ := atF_ok c (txF (txF l b).2.1 (txF l b).2.2).2.1 (txF (txF l b).2.1 (txF l b).2.2).2.2 y1
    refine ⟨z1, by show (atF c _ _).2.1.length ≤ _; omega, fun h => x3 (y3 (z3 h)), by show (_ :: (atF c _ _).1).length = _; rw [List.length_cons, z4], fun a ha => ?_⟩
    rcases List.mem_cons.1 (show a ∈ (_ :: (atF c _ _).1) from ha) with rfl | ha
    · exact ⟨by show (txF l b).1.size ≤ _; omega, by show (txF _ _).1.size ≤ _; omega⟩
    · have := z5 a ha; omega
theorem asF_ok (l : List UInt8) (b : Bool) (h : b = true → l = []) : ((asF l b).2.2 = true → (asF l b).2.1 = []) ∧ (asF l b).2.1.length ≤ l.length ∧ ((asF l b).2.2 = false → b = false) ∧ (asF l b).1.length ≤ 12 ∧ ∀ a ∈ (asF l b).1, a.1.size ≤ l.length ∧ a.2.size ≤ l.length := by
  obtain ⟨x1, x2, x3, x4, x5, _⟩ := nmF_ok 12 l b h
  obtain ⟨z1, z2, z3, z4, z5⟩ := atF_ok (nmF 12 l b).1.toNat (nmF 12 l b).2.1 (nmF 12 l b).2.2 x1
  have := x4 (by omega)
  refine ⟨z1, by unfold asF; omega, fun h => x5 (z3 h), by unfold asF; omega, fun a ha => ?_⟩
  have := z5 a ha
  omega
structure KfOk (Y : Nat) (s : RS) (z : Forest × RS) : Prop where
  rs : RsOk Y z.2
  len : z.2.1.length ≤ s.1.length
  sm : s.1.length ≤ 5000 → SmF z.1
  cnt : z.1.count + s.2.1 ≤ z.2.2.1
  was : z.2.2.2 = false → s.2.2 = false
structure NdOk (Y : Nat) (s : RS) (z : Nd × RS) : Prop where
  rs : RsOk Y z.2
  len : z.2.1.length ≤ s.1.length
  tx : s.1.length ≤ 5000 → z.1.tx.size ≤ 5000
  n : s.1.length ≤ 5000 → z.1.n.size ≤ 5000
  ats : s.1.length ≤ 5000 → Fits z.1.ats
  sm : s.1.length ≤ 5000 → SmF z.1.kids
  cnt : z.1.kids.count + s.2.1 ≤ z.2.2.1
  was : z.2.2.2 = false → s.2.2 = false
theorem fits_of {ats : List (ByteArray × ByteArray)} {L : Nat} (h1 : ats.length ≤ 1000) (hL : L ≤ 10000) (h2 : ∀ a ∈ ats, a.1.size ≤ L ∧ a.2.size ≤ L) : Fits ats := by
  refine ⟨h1, fun k hk => ?_⟩
  have h3 : ats.getD k (ByteArray.empty, ByteArray.empty) = ats[k] := by simp [List.getD, List.getElem?_eq_getElem hk]
  have := h2 ats[k] (List.getElem_mem hk)
  unfold an av
  rw [h3]; omega
theorem fits_nil : Fits [] := ⟨Nat.zero_le _, fun k hk => absurd hk (Nat.not_lt_zero k)⟩
theorem ndF_ok {Y : Nat} (hY : 300 ≤ Y) (kf : RS → Forest × RS) (hk : ∀ s : RS, (s.2.2 = true → s.1 = []) → s.2.1 ≤ 300 → s.1.length ≤ 1000000000000 → KfOk Y s (kf s)) (dp : Bool) (s : RS) (h1 : s.2.2 = true → s.1 = []) (h2 : s.2.1 ≤ 300) (h3 : s.1.length ≤ 1000000000000) : NdOk Y s (ndF kf dp s) := by
  obtain ⟨x1, x2, x3, x4, x5, _⟩ := nmF_ok 3 s.1 s.2.2 h1
  unfold ndF
  by_cases c1 : (nmF 3 s.1 s.2.2).1 = 2 ∨ (nmF 3 s.1 s.2.2).1 = 3
  · rw [if_pos c1]
    obtain ⟨y1, y2, y3⟩ := txF_ok (nmF 3 s.1 s.2.2).2.1 (nmF 3 s.1 s.2.2).2.2 x1
    exact ⟨⟨y1, fun _ => h2, by show s.2.1 ≤ Y; omega⟩, by show (txF _ _).2.1.length ≤ _; omega, (fun h5 => by show (txF _ _).1.size ≤ _; omega), (fun _ => by show (⟨#[]⟩ : ByteArray).size ≤ _; decide), fun _ => fits_nil, fun _ => trivial, by show 0 + s.2.1 ≤ s.2.1; omega, fun h => x5 (y3 h)⟩
  rw [if_neg c1]
  by_cases c2 : (nmF 3 s.1 s.2.2).1 = 1 ∧ dp = true
  · rw [if_pos c2]
    obtain ⟨p1, p2, p3, p4, p5, _⟩ := nmF_ok 2 (nmF 3 s.1 s.2.2).2.1 (nmF 3 s.1 s.2.2).2.2 x1
    dsimp only
    generalize nmF 2 (nmF 3 s.1 s.2.2).2.1 (nmF 3 s.1 s.2.2).2.2 = p at *
    obtain ⟨t1, t2, t3⟩ := txF_ok p.2.1 p.2.2 p1
    generalize txF p.2.1 p.2.2 = t at *
    obtain ⟨a1, a2, a3, a4, a5⟩ := asF_ok t.2.1 t.2.2 t1
    generalize asF t.2.1 t.2.2 = a at *
    have hkf := hk (a.2.1, s.2.1, a.2.2) a1 h2 (by show a.2.1.length ≤ _; omega)
    have hlen := hkf.len
    dsimp only at hlen
    exact ⟨hkf.rs, by dsimp only; omega, (fun _ => by show (⟨#[]⟩ : ByteArray).size ≤ _; decide), (fun h5 => by show t.1.size ≤ _; omega), (fun h5 => fits_of (L := t.2.1.length) (by show a.1.length ≤ _; omega) (by omega) a5), (fun h5 => hkf.sm (by show a.2.1.length ≤ _; omega)), hkf.cnt, fun h => x5 (p5 (t3 (a3 (hkf.was h))))⟩
  · rw [if_neg c2]
    exact ⟨⟨fun _ => rfl, (fun h => by cases h), by show s.2.1 ≤ Y; omega⟩, Nat.zero_le _, (fun _ => by show (⟨#[]⟩ : ByteArray).size ≤ _; decide), (fun _ => by show (⟨#[]⟩ : ByteArray).size ≤ _; decide), fun _ => fits_nil, fun _ => trivial, by show 0 + s.2.1 ≤ s.2.1; omega, fun h => by cases h⟩
theorem stF_ok {X : Nat} {s : RS} (h : RsOk X s) : ((stF s).2.2 = true → (stF s).1 = []) ∧ ((stF s).2.2 = false → (stF s).2.1 ≤ 300 ∧ s.2.2 = false) ∧ (stF s).2.1 = s.2.1 + 1 ∧ (stF s).1.length ≤ s.1.length := by
  unfold stF
  by_cases c : 300 < s.2.1 + 1
  · rw [if_pos c]; exact ⟨fun _ => rfl, (fun h => by cases h), rfl, Nat.zero_le _⟩
  · rw [if_neg c]; exact ⟨h.stop, fun hb => ⟨by show s.2.1 + 1 ≤ 300; omega, hb⟩, rfl, Nat.le_refl _⟩
structure LpOk (X c : Nat) (s : RS) (z : Option Forest × RS) : Prop where
  rs : RsOk (X + 1) z.2
  len : z.2.1.length ≤ s.1.length
  some : ∀ f, z.1 = .some f → (s.1.length ≤ 5000 → SmF f) ∧ f.count + s.2.1 ≤ z.2.2.1 ∧ f.len = c
  none : z.1 = .none → z.2.2.2 = true ∧ s.2.1 ≤ z.2.2.1
  was : z.2.2.2 = false → s.2.2 = false
theorem lpF_ok {X : Nat} (nd : RS → Nd × RS) (hn : ∀ s : RS, (s.2.2 = true → s.1 = []) → s.2.1 ≤ 300 → s.1.length ≤ 1000000000000 → NdOk X s (nd s)) (hX : X ≤ 1000) : ∀ (c : Nat) (s : RS), RsOk X s → s.1.length ≤ 1000000000000 → LpOk X c s (lpF nd c s)
  | 0, s, h, hl => ⟨⟨h.stop, h.few, Nat.le_succ_of_le h.most⟩, Nat.le_refl _, fun f hf => by
      have : Option.some Forest.nil = .some f := hf
      cases this; exact ⟨fun _ => trivial, by show 0 + _ ≤ s.2.1; omega, rfl⟩, (fun hf => by cases hf), id⟩
  | c + 1, s, h, hl => by
    obtain ⟨s1, s2, s3, s4⟩ := stF_ok h
    have hm := h.most
    rw [lpF]
    by_cases hb : (stF s).2.2 = true
    · rw [if_pos hb]
      exact ⟨⟨s1, (fun h => by rw [hb] at h; cases h), by rw [s3]; omega⟩, s4, (fun f hf => by cases hf), fun _ => ⟨hb, by rw [s3]; omega⟩, fun h => by rw [hb] at h; cases h⟩
    · rw [if_neg hb]
      have hb' : (stF s).2.2 = false := by simpa using hb
      have hnd := hn (stF s) s1 (s2 hb').1 (by omega)
      have ih := lpF_ok nd hn hX c (nd (stF s)).2 hnd.rs (by have := hnd.len; omega)
      refine ⟨ih.rs, by have h1 := ih.len; have h2 := hnd.len; dsimp only; omega, fun f hf => ?_, fun hf => ?_, fun h => (s2 hb').2⟩
      · dsimp only at hf
        cases hz : (lpF nd c (nd (stF s)).2).1 with
        | none => rw [hz] at hf; cases hf
        | some g =>
          rw [hz] at hf
          have hf : (nd (stF s)).1.cons g = f := by simpa using hf
          obtain ⟨g1, g2, g3⟩ := ih.some g hz
          have hcn := hnd.cnt
          subst hf
          refine ⟨fun h5 => ⟨⟨hnd.tx (by omega), hnd.n (by omega), hnd.ats (by omega), ?_⟩, hnd.sm (by omega), g1 (by have := hnd.len; omega)⟩, ?_, by show g.len + 1 = _; rw [g3]⟩
          · have := ih.rs.most
            omega
          · show 1 + (nd (stF s)).1.kids.count + g.count + s.2.1 ≤ (lpF nd c (nd (stF s)).2).2.2.1
            omega
      · dsimp only at hf
        cases hz : (lpF nd c (nd (stF s)).2).1 with
        | some g => rw [hz] at hf; cases hf
        | none =>
          have := ih.none hz
          have hcn := hnd.cnt
          exact ⟨this.1, by dsimp only; omega⟩
theorem topF_ok {X : Nat} (hX0 : 300 ≤ X) (nd : RS → Nd × RS) (hn : ∀ s : RS, (s.2.2 = true → s.1 = []) → s.2.1 ≤ 300 → s.1.length ≤ 1000000000000 → NdOk X s (nd s)) (hX : X ≤ 1000) (s : RS) (h1 : s.2.2 = true → s.1 = []) (h2 : s.2.1 ≤ 300) (h3 : s.1.length ≤ 1000000000000) : KfOk (X + 1) s (topF nd s) := by
  obtain ⟨x1, x2, x3, x4, x5, _⟩ := nmF_ok 300 s.1 s.2.2 h1
  unfold topF
  have hl := lpF_ok nd hn hX (nmF 300 s.1 s.2.2).1.toNat ((nmF 300 s.1 s.2.2).2.1, s.2.1, (nmF 300 s.1 s.2.2).2.2) ⟨x1, fun _ => h2, by show s.2.1 ≤ X; omega⟩ (by show (nmF 300 s.1 s.2.2).2.1.length ≤ _; omega)
  generalize lpF nd (nmF 300 s.1 s.2.2).1.toNat ((nmF 300 s.1 s.2.2).2.1, s.2.1, (nmF 300 s.1 s.2.2).2.2) = z at *
  obtain ⟨zo, z⟩ := z
  have hlen := hl.len
  dsimp only at hlen
  cases zo with
  | none => exact ⟨hl.rs, by dsimp only; omega, fun _ => trivial, by have := (hl.none rfl).2; show 0 + s.2.1 ≤ z.2.1; dsimp only at this; omega, fun h => x5 (hl.was h)⟩
  | some f => exact ⟨hl.rs, by dsimp only; omega, fun h5 => (hl.some f rfl).1 (by dsimp only; omega), (hl.some f rfl).2.1, fun h => x5 (hl.was h)⟩
theorem lsF_ok : ∀ (d : Nat), d ≤ 40 → ∀ (s : RS), (s.2.2 = true → s.1 = []) → s.2.1 ≤ 300 → s.1.length ≤ 1000000000000 → KfOk (302 + d) s (lsF d s)
  | 0, _, s, h1, h2, h3 => topF_ok (X := 301) (by omega) _ (fun s a b c => ndF_ok (Y := 301) (by omega) (fun s => (.nil, s)) (fun s a b c => ⟨⟨a, fun _ => b, by show s.2.1 ≤ 301; omega⟩, Nat.le_refl _, fun _ => trivial, by show 0 + s.2.1 ≤ s.2.1; omega, id⟩) false s a b c) (by omega) s h1 h2 h3
  | d + 1, hd, s, h1, h2, h3 => topF_ok (X := 302 + d) (by omega) _ (fun s a b c => ndF_ok (Y := 302 + d) (by omega) _ (lsF_ok d (by omega)) true s a b c) (by omega) s h1 h2 h3
end Go.Proofs.YtmlmpongcpojjaaDoor

/-
  A tree.reader's num, text and attrs, of any bytes.
-/
namespace Go.Proofs.YtmlmpongcpojjaaDoor
open Go.RowKit
set_option linter.unusedVariables false
set_option linter.unusedSimpArgs false

theorem rstop_any (R : Nat) (s : ByteArray) (m : Int) (b : Bool) (w : World) (h : Rdr R s m b w) :
    Calls Tryd.prog 66 #[.pointer (some ⟨R, 0, none⟩)] w fun e w' => e = .returned (.tuple #[]) ∧ Rdr R ⟨#[]⟩ m true w' ∧ KpR R w w' := by
  have f0 : w.frozen? ⟨R, 0, none⟩ = false := h.frozen 0
  have d0 : w.cell? ⟨R, 0, none⟩ = some (.string s) := h.cell 0
  have f2 : w.frozen? ⟨R, 2, none⟩ = false := h.frozen 2
  have d2 : w.cell? ⟨R, 2, none⟩ = some (.bool b) := h.cell 2
  have h1 : Rdr R ⟨#[]⟩ m b (w.setCell ⟨R, 0, none⟩ (.string ⟨#[]⟩)) := Blk.set (vs := #[.string s, .int .i64 m, .bool b]) h 0 (by simp) _
  have h2 : Rdr R ⟨#[]⟩ m true ((w.setCell ⟨R, 0, none⟩ (.string ⟨#[]⟩)).setCell ⟨R, 2, none⟩ (.bool true)) := Blk.set (vs := #[.string ⟨#[]⟩, .int .i64 m, .bool b]) h1 2 (by simp) _
  have HX := hide (And.intro h2 (((KpR.refl R w).set 0 (.string ⟨#[]⟩)).set 2 (.bool true)))
  clear h h1 h2
  go_enter Tryd.func66, Tryd.ntmps66
  go_wp2
  refine bodyPost_end (v := .tuple #[]) (results_none Tryd.results66 _ _ _) rfl ?_
  exact ⟨rfl, unhide HX⟩
theorem numErr_is : numErr = .tuple #[.int .i64 0, .string ⟨#[]⟩, .int .i64 4] := rfl
theorem textErr_is : textErr = .tuple #[.string ⟨#[]⟩, .string ⟨#[]⟩, .int .i64 4] := rfl
set_option maxHeartbeats 2000000 in
theorem rdnum_any (R : Nat) (l : List UInt8) (m most : Int) (b : Bool) (w : World) (h : Rdr R (bs l) m b w) (hs : l.length ≤ 1000000000000) :
    Calls Tryd.prog 65 #[.pointer (some ⟨R, 0, none⟩), .int .i64 most] w fun e w' => e = .returned (.int .i64 (nmF most l b).1) ∧ Rdr R (bs (nmF most l b).2.1) m (nmF most l b).2.2 w' ∧ KpR R w w' := by
  have C := takeNum_any (bs l) w (by rw [bs_size]; omega)
  rw [bs_toList] at C
  unfold nmF
  cases ht : takeN l with
  | some x =>
    obtain ⟨v, k⟩ := x
    dsimp only
    by_cases hv : most < v
    · rw [if_pos hv]
      rw [show takeNV l = .tuple #[.int .i64 v, .string (bs (l.drop k)), .int .i64 0] by unfold takeNV; rw [ht]] at C
      have HC := hide C
      have HR := hide h
      have c0 : w.cell? ⟨R, 0, none⟩ = some (.string (bs l)) := h.cell 0
      have CS := hide (fun W (hW : Rdr R (bs l) m b W) => rstop_any R (bs l) m b W hW)
      generalize bs (l.drop k) = z at *
      clear C h ht
      go_enter Tryd.func65, Tryd.ntmps65
      go_wp2_with fail
      refine (unhide HC).mono ?_
      rintro e w1 ⟨rfl, hb⟩
      have CS1 := hide (unhide CS w1 (Blk.later (unhide HR) hb))
      have HK := hide (KpR.of (R := R) hb)
      clear HC hb HR c0 CS
      go_wp2_with fail
      refine (unhide CS1).mono ?_
      rintro e w2 ⟨rfl, h2, hk2⟩
      have HX := hide (And.intro h2 ((unhide HK).trans hk2))
      clear h2 hk2 CS1 HK
      go_wp2
      go_ret
      exact ⟨rfl, unhide HX⟩
    · rw [if_neg hv]
      have := rnum_ok R (bs l) m most v k b w h (by rw [bs_size]; omega) (by rw [bs_toList]; exact ht) (by omega)
      rw [bs_toList] at this
      exact this
  | none =>
    dsimp only
    rw [show takeNV l = .tuple #[.int .i64 0, .string ⟨#[]⟩, .int .i64 4] by unfold takeNV; rw [ht]; rfl] at C
    have HC := hide C
    have HR := hide h
    have c0 : w.cell? ⟨R, 0, none⟩ = some (.string (bs l)) := h.cell 0
    have CS := hide (fun W (hW : Rdr R (bs l) m b W) => rstop_any R (bs l) m b W hW)
    clear C h ht
    go_enter Tryd.func65, Tryd.ntmps65
    go_wp2_with fail
    refine (unhide HC).mono ?_
    rintro e w1 ⟨rfl, hb⟩
    have CS1 := hide (unhide CS w1 (Blk.later (unhide HR) hb))
    have HK := hide (KpR.of (R := R) hb)
    clear HC hb HR c0 CS
    go_wp2_with fail
    refine (unhide CS1).mono ?_
    rintro e w2 ⟨rfl, h2, hk2⟩
    have HX := hide (And.intro h2 ((unhide HK).trans hk2))
    clear h2 hk2 CS1 HK
    go_wp2
    go_ret
    exact ⟨rfl, unhide HX⟩
set_option maxHeartbeats 2000000 in
theorem rtxt_any (R : Nat) (l : List UInt8) (m : Int) (b : Bool) (w : World) (h : Rdr R (bs l) m b w) (hs : l.length ≤ 1000000000000) :
    Calls Tryd.prog 85 #[.pointer (some ⟨R, 0, none⟩)] w fun e w' => e = .returned (.string (txF l b).1) ∧ Rdr R (bs (txF l b).2.1) m (txF l b).2.2 w' ∧ KpR R w w' := by
  unfold txF
  cases ht : takeT l with
  | some x =>
    obtain ⟨k, n⟩ := x
    have := rtext_ok R (bs l) m k n b w h (by rw [bs_size]; omega) (by rw [bs_toList]; exact ht)
    rw [bs_toList] at this
    exact this
  | none =>
    have C := takeText_any (bs l) w (by rw [bs_size]; omega)
    rw [bs_toList, show takeTV l = .tuple #[.string ⟨#[]⟩, .string ⟨#[]⟩, .int .i64 4] by unfold takeTV; rw [ht]; rfl] at C
    dsimp only
    have HC := hide C
    have HR := hide h
    have c0 : w.cell? ⟨R, 0, none⟩ = some (.string (bs l)) := h.cell 0
    have CS := hide (fun W (hW : Rdr R (bs l) m b W) => rstop_any R (bs l) m b W hW)
    clear C h ht
    go_enter Tryd.func85, Tryd.ntmps85
    go_wp2_with fail
    refine (unhide HC).mono ?_
    rintro e w1 ⟨rfl, hb⟩
    have CS1 := hide (unhide CS w1 (Blk.later (unhide HR) hb))
    have HK := hide (KpR.of (R := R) hb)
    clear HC hb HR c0 CS
    go_wp2_with fail
    refine (unhide CS1).mono ?_
    rintro e w2 ⟨rfl, h2, hk2⟩
    have HX := hide (And.intro h2 ((unhide HK).trans hk2))
    clear h2 hk2 CS1 HK
    go_wp2
    go_ret
    exact ⟨rfl, unhide HX⟩
end Go.Proofs.YtmlmpongcpojjaaDoor

/-
  A tree.reader's attrs, of any bytes (made by mk_yrs.py).
-/
namespace Go.Proofs.YtmlmpongcpojjaaDoor
open Go.RowKit
set_option linter.unusedVariables false
set_option linter.unusedSimpArgs false

/-- The cells of attributes, one behind the other. -/
def flatA (ats : List (ByteArray × ByteArray)) : List Value := ats.flatMap fun a => [.string a.1, .string a.2]
theorem flatA_len (ats : List (ByteArray × ByteArray)) : (flatA ats).length = ats.length * 2 := by
  induction ats with
  | nil => rfl
  | cons a l ih => rw [flatA, List.flatMap_cons, List.length_append]; unfold flatA at ih; rw [ih]; simp; omega
theorem flatA_snoc (ats : List (ByteArray × ByteArray)) (a : ByteArray × ByteArray) : flatA (ats ++ [a]) = flatA ats ++ [.string a.1, .string a.2] := by simp [flatA]
theorem flatA_get (ats : List (ByteArray × ByteArray)) : ∀ k, k < ats.length → (flatA ats)[k * 2]? = some (.string (an ats k)) ∧ (flatA ats)[k * 2 + 1]? = some (.string (av ats k)) := by
  induction ats with
  | nil => intro k h; simp at h
  | cons a l ih =>
    intro k h
    cases k with
    | zero => exact ⟨rfl, rfl⟩
    | succ k =>
      have := ih k (by simpa using h)
      have e1 : (flatA (a :: l))[(k + 1) * 2]? = (flatA l)[k * 2]? := by
        rw [show (k + 1) * 2 = k * 2 + 1 + 1 by omega]; rfl
      have e2 : (flatA (a :: l))[(k + 1) * 2 + 1]? = (flatA l)[k * 2 + 1]? := by
        rw [show (k + 1) * 2 + 1 = k * 2 + 1 + 1 + 1 by omega]; rfl
      rw [e1, e2]
      exact this
theorem cells_of_owns {w : World} {base : Nat} {v : Value} {ats : List (ByteArray × ByteArray)} (h : w.ownsRow base 81 2 v ats.length (flatA ats)) : ∃ q cap, v = .slice q ats.length cap ∧ (ats = [] ∨ ∃ g, q = some ⟨g, 0, none⟩ ∧ (base ≤ g ∧ ats.length ≤ cap) ∧ Cells2 g 0 ats w) := by
  obtain ⟨_, h⟩ := h
  rcases h with ⟨rfl, h0⟩ | ⟨g, cap, cur, rfl, h1, h2, h3, h4, h5, h6⟩
  · exact ⟨none, 0, by rw [h0], Or.inl (List.eq_nil_of_length_eq_zero h0)⟩
  · refine ⟨_, cap, rfl, Or.inr ⟨g, rfl, ⟨h1, by omega⟩, fun k hk => ?_⟩⟩
    have key : ∀ j x, (flatA ats)[j]? = some x → w.cell? ⟨g, 0 + j, none⟩ = some x := fun j x hj => by
      rw [Nat.zero_add, Joins.cell_of_block h2]
      rw [← h6, List.getElem?_take] at hj
      split at hj
      · simpa using hj
      · cases hj
    have := flatA_get ats k hk
    exact ⟨key _ _ this.1, by rw [Nat.add_assoc]; exact key _ _ this.2⟩
theorem infoAttr0 : (Tryd.prog.info? 81).map (fun i => (i.zero, i.size, i.bytes)) = some (some (.agg #[.string ⟨#[]⟩, .string ⟨#[]⟩]), 2, 32) := by kernel_rfl
theorem ownsRow_kpr {w w' : World} {R base : Nat} {e : TypeId} {size : Nat} {v : Value} {n : Nat} {xs : List Value} (h : w.ownsRow base e size v n xs) (hk : KpR R w w') (hR : R < base) : w'.ownsRow base e size v n xs := by
  obtain ⟨hl, h⟩ := h
  refine ⟨hl, ?_⟩
  rcases h with h | ⟨g, cap, cur, h1, h2, h3, h4⟩
  · exact .inl h
  · exact .inr ⟨g, cap, cur, h1, h2, (hk.block g (Array.getElem?_eq_some_iff.1 h3).1 (by omega)).trans h3, h4⟩
theorem KpR.grown {R : Nat} {w W W' : World} {row : Option Nat} (h : KpR R w W) (hg : W.grownBy W' row) (hr : ∀ k, row = some k → w.heap.size ≤ k) : KpR R w W' :=
  ⟨hg.os.trans h.os, hg.tape.trans h.tape, hg.output.trans h.output, Nat.le_trans h.size hg.size, fun k hk hkr => (hg.block k (by have := h.size; omega) (fun e => by have := hr k e.symm; omega)).trans (h.block k hk hkr)⟩
theorem Rdr.grown {R : Nat} {s : ByteArray} {m : Int} {b : Bool} {W W' : World} {row : Option Nat} (h : Rdr R s m b W) (hg : W.grownBy W' row) (hr : some R ≠ row) : Rdr R s m b W' := (hg.block R h.lt hr).trans h
theorem sl_hi {base : Nat} {W : World} {q : Option Addr} {cap : Nat} {ats : List (ByteArray × ByteArray)} (h : ats = [] ∨ ∃ g, q = some ⟨g, 0, none⟩ ∧ (base ≤ g ∧ ats.length ≤ cap) ∧ Cells2 g 0 ats W) : Sl q ats (mask (hiP base) W) :=
  h.imp id fun ⟨g, h1, h2, h3⟩ => ⟨g, 0, h1, fun k hk => ⟨mask_cell.2 ⟨hiP_not h2.1, (h3 k hk).1⟩, mask_cell.2 ⟨hiP_not h2.1, (h3 k hk).2⟩⟩⟩
def AsAt (w : World) (R : Nat) (m : Int) (c : Nat) (res : List (ByteArray × ByteArray) × List UInt8 × Bool) (v i : Value) (wr : World) : Prop :=
  ∃ (j : Nat) (ats : List (ByteArray × ByteArray)) (l : List UInt8) (b : Bool), j ≤ c ∧ i = .int .i64 j ∧ ats.length = j ∧ wr.ownsRow w.heap.size 81 2 v ats.length (flatA ats) ∧ Rdr R (bs l) m b wr ∧ KpR R w wr ∧ (ats ++ (atF (c - j) l b).1, (atF (c - j) l b).2) = res ∧ l.length ≤ 1000000000000 ∧ (b = true → l = [])
set_option maxHeartbeats 4000000 in
set_option maxRecDepth 100000 in
theorem rattrs_any (R : Nat) (l : List UInt8) (m : Int) (b : Bool) (w : World) (h : Rdr R (bs l) m b w) (hs : l.length ≤ 1000000000000) (hb : b = true → l = []) :
    Calls Tryd.prog 86 #[.pointer (some ⟨R, 0, none⟩)] w fun e w' => ∃ q cap, e = .returned (.slice q (asF l b).1.length cap) ∧ Sl q (asF l b).1 (mask (hiP w.heap.size) w') ∧ Rdr R (bs (asF l b).2.1) m (asF l b).2.2 w' ∧ KpR R w w' := by
  obtain ⟨i0, hi0, hi1, hi2, hi3⟩ := info_parts infoAttr0
  have hRl : R < w.heap.size := h.lt
  have CN := hide (rdnum_any R l m 12 b w h (by omega))
  obtain ⟨x1, x2, x3, x4, x5, x6⟩ := nmF_ok 12 l b hb
  have x4' := x4 (by omega)
  have HR : Hid (asF l b = asF l b) := hide rfl
  obtain ⟨res, hres⟩ : ∃ res, asF l b = res := ⟨_, rfl⟩
  have hres' : atF (nmF 12 l b).1.toNat (nmF 12 l b).2.1 (nmF 12 l b).2.2 = res := hres
  rw [hres]
  obtain ⟨c, hc⟩ : ∃ c : Nat, (nmF 12 l b).1 = (c : Int) := ⟨(nmF 12 l b).1.toNat, by omega⟩
  rw [hc] at CN hres' x4'
  simp only [Int.toNat_natCast] at hres'
  generalize (nmF 12 l b).2.1 = l1 at *
  generalize (nmF 12 l b).2.2 = b1 at *
  have HST := hide (And.intro x1 (And.intro x2 hres'))
  clear h hb x1 x2 x3 x4 x5 x6 hres hres' HR hc
  go_enter Tryd.func86, Tryd.ntmps86
  go_wp2_with fail
  refine (unhide CN).mono ?_
  rintro e w1 ⟨rfl, h1, hk1⟩
  have HAT : Hid (AsAt w R m c res (.slice none 0 0) (.int .i64 0) w1) := hide ⟨0, [], l1, b1, Nat.zero_le _, rfl, rfl, World.ownsRow_nil _ _ _ _, h1, hk1, by rw [Nat.sub_zero, (unhide HST).2.2]; rfl, by have := (unhide HST).2.1; omega, (unhide HST).1⟩
  clear CN h1 hk1 HST
  go_wp2
  go_loopw [3, 8] (fun v i wr => AsAt w R m c res v i wr) (fun _ i _ => c - (intOf i).toNat)
  case atStart => exact unhide HAT
  case round =>
    clear HAT
    obtain ⟨j, ats, l2, b2, hj, rfl, hal, hrow, hrd, hk, hres, hl2, hbl⟩ := hrel
    obtain ⟨a5, c5, rfl⟩ := slice_n hrow
    by_cases hp : j < c
    · have hpi : (j : Int) < (c : Int) := by omega
      have CT1 := hide (rtxt_any R l2 m b2 wr hrd (by omega))
      obtain ⟨y1, y2, y3⟩ := txF_ok l2 b2 hbl
      have CT2 := hide (fun W (hW : Rdr R (bs (txF l2 b2).2.1) m (txF l2 b2).2.2 W) => rtxt_any R (txF l2 b2).2.1 m (txF l2 b2).2.2 W hW (by omega))
      obtain ⟨z1, z2, z3⟩ := txF_ok (txF l2 b2).2.1 (txF l2 b2).2.2 y1
      have HRES : Hid (((ats ++ [((txF l2 b2).1, (txF (txF l2 b2).2.1 (txF l2 b2).2.2).1)]) ++ (atF (c - (j + 1)) (txF (txF l2 b2).2.1 (txF l2 b2).2.2).2.1 (txF (txF l2 b2).2.1 (txF l2 b2).2.2).2.2).1, (atF (c - (j + 1)) (txF (txF l2 b2).2.1 (txF l2 b2).2.2).2.1 (txF (txF l2 b2).2.1 (txF l2 b2).2.2).2.2).2) = res) := hide (by
        rw [← hres, show c - j = (c - (j + 1)) + 1 by omega, atF]
        simp only [List.append_assoc, List.cons_append, List.nil_append])
      have HST : Hid ((txF (txF l2 b2).2.1 (txF l2 b2).2.2).2.1.length ≤ 1000000000000 ∧ ((txF (txF l2 b2).2.1 (txF l2 b2).2.2).2.2 = true → (txF (txF l2 b2).2.1 (txF l2 b2).2.2).2.1 = [])) := hide ⟨by omega, z1⟩
      generalize txF (txF l2 b2).2.1 (txF l2 b2).2.2 = Y at *
      generalize txF l2 b2 = X at *
      obtain ⟨xv, xl, xb⟩ := X
      obtain ⟨yv, yl, yb⟩ := Y
      dsimp only at CT1 CT2 HRES HST
      have HROW := hide hrow
      have HK := hide hk
      have halN : ats.length ≤ 12 := by omega
      rw [hal]
      clear hrow hk hrd hres hbl y1 y2 y3 z1 z2 z3
      go_wp2_with fail
      refine (unhide CT1).mono ?_
      rintro e w2 ⟨rfl, h2, hk2⟩
      have CT3 := hide (unhide CT2 w2 h2)
      have HK2 := hide (And.intro hk2 ((unhide HK).trans hk2))
      clear CT1 CT2 h2 hk2
      go_wp2_with fail
      refine (unhide CT3).mono ?_
      rintro e w3 ⟨rfl, h3, hk3⟩
      have hrow3 := ownsRow_kpr (ownsRow_kpr (unhide HROW) (unhide HK2).1 hRl) hk3 hRl
      rw [hal] at hrow3
      have hkk := (unhide HK2).2.trans hk3
      have hsz3 : w.heap.size ≤ w3.heap.size := hkk.size
      have HY := hide (And.intro h3 hkk)
      clear CT3 h3 hk3 hkk HK2 HROW HK
      go_wp2_with (at_builtin; refine wpList_append_own _ rfl _ _ 47 rfl w.heap.size 81 i0 (.agg #[.string ⟨#[]⟩, .string ⟨#[]⟩]) 2 32 Tryd.underlying47 hi0 hi1 hi2 hi3 rfl (by decide) _ _ _ rfl (hrow3.alloc (Obj.cells #[.string xv, .string yv] 81)) ⟨w3.heap.size, 0, none⟩ 1 1 [.string xv, .string yv] rfl rfl (fun j u hj => lit2 rfl hj) (by intro u hu; simp at hu; rcases hu with rfl | rfl <;> rfl) (by unfold maxLen; omega) (by omega) (by simp; omega) ?_)
      intro v' w5 hrow5 hgrow5 _
      obtain ⟨a6, c6, hv5⟩ := slice_n hrow5
      have hown := fun k hk => (hrow3.lt k hk).1
      have hk5 : KpR R w w5 := ((unhide HY).2.alloc (Obj.cells #[.string xv, .string yv] 81)).grown hgrow5 hown
      have h5 : Rdr R (bs yl) m yb w5 := Rdr.grown (Blk.alloc (unhide HY).1 (Obj.cells #[.string xv, .string yv] 81)) hgrow5 (fun e => by have := hown R e.symm; omega)
      subst hv5
      have HZ := hide (And.intro hrow5 (And.intro h5 hk5))
      clear hrow5 hgrow5 hown hk5 h5 hrow3 HY
      go_wp2
      go_roundw
      case rel =>
        obtain ⟨hrow5, h5, hk5⟩ := unhide HZ
        refine ⟨j + 1, ats ++ [(xv, yv)], yl, yb, by omega, by go_num, by rw [List.length_append, hal]; rfl, ?_, h5, hk5, unhide HRES, (unhide HST).1, (unhide HST).2⟩
        rw [flatA_snoc, List.length_append, hal]
        exact hrow5
      case measure => simp [intOf]; omega
    · have hpi : ¬ (j : Int) < (c : Int) := by omega
      have hjc : c - j = 0 := by omega
      rw [hjc, atF, List.append_nil] at hres
      obtain ⟨q, cap, hv, hcs⟩ := cells_of_owns hrow
      injection hv with hv1 hv2 hv3
      subst hv1 hv3
      have HX : Hid (Sl a5 res.1 (mask (hiP w.heap.size) wr) ∧ Rdr R (bs res.2.1) m res.2.2 wr ∧ KpR R w wr ∧ ats.length = res.1.length) := hide (by
        rw [← hres]; exact ⟨sl_hi hcs, hrd, hk, rfl⟩)
      clear hrow hrd hk hres hcs hbl
      go_wp2
      go_ret
      exact ⟨a5, ⟨c5, by rw [← (unhide HX).2.2.2, hal]; rfl⟩, (unhide HX).1, (unhide HX).2.1, (unhide HX).2.2.1⟩
end Go.Proofs.YtmlmpongcpojjaaDoor

/-
  A tree.reader's node, of any bytes (made by mk_yru.py).
-/
namespace Go.Proofs.YtmlmpongcpojjaaDoor
open Go.RowKit
set_option linter.unusedVariables false
set_option linter.unusedSimpArgs false

def NdSaid (w : World) (R : Nat) (z : Nd × RS) (e : Ending) (w' : World) : Prop :=
  ∃ qa ca qk ck, e = .returned (.agg #[.int .i64 z.1.k, .int .i64 z.1.sp, .string z.1.n, .slice qa z.1.ats.length ca, .string z.1.tx, .slice qk z.1.kids.len ck]) ∧ z.1.kids.len ≤ ck ∧ Sl qa z.1.ats (mask (hiP w.heap.size) w') ∧ Fo qk z.1.kids (mask (hiP w.heap.size) w') ∧ Rdr R (bs z.2.1) (z.2.2.1 : Nat) z.2.2.2 w' ∧ KpR R w w'
def LsSaid (w : World) (R : Nat) (z : Forest × RS) (e : Ending) (w' : World) : Prop :=
  ∃ q cap, e = .returned (.slice q z.1.len cap) ∧ z.1.len ≤ cap ∧ Fo q z.1 (mask (hiP w.heap.size) w') ∧ Rdr R (bs z.2.1) (z.2.2.1 : Nat) z.2.2.2 w' ∧ KpR R w w'
set_option maxHeartbeats 4000000 in
set_option maxRecDepth 100000 in
theorem rnode_leafK (R : Nat) (m : Nat) (b1 : Bool) (l1 l2 : List UInt8) (t1 : ByteArray) (b2 : Bool) (dd : Int) (w : World) (hRl : R < w.heap.size) (k : Int) (hk : k = 2 ∨ k = 3)
    (CN : Hid (Calls Tryd.prog 65 #[.pointer (some ⟨R, 0, none⟩), .int .i64 3] (w.alloc (Obj.cells #[.int .i64 0, .int .i64 0, .string ⟨#[]⟩, .slice none 0 0, .string ⟨#[]⟩, .slice none 0 0] 49)) fun e w' => e = .returned (.int .i64 k) ∧ Rdr R (bs l1) m b1 w' ∧ KpR R (w.alloc (Obj.cells #[.int .i64 0, .int .i64 0, .string ⟨#[]⟩, .slice none 0 0, .string ⟨#[]⟩, .slice none 0 0] 49)) w'))
    (CT : Hid (∀ W, Rdr R (bs l1) m b1 W → Calls Tryd.prog 85 #[.pointer (some ⟨R, 0, none⟩)] W fun e w' => e = .returned (.string t1) ∧ Rdr R (bs l2) m b2 w' ∧ KpR R W w')) :
    Calls Tryd.prog 67 #[.pointer (some ⟨R, 0, none⟩), .int .i64 dd] w (NdSaid w R (⟨k, 0, ⟨#[]⟩, [], t1, .nil⟩, l2, m, b2)) := by
  have HZ0 : Hid (Blk (w.alloc (Obj.cells #[.int .i64 0, .int .i64 0, .string ⟨#[]⟩, .slice none 0 0, .string ⟨#[]⟩, .slice none 0 0] 49)) w.heap.size #[.int .i64 0, .int .i64 0, .string ⟨#[]⟩, .slice none 0 0, .string ⟨#[]⟩, .slice none 0 0] 49 ∧ KpR R w (w.alloc (Obj.cells #[.int .i64 0, .int .i64 0, .string ⟨#[]⟩, .slice none 0 0, .string ⟨#[]⟩, .slice none 0 0] 49)) ∧ (w.alloc (Obj.cells #[.int .i64 0, .int .i64 0, .string ⟨#[]⟩, .slice none 0 0, .string ⟨#[]⟩, .slice none 0 0] 49)).heap.size = w.heap.size + 1) := hide ⟨Blk.new w _ _, (KpR.refl R w).alloc _, by simp⟩
  rcases hk with rfl | rfl
  · skip
    go_enter Tryd.func67, Tryd.ntmps67
    go_wp2_with fail
    refine (unhide CN).mono ?_
    rintro e w1 ⟨rfl, h1, hk1⟩
    have hz1 : Blk w1 w.heap.size #[.int .i64 0, .int .i64 0, .string ⟨#[]⟩, .slice none 0 0, .string ⟨#[]⟩, .slice none 0 0] 49 := hk1.blk (unhide HZ0).1 (by omega)
    have hw1 : w.heap.size < w1.heap.size := by have h2 := hk1.size; have h3 := (unhide HZ0).2.2; omega
    have hK1 : KpR R w w1 := (unhide HZ0).2.1.trans hk1
    have hR1 : R < w1.heap.size := by omega
    have hbn := Blk.new w1 #[.int .i64 2, .int .i64 0, .string ⟨#[]⟩, .slice none 0 0, .string ⟨#[]⟩, .slice none 0 0] 49
    have hz2 := Blk.alloc hz1 (Obj.cells #[.int .i64 2, .int .i64 0, .string ⟨#[]⟩, .slice none 0 0, .string ⟨#[]⟩, .slice none 0 0] 49)
    have h2 : Rdr R (bs l1) m b1 (w1.alloc (Obj.cells #[.int .i64 2, .int .i64 0, .string ⟨#[]⟩, .slice none 0 0, .string ⟨#[]⟩, .slice none 0 0] 49)) := Blk.alloc h1 (Obj.cells #[.int .i64 2, .int .i64 0, .string ⟨#[]⟩, .slice none 0 0, .string ⟨#[]⟩, .slice none 0 0] 49)
    have hK2 := hK1.alloc (Obj.cells #[.int .i64 2, .int .i64 0, .string ⟨#[]⟩, .slice none 0 0, .string ⟨#[]⟩, .slice none 0 0] 49)
    have CT1 := hide (unhide CT _ h2)
    have HY := hide (And.intro hz2 (And.intro hbn hK2))
    clear CN CT h1 hk1 hz1 hbn hz2 h2 hK1 hK2 HZ0
    go_wp2_with fail
    refine (unhide CT1).mono ?_
    rintro e w2 ⟨rfl, h2, hk2⟩
    have hz2 := hk2.blk (unhide HY).1 (by omega)
    have hn2 := hk2.blk (unhide HY).2.1 (by omega)
    have HK := hide ((unhide HY).2.2.trans hk2)
    have HR2 := hide h2
    have HSZ : Hid (w.heap.size < w1.heap.size) := hide hw1
    clear CT1 h2 hk2 HY
    have n0 : w2.cell? ⟨w1.heap.size, 0, none⟩ = some (.int .i64 2) := hn2.cell 0
    have n1 : w2.cell? ⟨w1.heap.size, 1, none⟩ = some (.int .i64 0) := hn2.cell 1
    have n2 : w2.cell? ⟨w1.heap.size, 2, none⟩ = some (.string ⟨#[]⟩) := hn2.cell 2
    have n3 : w2.cell? ⟨w1.heap.size, 3, none⟩ = some (.slice none 0 0) := hn2.cell 3
    have n4 : w2.cell? ⟨w1.heap.size, 4, none⟩ = some (.string ⟨#[]⟩) := hn2.cell 4
    have n5 : w2.cell? ⟨w1.heap.size, 5, none⟩ = some (.slice none 0 0) := hn2.cell 5
    have z0 : w2.cell? ⟨w.heap.size, 0, none⟩ = some (.int .i64 0) := hz2.cell 0
    have zf0 : w2.frozen? ⟨w.heap.size, 0, none⟩ = false := hz2.frozen 0
    have z1 : w2.cell? ⟨w.heap.size, 1, none⟩ = some (.int .i64 0) := hz2.cell 1
    have zf1 : w2.frozen? ⟨w.heap.size, 1, none⟩ = false := hz2.frozen 1
    have z2 : w2.cell? ⟨w.heap.size, 2, none⟩ = some (.string ⟨#[]⟩) := hz2.cell 2
    have zf2 : w2.frozen? ⟨w.heap.size, 2, none⟩ = false := hz2.frozen 2
    have z3 : w2.cell? ⟨w.heap.size, 3, none⟩ = some (.slice none 0 0) := hz2.cell 3
    have zf3 : w2.frozen? ⟨w.heap.size, 3, none⟩ = false := hz2.frozen 3
    have z4 : w2.cell? ⟨w.heap.size, 4, none⟩ = some (.string ⟨#[]⟩) := hz2.cell 4
    have zf4 : w2.frozen? ⟨w.heap.size, 4, none⟩ = false := hz2.frozen 4
    have z5 : w2.cell? ⟨w.heap.size, 5, none⟩ = some (.slice none 0 0) := hz2.cell 5
    have zf5 : w2.frozen? ⟨w.heap.size, 5, none⟩ = false := hz2.frozen 5
    have nf4 : w2.frozen? ⟨w1.heap.size, 4, none⟩ = false := hn2.frozen 4
    have hRZ : R ≠ w.heap.size := by omega
    have hRN : R ≠ w1.heap.size := by omega
    have hNZ : w1.heap.size ≠ w.heap.size := by omega
    have hZN : w.heap.size ≠ w1.heap.size := by omega
    obtain ⟨N, hN⟩ : ∃ N, w1.heap.size = N := ⟨_, rfl⟩
    obtain ⟨Z, hZ⟩ : ∃ Z, w.heap.size = Z := ⟨_, rfl⟩
    rw [hN] at n0 n1 n2 n3 n4 n5 nf4 hRN hNZ hZN hn2
    rw [hZ] at z0 zf0 z1 zf1 z2 zf2 z3 zf3 z4 zf4 z5 zf5 hRZ hNZ hZN hz2
    have bk0 : Blk (w2.setCell ⟨N, 4, none⟩ (.string t1)) Z #[.int .i64 0, .int .i64 0, .string ⟨#[]⟩, .slice none 0 0, .string ⟨#[]⟩, .slice none 0 0] 49 := Blk.away hz2 hZN _
    have bk1 : Blk ((w2.setCell ⟨N, 4, none⟩ (.string t1)).setCell ⟨Z, 0, none⟩ (.int .i64 2)) Z #[.int .i64 2, .int .i64 0, .string ⟨#[]⟩, .slice none 0 0, .string ⟨#[]⟩, .slice none 0 0] 49 := Blk.set (vs := #[.int .i64 0, .int .i64 0, .string ⟨#[]⟩, .slice none 0 0, .string ⟨#[]⟩, .slice none 0 0]) bk0 0 (by simp) _
    have r0 : ((w2.setCell ⟨N, 4, none⟩ (.string t1)).setCell ⟨Z, 0, none⟩ (.int .i64 2)).cell? ⟨Z, 0, none⟩ = some (.int .i64 2) := bk1.cell 0
    have bk2 : Blk (((w2.setCell ⟨N, 4, none⟩ (.string t1)).setCell ⟨Z, 0, none⟩ (.int .i64 2)).setCell ⟨Z, 1, none⟩ (.int .i64 0)) Z #[.int .i64 2, .int .i64 0, .string ⟨#[]⟩, .slice none 0 0, .string ⟨#[]⟩, .slice none 0 0] 49 := Blk.set (vs := #[.int .i64 2, .int .i64 0, .string ⟨#[]⟩, .slice none 0 0, .string ⟨#[]⟩, .slice none 0 0]) bk1 1 (by simp) _
    have r1 : (((w2.setCell ⟨N, 4, none⟩ (.string t1)).setCell ⟨Z, 0, none⟩ (.int .i64 2)).setCell ⟨Z, 1, none⟩ (.int .i64 0)).cell? ⟨Z, 1, none⟩ = some (.int .i64 0) := bk2.cell 1
    have bk3 : Blk ((((w2.setCell ⟨N, 4, none⟩ (.string t1)).setCell ⟨Z, 0, none⟩ (.int .i64 2)).setCell ⟨Z, 1, none⟩ (.int .i64 0)).setCell ⟨Z, 2, none⟩ (.string ⟨#[]⟩)) Z #[.int .i64 2, .int .i64 0, .string ⟨#[]⟩, .slice none 0 0, .string ⟨#[]⟩, .slice none 0 0] 49 := Blk.set (vs := #[.int .i64 2, .int .i64 0, .string ⟨#[]⟩, .slice none 0 0, .string ⟨#[]⟩, .slice none 0 0]) bk2 2 (by simp) _
    have r2 : ((((w2.setCell ⟨N, 4, none⟩ (.string t1)).setCell ⟨Z, 0, none⟩ (.int .i64 2)).setCell ⟨Z, 1, none⟩ (.int .i64 0)).setCell ⟨Z, 2, none⟩ (.string ⟨#[]⟩)).cell? ⟨Z, 2, none⟩ = some (.string ⟨#[]⟩) := bk3.cell 2
    have bk4 : Blk (((((w2.setCell ⟨N, 4, none⟩ (.string t1)).setCell ⟨Z, 0, none⟩ (.int .i64 2)).setCell ⟨Z, 1, none⟩ (.int .i64 0)).setCell ⟨Z, 2, none⟩ (.string ⟨#[]⟩)).setCell ⟨Z, 3, none⟩ (.slice none 0 0)) Z #[.int .i64 2, .int .i64 0, .string ⟨#[]⟩, .slice none 0 0, .string ⟨#[]⟩, .slice none 0 0] 49 := Blk.set (vs := #[.int .i64 2, .int .i64 0, .string ⟨#[]⟩, .slice none 0 0, .string ⟨#[]⟩, .slice none 0 0]) bk3 3 (by simp) _
    have r3 : (((((w2.setCell ⟨N, 4, none⟩ (.string t1)).setCell ⟨Z, 0, none⟩ (.int .i64 2)).setCell ⟨Z, 1, none⟩ (.int .i64 0)).setCell ⟨Z, 2, none⟩ (.string ⟨#[]⟩)).setCell ⟨Z, 3, none⟩ (.slice none 0 0)).cell? ⟨Z, 3, none⟩ = some (.slice none 0 0) := bk4.cell 3
    have bk5 : Blk ((((((w2.setCell ⟨N, 4, none⟩ (.string t1)).setCell ⟨Z, 0, none⟩ (.int .i64 2)).setCell ⟨Z, 1, none⟩ (.int .i64 0)).setCell ⟨Z, 2, none⟩ (.string ⟨#[]⟩)).setCell ⟨Z, 3, none⟩ (.slice none 0 0)).setCell ⟨Z, 4, none⟩ (.string t1)) Z #[.int .i64 2, .int .i64 0, .string ⟨#[]⟩, .slice none 0 0, .string t1, .slice none 0 0] 49 := Blk.set (vs := #[.int .i64 2, .int .i64 0, .string ⟨#[]⟩, .slice none 0 0, .string ⟨#[]⟩, .slice none 0 0]) bk4 4 (by simp) _
    have r4 : ((((((w2.setCell ⟨N, 4, none⟩ (.string t1)).setCell ⟨Z, 0, none⟩ (.int .i64 2)).setCell ⟨Z, 1, none⟩ (.int .i64 0)).setCell ⟨Z, 2, none⟩ (.string ⟨#[]⟩)).setCell ⟨Z, 3, none⟩ (.slice none 0 0)).setCell ⟨Z, 4, none⟩ (.string t1)).cell? ⟨Z, 4, none⟩ = some (.string t1) := bk5.cell 4
    have bk6 : Blk (((((((w2.setCell ⟨N, 4, none⟩ (.string t1)).setCell ⟨Z, 0, none⟩ (.int .i64 2)).setCell ⟨Z, 1, none⟩ (.int .i64 0)).setCell ⟨Z, 2, none⟩ (.string ⟨#[]⟩)).setCell ⟨Z, 3, none⟩ (.slice none 0 0)).setCell ⟨Z, 4, none⟩ (.string t1)).setCell ⟨Z, 5, none⟩ (.slice none 0 0)) Z #[.int .i64 2, .int .i64 0, .string ⟨#[]⟩, .slice none 0 0, .string t1, .slice none 0 0] 49 := Blk.set (vs := #[.int .i64 2, .int .i64 0, .string ⟨#[]⟩, .slice none 0 0, .string t1, .slice none 0 0]) bk5 5 (by simp) _
    have r5 : (((((((w2.setCell ⟨N, 4, none⟩ (.string t1)).setCell ⟨Z, 0, none⟩ (.int .i64 2)).setCell ⟨Z, 1, none⟩ (.int .i64 0)).setCell ⟨Z, 2, none⟩ (.string ⟨#[]⟩)).setCell ⟨Z, 3, none⟩ (.slice none 0 0)).setCell ⟨Z, 4, none⟩ (.string t1)).setCell ⟨Z, 5, none⟩ (.slice none 0 0)).cell? ⟨Z, 5, none⟩ = some (.slice none 0 0) := bk6.cell 5
    have HRS := hide (And.intro r0 (And.intro r1 (And.intro r2 (And.intro r3 (And.intro r4 r5)))))
    have HE : Hid (NdSaid w R (⟨2, 0, ⟨#[]⟩, [], t1, .nil⟩, l2, m, b2) (.returned (.agg #[.int .i64 2, .int .i64 0, .string ⟨#[]⟩, .slice none 0 0, .string t1, .slice none 0 0])) (((((((w2.setCell ⟨N, 4, none⟩ (.string t1)).setCell ⟨Z, 0, none⟩ (.int .i64 2)).setCell ⟨Z, 1, none⟩ (.int .i64 0)).setCell ⟨Z, 2, none⟩ (.string ⟨#[]⟩)).setCell ⟨Z, 3, none⟩ (.slice none 0 0)).setCell ⟨Z, 4, none⟩ (.string t1)).setCell ⟨Z, 5, none⟩ (.slice none 0 0))) := hide ⟨none, 0, none, 0, rfl, Nat.le_refl _, .inl rfl, .inl rfl, Blk.away (Blk.away (Blk.away (Blk.away (Blk.away (Blk.away (Blk.away (unhide HR2) hRN _) hRZ _) hRZ _) hRZ _) hRZ _) hRZ _) hRZ _, KpR.setAt (KpR.setAt (KpR.setAt (KpR.setAt (KpR.setAt (KpR.setAt (KpR.setAt ((unhide HK)) (b := N) (by have h1 := (unhide HSZ); omega) 4 _) (b := Z) (Nat.le_of_eq hZ) 0 _) (b := Z) (Nat.le_of_eq hZ) 1 _) (b := Z) (Nat.le_of_eq hZ) 2 _) (b := Z) (Nat.le_of_eq hZ) 3 _) (b := Z) (Nat.le_of_eq hZ) 4 _) (b := Z) (Nat.le_of_eq hZ) 5 _⟩
    clear bk0 bk1 bk2 bk3 bk4 bk5 bk6 r0 r1 r2 r3 r4 r5 hz2 hn2 HK HR2
    simp only [hN, hZ]
    clear hN hZ
    go_wp2
    obtain ⟨r0, r1, r2, r3, r4, r5⟩ := unhide HRS
    refine bodyPost_ret (v := .agg #[.int .i64 2, .int .i64 0, .string ⟨#[]⟩, .slice none 0 0, .string t1, .slice none 0 0]) (by simp [results, Tryd.results67, go_sem, r0, r1, r2, r3, r4, r5]) rfl ?_
    exact unhide HE
  · skip
    go_enter Tryd.func67, Tryd.ntmps67
    go_wp2_with fail
    refine (unhide CN).mono ?_
    rintro e w1 ⟨rfl, h1, hk1⟩
    have hz1 : Blk w1 w.heap.size #[.int .i64 0, .int .i64 0, .string ⟨#[]⟩, .slice none 0 0, .string ⟨#[]⟩, .slice none 0 0] 49 := hk1.blk (unhide HZ0).1 (by omega)
    have hw1 : w.heap.size < w1.heap.size := by have h2 := hk1.size; have h3 := (unhide HZ0).2.2; omega
    have hK1 : KpR R w w1 := (unhide HZ0).2.1.trans hk1
    have hR1 : R < w1.heap.size := by omega
    have hbn := Blk.new w1 #[.int .i64 3, .int .i64 0, .string ⟨#[]⟩, .slice none 0 0, .string ⟨#[]⟩, .slice none 0 0] 49
    have hz2 := Blk.alloc hz1 (Obj.cells #[.int .i64 3, .int .i64 0, .string ⟨#[]⟩, .slice none 0 0, .string ⟨#[]⟩, .slice none 0 0] 49)
    have h2 : Rdr R (bs l1) m b1 (w1.alloc (Obj.cells #[.int .i64 3, .int .i64 0, .string ⟨#[]⟩, .slice none 0 0, .string ⟨#[]⟩, .slice none 0 0] 49)) := Blk.alloc h1 (Obj.cells #[.int .i64 3, .int .i64 0, .string ⟨#[]⟩, .slice none 0 0, .string ⟨#[]⟩, .slice none 0 0] 49)
    have hK2 := hK1.alloc (Obj.cells #[.int .i64 3, .int .i64 0, .string ⟨#[]⟩, .slice none 0 0, .string ⟨#[]⟩, .slice none 0 0] 49)
    have CT1 := hide (unhide CT _ h2)
    have HY := hide (And.intro hz2 (And.intro hbn hK2))
    clear CN CT h1 hk1 hz1 hbn hz2 h2 hK1 hK2 HZ0
    go_wp2_with fail
    refine (unhide CT1).mono ?_
    rintro e w2 ⟨rfl, h2, hk2⟩
    have hz2 := hk2.blk (unhide HY).1 (by omega)
    have hn2 := hk2.blk (unhide HY).2.1 (by omega)
    have HK := hide ((unhide HY).2.2.trans hk2)
    have HR2 := hide h2
    have HSZ : Hid (w.heap.size < w1.heap.size) := hide hw1
    clear CT1 h2 hk2 HY
    have n0 : w2.cell? ⟨w1.heap.size, 0, none⟩ = some (.int .i64 3) := hn2.cell 0
    have n1 : w2.cell? ⟨w1.heap.size, 1, none⟩ = some (.int .i64 0) := hn2.cell 1
    have n2 : w2.cell? ⟨w1.heap.size, 2, none⟩ = some (.string ⟨#[]⟩) := hn2.cell 2
    have n3 : w2.cell? ⟨w1.heap.size, 3, none⟩ = some (.slice none 0 0) := hn2.cell 3
    have n4 : w2.cell? ⟨w1.heap.size, 4, none⟩ = some (.string ⟨#[]⟩) := hn2.cell 4
    have n5 : w2.cell? ⟨w1.heap.size, 5, none⟩ = some (.slice none 0 0) := hn2.cell 5
    have z0 : w2.cell? ⟨w.heap.size, 0, none⟩ = some (.int .i64 0) := hz2.cell 0
    have zf0 : w2.frozen? ⟨w.heap.size, 0, none⟩ = false := hz2.frozen 0
    have z1 : w2.cell? ⟨w.heap.size, 1, none⟩ = some (.int .i64 0) := hz2.cell 1
    have zf1 : w2.frozen? ⟨w.heap.size, 1, none⟩ = false := hz2.frozen 1
    have z2 : w2.cell? ⟨w.heap.size, 2, none⟩ = some (.string ⟨#[]⟩) := hz2.cell 2
    have zf2 : w2.frozen? ⟨w.heap.size, 2, none⟩ = false := hz2.frozen 2
    have z3 : w2.cell? ⟨w.heap.size, 3, none⟩ = some (.slice none 0 0) := hz2.cell 3
    have zf3 : w2.frozen? ⟨w.heap.size, 3, none⟩ = false := hz2.frozen 3
    have z4 : w2.cell? ⟨w.heap.size, 4, none⟩ = some (.string ⟨#[]⟩) := hz2.cell 4
    have zf4 : w2.frozen? ⟨w.heap.size, 4, none⟩ = false := hz2.frozen 4
    have z5 : w2.cell? ⟨w.heap.size, 5, none⟩ = some (.slice none 0 0) := hz2.cell 5
    have zf5 : w2.frozen? ⟨w.heap.size, 5, none⟩ = false := hz2.frozen 5
    have nf4 : w2.frozen? ⟨w1.heap.size, 4, none⟩ = false := hn2.frozen 4
    have hRZ : R ≠ w.heap.size := by omega
    have hRN : R ≠ w1.heap.size := by omega
    have hNZ : w1.heap.size ≠ w.heap.size := by omega
    have hZN : w.heap.size ≠ w1.heap.size := by omega
    obtain ⟨N, hN⟩ : ∃ N, w1.heap.size = N := ⟨_, rfl⟩
    obtain ⟨Z, hZ⟩ : ∃ Z, w.heap.size = Z := ⟨_, rfl⟩
    rw [hN] at n0 n1 n2 n3 n4 n5 nf4 hRN hNZ hZN hn2
    rw [hZ] at z0 zf0 z1 zf1 z2 zf2 z3 zf3 z4 zf4 z5 zf5 hRZ hNZ hZN hz2
    have bk0 : Blk (w2.setCell ⟨N, 4, none⟩ (.string t1)) Z #[.int .i64 0, .int .i64 0, .string ⟨#[]⟩, .slice none 0 0, .string ⟨#[]⟩, .slice none 0 0] 49 := Blk.away hz2 hZN _
    have bk1 : Blk ((w2.setCell ⟨N, 4, none⟩ (.string t1)).setCell ⟨Z, 0, none⟩ (.int .i64 3)) Z #[.int .i64 3, .int .i64 0, .string ⟨#[]⟩, .slice none 0 0, .string ⟨#[]⟩, .slice none 0 0] 49 := Blk.set (vs := #[.int .i64 0, .int .i64 0, .string ⟨#[]⟩, .slice none 0 0, .string ⟨#[]⟩, .slice none 0 0]) bk0 0 (by simp) _
    have r0 : ((w2.setCell ⟨N, 4, none⟩ (.string t1)).setCell ⟨Z, 0, none⟩ (.int .i64 3)).cell? ⟨Z, 0, none⟩ = some (.int .i64 3) := bk1.cell 0
    have bk2 : Blk (((w2.setCell ⟨N, 4, none⟩ (.string t1)).setCell ⟨Z, 0, none⟩ (.int .i64 3)).setCell ⟨Z, 1, none⟩ (.int .i64 0)) Z #[.int .i64 3, .int .i64 0, .string ⟨#[]⟩, .slice none 0 0, .string ⟨#[]⟩, .slice none 0 0] 49 := Blk.set (vs := #[.int .i64 3, .int .i64 0, .string ⟨#[]⟩, .slice none 0 0, .string ⟨#[]⟩, .slice none 0 0]) bk1 1 (by simp) _
    have r1 : (((w2.setCell ⟨N, 4, none⟩ (.string t1)).setCell ⟨Z, 0, none⟩ (.int .i64 3)).setCell ⟨Z, 1, none⟩ (.int .i64 0)).cell? ⟨Z, 1, none⟩ = some (.int .i64 0) := bk2.cell 1
    have bk3 : Blk ((((w2.setCell ⟨N, 4, none⟩ (.string t1)).setCell ⟨Z, 0, none⟩ (.int .i64 3)).setCell ⟨Z, 1, none⟩ (.int .i64 0)).setCell ⟨Z, 2, none⟩ (.string ⟨#[]⟩)) Z #[.int .i64 3, .int .i64 0, .string ⟨#[]⟩, .slice none 0 0, .string ⟨#[]⟩, .slice none 0 0] 49 := Blk.set (vs := #[.int .i64 3, .int .i64 0, .string ⟨#[]⟩, .slice none 0 0, .string ⟨#[]⟩, .slice none 0 0]) bk2 2 (by simp) _
    have r2 : ((((w2.setCell ⟨N, 4, none⟩ (.string t1)).setCell ⟨Z, 0, none⟩ (.int .i64 3)).setCell ⟨Z, 1, none⟩ (.int .i64 0)).setCell ⟨Z, 2, none⟩ (.string ⟨#[]⟩)).cell? ⟨Z, 2, none⟩ = some (.string ⟨#[]⟩) := bk3.cell 2
    have bk4 : Blk (((((w2.setCell ⟨N, 4, none⟩ (.string t1)).setCell ⟨Z, 0, none⟩ (.int .i64 3)).setCell ⟨Z, 1, none⟩ (.int .i64 0)).setCell ⟨Z, 2, none⟩ (.string ⟨#[]⟩)).setCell ⟨Z, 3, none⟩ (.slice none 0 0)) Z #[.int .i64 3, .int .i64 0, .string ⟨#[]⟩, .slice none 0 0, .string ⟨#[]⟩, .slice none 0 0] 49 := Blk.set (vs := #[.int .i64 3, .int .i64 0, .string ⟨#[]⟩, .slice none 0 0, .string ⟨#[]⟩, .slice none 0 0]) bk3 3 (by simp) _
    have r3 : (((((w2.setCell ⟨N, 4, none⟩ (.string t1)).setCell ⟨Z, 0, none⟩ (.int .i64 3)).setCell ⟨Z, 1, none⟩ (.int .i64 0)).setCell ⟨Z, 2, none⟩ (.string ⟨#[]⟩)).setCell ⟨Z, 3, none⟩ (.slice none 0 0)).cell? ⟨Z, 3, none⟩ = some (.slice none 0 0) := bk4.cell 3
    have bk5 : Blk ((((((w2.setCell ⟨N, 4, none⟩ (.string t1)).setCell ⟨Z, 0, none⟩ (.int .i64 3)).setCell ⟨Z, 1, none⟩ (.int .i64 0)).setCell ⟨Z, 2, none⟩ (.string ⟨#[]⟩)).setCell ⟨Z, 3, none⟩ (.slice none 0 0)).setCell ⟨Z, 4, none⟩ (.string t1)) Z #[.int .i64 3, .int .i64 0, .string ⟨#[]⟩, .slice none 0 0, .string t1, .slice none 0 0] 49 := Blk.set (vs := #[.int .i64 3, .int .i64 0, .string ⟨#[]⟩, .slice none 0 0, .string ⟨#[]⟩, .slice none 0 0]) bk4 4 (by simp) _
    have r4 : ((((((w2.setCell ⟨N, 4, none⟩ (.string t1)).setCell ⟨Z, 0, none⟩ (.int .i64 3)).setCell ⟨Z, 1, none⟩ (.int .i64 0)).setCell ⟨Z, 2, none⟩ (.string ⟨#[]⟩)).setCell ⟨Z, 3, none⟩ (.slice none 0 0)).setCell ⟨Z, 4, none⟩ (.string t1)).cell? ⟨Z, 4, none⟩ = some (.string t1) := bk5.cell 4
    have bk6 : Blk (((((((w2.setCell ⟨N, 4, none⟩ (.string t1)).setCell ⟨Z, 0, none⟩ (.int .i64 3)).setCell ⟨Z, 1, none⟩ (.int .i64 0)).setCell ⟨Z, 2, none⟩ (.string ⟨#[]⟩)).setCell ⟨Z, 3, none⟩ (.slice none 0 0)).setCell ⟨Z, 4, none⟩ (.string t1)).setCell ⟨Z, 5, none⟩ (.slice none 0 0)) Z #[.int .i64 3, .int .i64 0, .string ⟨#[]⟩, .slice none 0 0, .string t1, .slice none 0 0] 49 := Blk.set (vs := #[.int .i64 3, .int .i64 0, .string ⟨#[]⟩, .slice none 0 0, .string t1, .slice none 0 0]) bk5 5 (by simp) _
    have r5 : (((((((w2.setCell ⟨N, 4, none⟩ (.string t1)).setCell ⟨Z, 0, none⟩ (.int .i64 3)).setCell ⟨Z, 1, none⟩ (.int .i64 0)).setCell ⟨Z, 2, none⟩ (.string ⟨#[]⟩)).setCell ⟨Z, 3, none⟩ (.slice none 0 0)).setCell ⟨Z, 4, none⟩ (.string t1)).setCell ⟨Z, 5, none⟩ (.slice none 0 0)).cell? ⟨Z, 5, none⟩ = some (.slice none 0 0) := bk6.cell 5
    have HRS := hide (And.intro r0 (And.intro r1 (And.intro r2 (And.intro r3 (And.intro r4 r5)))))
    have HE : Hid (NdSaid w R (⟨3, 0, ⟨#[]⟩, [], t1, .nil⟩, l2, m, b2) (.returned (.agg #[.int .i64 3, .int .i64 0, .string ⟨#[]⟩, .slice none 0 0, .string t1, .slice none 0 0])) (((((((w2.setCell ⟨N, 4, none⟩ (.string t1)).setCell ⟨Z, 0, none⟩ (.int .i64 3)).setCell ⟨Z, 1, none⟩ (.int .i64 0)).setCell ⟨Z, 2, none⟩ (.string ⟨#[]⟩)).setCell ⟨Z, 3, none⟩ (.slice none 0 0)).setCell ⟨Z, 4, none⟩ (.string t1)).setCell ⟨Z, 5, none⟩ (.slice none 0 0))) := hide ⟨none, 0, none, 0, rfl, Nat.le_refl _, .inl rfl, .inl rfl, Blk.away (Blk.away (Blk.away (Blk.away (Blk.away (Blk.away (Blk.away (unhide HR2) hRN _) hRZ _) hRZ _) hRZ _) hRZ _) hRZ _) hRZ _, KpR.setAt (KpR.setAt (KpR.setAt (KpR.setAt (KpR.setAt (KpR.setAt (KpR.setAt ((unhide HK)) (b := N) (by have h1 := (unhide HSZ); omega) 4 _) (b := Z) (Nat.le_of_eq hZ) 0 _) (b := Z) (Nat.le_of_eq hZ) 1 _) (b := Z) (Nat.le_of_eq hZ) 2 _) (b := Z) (Nat.le_of_eq hZ) 3 _) (b := Z) (Nat.le_of_eq hZ) 4 _) (b := Z) (Nat.le_of_eq hZ) 5 _⟩
    clear bk0 bk1 bk2 bk3 bk4 bk5 bk6 r0 r1 r2 r3 r4 r5 hz2 hn2 HK HR2
    simp only [hN, hZ]
    clear hN hZ
    go_wp2
    obtain ⟨r0, r1, r2, r3, r4, r5⟩ := unhide HRS
    refine bodyPost_ret (v := .agg #[.int .i64 3, .int .i64 0, .string ⟨#[]⟩, .slice none 0 0, .string t1, .slice none 0 0]) (by simp [results, Tryd.results67, go_sem, r0, r1, r2, r3, r4, r5]) rfl ?_
    exact unhide HE

set_option maxHeartbeats 4000000 in
set_option maxRecDepth 100000 in
theorem rnode_badK (R : Nat) (m : Nat) (b1 : Bool) (l1 : List UInt8) (dd : Int) (w : World) (hRl : R < w.heap.size) (k : Int) (hk : k = 0 ∨ (k = 1 ∧ ¬ dd ≤ 40))
    (CN : Hid (Calls Tryd.prog 65 #[.pointer (some ⟨R, 0, none⟩), .int .i64 3] (w.alloc (Obj.cells #[.int .i64 0, .int .i64 0, .string ⟨#[]⟩, .slice none 0 0, .string ⟨#[]⟩, .slice none 0 0] 49)) fun e w' => e = .returned (.int .i64 k) ∧ Rdr R (bs l1) m b1 w' ∧ KpR R (w.alloc (Obj.cells #[.int .i64 0, .int .i64 0, .string ⟨#[]⟩, .slice none 0 0, .string ⟨#[]⟩, .slice none 0 0] 49)) w'))
    (CX : Hid (∀ W, Rdr R (bs l1) m b1 W → Calls Tryd.prog 66 #[.pointer (some ⟨R, 0, none⟩)] W fun e w' => e = .returned (.tuple #[]) ∧ Rdr R (bs []) m true w' ∧ KpR R W w')) :
    Calls Tryd.prog 67 #[.pointer (some ⟨R, 0, none⟩), .int .i64 dd] w (NdSaid w R (⟨k, 0, ⟨#[]⟩, [], ⟨#[]⟩, .nil⟩, [], m, true)) := by
  have HZ0 : Hid (Blk (w.alloc (Obj.cells #[.int .i64 0, .int .i64 0, .string ⟨#[]⟩, .slice none 0 0, .string ⟨#[]⟩, .slice none 0 0] 49)) w.heap.size #[.int .i64 0, .int .i64 0, .string ⟨#[]⟩, .slice none 0 0, .string ⟨#[]⟩, .slice none 0 0] 49 ∧ KpR R w (w.alloc (Obj.cells #[.int .i64 0, .int .i64 0, .string ⟨#[]⟩, .slice none 0 0, .string ⟨#[]⟩, .slice none 0 0] 49)) ∧ (w.alloc (Obj.cells #[.int .i64 0, .int .i64 0, .string ⟨#[]⟩, .slice none 0 0, .string ⟨#[]⟩, .slice none 0 0] 49)).heap.size = w.heap.size + 1) := hide ⟨Blk.new w _ _, (KpR.refl R w).alloc _, by simp⟩
  rcases hk with rfl | ⟨rfl, hdd⟩
  · skip
    go_enter Tryd.func67, Tryd.ntmps67
    go_wp2_with fail
    refine (unhide CN).mono ?_
    rintro e w1 ⟨rfl, h1, hk1⟩
    have hz1 : Blk w1 w.heap.size #[.int .i64 0, .int .i64 0, .string ⟨#[]⟩, .slice none 0 0, .string ⟨#[]⟩, .slice none 0 0] 49 := hk1.blk (unhide HZ0).1 (by omega)
    have hw1 : w.heap.size < w1.heap.size := by have h2 := hk1.size; have h3 := (unhide HZ0).2.2; omega
    have hK1 : KpR R w w1 := (unhide HZ0).2.1.trans hk1
    have hR1 : R < w1.heap.size := by omega
    have hbn := Blk.new w1 #[.int .i64 0, .int .i64 0, .string ⟨#[]⟩, .slice none 0 0, .string ⟨#[]⟩, .slice none 0 0] 49
    have hz2 := Blk.alloc hz1 (Obj.cells #[.int .i64 0, .int .i64 0, .string ⟨#[]⟩, .slice none 0 0, .string ⟨#[]⟩, .slice none 0 0] 49)
    have h2 : Rdr R (bs l1) m b1 (w1.alloc (Obj.cells #[.int .i64 0, .int .i64 0, .string ⟨#[]⟩, .slice none 0 0, .string ⟨#[]⟩, .slice none 0 0] 49)) := Blk.alloc h1 (Obj.cells #[.int .i64 0, .int .i64 0, .string ⟨#[]⟩, .slice none 0 0, .string ⟨#[]⟩, .slice none 0 0] 49)
    have hK2 := hK1.alloc (Obj.cells #[.int .i64 0, .int .i64 0, .string ⟨#[]⟩, .slice none 0 0, .string ⟨#[]⟩, .slice none 0 0] 49)
    have CT1 := hide (unhide CX _ h2)
    have HY := hide (And.intro hz2 (And.intro hbn hK2))
    clear CN CX h1 hk1 hz1 hbn hz2 h2 hK1 hK2 HZ0
    go_wp2_with fail
    refine (unhide CT1).mono ?_
    rintro e w2 ⟨rfl, h2, hk2⟩
    have hz2 := hk2.blk (unhide HY).1 (by omega)
    have hn2 := hk2.blk (unhide HY).2.1 (by omega)
    have HK := hide ((unhide HY).2.2.trans hk2)
    have HR2 := hide h2
    have HSZ : Hid (w.heap.size < w1.heap.size) := hide hw1
    clear CT1 h2 hk2 HY
    have n0 : w2.cell? ⟨w1.heap.size, 0, none⟩ = some (.int .i64 0) := hn2.cell 0
    have n1 : w2.cell? ⟨w1.heap.size, 1, none⟩ = some (.int .i64 0) := hn2.cell 1
    have n2 : w2.cell? ⟨w1.heap.size, 2, none⟩ = some (.string ⟨#[]⟩) := hn2.cell 2
    have n3 : w2.cell? ⟨w1.heap.size, 3, none⟩ = some (.slice none 0 0) := hn2.cell 3
    have n4 : w2.cell? ⟨w1.heap.size, 4, none⟩ = some (.string ⟨#[]⟩) := hn2.cell 4
    have n5 : w2.cell? ⟨w1.heap.size, 5, none⟩ = some (.slice none 0 0) := hn2.cell 5
    have z0 : w2.cell? ⟨w.heap.size, 0, none⟩ = some (.int .i64 0) := hz2.cell 0
    have zf0 : w2.frozen? ⟨w.heap.size, 0, none⟩ = false := hz2.frozen 0
    have z1 : w2.cell? ⟨w.heap.size, 1, none⟩ = some (.int .i64 0) := hz2.cell 1
    have zf1 : w2.frozen? ⟨w.heap.size, 1, none⟩ = false := hz2.frozen 1
    have z2 : w2.cell? ⟨w.heap.size, 2, none⟩ = some (.string ⟨#[]⟩) := hz2.cell 2
    have zf2 : w2.frozen? ⟨w.heap.size, 2, none⟩ = false := hz2.frozen 2
    have z3 : w2.cell? ⟨w.heap.size, 3, none⟩ = some (.slice none 0 0) := hz2.cell 3
    have zf3 : w2.frozen? ⟨w.heap.size, 3, none⟩ = false := hz2.frozen 3
    have z4 : w2.cell? ⟨w.heap.size, 4, none⟩ = some (.string ⟨#[]⟩) := hz2.cell 4
    have zf4 : w2.frozen? ⟨w.heap.size, 4, none⟩ = false := hz2.frozen 4
    have z5 : w2.cell? ⟨w.heap.size, 5, none⟩ = some (.slice none 0 0) := hz2.cell 5
    have zf5 : w2.frozen? ⟨w.heap.size, 5, none⟩ = false := hz2.frozen 5
    have hRZ : R ≠ w.heap.size := by omega
    have hRN : R ≠ w1.heap.size := by omega
    have hNZ : w1.heap.size ≠ w.heap.size := by omega
    have hZN : w.heap.size ≠ w1.heap.size := by omega
    obtain ⟨N, hN⟩ : ∃ N, w1.heap.size = N := ⟨_, rfl⟩
    obtain ⟨Z, hZ⟩ : ∃ Z, w.heap.size = Z := ⟨_, rfl⟩
    rw [hN] at n0 n1 n2 n3 n4 n5 hRN hNZ hZN hn2
    rw [hZ] at z0 zf0 z1 zf1 z2 zf2 z3 zf3 z4 zf4 z5 zf5 hRZ hNZ hZN hz2
    have bk0 : Blk w2 Z #[.int .i64 0, .int .i64 0, .string ⟨#[]⟩, .slice none 0 0, .string ⟨#[]⟩, .slice none 0 0] 49 := hz2
    have bk1 : Blk (w2.setCell ⟨Z, 0, none⟩ (.int .i64 0)) Z #[.int .i64 0, .int .i64 0, .string ⟨#[]⟩, .slice none 0 0, .string ⟨#[]⟩, .slice none 0 0] 49 := Blk.set (vs := #[.int .i64 0, .int .i64 0, .string ⟨#[]⟩, .slice none 0 0, .string ⟨#[]⟩, .slice none 0 0]) bk0 0 (by simp) _
    have r0 : (w2.setCell ⟨Z, 0, none⟩ (.int .i64 0)).cell? ⟨Z, 0, none⟩ = some (.int .i64 0) := bk1.cell 0
    have bk2 : Blk ((w2.setCell ⟨Z, 0, none⟩ (.int .i64 0)).setCell ⟨Z, 1, none⟩ (.int .i64 0)) Z #[.int .i64 0, .int .i64 0, .string ⟨#[]⟩, .slice none 0 0, .string ⟨#[]⟩, .slice none 0 0] 49 := Blk.set (vs := #[.int .i64 0, .int .i64 0, .string ⟨#[]⟩, .slice none 0 0, .string ⟨#[]⟩, .slice none 0 0]) bk1 1 (by simp) _
    have r1 : ((w2.setCell ⟨Z, 0, none⟩ (.int .i64 0)).setCell ⟨Z, 1, none⟩ (.int .i64 0)).cell? ⟨Z, 1, none⟩ = some (.int .i64 0) := bk2.cell 1
    have bk3 : Blk (((w2.setCell ⟨Z, 0, none⟩ (.int .i64 0)).setCell ⟨Z, 1, none⟩ (.int .i64 0)).setCell ⟨Z, 2, none⟩ (.string ⟨#[]⟩)) Z #[.int .i64 0, .int .i64 0, .string ⟨#[]⟩, .slice none 0 0, .string ⟨#[]⟩, .slice none 0 0] 49 := Blk.set (vs := #[.int .i64 0, .int .i64 0, .string ⟨#[]⟩, .slice none 0 0, .string ⟨#[]⟩, .slice none 0 0]) bk2 2 (by simp) _
    have r2 : (((w2.setCell ⟨Z, 0, none⟩ (.int .i64 0)).setCell ⟨Z, 1, none⟩ (.int .i64 0)).setCell ⟨Z, 2, none⟩ (.string ⟨#[]⟩)).cell? ⟨Z, 2, none⟩ = some (.string ⟨#[]⟩) := bk3.cell 2
    have bk4 : Blk ((((w2.setCell ⟨Z, 0, none⟩ (.int .i64 0)).setCell ⟨Z, 1, none⟩ (.int .i64 0)).setCell ⟨Z, 2, none⟩ (.string ⟨#[]⟩)).setCell ⟨Z, 3, none⟩ (.slice none 0 0)) Z #[.int .i64 0, .int .i64 0, .string ⟨#[]⟩, .slice none 0 0, .string ⟨#[]⟩, .slice none 0 0] 49 := Blk.set (vs := #[.int .i64 0, .int .i64 0, .string ⟨#[]⟩, .slice none 0 0, .string ⟨#[]⟩, .slice none 0 0]) bk3 3 (by simp) _
    have r3 : ((((w2.setCell ⟨Z, 0, none⟩ (.int .i64 0)).setCell ⟨Z, 1, none⟩ (.int .i64 0)).setCell ⟨Z, 2, none⟩ (.string ⟨#[]⟩)).setCell ⟨Z, 3, none⟩ (.slice none 0 0)).cell? ⟨Z, 3, none⟩ = some (.slice none 0 0) := bk4.cell 3
    have bk5 : Blk (((((w2.setCell ⟨Z, 0, none⟩ (.int .i64 0)).setCell ⟨Z, 1, none⟩ (.int .i64 0)).setCell ⟨Z, 2, none⟩ (.string ⟨#[]⟩)).setCell ⟨Z, 3, none⟩ (.slice none 0 0)).setCell ⟨Z, 4, none⟩ (.string ⟨#[]⟩)) Z #[.int .i64 0, .int .i64 0, .string ⟨#[]⟩, .slice none 0 0, .string ⟨#[]⟩, .slice none 0 0] 49 := Blk.set (vs := #[.int .i64 0, .int .i64 0, .string ⟨#[]⟩, .slice none 0 0, .string ⟨#[]⟩, .slice none 0 0]) bk4 4 (by simp) _
    have r4 : (((((w2.setCell ⟨Z, 0, none⟩ (.int .i64 0)).setCell ⟨Z, 1, none⟩ (.int .i64 0)).setCell ⟨Z, 2, none⟩ (.string ⟨#[]⟩)).setCell ⟨Z, 3, none⟩ (.slice none 0 0)).setCell ⟨Z, 4, none⟩ (.string ⟨#[]⟩)).cell? ⟨Z, 4, none⟩ = some (.string ⟨#[]⟩) := bk5.cell 4
    have bk6 : Blk ((((((w2.setCell ⟨Z, 0, none⟩ (.int .i64 0)).setCell ⟨Z, 1, none⟩ (.int .i64 0)).setCell ⟨Z, 2, none⟩ (.string ⟨#[]⟩)).setCell ⟨Z, 3, none⟩ (.slice none 0 0)).setCell ⟨Z, 4, none⟩ (.string ⟨#[]⟩)).setCell ⟨Z, 5, none⟩ (.slice none 0 0)) Z #[.int .i64 0, .int .i64 0, .string ⟨#[]⟩, .slice none 0 0, .string ⟨#[]⟩, .slice none 0 0] 49 := Blk.set (vs := #[.int .i64 0, .int .i64 0, .string ⟨#[]⟩, .slice none 0 0, .string ⟨#[]⟩, .slice none 0 0]) bk5 5 (by simp) _
    have r5 : ((((((w2.setCell ⟨Z, 0, none⟩ (.int .i64 0)).setCell ⟨Z, 1, none⟩ (.int .i64 0)).setCell ⟨Z, 2, none⟩ (.string ⟨#[]⟩)).setCell ⟨Z, 3, none⟩ (.slice none 0 0)).setCell ⟨Z, 4, none⟩ (.string ⟨#[]⟩)).setCell ⟨Z, 5, none⟩ (.slice none 0 0)).cell? ⟨Z, 5, none⟩ = some (.slice none 0 0) := bk6.cell 5
    have HRS := hide (And.intro r0 (And.intro r1 (And.intro r2 (And.intro r3 (And.intro r4 r5)))))
    have HE : Hid (NdSaid w R (⟨0, 0, ⟨#[]⟩, [], ⟨#[]⟩, .nil⟩, [], m, true) (.returned (.agg #[.int .i64 0, .int .i64 0, .string ⟨#[]⟩, .slice none 0 0, .string ⟨#[]⟩, .slice none 0 0])) ((((((w2.setCell ⟨Z, 0, none⟩ (.int .i64 0)).setCell ⟨Z, 1, none⟩ (.int .i64 0)).setCell ⟨Z, 2, none⟩ (.string ⟨#[]⟩)).setCell ⟨Z, 3, none⟩ (.slice none 0 0)).setCell ⟨Z, 4, none⟩ (.string ⟨#[]⟩)).setCell ⟨Z, 5, none⟩ (.slice none 0 0))) := hide ⟨none, 0, none, 0, rfl, Nat.le_refl _, .inl rfl, .inl rfl, Blk.away (Blk.away (Blk.away (Blk.away (Blk.away (Blk.away ((unhide HR2)) hRZ _) hRZ _) hRZ _) hRZ _) hRZ _) hRZ _, KpR.setAt (KpR.setAt (KpR.setAt (KpR.setAt (KpR.setAt (KpR.setAt ((unhide HK)) (b := Z) (Nat.le_of_eq hZ) 0 _) (b := Z) (Nat.le_of_eq hZ) 1 _) (b := Z) (Nat.le_of_eq hZ) 2 _) (b := Z) (Nat.le_of_eq hZ) 3 _) (b := Z) (Nat.le_of_eq hZ) 4 _) (b := Z) (Nat.le_of_eq hZ) 5 _⟩
    clear bk0 bk1 bk2 bk3 bk4 bk5 bk6 r0 r1 r2 r3 r4 r5 hz2 hn2 HK HR2
    simp only [hN, hZ]
    clear hN hZ
    go_wp2
    obtain ⟨r0, r1, r2, r3, r4, r5⟩ := unhide HRS
    refine bodyPost_ret (v := .agg #[.int .i64 0, .int .i64 0, .string ⟨#[]⟩, .slice none 0 0, .string ⟨#[]⟩, .slice none 0 0]) (by simp [results, Tryd.results67, go_sem, r0, r1, r2, r3, r4, r5]) rfl ?_
    exact unhide HE
  · have hdg : decide (dd ≤ 40) = false := decide_eq_false hdd
    go_enter Tryd.func67, Tryd.ntmps67
    go_wp2_with fail
    refine (unhide CN).mono ?_
    rintro e w1 ⟨rfl, h1, hk1⟩
    have hz1 : Blk w1 w.heap.size #[.int .i64 0, .int .i64 0, .string ⟨#[]⟩, .slice none 0 0, .string ⟨#[]⟩, .slice none 0 0] 49 := hk1.blk (unhide HZ0).1 (by omega)
    have hw1 : w.heap.size < w1.heap.size := by have h2 := hk1.size; have h3 := (unhide HZ0).2.2; omega
    have hK1 : KpR R w w1 := (unhide HZ0).2.1.trans hk1
    have hR1 : R < w1.heap.size := by omega
    have hbn := Blk.new w1 #[.int .i64 1, .int .i64 0, .string ⟨#[]⟩, .slice none 0 0, .string ⟨#[]⟩, .slice none 0 0] 49
    have hz2 := Blk.alloc hz1 (Obj.cells #[.int .i64 1, .int .i64 0, .string ⟨#[]⟩, .slice none 0 0, .string ⟨#[]⟩, .slice none 0 0] 49)
    have h2 : Rdr R (bs l1) m b1 (w1.alloc (Obj.cells #[.int .i64 1, .int .i64 0, .string ⟨#[]⟩, .slice none 0 0, .string ⟨#[]⟩, .slice none 0 0] 49)) := Blk.alloc h1 (Obj.cells #[.int .i64 1, .int .i64 0, .string ⟨#[]⟩, .slice none 0 0, .string ⟨#[]⟩, .slice none 0 0] 49)
    have hK2 := hK1.alloc (Obj.cells #[.int .i64 1, .int .i64 0, .string ⟨#[]⟩, .slice none 0 0, .string ⟨#[]⟩, .slice none 0 0] 49)
    have CT1 := hide (unhide CX _ h2)
    have HY := hide (And.intro hz2 (And.intro hbn hK2))
    clear CN CX h1 hk1 hz1 hbn hz2 h2 hK1 hK2 HZ0
    go_wp2_with fail
    refine (unhide CT1).mono ?_
    rintro e w2 ⟨rfl, h2, hk2⟩
    have hz2 := hk2.blk (unhide HY).1 (by omega)
    have hn2 := hk2.blk (unhide HY).2.1 (by omega)
    have HK := hide ((unhide HY).2.2.trans hk2)
    have HR2 := hide h2
    have HSZ : Hid (w.heap.size < w1.heap.size) := hide hw1
    clear CT1 h2 hk2 HY
    have n0 : w2.cell? ⟨w1.heap.size, 0, none⟩ = some (.int .i64 1) := hn2.cell 0
    have n1 : w2.cell? ⟨w1.heap.size, 1, none⟩ = some (.int .i64 0) := hn2.cell 1
    have n2 : w2.cell? ⟨w1.heap.size, 2, none⟩ = some (.string ⟨#[]⟩) := hn2.cell 2
    have n3 : w2.cell? ⟨w1.heap.size, 3, none⟩ = some (.slice none 0 0) := hn2.cell 3
    have n4 : w2.cell? ⟨w1.heap.size, 4, none⟩ = some (.string ⟨#[]⟩) := hn2.cell 4
    have n5 : w2.cell? ⟨w1.heap.size, 5, none⟩ = some (.slice none 0 0) := hn2.cell 5
    have z0 : w2.cell? ⟨w.heap.size, 0, none⟩ = some (.int .i64 0) := hz2.cell 0
    have zf0 : w2.frozen? ⟨w.heap.size, 0, none⟩ = false := hz2.frozen 0
    have z1 : w2.cell? ⟨w.heap.size, 1, none⟩ = some (.int .i64 0) := hz2.cell 1
    have zf1 : w2.frozen? ⟨w.heap.size, 1, none⟩ = false := hz2.frozen 1
    have z2 : w2.cell? ⟨w.heap.size, 2, none⟩ = some (.string ⟨#[]⟩) := hz2.cell 2
    have zf2 : w2.frozen? ⟨w.heap.size, 2, none⟩ = false := hz2.frozen 2
    have z3 : w2.cell? ⟨w.heap.size, 3, none⟩ = some (.slice none 0 0) := hz2.cell 3
    have zf3 : w2.frozen? ⟨w.heap.size, 3, none⟩ = false := hz2.frozen 3
    have z4 : w2.cell? ⟨w.heap.size, 4, none⟩ = some (.string ⟨#[]⟩) := hz2.cell 4
    have zf4 : w2.frozen? ⟨w.heap.size, 4, none⟩ = false := hz2.frozen 4
    have z5 : w2.cell? ⟨w.heap.size, 5, none⟩ = some (.slice none 0 0) := hz2.cell 5
    have zf5 : w2.frozen? ⟨w.heap.size, 5, none⟩ = false := hz2.frozen 5
    have hRZ : R ≠ w.heap.size := by omega
    have hRN : R ≠ w1.heap.size := by omega
    have hNZ : w1.heap.size ≠ w.heap.size := by omega
    have hZN : w.heap.size ≠ w1.heap.size := by omega
    obtain ⟨N, hN⟩ : ∃ N, w1.heap.size = N := ⟨_, rfl⟩
    obtain ⟨Z, hZ⟩ : ∃ Z, w.heap.size = Z := ⟨_, rfl⟩
    rw [hN] at n0 n1 n2 n3 n4 n5 hRN hNZ hZN hn2
    rw [hZ] at z0 zf0 z1 zf1 z2 zf2 z3 zf3 z4 zf4 z5 zf5 hRZ hNZ hZN hz2
    have bk0 : Blk w2 Z #[.int .i64 0, .int .i64 0, .string ⟨#[]⟩, .slice none 0 0, .string ⟨#[]⟩, .slice none 0 0] 49 := hz2
    have bk1 : Blk (w2.setCell ⟨Z, 0, none⟩ (.int .i64 1)) Z #[.int .i64 1, .int .i64 0, .string ⟨#[]⟩, .slice none 0 0, .string ⟨#[]⟩, .slice none 0 0] 49 := Blk.set (vs := #[.int .i64 0, .int .i64 0, .string ⟨#[]⟩, .slice none 0 0, .string ⟨#[]⟩, .slice none 0 0]) bk0 0 (by simp) _
    have r0 : (w2.setCell ⟨Z, 0, none⟩ (.int .i64 1)).cell? ⟨Z, 0, none⟩ = some (.int .i64 1) := bk1.cell 0
    have bk2 : Blk ((w2.setCell ⟨Z, 0, none⟩ (.int .i64 1)).setCell ⟨Z, 1, none⟩ (.int .i64 0)) Z #[.int .i64 1, .int .i64 0, .string ⟨#[]⟩, .slice none 0 0, .string ⟨#[]⟩, .slice none 0 0] 49 := Blk.set (vs := #[.int .i64 1, .int .i64 0, .string ⟨#[]⟩, .slice none 0 0, .string ⟨#[]⟩, .slice none 0 0]) bk1 1 (by simp) _
    have r1 : ((w2.setCell ⟨Z, 0, none⟩ (.int .i64 1)).setCell ⟨Z, 1, none⟩ (.int .i64 0)).cell? ⟨Z, 1, none⟩ = some (.int .i64 0) := bk2.cell 1
    have bk3 : Blk (((w2.setCell ⟨Z, 0, none⟩ (.int .i64 1)).setCell ⟨Z, 1, none⟩ (.int .i64 0)).setCell ⟨Z, 2, none⟩ (.string ⟨#[]⟩)) Z #[.int .i64 1, .int .i64 0, .string ⟨#[]⟩, .slice none 0 0, .string ⟨#[]⟩, .slice none 0 0] 49 := Blk.set (vs := #[.int .i64 1, .int .i64 0, .string ⟨#[]⟩, .slice none 0 0, .string ⟨#[]⟩, .slice none 0 0]) bk2 2 (by simp) _
    have r2 : (((w2.setCell ⟨Z, 0, none⟩ (.int .i64 1)).setCell ⟨Z, 1, none⟩ (.int .i64 0)).setCell ⟨Z, 2, none⟩ (.string ⟨#[]⟩)).cell? ⟨Z, 2, none⟩ = some (.string ⟨#[]⟩) := bk3.cell 2
    have bk4 : Blk ((((w2.setCell ⟨Z, 0, none⟩ (.int .i64 1)).setCell ⟨Z, 1, none⟩ (.int .i64 0)).setCell ⟨Z, 2, none⟩ (.string ⟨#[]⟩)).setCell ⟨Z, 3, none⟩ (.slice none 0 0)) Z #[.int .i64 1, .int .i64 0, .string ⟨#[]⟩, .slice none 0 0, .string ⟨#[]⟩, .slice none 0 0] 49 := Blk.set (vs := #[.int .i64 1, .int .i64 0, .string ⟨#[]⟩, .slice none 0 0, .string ⟨#[]⟩, .slice none 0 0]) bk3 3 (by simp) _
    have r3 : ((((w2.setCell ⟨Z, 0, none⟩ (.int .i64 1)).setCell ⟨Z, 1, none⟩ (.int .i64 0)).setCell ⟨Z, 2, none⟩ (.string ⟨#[]⟩)).setCell ⟨Z, 3, none⟩ (.slice none 0 0)).cell? ⟨Z, 3, none⟩ = some (.slice none 0 0) := bk4.cell 3
    have bk5 : Blk (((((w2.setCell ⟨Z, 0, none⟩ (.int .i64 1)).setCell ⟨Z, 1, none⟩ (.int .i64 0)).setCell ⟨Z, 2, none⟩ (.string ⟨#[]⟩)).setCell ⟨Z, 3, none⟩ (.slice none 0 0)).setCell ⟨Z, 4, none⟩ (.string ⟨#[]⟩)) Z #[.int .i64 1, .int .i64 0, .string ⟨#[]⟩, .slice none 0 0, .string ⟨#[]⟩, .slice none 0 0] 49 := Blk.set (vs := #[.int .i64 1, .int .i64 0, .string ⟨#[]⟩, .slice none 0 0, .string ⟨#[]⟩, .slice none 0 0]) bk4 4 (by simp) _
    have r4 : (((((w2.setCell ⟨Z, 0, none⟩ (.int .i64 1)).setCell ⟨Z, 1, none⟩ (.int .i64 0)).setCell ⟨Z, 2, none⟩ (.string ⟨#[]⟩)).setCell ⟨Z, 3, none⟩ (.slice none 0 0)).setCell ⟨Z, 4, none⟩ (.string ⟨#[]⟩)).cell? ⟨Z, 4, none⟩ = some (.string ⟨#[]⟩) := bk5.cell 4
    have bk6 : Blk ((((((w2.setCell ⟨Z, 0, none⟩ (.int .i64 1)).setCell ⟨Z, 1, none⟩ (.int .i64 0)).setCell ⟨Z, 2, none⟩ (.string ⟨#[]⟩)).setCell ⟨Z, 3, none⟩ (.slice none 0 0)).setCell ⟨Z, 4, none⟩ (.string ⟨#[]⟩)).setCell ⟨Z, 5, none⟩ (.slice none 0 0)) Z #[.int .i64 1, .int .i64 0, .string ⟨#[]⟩, .slice none 0 0, .string ⟨#[]⟩, .slice none 0 0] 49 := Blk.set (vs := #[.int .i64 1, .int .i64 0, .string ⟨#[]⟩, .slice none 0 0, .string ⟨#[]⟩, .slice none 0 0]) bk5 5 (by simp) _
    have r5 : ((((((w2.setCell ⟨Z, 0, none⟩ (.int .i64 1)).setCell ⟨Z, 1, none⟩ (.int .i64 0)).setCell ⟨Z, 2, none⟩ (.string ⟨#[]⟩)).setCell ⟨Z, 3, none⟩ (.slice none 0 0)).setCell ⟨Z, 4, none⟩ (.string ⟨#[]⟩)).setCell ⟨Z, 5, none⟩ (.slice none 0 0)).cell? ⟨Z, 5, none⟩ = some (.slice none 0 0) := bk6.cell 5
    have HRS := hide (And.intro r0 (And.intro r1 (And.intro r2 (And.intro r3 (And.intro r4 r5)))))
    have HE : Hid (NdSaid w R (⟨1, 0, ⟨#[]⟩, [], ⟨#[]⟩, .nil⟩, [], m, true) (.returned (.agg #[.int .i64 1, .int .i64 0, .string ⟨#[]⟩, .slice none 0 0, .string ⟨#[]⟩, .slice none 0 0])) ((((((w2.setCell ⟨Z, 0, none⟩ (.int .i64 1)).setCell ⟨Z, 1, none⟩ (.int .i64 0)).setCell ⟨Z, 2, none⟩ (.string ⟨#[]⟩)).setCell ⟨Z, 3, none⟩ (.slice none 0 0)).setCell ⟨Z, 4, none⟩ (.string ⟨#[]⟩)).setCell ⟨Z, 5, none⟩ (.slice none 0 0))) := hide ⟨none, 0, none, 0, rfl, Nat.le_refl _, .inl rfl, .inl rfl, Blk.away (Blk.away (Blk.away (Blk.away (Blk.away (Blk.away ((unhide HR2)) hRZ _) hRZ _) hRZ _) hRZ _) hRZ _) hRZ _, KpR.setAt (KpR.setAt (KpR.setAt (KpR.setAt (KpR.setAt (KpR.setAt ((unhide HK)) (b := Z) (Nat.le_of_eq hZ) 0 _) (b := Z) (Nat.le_of_eq hZ) 1 _) (b := Z) (Nat.le_of_eq hZ) 2 _) (b := Z) (Nat.le_of_eq hZ) 3 _) (b := Z) (Nat.le_of_eq hZ) 4 _) (b := Z) (Nat.le_of_eq hZ) 5 _⟩
    clear bk0 bk1 bk2 bk3 bk4 bk5 bk6 r0 r1 r2 r3 r4 r5 hz2 hn2 HK HR2
    simp only [hN, hZ]
    clear hN hZ
    go_wp2
    obtain ⟨r0, r1, r2, r3, r4, r5⟩ := unhide HRS
    refine bodyPost_ret (v := .agg #[.int .i64 1, .int .i64 0, .string ⟨#[]⟩, .slice none 0 0, .string ⟨#[]⟩, .slice none 0 0]) (by simp [results, Tryd.results67, go_sem, r0, r1, r2, r3, r4, r5]) rfl ?_
    exact unhide HE

set_option maxHeartbeats 8000000 in
set_option maxRecDepth 100000 in
theorem rnode_elemK (R : Nat) (m m5 : Nat) (b1 b2 b3 b4 b5 : Bool) (l1 l2 l3 l4 l5 : List UInt8) (sp : Int) (t1 : ByteArray) (a1 : List (ByteArray × ByteArray)) (kf1 : Forest) (dd : Int) (w : World) (hRl : R < w.heap.size) (hdd : dd ≤ 40) (hd0 : 0 ≤ dd)
    (CN : Hid (Calls Tryd.prog 65 #[.pointer (some ⟨R, 0, none⟩), .int .i64 3] (w.alloc (Obj.cells #[.int .i64 0, .int .i64 0, .string ⟨#[]⟩, .slice none 0 0, .string ⟨#[]⟩, .slice none 0 0] 49)) fun e w' => e = .returned (.int .i64 1) ∧ Rdr R (bs l1) m b1 w' ∧ KpR R (w.alloc (Obj.cells #[.int .i64 0, .int .i64 0, .string ⟨#[]⟩, .slice none 0 0, .string ⟨#[]⟩, .slice none 0 0] 49)) w'))
    (CP : Hid (∀ W, Rdr R (bs l1) m b1 W → Calls Tryd.prog 65 #[.pointer (some ⟨R, 0, none⟩), .int .i64 2] W fun e w' => e = .returned (.int .i64 sp) ∧ Rdr R (bs l2) m b2 w' ∧ KpR R W w'))
    (CT : Hid (∀ W, Rdr R (bs l2) m b2 W → Calls Tryd.prog 85 #[.pointer (some ⟨R, 0, none⟩)] W fun e w' => e = .returned (.string t1) ∧ Rdr R (bs l3) m b3 w' ∧ KpR R W w'))
    (CA : Hid (∀ W, Rdr R (bs l3) m b3 W → Calls Tryd.prog 86 #[.pointer (some ⟨R, 0, none⟩)] W fun e w' => ∃ q cap, e = .returned (.slice q a1.length cap) ∧ Sl q a1 (mask (hiP W.heap.size) w') ∧ Rdr R (bs l4) m b4 w' ∧ KpR R W w'))
    (CK : Hid (∀ W, Rdr R (bs l4) m b4 W → Calls Tryd.prog 47 #[.pointer (some ⟨R, 0, none⟩), .int .i64 (dd + 1)] W (LsSaid W R (kf1, l5, m5, b5)))) :
    Calls Tryd.prog 67 #[.pointer (some ⟨R, 0, none⟩), .int .i64 dd] w (NdSaid w R (⟨1, sp, t1, a1, ⟨#[]⟩, kf1⟩, l5, m5, b5)) := by
  have HZ0 : Hid (Blk (w.alloc (Obj.cells #[.int .i64 0, .int .i64 0, .string ⟨#[]⟩, .slice none 0 0, .string ⟨#[]⟩, .slice none 0 0] 49)) w.heap.size #[.int .i64 0, .int .i64 0, .string ⟨#[]⟩, .slice none 0 0, .string ⟨#[]⟩, .slice none 0 0] 49 ∧ KpR R w (w.alloc (Obj.cells #[.int .i64 0, .int .i64 0, .string ⟨#[]⟩, .slice none 0 0, .string ⟨#[]⟩, .slice none 0 0] 49)) ∧ (w.alloc (Obj.cells #[.int .i64 0, .int .i64 0, .string ⟨#[]⟩, .slice none 0 0, .string ⟨#[]⟩, .slice none 0 0] 49)).heap.size = w.heap.size + 1) := hide ⟨Blk.new w _ _, (KpR.refl R w).alloc _, by simp⟩
  have hdg : decide (dd ≤ 40) = true := decide_eq_true hdd
  go_enter Tryd.func67, Tryd.ntmps67
  go_wp2_with fail
  refine (unhide CN).mono ?_
  rintro e w1 ⟨rfl, h1, hk1⟩
  have hz1 : Blk w1 w.heap.size #[.int .i64 0, .int .i64 0, .string ⟨#[]⟩, .slice none 0 0, .string ⟨#[]⟩, .slice none 0 0] 49 := hk1.blk (unhide HZ0).1 (by omega)
  have hw1 : w.heap.size < w1.heap.size := by have h2 := hk1.size; have h3 := (unhide HZ0).2.2; omega
  have hK1 : KpR R w w1 := (unhide HZ0).2.1.trans hk1
  have hR1 : R < w1.heap.size := by omega
  have hbn := Blk.new w1 #[.int .i64 1, .int .i64 0, .string ⟨#[]⟩, .slice none 0 0, .string ⟨#[]⟩, .slice none 0 0] 49
  have hz2 := Blk.alloc hz1 (Obj.cells #[.int .i64 1, .int .i64 0, .string ⟨#[]⟩, .slice none 0 0, .string ⟨#[]⟩, .slice none 0 0] 49)
  have h2 : Rdr R (bs l1) m b1 (w1.alloc (Obj.cells #[.int .i64 1, .int .i64 0, .string ⟨#[]⟩, .slice none 0 0, .string ⟨#[]⟩, .slice none 0 0] 49)) := Blk.alloc h1 (Obj.cells #[.int .i64 1, .int .i64 0, .string ⟨#[]⟩, .slice none 0 0, .string ⟨#[]⟩, .slice none 0 0] 49)
  have hK2 := hK1.alloc (Obj.cells #[.int .i64 1, .int .i64 0, .string ⟨#[]⟩, .slice none 0 0, .string ⟨#[]⟩, .slice none 0 0] 49)
  have CP1 := hide (unhide CP _ h2)
  have HY := hide (And.intro hz2 (And.intro hbn hK2))
  clear CN CP h1 hk1 hz1 hbn hz2 h2 hK1 hK2 HZ0
  go_wp2_with fail
  refine (unhide CP1).mono ?_
  rintro e w2 ⟨rfl, h2, hk2⟩
  obtain ⟨N, hN⟩ : ∃ N, w1.heap.size = N := ⟨_, rfl⟩
  have hNl : R < N ∧ w.heap.size < N := by omega
  rw [hN] at HY
  simp only [hN]
  have HSZ : Hid (R < N ∧ w.heap.size < N) := hide hNl
  have hRN : R ≠ N := by omega
  have hNR : N ≠ R := by omega
  have hZR : w.heap.size ≠ R := by omega
  have hZN : w.heap.size ≠ N := by omega
  clear hN hw1 hR1
  have hz2 := hk2.blk (unhide HY).1 hZR
  have hn2 := hk2.blk (unhide HY).2.1 hNR
  have hK2 := (unhide HY).2.2.trans hk2
  have m1 : w2.cell? ⟨N, 1, none⟩ = some (.int .i64 0) := hn2.cell 1
  have mf1 : w2.frozen? ⟨N, 1, none⟩ = false := hn2.frozen 1
  have hz3 : Blk (w2.setCell ⟨N, 1, none⟩ (.int .i64 sp)) w.heap.size #[.int .i64 0, .int .i64 0, .string ⟨#[]⟩, .slice none 0 0, .string ⟨#[]⟩, .slice none 0 0] 49 := Blk.away hz2 hZN _
  have hn3 : Blk (w2.setCell ⟨N, 1, none⟩ (.int .i64 sp)) N #[.int .i64 1, .int .i64 sp, .string ⟨#[]⟩, .slice none 0 0, .string ⟨#[]⟩, .slice none 0 0] 49 := Blk.set (vs := #[.int .i64 1, .int .i64 0, .string ⟨#[]⟩, .slice none 0 0, .string ⟨#[]⟩, .slice none 0 0]) hn2 1 (by simp) _
  have h3 : Rdr R (bs l2) m b2 (w2.setCell ⟨N, 1, none⟩ (.int .i64 sp)) := Blk.away h2 hRN _
  have hK3 := hK2.setAt (b := N) (by have h1 := unhide HSZ; omega) 1 (.int .i64 sp)
  have CT1 := hide (unhide CT _ h3)
  have HY2 := hide (And.intro hz3 (And.intro hn3 hK3))
  clear CP1 CT h2 hk2 hz2 hn2 hK2 hz3 hn3 h3 hK3 HY
  go_wp2_with fail
  refine (unhide CT1).mono ?_
  rintro e w3 ⟨rfl, h2, hk2⟩
  have hz2 := hk2.blk (unhide HY2).1 hZR
  have hn2 := hk2.blk (unhide HY2).2.1 hNR
  have hK2 := (unhide HY2).2.2.trans hk2
  have q2 : w3.cell? ⟨N, 2, none⟩ = some (.string ⟨#[]⟩) := hn2.cell 2
  have qf2 : w3.frozen? ⟨N, 2, none⟩ = false := hn2.frozen 2
  have hNw : N < w3.heap.size := hn2.lt
  have hz3 : Blk (w3.setCell ⟨N, 2, none⟩ (.string t1)) w.heap.size #[.int .i64 0, .int .i64 0, .string ⟨#[]⟩, .slice none 0 0, .string ⟨#[]⟩, .slice none 0 0] 49 := Blk.away hz2 hZN _
  have hn3 : Blk (w3.setCell ⟨N, 2, none⟩ (.string t1)) N #[.int .i64 1, .int .i64 sp, .string t1, .slice none 0 0, .string ⟨#[]⟩, .slice none 0 0] 49 := Blk.set (vs := #[.int .i64 1, .int .i64 sp, .string ⟨#[]⟩, .slice none 0 0, .string ⟨#[]⟩, .slice none 0 0]) hn2 2 (by simp) _
  have h3 : Rdr R (bs l3) m b3 (w3.setCell ⟨N, 2, none⟩ (.string t1)) := Blk.away h2 hRN _
  have hK3 := hK2.setAt (b := N) (by have h1 := unhide HSZ; omega) 2 (.string t1)
  have hsz3 : (w3.setCell ⟨N, 2, none⟩ (.string t1)).heap.size = w3.heap.size := by simp
  have CA1 := hide (unhide CA _ h3)
  rw [hsz3] at CA1
  have HY3 := hide (And.intro hz3 (And.intro hn3 hK3))
  clear CT1 CA h2 hk2 hz2 hn2 hK2 hz3 hn3 h3 hK3 HY2 m1 mf1 hsz3
  obtain ⟨B3, hB3⟩ : ∃ B, w3.heap.size = B := ⟨_, rfl⟩
  rw [hB3] at CA1 hNw
  have HB3 : Hid (R < N ∧ w.heap.size < N ∧ N < B3) := hide ⟨(unhide HSZ).1, (unhide HSZ).2, hNw⟩
  clear hB3 hNw
  go_wp2_with fail
  refine (unhide CA1).mono ?_
  rintro e w4 ⟨qa, ca, rfl, hsl, h2, hk2⟩
  have hz2 := hk2.blk (unhide HY3).1 hZR
  have hn2 := hk2.blk (unhide HY3).2.1 hNR
  have hK2 := (unhide HY3).2.2.trans hk2
  have q3 : w4.cell? ⟨N, 3, none⟩ = some (.slice none 0 0) := hn2.cell 3
  have qf3 : w4.frozen? ⟨N, 3, none⟩ = false := hn2.frozen 3
  have hNw : N < w4.heap.size := hn2.lt
  have hz3 : Blk (w4.setCell ⟨N, 3, none⟩ (.slice qa a1.length ca)) w.heap.size #[.int .i64 0, .int .i64 0, .string ⟨#[]⟩, .slice none 0 0, .string ⟨#[]⟩, .slice none 0 0] 49 := Blk.away hz2 hZN _
  have hn3 : Blk (w4.setCell ⟨N, 3, none⟩ (.slice qa a1.length ca)) N #[.int .i64 1, .int .i64 sp, .string t1, .slice qa a1.length ca, .string ⟨#[]⟩, .slice none 0 0] 49 := Blk.set (vs := #[.int .i64 1, .int .i64 sp, .string t1, .slice none 0 0, .string ⟨#[]⟩, .slice none 0 0]) hn2 3 (by simp) _
  have h3 : Rdr R (bs l4) m b4 (w4.setCell ⟨N, 3, none⟩ (.slice qa a1.length ca)) := Blk.away h2 hRN _
  have hK3 := hK2.setAt (b := N) (by have h1 := unhide HSZ; omega) 3 (.slice qa a1.length ca)
  have hsl3 : Sl qa a1 (mask (hiP B3) (w4.setCell ⟨N, 3, none⟩ (.slice qa a1.length ca))) := hsl.le (mask_set (hiP_at (by have h1 := unhide HB3; omega)))
  have hsz4 : (w4.setCell ⟨N, 3, none⟩ (.slice qa a1.length ca)).heap.size = w4.heap.size := by simp
  have CK1 := hide (unhide CK _ h3)
  have HY4 := hide (And.intro hz3 (And.intro hn3 (And.intro hK3 hsl3)))
  clear CA1 CK h2 hk2 hz2 hn2 hK2 hz3 hn3 h3 hK3 HY3 q2 qf2 hsl hsl3
  unfold LsSaid at CK1
  rw [hsz4] at CK1
  obtain ⟨B4, hB4⟩ : ∃ B, w4.heap.size = B := ⟨_, rfl⟩
  rw [hB4] at CK1 hNw
  have HB4 : Hid (R < N ∧ w.heap.size < N ∧ N < B4) := hide ⟨(unhide HSZ).1, (unhide HSZ).2, hNw⟩
  clear hB4 hNw hsz4
  obtain ⟨al, hal⟩ : ∃ x, a1.length = x := ⟨_, rfl⟩
  rw [hal] at CK1 HY4
  rw [hal]
  have HAL := hide hal
  clear hal
  go_wp2_with fail
  refine (unhide CK1).mono ?_
  rintro e w5 ⟨qk, ck, rfl, hck, hfo, h2, hk2⟩
  have hz2 := hk2.blk (unhide HY4).1 hZR
  have hn2 := hk2.blk (unhide HY4).2.1 hNR
  have HK := hide ((unhide HY4).2.2.1.trans hk2)
  have HR2 := hide h2
  have HSF : Hid (Sl qa a1 (mask (hiP B3) w5) ∧ Fo qk kf1 (mask (hiP B4) w5) ∧ kf1.len ≤ ck) := hide ⟨(unhide HY4).2.2.2.le (mask_kpr hk2 (hiP_at (by have h1 := unhide HB3; omega))), hfo, hck⟩
  obtain ⟨kl, hkl⟩ : ∃ x, kf1.len = x := ⟨_, rfl⟩
  rw [hkl]
  have HKL := hide hkl
  clear CK1 h2 hk2 HY4 q3 qf3 hfo hck hkl
  have n0 : w5.cell? ⟨N, 0, none⟩ = some (.int .i64 1) := hn2.cell 0
  have n1 : w5.cell? ⟨N, 1, none⟩ = some (.int .i64 sp) := hn2.cell 1
  have n2 : w5.cell? ⟨N, 2, none⟩ = some (.string t1) := hn2.cell 2
  have n3 : w5.cell? ⟨N, 3, none⟩ = some (.slice qa al ca) := hn2.cell 3
  have n4 : w5.cell? ⟨N, 4, none⟩ = some (.string ⟨#[]⟩) := hn2.cell 4
  have n5 : w5.cell? ⟨N, 5, none⟩ = some (.slice none 0 0) := hn2.cell 5
  have z0 : w5.cell? ⟨w.heap.size, 0, none⟩ = some (.int .i64 0) := hz2.cell 0
  have zf0 : w5.frozen? ⟨w.heap.size, 0, none⟩ = false := hz2.frozen 0
  have z1 : w5.cell? ⟨w.heap.size, 1, none⟩ = some (.int .i64 0) := hz2.cell 1
  have zf1 : w5.frozen? ⟨w.heap.size, 1, none⟩ = false := hz2.frozen 1
  have z2 : w5.cell? ⟨w.heap.size, 2, none⟩ = some (.string ⟨#[]⟩) := hz2.cell 2
  have zf2 : w5.frozen? ⟨w.heap.size, 2, none⟩ = false := hz2.frozen 2
  have z3 : w5.cell? ⟨w.heap.size, 3, none⟩ = some (.slice none 0 0) := hz2.cell 3
  have zf3 : w5.frozen? ⟨w.heap.size, 3, none⟩ = false := hz2.frozen 3
  have z4 : w5.cell? ⟨w.heap.size, 4, none⟩ = some (.string ⟨#[]⟩) := hz2.cell 4
  have zf4 : w5.frozen? ⟨w.heap.size, 4, none⟩ = false := hz2.frozen 4
  have z5 : w5.cell? ⟨w.heap.size, 5, none⟩ = some (.slice none 0 0) := hz2.cell 5
  have zf5 : w5.frozen? ⟨w.heap.size, 5, none⟩ = false := hz2.frozen 5
  have nf5 : w5.frozen? ⟨N, 5, none⟩ = false := hn2.frozen 5
  have hRZ : R ≠ w.heap.size := by omega
  have hNZ : N ≠ w.heap.size := by omega
  obtain ⟨Z, hZ⟩ : ∃ Z, w.heap.size = Z := ⟨_, rfl⟩
  rw [hZ] at z0 zf0 z1 zf1 z2 zf2 z3 zf3 z4 zf4 z5 zf5 hRZ hNZ hZN hz2
  have bk0 : Blk (w5.setCell ⟨N, 5, none⟩ (.slice qk kl ck)) Z #[.int .i64 0, .int .i64 0, .string ⟨#[]⟩, .slice none 0 0, .string ⟨#[]⟩, .slice none 0 0] 49 := Blk.away hz2 hZN _
  have bk1 : Blk ((w5.setCell ⟨N, 5, none⟩ (.slice qk kl ck)).setCell ⟨Z, 0, none⟩ (.int .i64 1)) Z #[.int .i64 1, .int .i64 0, .string ⟨#[]⟩, .slice none 0 0, .string ⟨#[]⟩, .slice none 0 0] 49 := Blk.set (vs := #[.int .i64 0, .int .i64 0, .string ⟨#[]⟩, .slice none 0 0, .string ⟨#[]⟩, .slice none 0 0]) bk0 0 (by simp) _
  have r0 : ((w5.setCell ⟨N, 5, none⟩ (.slice qk kl ck)).setCell ⟨Z, 0, none⟩ (.int .i64 1)).cell? ⟨Z, 0, none⟩ = some (.int .i64 1) := bk1.cell 0
  have bk2 : Blk (((w5.setCell ⟨N, 5, none⟩ (.slice qk kl ck)).setCell ⟨Z, 0, none⟩ (.int .i64 1)).setCell ⟨Z, 1, none⟩ (.int .i64 sp)) Z #[.int .i64 1, .int .i64 sp, .string ⟨#[]⟩, .slice none 0 0, .string ⟨#[]⟩, .slice none 0 0] 49 := Blk.set (vs := #[.int .i64 1, .int .i64 0, .string ⟨#[]⟩, .slice none 0 0, .string ⟨#[]⟩, .slice none 0 0]) bk1 1 (by simp) _
  have r1 : (((w5.setCell ⟨N, 5, none⟩ (.slice qk kl ck)).setCell ⟨Z, 0, none⟩ (.int .i64 1)).setCell ⟨Z, 1, none⟩ (.int .i64 sp)).cell? ⟨Z, 1, none⟩ = some (.int .i64 sp) := bk2.cell 1
  have bk3 : Blk ((((w5.setCell ⟨N, 5, none⟩ (.slice qk kl ck)).setCell ⟨Z, 0, none⟩ (.int .i64 1)).setCell ⟨Z, 1, none⟩ (.int .i64 sp)).setCell ⟨Z, 2, none⟩ (.string t1)) Z #[.int .i64 1, .int .i64 sp, .string t1, .slice none 0 0, .string ⟨#[]⟩, .slice none 0 0] 49 := Blk.set (vs := #[.int .i64 1, .int .i64 sp, .string ⟨#[]⟩, .slice none 0 0, .string ⟨#[]⟩, .slice none 0 0]) bk2 2 (by simp) _
  have r2 : ((((w5.setCell ⟨N, 5, none⟩ (.slice qk kl ck)).setCell ⟨Z, 0, none⟩ (.int .i64 1)).setCell ⟨Z, 1, none⟩ (.int .i64 sp)).setCell ⟨Z, 2, none⟩ (.string t1)).cell? ⟨Z, 2, none⟩ = some (.string t1) := bk3.cell 2
  have bk4 : Blk (((((w5.setCell ⟨N, 5, none⟩ (.slice qk kl ck)).setCell ⟨Z, 0, none⟩ (.int .i64 1)).setCell ⟨Z, 1, none⟩ (.int .i64 sp)).setCell ⟨Z, 2, none⟩ (.string t1)).setCell ⟨Z, 3, none⟩ (.slice qa al ca)) Z #[.int .i64 1, .int .i64 sp, .string t1, .slice qa al ca, .string ⟨#[]⟩, .slice none 0 0] 49 := Blk.set (vs := #[.int .i64 1, .int .i64 sp, .string t1, .slice none 0 0, .string ⟨#[]⟩, .slice none 0 0]) bk3 3 (by simp) _
  have r3 : (((((w5.setCell ⟨N, 5, none⟩ (.slice qk kl ck)).setCell ⟨Z, 0, none⟩ (.int .i64 1)).setCell ⟨Z, 1, none⟩ (.int .i64 sp)).setCell ⟨Z, 2, none⟩ (.string t1)).setCell ⟨Z, 3, none⟩ (.slice qa al ca)).cell? ⟨Z, 3, none⟩ = some (.slice qa al ca) := bk4.cell 3
  have bk5 : Blk ((((((w5.setCell ⟨N, 5, none⟩ (.slice qk kl ck)).setCell ⟨Z, 0, none⟩ (.int .i64 1)).setCell ⟨Z, 1, none⟩ (.int .i64 sp)).setCell ⟨Z, 2, none⟩ (.string t1)).setCell ⟨Z, 3, none⟩ (.slice qa al ca)).setCell ⟨Z, 4, none⟩ (.string ⟨#[]⟩)) Z #[.int .i64 1, .int .i64 sp, .string t1, .slice qa al ca, .string ⟨#[]⟩, .slice none 0 0] 49 := Blk.set (vs := #[.int .i64 1, .int .i64 sp, .string t1, .slice qa al ca, .string ⟨#[]⟩, .slice none 0 0]) bk4 4 (by simp) _
  have r4 : ((((((w5.setCell ⟨N, 5, none⟩ (.slice qk kl ck)).setCell ⟨Z, 0, none⟩ (.int .i64 1)).setCell ⟨Z, 1, none⟩ (.int .i64 sp)).setCell ⟨Z, 2, none⟩ (.string t1)).setCell ⟨Z, 3, none⟩ (.slice qa al ca)).setCell ⟨Z, 4, none⟩ (.string ⟨#[]⟩)).cell? ⟨Z, 4, none⟩ = some (.string ⟨#[]⟩) := bk5.cell 4
  have bk6 : Blk (((((((w5.setCell ⟨N, 5, none⟩ (.slice qk kl ck)).setCell ⟨Z, 0, none⟩ (.int .i64 1)).setCell ⟨Z, 1, none⟩ (.int .i64 sp)).setCell ⟨Z, 2, none⟩ (.string t1)).setCell ⟨Z, 3, none⟩ (.slice qa al ca)).setCell ⟨Z, 4, none⟩ (.string ⟨#[]⟩)).setCell ⟨Z, 5, none⟩ (.slice qk kl ck)) Z #[.int .i64 1, .int .i64 sp, .string t1, .slice qa al ca, .string ⟨#[]⟩, .slice qk kl ck] 49 := Blk.set (vs := #[.int .i64 1, .int .i64 sp, .string t1, .slice qa al ca, .string ⟨#[]⟩, .slice none 0 0]) bk5 5 (by simp) _
  have r5 : (((((((w5.setCell ⟨N, 5, none⟩ (.slice qk kl ck)).setCell ⟨Z, 0, none⟩ (.int .i64 1)).setCell ⟨Z, 1, none⟩ (.int .i64 sp)).setCell ⟨Z, 2, none⟩ (.string t1)).setCell ⟨Z, 3, none⟩ (.slice qa al ca)).setCell ⟨Z, 4, none⟩ (.string ⟨#[]⟩)).setCell ⟨Z, 5, none⟩ (.slice qk kl ck)).cell? ⟨Z, 5, none⟩ = some (.slice qk kl ck) := bk6.cell 5
  have HRS := hide (And.intro r0 (And.intro r1 (And.intro r2 (And.intro r3 (And.intro r4 r5)))))
  have HE : Hid (NdSaid w R (⟨1, sp, t1, a1, ⟨#[]⟩, kf1⟩, l5, m5, b5) (.returned (.agg #[.int .i64 1, .int .i64 sp, .string t1, .slice qa al ca, .string ⟨#[]⟩, .slice qk kl ck])) (((((((w5.setCell ⟨N, 5, none⟩ (.slice qk kl ck)).setCell ⟨Z, 0, none⟩ (.int .i64 1)).setCell ⟨Z, 1, none⟩ (.int .i64 sp)).setCell ⟨Z, 2, none⟩ (.string t1)).setCell ⟨Z, 3, none⟩ (.slice qa al ca)).setCell ⟨Z, 4, none⟩ (.string ⟨#[]⟩)).setCell ⟨Z, 5, none⟩ (.slice qk kl ck))) := hide ⟨qa, ca, qk, ck, by rw [unhide HAL, unhide HKL], (unhide HSF).2.2, ((unhide HSF).1.le (CellLe.trans (mask_set (b := N) (o := 5) (hiP_at (by have h1 := unhide HB3; omega))) (CellLe.trans (mask_set (b := Z) (o := 0) (hiP_at (by have h1 := unhide HB3; omega))) (CellLe.trans (mask_set (b := Z) (o := 1) (hiP_at (by have h1 := unhide HB3; omega))) (CellLe.trans (mask_set (b := Z) (o := 2) (hiP_at (by have h1 := unhide HB3; omega))) (CellLe.trans (mask_set (b := Z) (o := 3) (hiP_at (by have h1 := unhide HB3; omega))) (CellLe.trans (mask_set (b := Z) (o := 4) (hiP_at (by have h1 := unhide HB3; omega))) ((mask_set (b := Z) (o := 5) (hiP_at (by have h1 := unhide HB3; omega))))))))))).le (mask_less _ (hiP_less (by have h1 := unhide HB3; omega))), ((unhide HSF).2.1.le (CellLe.trans (mask_set (b := N) (o := 5) (hiP_at (by have h1 := unhide HB4; omega))) (CellLe.trans (mask_set (b := Z) (o := 0) (hiP_at (by have h1 := unhide HB4; omega))) (CellLe.trans (mask_set (b := Z) (o := 1) (hiP_at (by have h1 := unhide HB4; omega))) (CellLe.trans (mask_set (b := Z) (o := 2) (hiP_at (by have h1 := unhide HB4; omega))) (CellLe.trans (mask_set (b := Z) (o := 3) (hiP_at (by have h1 := unhide HB4; omega))) (CellLe.trans (mask_set (b := Z) (o := 4) (hiP_at (by have h1 := unhide HB4; omega))) ((mask_set (b := Z) (o := 5) (hiP_at (by have h1 := unhide HB4; omega))))))))))).le (mask_less _ (hiP_less (by have h1 := unhide HB4; omega))), Blk.away (Blk.away (Blk.away (Blk.away (Blk.away (Blk.away (Blk.away (unhide HR2) hRN _) hRZ _) hRZ _) hRZ _) hRZ _) hRZ _) hRZ _, KpR.setAt (KpR.setAt (KpR.setAt (KpR.setAt (KpR.setAt (KpR.setAt (KpR.setAt ((unhide HK)) (b := N) (by have h1 := (unhide HSZ); omega) 5 _) (b := Z) (Nat.le_of_eq hZ) 0 _) (b := Z) (Nat.le_of_eq hZ) 1 _) (b := Z) (Nat.le_of_eq hZ) 2 _) (b := Z) (Nat.le_of_eq hZ) 3 _) (b := Z) (Nat.le_of_eq hZ) 4 _) (b := Z) (Nat.le_of_eq hZ) 5 _⟩
  clear bk0 bk1 bk2 bk3 bk4 bk5 bk6 r0 r1 r2 r3 r4 r5 hz2 hn2 HK HR2 HSF
  simp only [hZ]
  clear hZ
  go_wp2
  obtain ⟨r0, r1, r2, r3, r4, r5⟩ := unhide HRS
  refine bodyPost_ret (v := .agg #[.int .i64 1, .int .i64 sp, .string t1, .slice qa al ca, .string ⟨#[]⟩, .slice qk kl ck]) (by simp [results, Tryd.results67, go_sem, r0, r1, r2, r3, r4, r5]) rfl ?_
  exact unhide HE
end Go.Proofs.YtmlmpongcpojjaaDoor

/-
  A tree.reader's list, of any bytes.
-/
namespace Go.Proofs.YtmlmpongcpojjaaDoor
open Go.RowKit
set_option linter.unusedVariables false
set_option linter.unusedSimpArgs false

def Forest.app : Forest → Forest → Forest
  | .nil, g => g
  | .cons k sp n ats tx kids r, g => .cons k sp n ats tx kids (r.app g)
theorem app_nil : ∀ (f : Forest), f.app .nil = f
  | .nil => rfl
  | .cons k sp n ats tx kids r => by rw [Forest.app, app_nil r]
theorem app_assoc : ∀ (f g h : Forest), (f.app g).app h = f.app (g.app h)
  | .nil, g, h => rfl
  | .cons k sp n ats tx kids r, g, h => by rw [Forest.app, Forest.app, Forest.app, app_assoc r g h]
theorem app_len : ∀ (f g : Forest), (f.app g).len = f.len + g.len
  | .nil, g => by show g.len = 0 + g.len; omega
  | .cons k sp n ats tx kids r, g => by show (r.app g).len + 1 = r.len + 1 + g.len; rw [app_len r g]; omega
def Desc : Forest → List Value → World → Prop
  | .nil, xs, _ => xs = []
  | .cons k sp n ats tx kids rest, xs, W => ∃ qa ca qk ck r, xs = .int .i64 k :: .int .i64 sp :: .string n :: .slice qa ats.length ca :: .string tx :: .slice qk kids.len ck :: r ∧ kids.len ≤ ck ∧ Sl qa ats W ∧ Fo qk kids W ∧ Desc rest r W
theorem Desc.le {W W' : World} (hc : CellLe W W') : ∀ (f : Forest) (xs : List Value), Desc f xs W → Desc f xs W'
  | .nil, xs, h => h
  | .cons k sp n ats tx kids rest, xs, ⟨qa, ca, qk, ck, r, h1, h2, h3, h4, h5⟩ => ⟨qa, ca, qk, ck, r, h1, h2, h3.le hc, h4.le hc, Desc.le hc rest r h5⟩
theorem Desc.snoc {W : World} (x : Nd) (qa : Option Addr) (ca : Nat) (qk : Option Addr) (ck : Nat) (hck : x.kids.len ≤ ck) (hsl : Sl qa x.ats W) (hfo : Fo qk x.kids W) : ∀ (f : Forest) (xs : List Value), Desc f xs W → Desc (f.app (x.cons .nil)) (xs ++ [.int .i64 x.k, .int .i64 x.sp, .string x.n, .slice qa x.ats.length ca, .string x.tx, .slice qk x.kids.len ck]) W
  | .nil, xs, h => by
    have : xs = [] := h
    subst this
    exact ⟨qa, ca, qk, ck, [], rfl, hck, hsl, hfo, rfl⟩
  | .cons k sp n ats tx kids rest, xs, ⟨qa', ca', qk', ck', r, h1, h2, h3, h4, h5⟩ => by
    subst h1
    exact ⟨qa', ca', qk', ck', _, rfl, h2, h3, h4, Desc.snoc x qa ca qk ck hck hsl hfo rest r h5⟩
theorem Desc.lies {W : World} {g : Nat} : ∀ (f : Forest) (xs : List Value) (o : Nat), (∀ j u, xs[j]? = some u → W.cell? ⟨g, o + j, none⟩ = some u) → Desc f xs W → Lies f g o W
  | .nil, xs, o, hc, h => trivial
  | .cons k sp n ats tx kids rest, xs, o, hc, ⟨qa, ca, qk, ck, r, h1, h2, h3, h4, h5⟩ => by
    subst h1
    exact ⟨⟨hc 0 _ rfl, hc 1 _ rfl, hc 2 _ rfl, ⟨qa, ca, hc 3 _ rfl, h3⟩, hc 4 _ rfl, ⟨qk, ck, hc 5 _ rfl, h2, h4⟩⟩, Desc.lies rest r (o + 6) (fun j u hj => by have := hc (j + 6) u (by simpa using hj); rw [show o + 6 + j = o + (j + 6) by omega]; exact this) h5⟩
theorem fo_of_row {w : World} {base : Nat} {v : Value} {f : Forest} {xs : List Value} {p : Nat → Bool} (h : w.ownsRow base 49 6 v f.len xs) (hd : Desc f xs (mask p w)) (hp : ∀ k, k < base → p k = true) : ∃ q cap, v = .slice q f.len cap ∧ f.len ≤ cap ∧ Fo q f (mask (hiP base) w) := by
  have hd' : Desc f xs (mask (hiP base) w) := hd.le (mask_less w fun i hi => hp i (of_decide_eq_true hi))
  obtain ⟨a, cap, hv⟩ := slice_n h
  subst hv
  rcases h.2 with ⟨h1, h0⟩ | ⟨g, cap', cur, h1, hb, h2, h3, _⟩
  · refine ⟨a, cap, rfl, by rw [h0]; exact Nat.zero_le _, Or.inl (len_nil h0)⟩
  · injection h1 with h4 h5 h6
    subst h4 h6
    refine ⟨_, _, rfl, h3, Or.inr ⟨g, 0, rfl, hd'.lies f xs 0 (fun j u hj => ?_)⟩⟩
    have := h.cells (g := g) rfl j u hj
    rw [add_off] at this
    rw [Nat.zero_add]
    exact mask_cell.2 ⟨hiP_not hb, this⟩
theorem rnode_all (kf : RS → Forest × RS) (dp : Bool) (dd : Int) (hdp : dp = decide (dd ≤ 40)) (hd0 : 0 ≤ dd)
    (ih : dp = true → ∀ s : RS, (s.2.2 = true → s.1 = []) → s.2.1 ≤ 300 → s.1.length ≤ 1000000000000 → ∀ (R : Nat) (W : World), Rdr R (bs s.1) (s.2.1 : Nat) s.2.2 W → Calls Tryd.prog 47 #[.pointer (some ⟨R, 0, none⟩), .int .i64 (dd + 1)] W (LsSaid W R (kf s)))
    (s : RS) (h1 : s.2.2 = true → s.1 = []) (h2 : s.2.1 ≤ 300) (h3 : s.1.length ≤ 1000000000000) (R : Nat) (w : World) (h : Rdr R (bs s.1) (s.2.1 : Nat) s.2.2 w) :
    Calls Tryd.prog 67 #[.pointer (some ⟨R, 0, none⟩), .int .i64 dd] w (NdSaid w R (ndF kf dp s)) := by
  have hRl : R < w.heap.size := h.lt
  obtain ⟨x1, x2, x3, x4, x5, _⟩ := nmF_ok 3 s.1 s.2.2 h1
  have x4' := x4 (by omega)
  have CN := hide (rdnum_any R s.1 (s.2.1 : Nat) 3 s.2.2 _ (Blk.alloc h (Obj.cells #[.int .i64 0, .int .i64 0, .string ⟨#[]⟩, .slice none 0 0, .string ⟨#[]⟩, .slice none 0 0] 49)) (by omega))
  unfold ndF
  generalize nmF 3 s.1 s.2.2 = K at *
  obtain ⟨k, l1, b1⟩ := K
  dsimp only at *
  by_cases c1 : k = 2 ∨ k = 3
  · rw [if_pos c1]
    exact rnode_leafK R s.2.1 b1 l1 _ _ _ dd w hRl k c1 CN (hide fun W hW => rtxt_any R l1 (s.2.1 : Nat) b1 W hW (by omega))
  · rw [if_neg c1]
    by_cases c2 : k = 1 ∧ dp = true
    · rw [if_pos c2]
      obtain ⟨hk1, hdt⟩ := c2
      subst hk1
      obtain ⟨p1, p2, p3, p4, p5, _⟩ := nmF_ok 2 l1 b1 x1
      have CP := hide (fun W (hW : Rdr R (bs l1) (s.2.1 : Nat) b1 W) => rdnum_any R l1 (s.2.1 : Nat) 2 b1 W hW (by omega))
      generalize nmF 2 l1 b1 = P at *
      obtain ⟨sp, l2, b2⟩ := P
      dsimp only at *
      obtain ⟨t1, t2, t3⟩ := txF_ok l2 b2 p1
      have CT := hide (fun W (hW : Rdr R (bs l2) (s.2.1 : Nat) b2 W) => rtxt_any R l2 (s.2.1 : Nat) b2 W hW (by omega))
      generalize txF l2 b2 = T at *
      obtain ⟨tx, l3, b3⟩ := T
      dsimp only at *
      obtain ⟨a1, a2, a3, a4, a5⟩ := asF_ok l3 b3 t1
      have CA := hide (fun W (hW : Rdr R (bs l3) (s.2.1 : Nat) b3 W) => rattrs_any R l3 (s.2.1 : Nat) b3 W hW (by omega) t1)
      generalize asF l3 b3 = A at *
      obtain ⟨ats, l4, b4⟩ := A
      dsimp only at *
      have CK := hide (fun W (hW : Rdr R (bs l4) (s.2.1 : Nat) b4 W) => ih hdt (l4, s.2.1, b4) a1 h2 (by show l4.length ≤ _; omega) R W hW)
      generalize kf (l4, s.2.1, b4) = Z at *
      obtain ⟨kf1, l5, m5, b5⟩ := Z
      exact rnode_elemK R s.2.1 m5 b1 b2 b3 b4 b5 l1 l2 l3 l4 l5 sp tx ats kf1 dd w hRl (of_decide_eq_true (by rw [← hdp]; exact hdt)) hd0 CN CP CT CA CK
    · rw [if_neg c2]
      refine rnode_badK R s.2.1 b1 l1 dd w hRl k ?_ CN (hide fun W hW => rstop_any R (bs l1) (s.2.1 : Nat) b1 W hW)
      by_cases hk0 : k = 1
      · right
        refine ⟨hk0, fun hle => c2 ⟨hk0, by rw [hdp]; exact decide_eq_true hle⟩⟩
      · left; omega
def LtAt (w : World) (R X c : Nat) (nd : RS → Nd × RS) (z : Option Forest × RS) (v i : Value) (wr : World) : Prop :=
  ∃ (j : Nat) (acc : Forest) (xs : List Value) (s : RS) (p : Nat → Bool), j ≤ c ∧ i = .int .i64 j ∧ acc.len = j ∧ wr.ownsRow w.heap.size 49 6 v acc.len xs ∧ Desc acc xs (mask p wr) ∧ (∀ k, k < w.heap.size → p k = true) ∧ (∀ k, v.ownBlock = some k → p k = true) ∧ (∀ k, p k = true → k < wr.heap.size) ∧
    Rdr R (bs s.1) (s.2.1 : Nat) s.2.2 wr ∧ KpR R w wr ∧ RsOk X s ∧ s.1.length ≤ 1000000000000 ∧ ((lpF nd (c - j) s).1.map acc.app, (lpF nd (c - j) s).2) = z
set_option maxHeartbeats 8000000 in
set_option maxRecDepth 100000 in
theorem rlist_all (nd : RS → Nd × RS) (X : Nat) (hX0 : 300 ≤ X) (hX : X ≤ 1000) (dd : Int)
    (hn : ∀ s : RS, (s.2.2 = true → s.1 = []) → s.2.1 ≤ 300 → s.1.length ≤ 1000000000000 → NdOk X s (nd s))
    (hc : ∀ s : RS, (s.2.2 = true → s.1 = []) → s.2.1 ≤ 300 → s.1.length ≤ 1000000000000 → ∀ (R : Nat) (W : World), Rdr R (bs s.1) (s.2.1 : Nat) s.2.2 W → Calls Tryd.prog 67 #[.pointer (some ⟨R, 0, none⟩), .int .i64 dd] W (NdSaid W R (nd s)))
    (s : RS) (h1 : s.2.2 = true → s.1 = []) (h2 : s.2.1 ≤ 300) (h3 : s.1.length ≤ 1000000000000) (R : Nat) (w : World) (h : Rdr R (bs s.1) (s.2.1 : Nat) s.2.2 w) :
    Calls Tryd.prog 47 #[.pointer (some ⟨R, 0, none⟩), .int .i64 dd] w (LsSaid w R (topF nd s)) := by
  obtain ⟨i0, hi0, hi1, hi2, hi3⟩ := info_parts infoNode0
  have hRl : R < w.heap.size := h.lt
  obtain ⟨x1, x2, x3, x4, x5, _⟩ := nmF_ok 300 s.1 s.2.2 h1
  have x4' := x4 (by omega)
  have CN := hide (rdnum_any R s.1 (s.2.1 : Nat) 300 s.2.2 w h (by omega))
  unfold topF
  obtain ⟨c, hcq⟩ : ∃ c : Nat, (nmF 300 s.1 s.2.2).1 = (c : Int) := ⟨(nmF 300 s.1 s.2.2).1.toNat, by omega⟩
  rw [hcq] at CN x4' ⊢
  simp only [Int.toNat_natCast]
  generalize (nmF 300 s.1 s.2.2).2.1 = l1 at *
  generalize (nmF 300 s.1 s.2.2).2.2 = b1 at *
  obtain ⟨z, hz⟩ : ∃ z, lpF nd c (l1, s.2.1, b1) = z := ⟨_, rfl⟩
  rw [hz]
  have HST := hide (And.intro x1 (And.intro x2 hz))
  have HN := hide hn
  have HC := hide hc
  clear h x1 x2 x3 x4 x5 hcq hz hn hc
  go_enter Tryd.func47, Tryd.ntmps47
  go_wp2_with fail
  refine (unhide CN).mono ?_
  rintro e w1 ⟨rfl, hr1, hk1⟩
  have HAT : Hid (LtAt w R X c nd z (.slice none 0 0) (.int .i64 0) w1) := hide ⟨0, .nil, [], (l1, s.2.1, b1), hiP w.heap.size, Nat.zero_le _, rfl, rfl, World.ownsRow_nil _ _ _ _, rfl, fun k hk => hiP_at hk, (fun k hk => by cases hk), (fun k hk => by have h5 := of_decide_eq_true hk; have h6 := hk1.size; omega), hr1, hk1, ⟨(unhide HST).1, fun _ => h2, by show s.2.1 ≤ X; omega⟩, by show l1.length ≤ _; have := (unhide HST).2.1; omega, by rw [Nat.sub_zero, (unhide HST).2.2]; obtain ⟨zo, z2⟩ := z; cases zo <;> rfl⟩
  clear CN hr1 hk1 HST
  go_wp2
  go_loopw [5, 8] (fun v i wr => LtAt w R X c nd z v i wr) (fun _ i _ => c - (intOf i).toNat)
  case atStart => exact unhide HAT
  case round =>
    clear HAT
    obtain ⟨j, acc, xs, ⟨ll, mm, bb⟩, p, hj, rfl, hal, hrow, hdes, hpl, hpo, hpu, hrd, hk, hok, hl2, hres⟩ := hrel
    obtain ⟨a5, c5, rfl⟩ := slice_n hrow
    by_cases hp : j < c
    · have hpi : (j : Int) < (c : Int) := by omega
      obtain ⟨st1, st2, st3, st4⟩ := stF_ok hok
      have hms := hok.most
      dsimp only at hms hl2 hrd
      have hmi : (mm : Int) + 1 ≤ 1002 := by omega
      have hmc : ((mm + 1 : Nat) : Int) = (mm : Int) + 1 := by omega
      have q1 : wr.cell? ⟨R, 1, none⟩ = some (.int .i64 (mm : Nat)) := hrd.cell 1
      have qf1 : wr.frozen? ⟨R, 1, none⟩ = false := hrd.frozen 1
      have q2 : wr.cell? ⟨R, 2, none⟩ = some (.bool bb) := hrd.cell 2
      have hrd1 : Rdr R (bs ll) ((mm : Int) + 1) bb (wr.setCell ⟨R, 1, none⟩ (.int .i64 ((mm : Int) + 1))) := Blk.set (vs := #[.string (bs ll), .int .i64 (mm : Nat), .bool bb]) hrd 1 (by simp) _
      have hk1 := hk.set 1 (.int .i64 ((mm : Int) + 1))
      have r1 : (wr.setCell ⟨R, 1, none⟩ (.int .i64 ((mm : Int) + 1))).cell? ⟨R, 1, none⟩ = some (.int .i64 ((mm : Int) + 1)) := hrd1.cell 1
      have hres' := hres
      rw [show c - j = (c - (j + 1)) + 1 by omega, lpF] at hres'
      by_cases c1 : 300 < mm + 1
      · have c1i : (300 : Int) < (mm : Int) + 1 := by omega
        have hst : stF (ll, mm, bb) = ([], mm + 1, true) := if_pos c1
        rw [hst, if_pos rfl] at hres'
        have CS := hide (rstop_any R (bs ll) ((mm : Int) + 1) bb _ hrd1)
        have HZ : Hid (z = (none, [], mm + 1, true)) := hide hres'.symm
        have HK := hide hk1
        have HMC := hide hmc
        clear hrow hdes hpo hrd hk hres hres' hst hrd1 hk1 hok st1 st2 st3 st4 hmc hpu
        go_wp2_with fail
        refine (unhide CS).mono ?_
        rintro e w2 ⟨rfl, h2, hk2⟩
        have d2 : w2.cell? ⟨R, 2, none⟩ = some (.bool true) := h2.cell 2
        have HE : Hid (LsSaid w R (z.1.getD .nil, z.2) (.returned (.slice none 0 0)) w2) := hide (by
          rw [unhide HZ]
          exact ⟨none, 0, rfl, Nat.le_refl _, Or.inl rfl, by rw [unhide HMC]; exact h2, (unhide HK).trans hk2⟩)
        clear h2 hk2 CS HK q1 qf1 q2 r1
        go_wp2
        go_ret
        exact unhide HE
      · have c1i : ¬ (300 : Int) < (mm : Int) + 1 := by omega
        have hst : stF (ll, mm, bb) = (ll, mm + 1, bb) := if_neg c1
        rw [hst] at hres' st1
        cases bb with
        | true =>
          rw [if_pos rfl] at hres'
          have HE : Hid (LsSaid w R (z.1.getD .nil, z.2) (.returned (.slice none 0 0)) (wr.setCell ⟨R, 1, none⟩ (.int .i64 ((mm : Int) + 1)))) := hide (by
            rw [← hres']
            exact ⟨none, 0, rfl, Nat.le_refl _, Or.inl rfl, by rw [hmc]; exact hrd1, hk1⟩)
          clear hrow hdes hpo hrd hk hres hres' hst hrd1 hk1 hok st1 st2 st3 st4 hmc hpu
          go_wp2
          go_ret
          exact unhide HE
        | false =>
          rw [if_neg (by simp)] at hres'
          have hm3 : mm + 1 ≤ 300 := by omega
          have hndo := unhide HN (ll, mm + 1, false) st1 hm3 (by show ll.length ≤ _; omega)
          have CC := hide (unhide HC (ll, mm + 1, false) st1 hm3 (by show ll.length ≤ _; omega) R _ (by rw [hmc]; exact hrd1))
          have hszS : (wr.setCell ⟨R, 1, none⟩ (.int .i64 ((mm : Int) + 1))).heap.size = wr.heap.size := by simp
          have hrowS := ownsRow_kpr hrow ((KpR.refl R wr).set 1 (.int .i64 ((mm : Int) + 1))) hRl
          have hdesS : Desc acc xs (mask p (wr.setCell ⟨R, 1, none⟩ (.int .i64 ((mm : Int) + 1)))) := hdes.le (mask_set (hpl R hRl))
          have HRES : Hid (((lpF nd (c - (j + 1)) (nd (ll, mm + 1, false)).2).1.map (acc.app ((nd (ll, mm + 1, false)).1.cons .nil)).app, (lpF nd (c - (j + 1)) (nd (ll, mm + 1, false)).2).2) = z) := hide (by
            rw [← hres']
            dsimp only
            cases (lpF nd (c - (j + 1)) (nd (ll, mm + 1, false)).2).1 with
            | none => rfl
            | some g => show (some ((acc.app _).app g), _) = (some (acc.app _), _); rw [app_assoc]; rfl)
          have HNO : Hid (RsOk X (nd (ll, mm + 1, false)).2 ∧ (nd (ll, mm + 1, false)).2.1.length ≤ 1000000000000) := hide ⟨hndo.rs, by have := hndo.len; dsimp only at this; omega⟩
          unfold NdSaid at CC
          rw [hszS] at CC
          generalize nd (ll, mm + 1, false) = y at *
          obtain ⟨x, l3, m3, b3⟩ := y
          dsimp only at CC HRES HNO
          have HY := hide (And.intro hrowS (And.intro hdesS (And.intro hk1 (And.intro hpl (And.intro hpo hpu)))))
          obtain ⟨al, hatl⟩ : ∃ q, x.ats.length = q := ⟨_, rfl⟩
          obtain ⟨kl, hkl⟩ : ∃ q, x.kids.len = q := ⟨_, rfl⟩
          have HLN := hide (And.intro hatl hkl)
          have halc : acc.len ≤ 300 := by omega
          obtain ⟨WS, hWS⟩ : ∃ W, wr.setCell ⟨R, 1, none⟩ (.int .i64 ((mm : Int) + 1)) = W := ⟨_, rfl⟩
          have HWS : Hid (WS.heap.size = wr.heap.size) := hide (by rw [← hWS]; exact hszS)
          rw [hWS] at HY CC
          have HWE := hide hWS
          clear hWS
          clear hrow hdes hpo hrd hk hres hres' hst hrd1 hk1 hok st1 st2 st3 st4 hmc hpu hndo hrowS hdesS hszS
          go_wp2_with fail
          simp only [unhide HWE]
          refine (unhide CC).mono ?_
          rintro e w3 ⟨qa, ca, qk, ck, rfl, hck, hsl, hfo, h3, hk3⟩
          rw [hatl, hkl]
          obtain ⟨hrowS, hdesS, hk1, hpl, hpo, hpu⟩ := unhide HY
          have hrow3 := ownsRow_kpr hrowS hk3 hRl
          have hpR : p R = true := hpl R hRl
          have hd3 : Desc acc xs (mask p w3) := hdesS.le (mask_kpr hk3 hpR)
          have hd4 : Desc (acc.app (x.cons .nil)) (xs ++ [.int .i64 x.k, .int .i64 x.sp, .string x.n, .slice qa x.ats.length ca, .string x.tx, .slice qk x.kids.len ck]) (mask p w3) :=
            hd3.snoc x qa ca qk ck hck (hsl.le (mask_less w3 fun i hi => hiP_at (hpu i hi))) (hfo.le (mask_less w3 fun i hi => hiP_at (hpu i hi)))
          rw [hatl, hkl] at hd4
          have hkk := hk1.trans hk3
          have hsz3 : w.heap.size ≤ w3.heap.size := hkk.size
          have hwr3 : wr.heap.size ≤ w3.heap.size := by have h5 := hk3.size; have h6 := unhide HWS; omega
          have HZ := hide (And.intro h3 (And.intro hkk (And.intro hd4 (And.intro hpl (And.intro hpo hpu)))))
          rw [hal] at hrow3
          clear CC hck hsl hfo h3 hk3 hrowS hdesS hk1 hpl hpo hpu hpR hd3 hd4 hkk HY hatl hkl
          go_wp2_with (at_builtin; refine wpList_append_own_at _ rfl _ _ 22 rfl w.heap.size 49 i0 (.agg #[.int .i64 0, .int .i64 0, .string ⟨#[]⟩, .slice none 0 0, .string ⟨#[]⟩, .slice none 0 0]) 6 96 Tryd.underlying22 hi0 hi1 hi2 hi3 rfl (by decide) _ _ _ rfl (hrow3.alloc (Obj.cells #[.int .i64 x.k, .int .i64 x.sp, .string x.n, .slice qa al ca, .string x.tx, .slice qk kl ck] 49)) ⟨w3.heap.size, 0, none⟩ 1 1 [.int .i64 x.k, .int .i64 x.sp, .string x.n, .slice qa al ca, .string x.tx, .slice qk kl ck] rfl rfl (fun j u hj => lit2 rfl hj) (by intro u hu; simp at hu; rcases hu with rfl | rfl | rfl | rfl | rfl | rfl <;> rfl) (by unfold maxLen; omega) (by omega) (by simp; omega) ?_)
          intro v' w5 hrow5 hgrow5 _ hob5
          obtain ⟨h3, hkk, hd4, hpl, hpo, hpu⟩ := unhide HZ
          have hown := fun k hk => (hrow3.lt k hk).1
          have hk5 : KpR R w w5 := (hkk.alloc (Obj.cells #[.int .i64 x.k, .int .i64 x.sp, .string x.n, .slice qa al ca, .string x.tx, .slice qk kl ck] 49)).grown hgrow5 hown
          have h5 : Rdr R (bs l3) (m3 : Nat) b3 w5 := Rdr.grown (Blk.alloc h3 (Obj.cells #[.int .i64 x.k, .int .i64 x.sp, .string x.n, .slice qa al ca, .string x.tx, .slice qk kl ck] 49)) hgrow5 (fun e => by have := hown R e.symm; omega)
          have hle : CellLe (mask p w3) (mask (fun i => p i || decide (v'.ownBlock = some i)) w5) := mask_kept fun k hkl hpk => by
            have hne : some k ≠ (Value.slice a5 j c5).ownBlock := fun e => by rw [hpo k (by rw [hal]; exact e.symm)] at hpk; cases hpk
            refine ⟨?_, (hgrow5.block k (by simp; omega) hne).trans (by have := (Below.refl w3.heap.size w3).alloc (Nat.le_refl _) (Obj.cells #[.int .i64 x.k, .int .i64 x.sp, .string x.n, .slice qa al ca, .string x.tx, .slice qk kl ck] 49); exact this.block k hkl)⟩
            rw [hpk, Bool.false_or]
            refine decide_eq_false fun e => ?_
            rcases hob5 with h | h
            · exact hne (by rw [← e, h])
            · rw [h] at e; simp at e; omega
          have HV : Hid (LtAt w R X c nd z v' (.int .i64 ((j : Int) + 1)) w5) := hide ⟨j + 1, acc.app (x.cons .nil), _, (l3, m3, b3), fun i => p i || decide (v'.ownBlock = some i), by omega, by congr 1, by rw [app_len, hal]; rfl, by rw [app_len, hal]; exact hrow5, hd4.le hle, fun k hk => by simp [hpl k hk], fun k hk => by simp [hk], fun k hk => by
              rcases Bool.or_eq_true _ _ ▸ hk with h | h
              · have h7 := hpu k h
                have h8 := hgrow5.size
                simp at h8
                omega
              · exact (hrow5.lt k (of_decide_eq_true h)).2, h5, hk5, (unhide HNO).1, (unhide HNO).2, unhide HRES⟩
          clear hrow5 hgrow5 hown hk5 h5 hrow3 HZ h3 hkk hd4 hpl hpo hpu hle hob5 HRES HNO
          go_wp2
          go_roundw
          case rel => exact unhide HV
          case measure => simp [intOf]; omega
    · have hpi : ¬ (j : Int) < (c : Int) := by omega
      have hjc : c - j = 0 := by omega
      rw [hjc, lpF] at hres
      obtain ⟨q, cap, hv, hcap, hfo⟩ := fo_of_row hrow hdes hpl
      injection hv with hv1 hv2 hv3
      subst hv1 hv3
      have HE : Hid (LsSaid w R (z.1.getD .nil, z.2) (.returned (.slice a5 j c5)) wr) := hide (by
        rw [← hres]
        show LsSaid w R (acc.app .nil, (ll, mm, bb)) _ _
        rw [app_nil]
        exact ⟨a5, c5, by rw [hal], hcap, hfo, hrd, hk⟩)
      clear hrow hdes hpo hrd hk hres hpu hfo
      rw [hal]
      go_wp2
      go_ret
      exact unhide HE
end Go.Proofs.YtmlmpongcpojjaaDoor

/-
  'tree.Read' of any bytes.
-/
namespace Go.Proofs.YtmlmpongcpojjaaDoor
open Go.RowKit
set_option linter.unusedVariables false
set_option linter.unusedSimpArgs false

theorem rls_any : ∀ (d : Nat), d ≤ 40 → ∀ s : RS, (s.2.2 = true → s.1 = []) → s.2.1 ≤ 300 → s.1.length ≤ 1000000000000 → ∀ (R : Nat) (W : World), Rdr R (bs s.1) (s.2.1 : Nat) s.2.2 W → Calls Tryd.prog 47 #[.pointer (some ⟨R, 0, none⟩), .int .i64 (41 - (d : Int))] W (LsSaid W R (lsF d s))
  | 0, _, s, h1, h2, h3, R, W, h => by
    have := rlist_all (ndF (fun s => (.nil, s)) false) 301 (by omega) (by omega) 41 (fun s a b c => ndF_ok (Y := 301) (by omega) (fun s => (.nil, s)) (fun s a b c => ⟨⟨a, fun _ => b, by show s.2.1 ≤ 301; omega⟩, Nat.le_refl _, fun _ => trivial, by show 0 + s.2.1 ≤ s.2.1; omega, id⟩) false s a b c)
      (fun s a b c R W hW => rnode_all (fun s => (.nil, s)) false 41 (by decide) (by omega) (fun h => by cases h) s a b c R W hW) s h1 h2 h3 R W h
    rw [show (41 : Int) - ((0 : Nat) : Int) = 41 from rfl]
    exact this
  | d + 1, hd, s, h1, h2, h3, R, W, h => by
    have hdd : (41 : Int) - ((d + 1 : Nat) : Int) = 40 - (d : Int) := by omega
    rw [hdd]
    exact rlist_all (ndF (lsF d) true) (302 + d) (by omega) (by omega) (40 - (d : Int)) (fun s a b c => ndF_ok (Y := 302 + d) (by omega) (lsF d) (lsF_ok d (by omega)) true s a b c)
      (fun s a b c R W hW => rnode_all (lsF d) true (40 - (d : Int)) (by symm; exact decide_eq_true (by omega)) (by omega) (fun _ s a b c R W hW => by
        rw [show (40 : Int) - (d : Int) + 1 = 41 - (d : Int) by omega]
        exact rls_any d (by omega) s a b c R W hW) s a b c R W hW) s h1 h2 h3 R W h
def readZ (l : List UInt8) : Forest × RS := lsF 40 (l, 0, false)
def readB (l : List UInt8) : Bool := !(readZ l).2.2.2 && ((readZ l).2.1.isEmpty && decide (checkN (readZ l).1 = 0))
def RdSaid (w : World) (ok : Bool) (f : Forest) (e : Ending) (w' : World) : Prop :=
  (if ok = true then ∃ q cap, e = .returned (.tuple #[.slice q f.len cap, .int .i64 0]) ∧ f.len ≤ cap ∧ Fo q f w' else e = .returned (.tuple #[.slice none 0 0, .int .i64 4])) ∧ Below w.heap.size w w'
set_option maxHeartbeats 4000000 in
set_option maxRecDepth 100000 in
theorem tread_any (x : ByteArray) (w : World) (ht : Tabs w) (hs : x.size ≤ 1000000000000) (hsm : SmF (readZ x.data.toList).1) :
    Calls Tryd.prog 21 #[.string x] w (RdSaid w (readB x.data.toList) (readZ x.data.toList).1) := by
  have hsl : x.data.toList.length ≤ 1000000000000 := by rw [Array.length_toList]; exact hs
  have hR : Rdr w.heap.size (bs x.data.toList) ((0 : Nat) : Int) false (w.alloc (Obj.cells #[.string x, .int .i64 0, .bool false] 69)) := by
    rw [bs_self]; exact Blk.new w _ _
  have CL := hide (rls_any 40 (by omega) (x.data.toList, 0, false) (fun h => by cases h) (by show 0 ≤ 300; omega) hsl w.heap.size _ hR)
  rw [show (41 : Int) - ((40 : Nat) : Int) = 1 from rfl] at CL
  have hok := lsF_ok 40 (by omega) (x.data.toList, 0, false) (fun h => by cases h) (by show 0 ≤ 300; omega) hsl
  have hrb : readB x.data.toList = (!(lsF 40 (x.data.toList, 0, false)).2.2.2 && ((lsF 40 (x.data.toList, 0, false)).2.1.isEmpty && decide (checkN (lsF 40 (x.data.toList, 0, false)).1 = 0))) := rfl
  rw [hrb, show readZ x.data.toList = lsF 40 (x.data.toList, 0, false) from rfl]
  have hbA := (Below.refl w.heap.size w).alloc (Nat.le_refl _) (Obj.cells #[.string x, .int .i64 0, .bool false] 69)
  have hszA : (w.alloc (Obj.cells #[.string x, .int .i64 0, .bool false] 69)).heap.size = w.heap.size + 1 := by simp
  unfold LsSaid at CL
  rw [hszA] at CL
  have hcn := hok.cnt
  have hms := hok.rs.most
  rw [show readZ x.data.toList = lsF 40 (x.data.toList, 0, false) from rfl] at hsm
  generalize lsF 40 (x.data.toList, 0, false) = z at *
  obtain ⟨f, l, m, b⟩ := z
  dsimp only at *
  have CC := hide (fun (W : World) (q : Option Addr) (cap : Nat) (hW : Below w.heap.size w W) (h1 : f.len ≤ cap) (hf : Fo q f W) => check_any f q cap W (ht.below hW) hf hsm h1 (by omega))
  have HA := hide (And.intro hbA hszA)
  clear hrb hR hok hbA hszA hsl hcn hms hsm ht hs
  obtain ⟨fl, hfl⟩ : ∃ q, f.len = q := ⟨_, rfl⟩
  have HFL := hide hfl
  rw [hfl] at CL CC
  clear hfl
  go_enter Tryd.func21, Tryd.ntmps21
  go_wp2_with fail
  refine (unhide CL).mono ?_
  rintro e w1 ⟨q, cap, rfl, hcap, hfo, hr, hk⟩
  have hbw : Below w.heap.size w w1 := (unhide HA).1.trans (hk.below (by rw [(unhide HA).2]; omega) (Nat.le_refl _))
  have c0 : w1.cell? ⟨w.heap.size, 0, none⟩ = some (.string (bs l)) := hr.cell 0
  have c2 : w1.cell? ⟨w.heap.size, 2, none⟩ = some (.bool b) := hr.cell 2
  have hfo1 : Fo q f w1 := hfo.le (mask_out _ _)
  have CC1 := hide (unhide CC w1 q cap hbw hcap hfo1)
  have HX := hide (And.intro hcap (And.intro hfo1 hbw))
  clear CL CC hcap hfo hfo1 hr hk hbw HA
  cases b with
  | true =>
    have HE : Hid (RdSaid w (!true && (l.isEmpty && decide (checkN f = 0))) f (.returned (.tuple #[.slice none 0 0, .int .i64 4])) w1) := hide ⟨rfl, (unhide HX).2.2⟩
    go_wp2
    go_ret2
    exact unhide HE
  | false =>
    cases l with
    | cons a r =>
      have e1 := beq_no (x := bs (a :: r)) (y := ⟨#[]⟩) (fun e => by have := congrArg ByteArray.size e; rw [bs_size] at this; simp [ByteArray.size] at this)
      have e1' : (bs (a :: r)).toList.isEmpty = false := by rw [Lib.toList_data, bs_toList]; rfl
      generalize bs (a :: r) = sr at *
      have HE : Hid (RdSaid w (!false && ((a :: r).isEmpty && decide (checkN f = 0))) f (.returned (.tuple #[.slice none 0 0, .int .i64 4])) w1) := hide ⟨rfl, (unhide HX).2.2⟩
      go_wp2
      go_ret2
      exact unhide HE
    | nil =>
      have e1 := beq_yes (rfl : (⟨#[]⟩ : ByteArray) = ⟨#[]⟩)
      rw [show bs [] = ⟨#[]⟩ from rfl] at c0
      by_cases h0 : checkN f = 0
      · rw [h0] at CC1
        have hd : decide (checkN f = 0) = true := decide_eq_true h0
        go_wp2_with fail
        refine (unhide CC1).mono ?_
        rintro e w2 ⟨rfl, hb2⟩
        have HE : Hid (RdSaid w (!false && (([] : List UInt8).isEmpty && decide (checkN f = 0))) f (.returned (.tuple #[.slice q fl cap, .int .i64 0])) w2) := hide (by
          rw [hd]
          exact ⟨⟨q, cap, by rw [unhide HFL], by rw [unhide HFL]; exact (unhide HX).1, (unhide HX).2.1.below hb2⟩, tr2 (unhide HX).2.2 hb2⟩)
        clear HX hb2 CC1 hd
        go_wp2
        go_ret2
        exact unhide HE
      · have e2 : (checkN f == 0) = false := beq_eq_false_iff_ne.2 h0
        have hd : decide (checkN f = 0) = false := decide_eq_false h0
        have HE : Hid (∀ w2, Below w.heap.size w w2 → RdSaid w (!false && (([] : List UInt8).isEmpty && decide (checkN f = 0))) f (.returned (.tuple #[.slice none 0 0, .int .i64 4])) w2) := hide (fun w2 h => by
          rw [hd]
          exact ⟨rfl, h⟩)
        clear hd
        obtain ⟨cc, hcc⟩ : ∃ cc, checkN f = cc := ⟨_, rfl⟩
        rw [hcc] at CC1 e2
        clear hcc
        go_wp2_with fail
        refine (unhide CC1).mono ?_
        rintro e w2 ⟨rfl, hb2⟩
        have HY := hide (tr2 (unhide HX).2.2 hb2)
        clear HX hb2 CC1
        go_wp2
        go_ret2
        exact unhide HE _ (unhide HY)
end Go.Proofs.YtmlmpongcpojjaaDoor

/-
  There and back, plainly: what a reader takes off what was written, and what it took off is how it is written.
-/
namespace Go.Proofs.YtmlmpongcpojjaaDoor
set_option linter.unusedVariables false
set_option linter.unusedSimpArgs false

/-! ### numbers and texts -/
theorem byt_isC (c : UInt8) : byt (c.toNat : Int) = c := by simp [byt]
theorem digs_back : ∀ (f : Nat) (D : List UInt8), D.length ≤ f → (D = [] ∨ 0 < dgt D 0) → (dgs f (vl D)).map byt = D
  | 0, D, hl, _ => by
    have : D = [] := List.eq_nil_of_length_eq_zero (by omega)
    subst this; rfl
  | f + 1, D, hl, hh => by
    rcases List.eq_nil_or_concat D with rfl | ⟨D', c, rfl⟩
    · rw [show vl [] = 0 from rfl, dgs_zero _ _ (Int.le_refl _)]; rfl
    rw [List.concat_eq_append] at hl hh ⊢
    have hl' : D'.length ≤ f := by simp at hl; omega
    have hc : (c.toNat : Int) < 256 := by have := c.toNat_lt; omega
    rw [vl_snoc]
    have hv := vl_pos D'
    rcases hh with hh | hh
    · simp at hh
    have hn : 0 < vl D' * 256 + (c.toNat : Int) ∧ (dgs f (vl D')).map byt = D' := by
      by_cases e : D' = []
      · subst e
        have : 0 < c.toNat := hh
        refine ⟨by rw [show vl [] = 0 from rfl]; omega, ?_⟩
        rw [show vl [] = 0 from rfl, dgs_zero _ _ (Int.le_refl _)]; rfl
      · have hd : 0 < dgt D' 0 := by
          cases D' with
          | nil => exact absurd rfl e
          | cons x t => exact hh
        have ih := digs_back f D' hl' (Or.inr hd)
        refine ⟨?_, ih⟩
        by_cases h0 : vl D' = 0
        · rw [h0, dgs_zero _ _ (Int.le_refl _)] at ih
          exact absurd ih.symm e
        · omega
    rw [dgs_succ f _ hn.1, List.map_append, show (vl D' * 256 + (c.toNat : Int)) / 256 = vl D' by omega, show (vl D' * 256 + (c.toNat : Int)) % 256 = (c.toNat : Int) by omega, hn.2, List.map_cons, List.map_nil, byt_isC]
theorem takeN_back {l : List UInt8} {v : Int} {k : Nat} (h : takeN l = some (v, k)) : l = nb v ++ l.drop k := by
  unfold takeN at h
  by_cases h1 : l.length = 0
  · rw [if_pos h1] at h; cases h
  rw [if_neg h1] at h
  by_cases h2 : 6 < dgt l 0
  · rw [if_pos h2] at h; cases h
  rw [if_neg h2] at h
  by_cases h3 : l.length - 1 < dgt l 0
  · rw [if_pos h3] at h; cases h
  rw [if_neg h3] at h
  by_cases h4 : 0 < dgt l 0 ∧ dgt l 1 = 0
  · rw [if_pos h4] at h; cases h
  rw [if_neg h4] at h
  by_cases h5 : 1099511627776 < vl ((l.drop 1).take (dgt l 0))
  · rw [if_pos h5] at h; cases h
  rw [if_neg h5] at h
  cases l with
  | nil => exact absurd rfl h1
  | cons x t =>
    have hx : dgt (x :: t) 0 = x.toNat := rfl
    rw [hx] at h h2 h3 h4
    have ht : (x :: t).drop 1 = t := rfl
    rw [ht] at h
    have hvk : vl (t.take x.toNat) = v ∧ 1 + x.toNat = k := by simpa using h
    obtain ⟨hv, hk⟩ := hvk
    have hlen : (t.take x.toNat).length = x.toNat := by rw [List.length_take]; simp at h3; omega
    have hd := digs_back 6 (t.take x.toNat) (by omega) (by
      by_cases e : x.toNat = 0
      · left; rw [e]; rfl
      · right
        cases t with
        | nil => simp at hlen; omega
        | cons y u =>
          have h6 : ¬ dgt (x :: y :: u) 1 = 0 := fun e' => h4 ⟨by omega, e'⟩
          have h7 : dgt (x :: y :: u) 1 = y.toNat := rfl
          rw [h7] at h6
          obtain ⟨n, hn⟩ : ∃ n, x.toNat = n + 1 := ⟨x.toNat - 1, by omega⟩
          rw [hn]
          show 0 < y.toNat
          omega)
    rw [hv] at hd
    have hdl : (dgs 6 v).length = x.toNat := by rw [← hlen, ← hd, List.length_map]
    rw [nb_cons, hd, hdl, byt_isC, ← hk]
    show x :: t = x :: (t.take x.toNat ++ (x :: t).drop (1 + x.toNat))
    rw [show (x :: t).drop (1 + x.toNat) = t.drop x.toNat by rw [Nat.add_comm]; rfl, List.take_append_drop]
theorem takeT_back {l : List UInt8} {k n : Nat} (h : takeT l = some (k, n)) : l = tb (bs ((l.drop k).take n)) ++ (l.drop k).drop n ∧ (bs ((l.drop k).take n)).size ≤ 65536 := by
  have hs := takeT_some h
  unfold takeT at h
  cases ht : takeN l with
  | none => rw [ht] at h; cases h
  | some x =>
    obtain ⟨v, k'⟩ := x
    rw [ht] at h
    dsimp only at h
    have hv := takeN_some ht
    by_cases h1 : 65536 < v ∨ ((l.length - k' : Nat) : Int) < v
    · rw [if_pos h1] at h; cases h
    rw [if_neg h1] at h
    have hkn : k' = k ∧ v.toNat = n := by simpa using h
    obtain ⟨rfl, rfl⟩ := hkn
    have hsz : (bs ((l.drop k').take v.toNat)).size = v.toNat := by rw [bs_size, List.length_take, List.length_drop]; omega
    refine ⟨?_, by rw [hsz]; omega⟩
    unfold tb
    rw [hsz, bs_toList, Int.toNat_of_nonneg hv.1, List.append_assoc, List.take_append_drop]
    exact takeN_back ht
theorem nmF_back {most : Int} {l : List UInt8} {b : Bool} (h : (nmF most l b).2.2 = false) : l = nb (nmF most l b).1 ++ (nmF most l b).2.1 ∧ 0 ≤ (nmF most l b).1 ∧ (nmF most l b).1 ≤ most ∧ b = false := by
  unfold nmF at h ⊢
  cases ht : takeN l with
  | none => rw [ht] at h; cases h
  | some x =>
    obtain ⟨v, k⟩ := x
    rw [ht] at h
    dsimp only at h ⊢
    by_cases hm : most < v
    · rw [if_pos hm] at h; cases h
    · rw [if_neg hm] at h ⊢
      exact ⟨takeN_back ht, (takeN_some ht).1, by show v ≤ most; omega, h⟩
theorem txF_back {l : List UInt8} {b : Bool} (h : (txF l b).2.2 = false) : l = tb (txF l b).1 ++ (txF l b).2.1 ∧ (txF l b).1.size ≤ 65536 ∧ b = false := by
  unfold txF at h ⊢
  cases ht : takeT l with
  | none => rw [ht] at h; cases h
  | some x =>
    obtain ⟨k, n⟩ := x
    rw [ht] at h
    dsimp only at h ⊢
    exact ⟨(takeT_back ht).1, (takeT_back ht).2, h⟩
theorem atF_back : ∀ (c : Nat) (l : List UInt8) (b : Bool), (atF c l b).2.2 = false → l = atW (atF c l b).1 ++ (atF c l b).2.1 ∧ (atF c l b).1.length = c ∧ b = false
  | 0, l, b, h => ⟨rfl, rfl, h⟩
  | c + 1, l, b, h => by
    obtain ⟨z1, z2, z3⟩ := atF_back c _ _ (show (atF c _ _).2.2 = false from h)
    obtain ⟨y1, y2, y3⟩ := txF_back z3
    obtain ⟨x1, x2, x3⟩ := txF_back y3
    refine ⟨?_, by show (_ :: (atF c _ _).1).length = _; rw [List.length_cons, z2], x3⟩
    show l = (tb _ ++ (tb _ ++ atW (atF c _ _).1)) ++ (atF c _ _).2.1
    rw [List.append_assoc, List.append_assoc, ← z1, ← y1]
    exact x1
theorem asF_back {l : List UInt8} {b : Bool} (h : (asF l b).2.2 = false) : l = nb ((asF l b).1.length : Nat) ++ (atW (asF l b).1 ++ (asF l b).2.1) ∧ (asF l b).1.length ≤ 12 ∧ b = false := by
  unfold asF at h ⊢
  obtain ⟨z1, z2, z3⟩ := atF_back _ _ _ h
  obtain ⟨y1, y2, y3, y4⟩ := nmF_back z3
  refine ⟨?_, by rw [z2]; omega, y4⟩
  rw [z2, ← z1, Int.toNat_of_nonneg y2]
  exact y1

/-! ### nodes: back -/
def Back (s : RS) (z : Forest × RS) : Prop := z.2.2.2 = false → s.1 = bytesL z.1 ++ z.2.1 ∧ s.2.2 = false
def BackN (s : RS) (z : Nd × RS) : Prop := z.2.2.2 = false → s.1 = (nodeL z.1.k z.1.sp z.1.n z.1.ats z.1.tx z.1.kids.len ++ byF z.1.kids) ++ z.2.1 ∧ s.2.2 = false
theorem ndF_back (kf : RS → Forest × RS) (dp : Bool) (hk : dp = true → ∀ s, Back s (kf s)) (s : RS) : BackN s (ndF kf dp s) := by
  intro h
  unfold ndF at h ⊢
  by_cases c1 : (nmF 3 s.1 s.2.2).1 = 2 ∨ (nmF 3 s.1 s.2.2).1 = 3
  · rw [if_pos c1] at h ⊢
    dsimp only at h ⊢
    obtain ⟨t1, t2, t3⟩ := txF_back h
    obtain ⟨k1, k2, k3, k4⟩ := nmF_back t3
    refine ⟨?_, k4⟩
    have hk1 : ¬ (nmF 3 s.1 s.2.2).1 = 1 := by omega
    unfold nodeL
    rw [if_neg hk1, numW_nb k2 (by omega), show byF .nil = [] from rfl, List.append_nil, List.append_assoc, ← t1]
    exact k1
  rw [if_neg c1] at h ⊢
  by_cases c2 : (nmF 3 s.1 s.2.2).1 = 1 ∧ dp = true
  · rw [if_pos c2] at h ⊢
    dsimp only at h ⊢
    obtain ⟨q1, q2⟩ := hk c2.2 _ h
    dsimp only at q1 q2
    obtain ⟨a1, a2, a3⟩ := asF_back q2
    obtain ⟨t1, t2, t3⟩ := txF_back a3
    obtain ⟨p1, p2, p3, p4⟩ := nmF_back t3
    obtain ⟨k1, k2, k3, k4⟩ := nmF_back p4
    refine ⟨?_, k4⟩
    unfold nodeL
    rw [if_pos rfl, numW_nb (n := 1) (by omega) (by omega), numW_nb p2 (by omega), numW_nb (n := ((asF _ _).1.length : Int)) (by omega) (by omega)]
    simp only [List.append_assoc]
    unfold bytesL at q1
    rw [List.append_assoc] at q1
    rw [← q1, ← a1, ← t1, ← p1]
    rw [c2.1] at k1
    exact k1
  · rw [if_neg c2] at h; cases h
theorem lpF_back (nd : RS → Nd × RS) (hn : ∀ s, BackN s (nd s)) : ∀ (c : Nat) (s : RS), (lpF nd c s).2.2.2 = false → ∃ f, (lpF nd c s).1 = some f ∧ f.len = c ∧ s.1 = byF f ++ (lpF nd c s).2.1 ∧ s.2.2 = false
  | 0, s, h => ⟨.nil, rfl, rfl, rfl, h⟩
  | c + 1, s, h => by
    rw [lpF] at h ⊢
    by_cases hb : (stF s).2.2 = true
    · rw [if_pos hb] at h; rw [show ((none : Option Forest), stF s).2.2.2 = (stF s).2.2 from rfl, hb] at h; cases h
    · rw [if_neg hb] at h ⊢
      dsimp only at h ⊢
      obtain ⟨f, f1, f2, f3, f4⟩ := lpF_back nd hn c _ h
      obtain ⟨g1, g2⟩ := hn _ f4
      have hst : (stF s).1 = s.1 ∧ s.2.2 = false := by
        unfold stF at hb g2 ⊢
        by_cases c3 : 300 < s.2.1 + 1
        · rw [if_pos c3] at hb; exact absurd rfl hb
        · rw [if_neg c3] at g2 ⊢; exact ⟨rfl, g2⟩
      refine ⟨(nd (stF s)).1.cons f, by rw [f1]; rfl, by show f.len + 1 = _; rw [f2], ?_, hst.2⟩
      rw [← hst.1, g1]
      show _ = (nodeL _ _ _ _ _ _ ++ (byF _ ++ byF f)) ++ _
      rw [f3]
      simp only [List.append_assoc]
theorem topF_back (nd : RS → Nd × RS) (hn : ∀ s, BackN s (nd s)) (s : RS) : Back s (topF nd s) := by
  intro h
  unfold topF at h ⊢
  dsimp only at h ⊢
  obtain ⟨f, f1, f2, f3, f4⟩ := lpF_back nd hn _ _ h
  obtain ⟨k1, k2, k3, k4⟩ := nmF_back f4
  refine ⟨?_, k4⟩
  rw [f1]
  dsimp only at f3
  show s.1 = bytesL f ++ _
  unfold bytesL
  rw [List.append_assoc, ← f3, f2, Int.toNat_of_nonneg k2, numW_nb k2 (by omega)]
  exact k1
theorem lsF_back : ∀ (d : Nat) (s : RS), Back s (lsF d s)
  | 0, s => topF_back _ (fun s => ndF_back _ false (fun h => by cases h) s) s
  | d + 1, s => topF_back _ (fun s => ndF_back _ true (fun _ => lsF_back d) s) s

/-! ### there -/
theorem nmF_there {most v : Int} (r : List UInt8) (b : Bool) (h0 : 0 ≤ v) (h1 : v ≤ most) (h2 : v ≤ 1099511627776) : nmF most (nb v ++ r) b = (v, r, b) := by
  unfold nmF
  rw [takeN_nb v r h0 h2]
  dsimp only
  rw [if_neg (by omega), List.drop_left]
theorem txF_there (s : ByteArray) (r : List UInt8) (b : Bool) (h : s.size ≤ 65536) : txF (tb s ++ r) b = (s, r, b) := by
  have hl : s.data.toList.length = s.size := by rw [Array.length_toList]; rfl
  unfold txF
  rw [takeT_tb s r h]
  dsimp only
  have h1 : (tb s ++ r).drop (nb (s.size : Int)).length = s.data.toList ++ r := by unfold tb; rw [List.append_assoc, List.drop_left]
  rw [h1, List.take_left' hl, List.drop_left' hl, bs_self]
theorem atF_there : ∀ (ats : List (ByteArray × ByteArray)) (r : List UInt8) (b : Bool), AtF ats → atF ats.length (atW ats ++ r) b = (ats, r, b)
  | [], r, b, _ => rfl
  | (x, y) :: ats, r, b, h => by
    have h0 := h _ (List.mem_cons_self ..)
    dsimp only at h0
    have e1 : txF (atW ((x, y) :: ats) ++ r) b = (x, tb y ++ (atW ats ++ r), b) := by
      rw [show atW ((x, y) :: ats) ++ r = tb x ++ (tb y ++ (atW ats ++ r)) by simp only [atW, List.append_assoc]]
      exact txF_there x _ b h0.1
    have e2 := txF_there y (atW ats ++ r) b h0.2
    have e3 := atF_there ats r b (fun z hz => h z (List.mem_cons_of_mem _ hz))
    rw [List.length_cons, atF, e1]
    dsimp only
    rw [e2]
    dsimp only
    rw [e3]
theorem asF_there (ats : List (ByteArray × ByteArray)) (r : List UInt8) (b : Bool) (h : AtF ats) (h12 : ats.length ≤ 12) : asF (nb (ats.length : Int) ++ (atW ats ++ r)) b = (ats, r, b) := by
  unfold asF
  rw [nmF_there _ b (by omega) (by omega) (by omega)]
  dsimp only
  rw [Int.toNat_natCast]
  exact atF_there ats r b h
theorem wrong_12 {n : List UInt8} {ats : List (ByteArray × ByteArray)} (h : wrongN n ats = 0) : ats.length ≤ 12 := by
  unfold wrongN at h
  by_cases h1 : (nameB n && rightAs ats) = false
  · rw [if_pos h1] at h; omega
  rw [if_neg h1] at h
  by_cases h2 : diffN ats < ats.length
  · rw [if_pos h2] at h; omega
  rw [if_neg h2] at h
  by_cases h3 : 12 < ats.length
  · rw [if_pos h3] at h; omega
  · omega
theorem ra_ats {sp : Int} {n : ByteArray} {ats : List (ByteArray × ByteArray)} {tx : ByteArray} {kl : Nat} (h : raB 1 sp n ats tx kl = true) : ats.length ≤ 12 := by
  unfold raB at h
  rw [if_pos rfl] at h
  simp only [Bool.and_eq_true, decide_eq_true_eq] at h
  exact wrong_12 h.1
theorem lpF_there (kf : RS → Forest × RS) (dp : Bool) (d : Nat) (hd : dp = false → d = 0)
    (hk : dp = true → ∀ (g : Forest) (r : List UInt8) (m : Nat), allB g = true → SmF g → g.depth + 1 ≤ d → m + g.count ≤ 300 → kf (bytesL g ++ r, m, false) = (g, r, m + g.count, false)) :
    ∀ (f : Forest), allB f = true → SmF f → f.depth ≤ d → ∀ (r : List UInt8) (m : Nat), m + f.count ≤ 300 → lpF (ndF kf dp) f.len (byF f ++ r, m, false) = (some f, r, m + f.count, false)
  | .nil, _, _, _, r, m, _ => rfl
  | .cons k sp n ats tx kids rest, ha, hs, hdp, r, m, hc => by
    obtain ⟨⟨htx, hn, hfit, hkc⟩, hsk, hsr⟩ := hs
    have ha1 : (raB k sp n ats tx kids.len && ((leafB k || (apartB kids && allB kids)) && allB rest)) = true := ha
    rw [Bool.and_eq_true, Bool.and_eq_true] at ha1
    obtain ⟨hra, hlf, hrest⟩ := ha1
    have hc' : m + (1 + kids.count + rest.count) ≤ 300 := hc
    have hdp' : max (if 0 < kids.depth ∨ leafB k = false then kids.depth + 1 else kids.depth) rest.depth ≤ d := hdp
    have hst : stF ((byF (.cons k sp n ats tx kids rest) ++ r, m, false) : RS) = ((nodeL k sp n ats tx kids.len ++ byF kids) ++ (byF rest ++ r), m + 1, false) := by
      unfold stF
      rw [if_neg (by dsimp only; omega)]
      show ((nodeL k sp n ats tx kids.len ++ (byF kids ++ byF rest)) ++ r, m + 1, false) = _
      simp only [List.append_assoc]
    have hnd : ndF kf dp ((nodeL k sp n ats tx kids.len ++ byF kids) ++ (byF rest ++ r), m + 1, false) = (⟨k, sp, n, ats, tx, kids⟩, byF rest ++ r, m + 1 + kids.count, false) := by
      rcases ra_is hra with ⟨h1, hsp, hsp2, htx0⟩ | ⟨h1, hsp0, hn0, hat0, hkl0⟩
      · subst h1
        have hleaf : leafB 1 = false := rfl
        rw [hleaf, Bool.false_or, Bool.and_eq_true] at hlf
        have hd1 : kids.depth + 1 ≤ d := by
          rw [if_pos (Or.inr hleaf)] at hdp'
          omega
        have hdt : dp = true := by
          cases dp with
          | true => rfl
          | false => have := hd rfl; omega
        have hkl := kids.len_count
        unfold ndF
        dsimp only
        have e1 : nmF 3 ((nodeL 1 sp n ats tx kids.len ++ byF kids) ++ (byF rest ++ r)) false = (1, nb sp ++ (tb n ++ (nb (ats.length : Int) ++ (atW ats ++ (bytesL kids ++ (byF rest ++ r))))), false) := by
          rw [show (nodeL 1 sp n ats tx kids.len ++ byF kids) ++ (byF rest ++ r) = nb 1 ++ (nb sp ++ (tb n ++ (nb (ats.length : Int) ++ (atW ats ++ (bytesL kids ++ (byF rest ++ r)))))) by
            have i1 := hfit.1
            unfold nodeL bytesL
            rw [if_pos rfl, numW_nb (n := 1) (by omega) (by omega), numW_nb hsp (by omega), numW_nb (n := (ats.length : Int)) (by omega) (by omega)]
            simp only [List.append_assoc]]
          exact nmF_there _ _ (by omega) (by omega) (by omega)
        rw [e1]
        dsimp only
        rw [if_neg (by omega), if_pos ⟨rfl, hdt⟩, nmF_there _ _ hsp hsp2 (by omega)]
        dsimp only
        rw [txF_there n _ _ (by omega)]
        dsimp only
        rw [asF_there ats _ _ (at_fits hfit) (ra_ats hra)]
        dsimp only
        rw [hk hdt kids (byF rest ++ r) (m + 1) hlf.2 hsk hd1 (by omega), htx0]
      · have hk1 : ¬ k = 1 := by omega
        have q := len_nil hkl0
        subst q
        unfold ndF
        dsimp only
        have e1 : nmF 3 ((nodeL k sp n ats tx Forest.nil.len ++ byF .nil) ++ (byF rest ++ r)) false = (k, tb tx ++ (byF rest ++ r), false) := by
          rw [show (nodeL k sp n ats tx Forest.nil.len ++ byF .nil) ++ (byF rest ++ r) = nb k ++ (tb tx ++ (byF rest ++ r)) by
            unfold nodeL
            rw [if_neg hk1, numW_nb (n := k) (by omega) (by omega), show byF .nil = [] from rfl]
            simp only [List.append_assoc, List.nil_append]]
          exact nmF_there _ _ (by omega) (by omega) (by omega)
        rw [e1]
        dsimp only
        rw [if_pos h1, txF_there tx _ _ (by omega), hsp0, hn0, hat0]
        rfl
    have ih := lpF_there kf dp d hd hk rest hrest hsr (by omega) r (m + 1 + kids.count) (by omega)
    show lpF (ndF kf dp) (rest.len + 1) _ = _
    rw [lpF, hst, if_neg (by simp), hnd]
    dsimp only
    rw [ih]
    show (some _, r, m + 1 + kids.count + rest.count, false) = (some _, r, m + (1 + kids.count + rest.count), false)
    rw [show m + 1 + kids.count + rest.count = m + (1 + kids.count + rest.count) by omega]
    rfl
theorem topF_there (nd : RS → Nd × RS) (f : Forest) (r : List UInt8) (m : Nat) (hc : f.count ≤ 300) (h : lpF nd f.len (byF f ++ r, m, false) = (some f, r, m + f.count, false)) : topF nd (bytesL f ++ r, m, false) = (f, r, m + f.count, false) := by
  have hl := f.len_count
  unfold topF
  dsimp only
  have e1 : nmF 300 (bytesL f ++ r) false = ((f.len : Int), byF f ++ r, false) := by
    unfold bytesL
    rw [numW_nb (n := (f.len : Int)) (by omega) (by omega), List.append_assoc]
    exact nmF_there _ _ (by omega) (by omega) (by omega)
  rw [e1]
  dsimp only
  rw [Int.toNat_natCast, h]
  rfl
theorem lsF_there : ∀ (d : Nat) (f : Forest) (r : List UInt8) (m : Nat), allB f = true → SmF f → f.depth ≤ d → m + f.count ≤ 300 → lsF d (bytesL f ++ r, m, false) = (f, r, m + f.count, false)
  | 0, f, r, m, ha, hs, hd, hc => topF_there _ f r m (by omega) (lpF_there _ false 0 (fun _ => rfl) (fun h => by cases h) f ha hs hd r m hc)
  | d + 1, f, r, m, ha, hs, hd, hc => topF_there _ f r m (by omega) (lpF_there _ true (d + 1) (fun h => by cases h) (fun _ g r m a b c e => lsF_there d g r m a b (by omega) e) f ha hs hd r m hc)
end Go.Proofs.YtmlmpongcpojjaaDoor
