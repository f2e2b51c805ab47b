/-
  Several texts in one: what the functions of the program and of the document's answer do.
-/
import Derived.Test.YtbabmkilbbbmoaaDoorMgBH
import Derived.Test.YtbabmkilbbbmoaaDoorMgBE
import Derived.Deep.RegionWith
import Derived.Test.YtbabmkilbbbmoaaDoorYNo
import Derived.Test.YtbabmkilbbbmoaaDoorMgAY
import Derived.Test.YtbabmkilbbbmoaaDoorMgBF

/-
  The node at a way: plain facts.
-/
namespace Go.Proofs.YtbabmkilbbbmoaaDoor
open Go.RowKit
set_option linter.unusedVariables false
set_option linter.unusedSimpArgs false

/-- The error of a way, and the list from the node on to which it leads. -/
def atE : Forest → List Int → Int
  | _, [] => 1
  | f, p :: r => if p < 0 ∨ (f.len : Int) ≤ p then 6 else if r = [] then 0 else atE (kidsAt f p.toNat) r
def atN : Forest → List Int → Forest
  | _, [] => .nil
  | f, p :: r => if r = [] then f.drop p.toNat else atN (kidsAt f p.toNat) r
theorem at_led : ∀ (ys : List Int) (f : Forest) (z : Int), (∀ g, ledF f ys = some g → atN f (ys ++ [z]) = g.drop z.toNat ∧ atE f (ys ++ [z]) = if z < 0 ∨ (g.len : Int) ≤ z then 6 else 0) ∧ (ledF f ys = none → atE f (ys ++ [z]) = 6)
  | [], f, z => ⟨fun g h => by
      simp only [ledF, Option.some.injEq] at h; subst h
      refine ⟨?_, ?_⟩
      · simp [atN]
      · show atE f [z] = _
        unfold atE; rw [if_pos rfl], fun h => by simp [ledF] at h⟩
  | p :: r, f, z => by
    have ih := at_led r (kidsAt f p.toNat) z
    have hne : r ++ [z] ≠ [] := by simp
    refine ⟨fun g h => ?_, fun h => ?_⟩
    · simp only [ledF] at h
      by_cases hp : p < 0 ∨ (f.len : Int) ≤ p
      · rw [if_pos hp] at h; cases h
      · rw [if_neg hp] at h
        obtain ⟨i1, i2⟩ := ih.1 g h
        refine ⟨?_, ?_⟩
        · show atN f (p :: (r ++ [z])) = _
          unfold atN; rw [if_neg hne]; exact i1
        · show atE f (p :: (r ++ [z])) = _
          unfold atE; rw [if_neg hp, if_neg hne]; exact i2
    · simp only [ledF] at h
      show atE f (p :: (r ++ [z])) = _
      by_cases hp : p < 0 ∨ (f.len : Int) ≤ p
      · unfold atE; rw [if_pos hp]
      · rw [if_neg hp] at h
        unfold atE; rw [if_neg hp, if_neg hne]; exact ih.2 h
theorem SmF.kidsAt {f : Forest} (h : SmF f) (p : Nat) : SmF (kidsAt f p) := by
  have hd := SmF.drop p f h
  unfold Proofs.YtbabmkilbbbmoaaDoor.kidsAt
  cases e : f.drop p with
  | nil => trivial
  | cons k sp n ats tx kids rest => rw [e] at hd; exact hd.2.1
theorem kidsAt_count (f : Forest) (p : Nat) : (kidsAt f p).count ≤ f.count := by
  have := Forest.count_drop p f
  unfold kidsAt
  cases e : f.drop p with
  | nil => simp [Forest.count]
  | cons k sp n ats tx kids rest => rw [e] at this; simp only [Forest.count] at this; show kids.count ≤ _; omega
theorem led_small : ∀ (ys : List Int) (f g : Forest), ledF f ys = some g → SmF f → SmF g ∧ g.count ≤ f.count
  | [], f, g, h, hs => by simp only [ledF, Option.some.injEq] at h; subst h; exact ⟨hs, Nat.le_refl _⟩
  | p :: r, f, g, h, hs => by
    simp only [ledF] at h
    by_cases hp : p < 0 ∨ (f.len : Int) ≤ p
    · rw [if_pos hp] at h; cases h
    · rw [if_neg hp] at h
      have := led_small r _ g h (hs.kidsAt p.toNat)
      exact ⟨this.1, Nat.le_trans this.2 (kidsAt_count f _)⟩
def zeroNd : Value := .agg #[.int .i64 0, .int .i64 0, .string ⟨#[]⟩, .slice none 0 0, .string ⟨#[]⟩, .slice none 0 0]
def NodS (f : Forest) (zs : List Int) (v : Value) (w : World) : Prop :=
  (atE f zs ≠ 0 ∧ v = zeroNd) ∨ (atE f zs = 0 ∧ ∃ k sp n ats tx kids rest, atN f zs = .cons k sp n ats tx kids rest ∧ NdV k sp n ats tx kids v w)
theorem NodS.below {f : Forest} {zs : List Int} {v : Value} {w w' : World} (h : NodS f zs v w) (hb : Below w.heap.size w w') : NodS f zs v w' :=
  h.imp id fun ⟨h1, k, sp, n, ats, tx, kids, rest, h2, h3⟩ => ⟨h1, k, sp, n, ats, tx, kids, rest, h2, h3.below hb⟩
theorem split_last {zs : List Int} (h : zs ≠ []) : ∃ ys z, zs = ys ++ [z] := ⟨zs.dropLast, zs.getLast h, (List.dropLast_concat_getLast h).symm⟩
end Go.Proofs.YtbabmkilbbbmoaaDoor

/-
  What the plain comparison of numbers does.
-/
namespace Go.Proofs.YtbabmkilbbbmoaaDoor
open Go.RowKit Go.Maps
set_option linter.unusedVariables false
set_option linter.unusedSimpArgs false

theorem IntsV.at {q : Option Addr} {n : Nat} {zs : List Int} {w w' : World} (h : IntsV q n zs w) (hb : Below w.heap.size w w') (j : Nat) (hj : j < n) : ∃ g o, q = some ⟨g, o, none⟩ ∧ w'.cell? ⟨g, o + j, none⟩ = some (.int .i64 (zs.getD j 0)) := by
  obtain ⟨g, o, hq, hc⟩ := (h.below hb).2 (by omega)
  exact ⟨g, o, hq, hc j hj⟩
theorem ints_ext {za zb : List Int} (hl : za.length = zb.length) (h : ∀ j, j < za.length → za.getD j 0 = zb.getD j 0) : za = zb := by
  apply List.ext_getElem hl
  intro j h1 h2
  have := h j h1
  simpa [List.getD, h1, h2] using this
end Go.Proofs.YtbabmkilbbbmoaaDoor

/-
  What the reference's At does (made by mk_rae.py).
-/
namespace Go.Proofs.YtbabmkilbbbmoaaDoor
open Go.RowKit
set_option linter.unusedVariables false
set_option linter.unusedSimpArgs false

def GotSaid (w0 w : World) (f : Forest) (zs : List Int) (e : Ending) (w' : World) : Prop := ∃ (k sp : Int) (n tx : ByteArray) (qa qk : Option Addr) (la ca lk ck : Nat), e = .returned (.agg #[.slice none 0 0, .int .i64 k, .int .i64 sp, .string n, .slice qa la ca, .string tx, .slice qk lk ck, .int .i64 (atE f zs)]) ∧ NodS f zs (ndV k sp n qa la ca tx qk lk ck) w0 ∧ Below w.heap.size w w'
theorem ints_tail {g o n : Nat} {z : Int} {r : List Int} {w : World} (h : IntsV (some ⟨g, o, none⟩) (n + 1) (z :: r) w) : IntsV (some ⟨g, o + 1, none⟩) n r w := by
  obtain ⟨h1, h2⟩ := h
  refine ⟨by simpa using h1, fun h0 => ⟨g, o + 1, rfl, fun j hj => ?_⟩⟩
  obtain ⟨g', o', e, hc⟩ := h2 (by omega)
  injection e with e
  injection e with e1 e2
  subst e1 e2
  have := hc (j + 1) (by omega)
  rw [show o + 1 + j = o + (j + 1) by omega, this]
  simp [List.getD]
end Go.Proofs.YtbabmkilbbbmoaaDoor

/-
  rectolaw19.large; the plain comparison of one node told twice.
-/
namespace Go.Proofs.YtbabmkilbbbmoaaDoor
open Go.RowKit
set_option linter.unusedVariables false
set_option linter.unusedSimpArgs false

theorem zeroNd_is (w : World) : NdV 0 0 ⟨#[]⟩ [] ⟨#[]⟩ .nil zeroNd w := ⟨none, 0, none, 0, rfl, Or.inl rfl, Or.inl rfl, Nat.le_refl _⟩
theorem ndv_same (k sp : Int) (n : ByteArray) (ats : List (ByteArray × ByteArray)) (tx : ByteArray) (kids : Forest) (v1 v2 : Value) (w : World) (h1 : NdV k sp n ats tx kids v1 w) (h2 : NdV k sp n ats tx kids v2 w) (hs : SmF kids) (hl : ats.length ≤ 1000000000) (hc : kids.count ≤ 1000000) :
    Calls Tryd.prog 20 #[v1, v2] w fun e w' => e = .returned (.bool true) ∧ Below w.heap.size w w' := by
  obtain ⟨qa, ca, qk, ck, rfl, a1, a2, a3⟩ := h1
  obtain ⟨qa', ca', qk', ck', rfl, b1, b2, b3⟩ := h2
  have hkl := kids.len_count
  have hsk : sameF kids kids = true := (sameF_eq kids kids).2 rfl
  have := pnode_any k sp n ats tx k sp n ats tx qa qa' qk qk' ca ca' ck ck' kids.len kids.len true w a1 b1 hl hl (fun W hW => by
    have := nodes_any kids.count kids (Nat.le_refl _) hc hs kids qk qk' ck ck' W (a2.below hW) (b2.below hW) hs (by omega)
    rw [hsk] at this
    exact this)
  have hal : alikeN k sp n ats tx k sp n ats tx = true := by
    unfold alikeN
    simp only [decide_true, Bool.true_and]
    exact decide_eq_true rfl
  rw [hal, Bool.true_and] at this
  exact this
/-- One node, told twice. -/
theorem nods_same (f : Forest) (zs : List Int) (v1 v2 : Value) (w : World) (h1 : NodS f zs v1 w) (h2 : NodS f zs v2 w) (hs : SmF (atN f zs)) (hc : (atN f zs).count ≤ 1000000) :
    Calls Tryd.prog 20 #[v1, v2] w fun e w' => e = .returned (.bool true) ∧ Below w.heap.size w w' := by
  rcases h1 with ⟨h1, rfl⟩ | ⟨h1, k, sp, n, ats, tx, kids, rest, e1, n1⟩
  · rcases h2 with ⟨_, rfl⟩ | ⟨h2, _⟩
    · exact ndv_same 0 0 ⟨#[]⟩ [] ⟨#[]⟩ .nil zeroNd zeroNd w (zeroNd_is w) (zeroNd_is w) trivial (by simp) (by simp [Forest.count])
    · exact absurd h2 h1
  · rcases h2 with ⟨h2, _⟩ | ⟨_, k', sp', n', ats', tx', kids', rest', e2, n2⟩
    · exact absurd h1 h2
    · rw [e1] at e2 hs hc
      injection e2 with a1 a2 a3 a4 a5 a6 a7
      subst a1 a2 a3 a4 a5 a6
      have hf : Fits ats := hs.1.2.2.1
      simp only [Forest.count] at hc
      exact ndv_same k sp n ats tx kids v1 v2 w n1 n2 hs.2.1 (by have := hf.1; omega) (by omega)
theorem atN_small : ∀ (zs : List Int) (f : Forest), SmF f → SmF (atN f zs) ∧ (atN f zs).count ≤ f.count
  | [], f, h => ⟨trivial, Nat.zero_le _⟩
  | p :: r, f, h => by
    unfold atN
    by_cases hr : r = []
    · rw [if_pos hr]; exact ⟨SmF.drop _ f h, Forest.count_drop _ f⟩
    · rw [if_neg hr]
      have := atN_small r (kidsAt f p.toNat) (h.kidsAt p.toNat)
      exact ⟨this.1, Nat.le_trans this.2 (kidsAt_count f _)⟩
theorem atE_cases (f : Forest) (zs : List Int) : 0 ≤ atE f zs ∧ atE f zs ≤ 6 := by
  induction zs generalizing f with
  | nil => unfold atE; omega
  | cons p r ih =>
    unfold atE
    split
    · omega
    · split
      · omega
      · exact ih _
end Go.Proofs.YtbabmkilbbbmoaaDoor

/-
  What keys.Key does.
-/
namespace Go.Proofs.YtbabmkilbbbmoaaDoor
open Go.RowKit Go.Maps
set_option linter.unusedVariables false
set_option linter.unusedSimpArgs false

/-- The numbers of nodes can be told. -/
def ItF (w0 : World) : Forest → Prop
  | .nil => True
  | .cons k sp n ats tx kids rest => ItoaNd w0 k sp n ats tx kids.len ∧ ItF w0 kids ∧ ItF w0 rest
def JK (w : World) (b L : Nat) (cs : Array Value) (acc : List UInt8) (W : World) : Prop := Kwt b b acc W ∧ Below w.heap.size w W ∧ Blk W L cs 44
theorem JK.step {w : World} {b L B1 : Nat} {cs : Array Value} {acc : List UInt8} {W W' : World} (h : JK w b L cs acc W) (hs : StepL B1 W W') (hB1 : w.heap.size ≤ B1) : JK w b L cs acc W' := by
  obtain ⟨h1, h2, h3⟩ := h
  have hz := h2.size
  refine ⟨kwt_keep h1 (fun k c t fz hk ht => ?_), ⟨hs.1.trans h2.os, hs.2.1.trans h2.tape, hs.2.2.1.trans h2.output, Nat.le_trans hz hs.2.2.2.1, fun k hk => ?_⟩, ?_⟩
  · rw [hs.2.2.2.2 k (Array.getElem?_eq_some_iff.1 hk).1 (fun _ c' z e => by
      rw [hk] at e
      injection e with e
      injection e with _ e
      rcases ht with ht | ht
      · rw [ht] at e; revert e; decide
      · rw [ht] at e; revert e; decide)]
    exact hk
  · rw [hs.2.2.2.2 k (by omega) (fun hx => by omega)]
    exact h2.block k hk
  · show W'.heap[L]? = _
    rw [hs.2.2.2.2 L h3.lt (fun _ c' z e => by
      have := h3.symm.trans e
      injection this with e
      injection e with _ e
      revert e; decide)]
    exact h3
set_option maxHeartbeats 2000000 in
set_option maxRecDepth 100000 in
theorem key1_any (w V : World) (b L : Nat) (cs : Array Value) (hb0 : w.heap.size ≤ b) (hbL : b < L) (hV : ∀ W, Below w.heap.size w W → Blk W L cs 44 → CellLe V W)
    (acc : List UInt8) (k sp : Int) (n : ByteArray) (ats : List (ByteArray × ByteArray)) (tx : ByteArray) (kids rest : Forest) (g o : Nat) (x1 x2 x3 x4 : Int) (W : World) (hJ : JK w b L cs acc W) (hl : Lies (.cons k sp n ats tx kids rest) g o V) (hs : SmF (.cons k sp n ats tx kids rest)) (hN : ItoaNd w k sp n ats tx kids.len) (hlen : acc.length + (nodeB k sp n ats tx kids.len).length ≤ 100000000000) :
    Calls Tryd.prog 63 #[.pointer (some ⟨g, o, none⟩), .agg #[.int .i64 x1, .int .i64 x2, .int .i64 x3, .int .i64 x4, .int .i64 0], .pointer (some ⟨b, 0, none⟩)] W fun e W' => e = .returned (.tuple #[]) ∧ JK w b L cs (acc ++ nodeB k sp n ats tx kids.len) W' ∧ KeepL W W' := by
  obtain ⟨⟨l0, l1, l2, ⟨qa, ca, l3, hsl⟩, l4, ⟨qk, ck, l5, hck, hfo⟩⟩, _⟩ := hl
  obtain ⟨W1, hW1⟩ : ∃ W1, W.alloc (Obj.cells #[.int .i64 x1, .int .i64 x2, .int .i64 x3, .int .i64 x4, .int .i64 0] 49) = W1 := ⟨_, rfl⟩
  have hb1 : Below W.heap.size W W1 := by rw [← hW1]; exact (Below.refl _ _).alloc (Nat.le_refl _) _
  have hJ1 : JK w b L cs acc W1 := hJ.step (B1 := w.heap.size) (StepL.of_below hb1) (Nat.le_refl _)
  obtain ⟨j1, j2, j3⟩ := hJ1
  have hLlt := j3.lt
  have CN := hide (knode_any w b b acc k sp n ats tx qa ca qk kids.len ck g o W1 j1 j2 hb0 (by omega) (fun W => Below w.heap.size w W ∧ Blk W L cs 44)
    (fun W l' W' hp hk => ⟨hk.2.1, hk.2.2.2 L _ hp.2 (fun e => by injection e with e; omega) (fun c fz e => by injection e with _ e; revert e; decide)⟩)
    (fun W X hp => ⟨hp.1.alloc hp.1.size X, hp.2.alloc X⟩) ⟨j2, j3⟩
    (fun W hp => ⟨hV W hp.1 hp.2 _ _ _ l0, hV W hp.1 hp.2 _ _ _ l1, hV W hp.1 hp.2 _ _ _ l2, hV W hp.1 hp.2 _ _ _ l3, hV W hp.1 hp.2 _ _ _ l4, hV W hp.1 hp.2 _ _ _ l5⟩)
    (fun W hp => hsl.le (hV W hp.1 hp.2)) hN (by have := hs.1.2.1; omega) (by have := hs.1.1; omega) hs.1.2.2.1 hlen)
  have hty : ∃ c, W.heap[b]? = some (Obj.cells c 124 (0, 0)) := by
    obtain ⟨p, v, _, _, hbk, _⟩ := kwt_any hJ.1
    exact ⟨_, hbk⟩
  have HTY := hide hty
  have HB1 := hide hb1
  generalize nodeB k sp n ats tx kids.len = nb at *
  clear hJ hsl l0 l1 l2 l3 l4 l5 hck hfo hs hN j1 j2 j3 hty hb1 hV
  go_enter Tryd.func63, Tryd.ntmps63
  go_wp2_with fail
  refine (unhide CN).mono ?_
  rintro e w2 ⟨rfl, hk, hp⟩
  have HX := hide (And.intro hk hp)
  clear CN hk hp
  go_wp2
  refine bodyPost_end (v := .tuple #[]) (results_none Tryd.results63 _ _ _) rfl ?_
  have hk := (unhide HX).1
  refine ⟨rfl, ⟨hk.1, (unhide HX).2⟩, ?_, fun i c hi => ?_⟩
  · have := hk.2.2.1.size; have := (unhide HB1).size; omega
  · have hi1 : W1.heap[i]? = some (Obj.cells c 137 (0, 0)) := ((unhide HB1).block i (Array.getElem?_eq_some_iff.1 hi).1).trans hi
    refine hk.2.2.2 i _ hi1 (fun e => ?_) (fun c' fz e => by injection e with _ e; revert e; decide)
    injection e with e
    subst e
    obtain ⟨c', hc'⟩ := unhide HTY
    rw [hc'] at hi
    injection hi with hi
    injection hi with _ hi
    revert hi; decide
theorem ItF.later {w w1 : World} (hb : Below w.heap.size w w1) : ∀ f : Forest, ItF w f → ItF w1 f
  | .nil, h => trivial
  | .cons k sp n ats tx kids rest, h => by
    obtain ⟨⟨n1, n2, n3, n4, n5, n6, n7⟩, h2, h3⟩ := h
    exact ⟨⟨n1.later hb, n2.later hb, n3.later hb, n4.later hb, n5.later hb, n6.later hb, fun j hj => ⟨(n7 j hj).1.later hb, (n7 j hj).2.later hb⟩⟩, ItF.later hb kids h2, ItF.later hb rest h3⟩
theorem keyF_ne (k sp : Int) (n : ByteArray) (ats : List (ByteArray × ByteArray)) (tx : ByteArray) (kids rest : Forest) : keyF (.cons k sp n ats tx kids rest) ≠ [] := by
  unfold keyF nodeB
  intro h
  exact labelB_ne k sp n (List.append_eq_nil_iff.1 (List.append_eq_nil_iff.1 h).1).1
set_option maxHeartbeats 4000000 in
set_option maxRecDepth 100000 in
/-- A node's key. -/
theorem key_any (k sp : Int) (n : ByteArray) (ats : List (ByteArray × ByteArray)) (tx : ByteArray) (kids : Forest) (v : Value) (w : World) (hv : NdV k sp n ats tx kids v w) (hs : SmF (.cons k sp n ats tx kids .nil)) (hI : ItF w (.cons k sp n ats tx kids .nil)) (hc : kids.count ≤ 400000) (hlen : (keyF (.cons k sp n ats tx kids .nil)).length ≤ 100000000000) :
    Calls Tryd.prog 31 #[v] w fun e w' => e = .returned (.string (bs (keyF (.cons k sp n ats tx kids .nil)))) ∧ Below w.heap.size w w' := by
  obtain ⟨qa, ca, qk, ck, rfl, h2, h3, h4⟩ := hv
  unfold ndV
  obtain ⟨cs, hcs⟩ : ∃ cs : Array Value, #[.int .i64 k, .int .i64 sp, .string n, .slice qa ats.length ca, .string tx, .slice qk kids.len ck] = cs := ⟨_, rfl⟩
  obtain ⟨W1, hW1⟩ : ∃ W1, (w.alloc (Obj.cells #[.int .i64 k, .int .i64 sp, .string n, .slice qa ats.length ca, .string tx, .slice qk kids.len ck] 44)) = W1 := ⟨_, rfl⟩
  have hb1 : Below w.heap.size w W1 := by rw [← hW1]; exact (Below.refl w.heap.size w).alloc (Nat.le_refl _) _
  have hs1 : W1.heap.size = w.heap.size + 1 := by rw [← hW1]; simp
  have k0 : Blk W1 w.heap.size #[.int .i64 k, .int .i64 sp, .string n, .slice qa ats.length ca, .string tx, .slice qk kids.len ck] 44 := by rw [← hW1]; exact Blk.new w _ _
  have hkw := kwt_new W1
  obtain ⟨W2, hW2⟩ : ∃ W2, W1.alloc (Obj.cells #[.pointer none, .slice none 0 0] 124) = W2 := ⟨_, rfl⟩
  rw [hW2] at hkw
  have hb2 : Below W1.heap.size W1 W2 := by rw [← hW2]; exact (Below.refl _ _).alloc (Nat.le_refl _) _
  have hs2 : W2.heap.size = w.heap.size + 2 := by rw [← hW2]; simp [hs1]
  have k2 := k0.later hb2
  obtain ⟨W3, hW3⟩ : ∃ W3, W2.alloc (Obj.cells #[.int .i64 k, .int .i64 sp, .string n, .slice qa ats.length ca, .string tx, .slice qk kids.len ck] 44) = W3 := ⟨_, rfl⟩
  have hb3 : Below W2.heap.size W2 W3 := by rw [← hW3]; exact (Below.refl _ _).alloc (Nat.le_refl _) _
  have hs3 : W3.heap.size = w.heap.size + 3 := by rw [← hW3]; simp [hs2]
  have kL : Blk W3 (w.heap.size + 2) cs 44 := by rw [← hW3, ← hs2, ← hcs]; exact Blk.new _ _ _
  have hbw3 : Below w.heap.size w W3 := tr3 hb1 hb2 hb3
  have hJ : JK w (w.heap.size + 1) (w.heap.size + 2) cs [] W3 := ⟨by rw [← hs1]; exact kwt_below hkw hb3, hbw3, kL⟩
  -- the world in which the nodes lie, whatever is written
  obtain ⟨V, hVd⟩ : ∃ V, mask (fun i => decide (w.heap.size ≤ i ∧ i ≠ w.heap.size + 2)) W3 = V := ⟨_, rfl⟩
  have hV : ∀ W, Below w.heap.size w W → Blk W (w.heap.size + 2) cs 44 → CellLe V W := fun W hW hB g o u hu => by
    rw [← hVd] at hu
    obtain ⟨hp, hu⟩ := mask_cell.1 hu
    have hp' : ¬ (w.heap.size ≤ g ∧ g ≠ w.heap.size + 2) := of_decide_eq_false hp
    by_cases hg : g < w.heap.size
    · rw [hbw3.cell (p := ⟨g, o, none⟩) hg] at hu
      rw [hW.cell (p := ⟨g, o, none⟩) hg]; exact hu
    · obtain rfl : g = w.heap.size + 2 := by omega
      rw [kL.cell o] at hu
      rw [hB.cell o]; exact hu
  have hwV : CellLe w V := fun g o u hu => by
    have hg : g < w.heap.size := World.block_lt_of_cell? w ⟨g, o, none⟩ hu
    rw [← hVd]
    refine mask_cell.2 ⟨decide_eq_false (by omega), ?_⟩
    exact cell_later hbw3 hu
  have hBV : Blk V (w.heap.size + 2) cs 44 := by
    have h := kL
    unfold Blk at h ⊢
    rw [← hVd, mask_get, h]
    simp
  rw [← hcs] at hBV
  have hlV := six_lies hBV (h2.le hwV) (h3.le hwV) h4
  have CW := hide (kwalk_key W3 V (fun f => SmF f ∧ ItF w f) (fun k sp n ats tx kids rest h => ⟨⟨h.1.2.1, h.2.2.1⟩, ⟨h.1.2.2, h.2.2.2⟩⟩) (JK w (w.heap.size + 1) (w.heap.size + 2) cs)
    (fun acc W W' h hst => h.step hst (by omega)) (fun acc W h => hV W h.2.1 h.2.2) (w.heap.size + 1) (keyF (.cons k sp n ats tx kids .nil))
    (fun acc more k' sp' n' ats' tx' kids' rest' g o x1 x2 x3 x4 W hJ' hl' hq' htot => key1_any w V (w.heap.size + 1) (w.heap.size + 2) cs (by omega) (by omega) hV acc k' sp' n' ats' tx' kids' rest' g o x1 x2 x3 x4 W hJ' hl' hq'.1 hq'.2.1 (by
      have := congrArg List.length htot
      simp only [List.length_append] at this
      omega))
    (.cons k sp n ats tx kids .nil) (some ⟨w.heap.size + 2, 0, none⟩) 1 rfl (Or.inr ⟨_, 0, rfl, hlV⟩) ⟨hs, hI⟩ (by simp [Forest.len]) (by simp [Forest.count]; omega) hJ)
  rw [show (Forest.cons k sp n ats tx kids .nil).len = 1 from rfl] at CW
  have CS := hide (fun W (h' : Kwt (w.heap.size + 1) (w.heap.size + 1) (keyF (.cons k sp n ats tx kids .nil)) W) => kstring_any (w.heap.size + 1) (w.heap.size + 1) (keyF (.cons k sp n ats tx kids .nil)) W h' (keyF_ne k sp n ats tx kids .nil))
  generalize keyF (.cons k sp n ats tx kids .nil) = kf at *
  have c0 : W2.cell? ⟨w.heap.size, 0, none⟩ = some (.int .i64 k) := k2.cell 0
  have c1 : W2.cell? ⟨w.heap.size, 1, none⟩ = some (.int .i64 sp) := k2.cell 1
  have c2 : W2.cell? ⟨w.heap.size, 2, none⟩ = some (.string n) := k2.cell 2
  have c3 : W2.cell? ⟨w.heap.size, 3, none⟩ = some (.slice qa ats.length ca) := k2.cell 3
  have c4 : W2.cell? ⟨w.heap.size, 4, none⟩ = some (.string tx) := k2.cell 4
  have c5 : W2.cell? ⟨w.heap.size, 5, none⟩ = some (.slice qk kids.len ck) := k2.cell 5
  generalize ats.length = al at *
  generalize kids.len = kl at *
  clear hlV hBV hwV hV hVd hJ kL hbw3 hb3 hb2 hb1 k0 k2 hkw h2 h3 h4 hs hI hlen hc hcs
  go_enter Tryd.func31, Tryd.ntmps31
  go_wp2_with fail
  refine (unhide CW).mono ?_
  rintro e w4 ⟨rfl, hj⟩
  have CS1 := hide (unhide CS w4 hj.1)
  have HX := hide hj.2.1
  clear CW CS hj
  go_wp2_with fail
  refine (unhide CS1).mono ?_
  rintro e w5 ⟨rfl, hb5⟩
  have HY := hide hb5
  clear CS1 hb5
  go_wp2
  go_ret
  exact ⟨rfl, (unhide HX).trans ((unhide HY).mono (by omega))⟩
end Go.Proofs.YtbabmkilbbbmoaaDoor
