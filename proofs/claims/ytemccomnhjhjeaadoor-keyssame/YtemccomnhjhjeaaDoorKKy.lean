/-
  What keys.Key does.
-/
import Derived.Test.YtemccomnhjhjeaaDoorKWk
namespace Go.Proofs.YtemccomnhjhjeaaDoor
open Go.RowKit Go.Maps
set_option linter.unusedVariables false
set_option linter.unusedSimpArgs false

/-- The numbers of nodes can be told. -/
def ItF (w0 : World) : Forest → Prop
  | .nil => True
  | .cons k sp n ats tx kids rest => ItoaNd w0 k sp n ats tx kids.len ∧ ItF w0 kids ∧ ItF w0 rest
def JK (w : World) (b L : Nat) (cs : Array Value) (acc : List UInt8) (W : World) : Prop := Kwt b b acc W ∧ Below w.heap.size w W ∧ Blk W L cs 34
theorem JK.step {w : World} {b L B1 : Nat} {cs : Array Value} {acc : List UInt8} {W W' : World} (h : JK w b L cs acc W) (hs : StepL B1 W W') (hB1 : w.heap.size ≤ B1) : JK w b L cs acc W' := by
  obtain ⟨h1, h2, h3⟩ := h
  have hz := h2.size
  refine ⟨kwt_keep h1 (fun k c t fz hk ht => ?_), ⟨hs.1.trans h2.os, hs.2.1.trans h2.tape, hs.2.2.1.trans h2.output, Nat.le_trans hz hs.2.2.2.1, fun k hk => ?_⟩, ?_⟩
  · rw [hs.2.2.2.2 k (Array.getElem?_eq_some_iff.1 hk).1 (fun _ c' z e => by
      rw [hk] at e
      injection e with e
      injection e with _ e
      rcases ht with ht | ht
      · rw [ht] at e; revert e; decide
      · rw [ht] at e; revert e; decide)]
    exact hk
  · rw [hs.2.2.2.2 k (by omega) (fun hx => by omega)]
    exact h2.block k hk
  · show W'.heap[L]? = _
    rw [hs.2.2.2.2 L h3.lt (fun _ c' z e => by
      have := h3.symm.trans e
      injection this with e
      injection e with _ e
      revert e; decide)]
    exact h3
set_option maxHeartbeats 2000000 in
set_option maxRecDepth 100000 in
theorem key1_any (w V : World) (b L : Nat) (cs : Array Value) (hb0 : w.heap.size ≤ b) (hbL : b < L) (hV : ∀ W, Below w.heap.size w W → Blk W L cs 34 → CellLe V W)
    (acc : List UInt8) (k sp : Int) (n : ByteArray) (ats : List (ByteArray × ByteArray)) (tx : ByteArray) (kids rest : Forest) (g o : Nat) (x1 x2 x3 x4 : Int) (W : World) (hJ : JK w b L cs acc W) (hl : Lies (.cons k sp n ats tx kids rest) g o V) (hs : SmF (.cons k sp n ats tx kids rest)) (hN : ItoaNd w k sp n ats tx kids.len) (hlen : acc.length + (nodeB k sp n ats tx kids.len).length ≤ 100000000000) :
    Calls Tryd.prog 39 #[.pointer (some ⟨g, o, none⟩), .agg #[.int .i64 x1, .int .i64 x2, .int .i64 x3, .int .i64 x4, .int .i64 0], .pointer (some ⟨b, 0, none⟩)] W fun e W' => e = .returned (.tuple #[]) ∧ JK w b L cs (acc ++ nodeB k sp n ats tx kids.len) W' ∧ KeepL W W' := by
  obtain ⟨⟨l0, l1, l2, ⟨qa, ca, l3, hsl⟩, l4, ⟨qk, ck, l5, hck, hfo⟩⟩, _⟩ := hl
  obtain ⟨W1, hW1⟩ : ∃ W1, W.alloc (Obj.cells #[.int .i64 x1, .int .i64 x2, .int .i64 x3, .int .i64 x4, .int .i64 0] 29) = W1 := ⟨_, rfl⟩
  have hb1 : Below W.heap.size W W1 := by rw [← hW1]; exact (Below.refl _ _).alloc (Nat.le_refl _) _
  have hJ1 : JK w b L cs acc W1 := hJ.step (B1 := w.heap.size) (StepL.of_below hb1) (Nat.le_refl _)
  obtain ⟨j1, j2, j3⟩ := hJ1
  have hLlt := j3.lt
  have CN := hide (knode_any w b b acc k sp n ats tx qa ca qk kids.len ck g o W1 j1 j2 hb0 (by omega) (fun W => Below w.heap.size w W ∧ Blk W L cs 34)
    (fun W l' W' hp hk => ⟨hk.2.1, hk.2.2.2 L _ hp.2 (fun e => by injection e with e; omega) (fun c fz e => by injection e with _ e; revert e; decide)⟩)
    (fun W X hp => ⟨hp.1.alloc hp.1.size X, hp.2.alloc X⟩) ⟨j2, j3⟩
    (fun W hp => ⟨hV W hp.1 hp.2 _ _ _ l0, hV W hp.1 hp.2 _ _ _ l1, hV W hp.1 hp.2 _ _ _ l2, hV W hp.1 hp.2 _ _ _ l3, hV W hp.1 hp.2 _ _ _ l4, hV W hp.1 hp.2 _ _ _ l5⟩)
    (fun W hp => hsl.le (hV W hp.1 hp.2)) hN (by have := hs.1.2.1; omega) (by have := hs.1.1; omega) hs.1.2.2.1 hlen)
  have hty : ∃ c, W.heap[b]? = some (Obj.cells c 78 (0, 0)) := by
    obtain ⟨p, v, _, _, hbk, _⟩ := kwt_any hJ.1
    exact ⟨_, hbk⟩
  have HTY := hide hty
  have HB1 := hide hb1
  generalize nodeB k sp n ats tx kids.len = nb at *
  clear hJ hsl l0 l1 l2 l3 l4 l5 hck hfo hs hN j1 j2 j3 hty hb1 hV
  go_enter Tryd.func39, Tryd.ntmps39
  go_wp2_with fail
  refine (unhide CN).mono ?_
  rintro e w2 ⟨rfl, hk, hp⟩
  have HX := hide (And.intro hk hp)
  clear CN hk hp
  go_wp2
  refine bodyPost_end (v := .tuple #[]) (results_none Tryd.results39 _ _ _) rfl ?_
  have hk := (unhide HX).1
  refine ⟨rfl, ⟨hk.1, (unhide HX).2⟩, ?_, fun i c hi => ?_⟩
  · have := hk.2.2.1.size; have := (unhide HB1).size; omega
  · have hi1 : W1.heap[i]? = some (Obj.cells c 84 (0, 0)) := ((unhide HB1).block i (Array.getElem?_eq_some_iff.1 hi).1).trans hi
    refine hk.2.2.2 i _ hi1 (fun e => ?_) (fun c' fz e => by injection e with _ e; revert e; decide)
    injection e with e
    subst e
    obtain ⟨c', hc'⟩ := unhide HTY
    rw [hc'] at hi
    injection hi with hi
    injection hi with _ hi
    revert hi; decide
theorem ItF.later {w w1 : World} (hb : Below w.heap.size w w1) : ∀ f : Forest, ItF w f → ItF w1 f
  | .nil, h => trivial
  | .cons k sp n ats tx kids rest, h => by
    obtain ⟨⟨n1, n2, n3, n4, n5, n6, n7⟩, h2, h3⟩ := h
    exact ⟨⟨n1.later hb, n2.later hb, n3.later hb, n4.later hb, n5.later hb, n6.later hb, fun j hj => ⟨(n7 j hj).1.later hb, (n7 j hj).2.later hb⟩⟩, ItF.later hb kids h2, ItF.later hb rest h3⟩
theorem keyF_ne (k sp : Int) (n : ByteArray) (ats : List (ByteArray × ByteArray)) (tx : ByteArray) (kids rest : Forest) : keyF (.cons k sp n ats tx kids rest) ≠ [] := by
  unfold keyF nodeB
  intro h
  exact labelB_ne k sp n (List.append_eq_nil_iff.1 (List.append_eq_nil_iff.1 h).1).1
set_option maxHeartbeats 4000000 in
set_option maxRecDepth 100000 in
/-- A node's key. -/
theorem key_any (k sp : Int) (n : ByteArray) (ats : List (ByteArray × ByteArray)) (tx : ByteArray) (kids : Forest) (v : Value) (w : World) (hv : NdV k sp n ats tx kids v w) (hs : SmF (.cons k sp n ats tx kids .nil)) (hI : ItF w (.cons k sp n ats tx kids .nil)) (hc : kids.count ≤ 400000) (hlen : (keyF (.cons k sp n ats tx kids .nil)).length ≤ 100000000000) :
    Calls Tryd.prog 24 #[v] w fun e w' => e = .returned (.string (bs (keyF (.cons k sp n ats tx kids .nil)))) ∧ Below w.heap.size w w' := by
  obtain ⟨qa, ca, qk, ck, rfl, h2, h3, h4⟩ := hv
  unfold ndV
  obtain ⟨cs, hcs⟩ : ∃ cs : Array Value, #[.int .i64 k, .int .i64 sp, .string n, .slice qa ats.length ca, .string tx, .slice qk kids.len ck] = cs := ⟨_, rfl⟩
  obtain ⟨W1, hW1⟩ : ∃ W1, (w.alloc (Obj.cells #[.int .i64 k, .int .i64 sp, .string n, .slice qa ats.length ca, .string tx, .slice qk kids.len ck] 34)) = W1 := ⟨_, rfl⟩
  have hb1 : Below w.heap.size w W1 := by rw [← hW1]; exact (Below.refl w.heap.size w).alloc (Nat.le_refl _) _
  have hs1 : W1.heap.size = w.heap.size + 1 := by rw [← hW1]; simp
  have k0 : Blk W1 w.heap.size #[.int .i64 k, .int .i64 sp, .string n, .slice qa ats.length ca, .string tx, .slice qk kids.len ck] 34 := by rw [← hW1]; exact Blk.new w _ _
  have hkw := kwt_new W1
  obtain ⟨W2, hW2⟩ : ∃ W2, W1.alloc (Obj.cells #[.pointer none, .slice none 0 0] 78) = W2 := ⟨_, rfl⟩
  rw [hW2] at hkw
  have hb2 : Below W1.heap.size W1 W2 := by rw [← hW2]; exact (Below.refl _ _).alloc (Nat.le_refl _) _
  have hs2 : W2.heap.size = w.heap.size + 2 := by rw [← hW2]; simp [hs1]
  have k2 := k0.later hb2
  obtain ⟨W3, hW3⟩ : ∃ W3, W2.alloc (Obj.cells #[.int .i64 k, .int .i64 sp, .string n, .slice qa ats.length ca, .string tx, .slice qk kids.len ck] 34) = W3 := ⟨_, rfl⟩
  have hb3 : Below W2.heap.size W2 W3 := by rw [← hW3]; exact (Below.refl _ _).alloc (Nat.le_refl _) _
  have hs3 : W3.heap.size = w.heap.size + 3 := by rw [← hW3]; simp [hs2]
  have kL : Blk W3 (w.heap.size + 2) cs 34 := by rw [← hW3, ← hs2, ← hcs]; exact Blk.new _ _ _
  have hbw3 : Below w.heap.size w W3 := tr3 hb1 hb2 hb3
  have hJ : JK w (w.heap.size + 1) (w.heap.size + 2) cs [] W3 := ⟨by rw [← hs1]; exact kwt_below hkw hb3, hbw3, kL⟩
  -- the world in which the nodes lie, whatever is written
  obtain ⟨V, hVd⟩ : ∃ V, mask (fun i => decide (w.heap.size ≤ i ∧ i ≠ w.heap.size + 2)) W3 = V := ⟨_, rfl⟩
  have hV : ∀ W, Below w.heap.size w W → Blk W (w.heap.size + 2) cs 34 → CellLe V W := fun W hW hB g o u hu => by
    rw [← hVd] at hu
    obtain ⟨hp, hu⟩ := mask_cell.1 hu
    have hp' : ¬ (w.heap.size ≤ g ∧ g ≠ w.heap.size + 2) := of_decide_eq_false hp
    by_cases hg : g < w.heap.size
    · rw [hbw3.cell (p := ⟨g, o, none⟩) hg] at hu
      rw [hW.cell (p := ⟨g, o, none⟩) hg]; exact hu
    · obtain rfl : g = w.heap.size + 2 := by omega
      rw [kL.cell o] at hu
      rw [hB.cell o]; exact hu
  have hwV : CellLe w V := fun g o u hu => by
    have hg : g < w.heap.size := World.block_lt_of_cell? w ⟨g, o, none⟩ hu
    rw [← hVd]
    refine mask_cell.2 ⟨decide_eq_false (by omega), ?_⟩
    exact cell_later hbw3 hu
  have hBV : Blk V (w.heap.size + 2) cs 34 := by
    have h := kL
    unfold Blk at h ⊢
    rw [← hVd, mask_get, h]
    simp
  rw [← hcs] at hBV
  have hlV := six_lies hBV (h2.le hwV) (h3.le hwV) h4
  have CW := hide (kwalk_key W3 V (fun f => SmF f ∧ ItF w f) (fun k sp n ats tx kids rest h => ⟨⟨h.1.2.1, h.2.2.1⟩, ⟨h.1.2.2, h.2.2.2⟩⟩) (JK w (w.heap.size + 1) (w.heap.size + 2) cs)
    (fun acc W W' h hst => h.step hst (by omega)) (fun acc W h => hV W h.2.1 h.2.2) (w.heap.size + 1) (keyF (.cons k sp n ats tx kids .nil))
    (fun acc more k' sp' n' ats' tx' kids' rest' g o x1 x2 x3 x4 W hJ' hl' hq' htot => key1_any w V (w.heap.size + 1) (w.heap.size + 2) cs (by omega) (by omega) hV acc k' sp' n' ats' tx' kids' rest' g o x1 x2 x3 x4 W hJ' hl' hq'.1 hq'.2.1 (by
      have := congrArg List.length htot
      simp only [List.length_append] at this
      omega))
    (.cons k sp n ats tx kids .nil) (some ⟨w.heap.size + 2, 0, none⟩) 1 rfl (Or.inr ⟨_, 0, rfl, hlV⟩) ⟨hs, hI⟩ (by simp [Forest.len]) (by simp [Forest.count]; omega) hJ)
  rw [show (Forest.cons k sp n ats tx kids .nil).len = 1 from rfl] at CW
  have CS := hide (fun W (h' : Kwt (w.heap.size + 1) (w.heap.size + 1) (keyF (.cons k sp n ats tx kids .nil)) W) => kstring_any (w.heap.size + 1) (w.heap.size + 1) (keyF (.cons k sp n ats tx kids .nil)) W h' (keyF_ne k sp n ats tx kids .nil))
  generalize keyF (.cons k sp n ats tx kids .nil) = kf at *
  have c0 : W2.cell? ⟨w.heap.size, 0, none⟩ = some (.int .i64 k) := k2.cell 0
  have c1 : W2.cell? ⟨w.heap.size, 1, none⟩ = some (.int .i64 sp) := k2.cell 1
  have c2 : W2.cell? ⟨w.heap.size, 2, none⟩ = some (.string n) := k2.cell 2
  have c3 : W2.cell? ⟨w.heap.size, 3, none⟩ = some (.slice qa ats.length ca) := k2.cell 3
  have c4 : W2.cell? ⟨w.heap.size, 4, none⟩ = some (.string tx) := k2.cell 4
  have c5 : W2.cell? ⟨w.heap.size, 5, none⟩ = some (.slice qk kids.len ck) := k2.cell 5
  generalize ats.length = al at *
  generalize kids.len = kl at *
  clear hlV hBV hwV hV hVd hJ kL hbw3 hb3 hb2 hb1 k0 k2 hkw h2 h3 h4 hs hI hlen hc hcs
  go_enter Tryd.func24, Tryd.ntmps24
  go_wp2_with fail
  refine (unhide CW).mono ?_
  rintro e w4 ⟨rfl, hj⟩
  have CS1 := hide (unhide CS w4 hj.1)
  have HX := hide hj.2.1
  clear CW CS hj
  go_wp2_with fail
  refine (unhide CS1).mono ?_
  rintro e w5 ⟨rfl, hb5⟩
  have HY := hide hb5
  clear CS1 hb5
  go_wp2
  go_ret
  exact ⟨rfl, (unhide HX).trans ((unhide HY).mono (by omega))⟩
end Go.Proofs.YtemccomnhjhjeaaDoor
