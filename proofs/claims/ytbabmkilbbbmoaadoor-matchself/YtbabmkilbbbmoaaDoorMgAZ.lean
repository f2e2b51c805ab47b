/-
  Several texts in one: what the functions of the program and of the document's answer do.
-/
import Derived.Test.YtbabmkilbbbmoaaDoorMgAU
import Derived.Test.YtbabmkilbbbmoaaDoorMgAY
import Derived.Deep.RegionWith

/-
  What keys.Key does.
-/
namespace Go.Proofs.YtbabmkilbbbmoaaDoor
open Go.RowKit Go.Maps
set_option linter.unusedVariables false
set_option linter.unusedSimpArgs false

/-- The numbers of nodes can be told. -/
def ItF (w0 : World) : Forest → Prop
  | .nil => True
  | .cons k sp n ats tx kids rest => ItoaNd w0 k sp n ats tx kids.len ∧ ItF w0 kids ∧ ItF w0 rest
def JK (w : World) (b L : Nat) (cs : Array Value) (acc : List UInt8) (W : World) : Prop := Kwt b b acc W ∧ Below w.heap.size w W ∧ Blk W L cs 44
theorem JK.step {w : World} {b L B1 : Nat} {cs : Array Value} {acc : List UInt8} {W W' : World} (h : JK w b L cs acc W) (hs : StepL B1 W W') (hB1 : w.heap.size ≤ B1) : JK w b L cs acc W' := by
  obtain ⟨h1, h2, h3⟩ := h
  have hz := h2.size
  refine ⟨kwt_keep h1 (fun k c t fz hk ht => ?_), ⟨hs.1.trans h2.os, hs.2.1.trans h2.tape, hs.2.2.1.trans h2.output, Nat.le_trans hz hs.2.2.2.1, fun k hk => ?_⟩, ?_⟩
  · rw [hs.2.2.2.2 k (Array.getElem?_eq_some_iff.1 hk).1 (fun _ c' z e => by
      rw [hk] at e
      injection e with e
      injection e with _ e
      rcases ht with ht | ht
      · rw [ht] at e; revert e; decide
      · rw [ht] at e; revert e; decide)]
    exact hk
  · rw [hs.2.2.2.2 k (by omega) (fun hx => by omega)]
    exact h2.block k hk
  · show W'.heap[L]? = _
    rw [hs.2.2.2.2 L h3.lt (fun _ c' z e => by
      have := h3.symm.trans e
      injection this with e
      injection e with _ e
      revert e; decide)]
    exact h3
set_option maxHeartbeats 2000000 in
set_option maxRecDepth 100000 in
theorem key1_any (w V : World) (b L : Nat) (cs : Array Value) (hb0 : w.heap.size ≤ b) (hbL : b < L) (hV : ∀ W, Below w.heap.size w W → Blk W L cs 44 → CellLe V W)
    (acc : List UInt8) (k sp : Int) (n : ByteArray) (ats : List (ByteArray × ByteArray)) (tx : ByteArray) (kids rest : Forest) (g o : Nat) (x1 x2 x3 x4 : Int) (W : World) (hJ : JK w b L cs acc W) (hl : Lies (.cons k sp n ats tx kids rest) g o V) (hs : SmF (.cons k sp n ats tx kids rest)) (hN : ItoaNd w k sp n ats tx kids.len) (hlen : acc.length + (nodeB k sp n ats tx kids.len).length ≤ 100000000000) :
    Calls Tryd.prog 63 #[.pointer (some ⟨g, o, none⟩), .agg #[.int .i64 x1, .int .i64 x2, .int .i64 x3, .int .i64 x4, .int .i64 0], .pointer (some ⟨b, 0, none⟩)] W fun e W' => e = .returned (.tuple #[]) ∧ JK w b L cs (acc ++ nodeB k sp n ats tx kids.len) W' ∧ KeepL W W' := by
  obtain ⟨⟨l0, l1, l2, ⟨qa, ca, l3, hsl⟩, l4, ⟨qk, ck, l5, hck, hfo⟩⟩, _⟩ := hl
  obtain ⟨W1, hW1⟩ : ∃ W1, W.alloc (Obj.cells #[.int .i64 x1, .int .i64 x2, .int .i64 x3, .int .i64 x4, .int .i64 0] 49) = W1 := ⟨_, rfl⟩
  have hb1 : Below W.heap.size W W1 := by rw [← hW1]; exact (Below.refl _ _).alloc (Nat.le_refl _) _
  have hJ1 : JK w b L cs acc W1 := hJ.step (B1 := w.heap.size) (StepL.of_below hb1) (Nat.le_refl _)
  obtain ⟨j1, j2, j3⟩ := hJ1
  have hLlt := j3.lt
  have CN := hide (knode_any w b b acc k sp n ats tx qa ca qk kids.len ck g o W1 j1 j2 hb0 (by omega) (fun W => Below w.heap.size w W ∧ Blk W L cs 44)
    (fun W l' W' hp hk => ⟨hk.2.1, hk.2.2.2 L _ hp.2 (fun e => by injection e with e; omega) (fun c fz e => by injection e with _ e; revert e; decide)⟩)
    (fun W X hp => ⟨hp.1.alloc hp.1.size X, hp.2.alloc X⟩) ⟨j2, j3⟩
    (fun W hp => ⟨hV W hp.1 hp.2 _ _ _ l0, hV W hp.1 hp.2 _ _ _ l1, hV W hp.1 hp.2 _ _ _ l2, hV W hp.1 hp.2 _ _ _ l3, hV W hp.1 hp.2 _ _ _ l4, hV W hp.1 hp.2 _ _ _ l5⟩)
    (fun W hp => hsl.le (hV W hp.1 hp.2)) hN (by have := hs.1.2.1; omega) (by have := hs.1.1; omega) hs.1.2.2.1 hlen)
  have hty : ∃ c, W.heap[b]? = some (Obj.cells c 124 (0, 0)) := by
    obtain ⟨p, v, _, _, hbk, _⟩ := kwt_any hJ.1
    exact ⟨_, hbk⟩
  have HTY := hide hty
  have HB1 := hide hb1
  generalize nodeB k sp n ats tx kids.len = nb at *
  clear hJ hsl l0 l1 l2 l3 l4 l5 hck hfo hs hN j1 j2 j3 hty hb1 hV
  go_enter Tryd.func63, Tryd.ntmps63
  go_wp2_with fail
  refine (unhide CN).mono ?_
  rintro e w2 ⟨rfl, hk, hp⟩
  have HX := hide (And.intro hk hp)
  clear CN hk hp
  go_wp2
  refine bodyPost_end (v := .tuple #[]) (results_none Tryd.results63 _ _ _) rfl ?_
  have hk := (unhide HX).1
  refine ⟨rfl, ⟨hk.1, (unhide HX).2⟩, ?_, fun i c hi => ?_⟩
  · have := hk.2.2.1.size; have := (unhide HB1).size; omega
  · have hi1 : W1.heap[i]? = some (Obj.cells c 137 (0, 0)) := ((unhide HB1).block i (Array.getElem?_eq_some_iff.1 hi).1).trans hi
    refine hk.2.2.2 i _ hi1 (fun e => ?_) (fun c' fz e => by injection e with _ e; revert e; decide)
    injection e with e
    subst e
    obtain ⟨c', hc'⟩ := unhide HTY
    rw [hc'] at hi
    injection hi with hi
    injection hi with _ hi
    revert hi; decide
theorem ItF.later {w w1 : World} (hb : Below w.heap.size w w1) : ∀ f : Forest, ItF w f → ItF w1 f
  | .nil, h => trivial
  | .cons k sp n ats tx kids rest, h => by
    obtain ⟨⟨n1, n2, n3, n4, n5, n6, n7⟩, h2, h3⟩ := h
    exact ⟨⟨n1.later hb, n2.later hb, n3.later hb, n4.later hb, n5.later hb, n6.later hb, fun j hj => ⟨(n7 j hj).1.later hb, (n7 j hj).2.later hb⟩⟩, ItF.later hb kids h2, ItF.later hb rest h3⟩
theorem keyF_ne (k sp : Int) (n : ByteArray) (ats : List (ByteArray × ByteArray)) (tx : ByteArray) (kids rest : Forest) : keyF (.cons k sp n ats tx kids rest) ≠ [] := by
  unfold keyF nodeB
  intro h
  exact labelB_ne k sp n (List.append_eq_nil_iff.1 (List.append_eq_nil_iff.1 h).1).1
set_option maxHeartbeats 4000000 in
set_option maxRecDepth 100000 in
/-- A node's key. -/
theorem key_any (k sp : Int) (n : ByteArray) (ats : List (ByteArray × ByteArray)) (tx : ByteArray) (kids : Forest) (v : Value) (w : World) (hv : NdV k sp n ats tx kids v w) (hs : SmF (.cons k sp n ats tx kids .nil)) (hI : ItF w (.cons k sp n ats tx kids .nil)) (hc : kids.count ≤ 400000) (hlen : (keyF (.cons k sp n ats tx kids .nil)).length ≤ 100000000000) :
    Calls Tryd.prog 31 #[v] w fun e w' => e = .returned (.string (bs (keyF (.cons k sp n ats tx kids .nil)))) ∧ Below w.heap.size w w' := by
  obtain ⟨qa, ca, qk, ck, rfl, h2, h3, h4⟩ := hv
  unfold ndV
  obtain ⟨cs, hcs⟩ : ∃ cs : Array Value, #[.int .i64 k, .int .i64 sp, .string n, .slice qa ats.length ca, .string tx, .slice qk kids.len ck] = cs := ⟨_, rfl⟩
  obtain ⟨W1, hW1⟩ : ∃ W1, (w.alloc (Obj.cells #[.int .i64 k, .int .i64 sp, .string n, .slice qa ats.length ca, .string tx, .slice qk kids.len ck] 44)) = W1 := ⟨_, rfl⟩
  have hb1 : Below w.heap.size w W1 := by rw [← hW1]; exact (Below.refl w.heap.size w).alloc (Nat.le_refl _) _
  have hs1 : W1.heap.size = w.heap.size + 1 := by rw [← hW1]; simp
  have k0 : Blk W1 w.heap.size #[.int .i64 k, .int .i64 sp, .string n, .slice qa ats.length ca, .string tx, .slice qk kids.len ck] 44 := by rw [← hW1]; exact Blk.new w _ _
  have hkw := kwt_new W1
  obtain ⟨W2, hW2⟩ : ∃ W2, W1.alloc (Obj.cells #[.pointer none, .slice none 0 0] 124) = W2 := ⟨_, rfl⟩
  rw [hW2] at hkw
  have hb2 : Below W1.heap.size W1 W2 := by rw [← hW2]; exact (Below.refl _ _).alloc (Nat.le_refl _) _
  have hs2 : W2.heap.size = w.heap.size + 2 := by rw [← hW2]; simp [hs1]
  have k2 := k0.later hb2
  obtain ⟨W3, hW3⟩ : ∃ W3, W2.alloc (Obj.cells #[.int .i64 k, .int .i64 sp, .string n, .slice qa ats.length ca, .string tx, .slice qk kids.len ck] 44) = W3 := ⟨_, rfl⟩
  have hb3 : Below W2.heap.size W2 W3 := by rw [← hW3]; exact (Below.refl _ _).alloc (Nat.le_refl _) _
  have hs3 : W3.heap.size = w.heap.size + 3 := by rw [← hW3]; simp [hs2]
  have kL : Blk W3 (w.heap.size + 2) cs 44 := by rw [← hW3, ← hs2, ← hcs]; exact Blk.new _ _ _
  have hbw3 : Below w.heap.size w W3 := tr3 hb1 hb2 hb3
  have hJ : JK w (w.heap.size + 1) (w.heap.size + 2) cs [] W3 := ⟨by rw [← hs1]; exact kwt_below hkw hb3, hbw3, kL⟩
  -- the world in which the nodes lie, whatever is written
  obtain ⟨V, hVd⟩ : ∃ V, mask (fun i => decide (w.heap.size ≤ i ∧ i ≠ w.heap.size + 2)) W3 = V := ⟨_, rfl⟩
  have hV : ∀ W, Below w.heap.size w W → Blk W (w.heap.size + 2) cs 44 → CellLe V W := fun W hW hB g o u hu => by
    rw [← hVd] at hu
    obtain ⟨hp, hu⟩ := mask_cell.1 hu
    have hp' : ¬ (w.heap.size ≤ g ∧ g ≠ w.heap.size + 2) := of_decide_eq_false hp
    by_cases hg : g < w.heap.size
    · rw [hbw3.cell (p := ⟨g, o, none⟩) hg] at hu
      rw [hW.cell (p := ⟨g, o, none⟩) hg]; exact hu
    · obtain rfl : g = w.heap.size + 2 := by omega
      rw [kL.cell o] at hu
      rw [hB.cell o]; exact hu
  have hwV : CellLe w V := fun g o u hu => by
    have hg : g < w.heap.size := World.block_lt_of_cell? w ⟨g, o, none⟩ hu
    rw [← hVd]
    refine mask_cell.2 ⟨decide_eq_false (by omega), ?_⟩
    exact cell_later hbw3 hu
  have hBV : Blk V (w.heap.size + 2) cs 44 := by
    have h := kL
    unfold Blk at h ⊢
    rw [← hVd, mask_get, h]
    simp
  rw [← hcs] at hBV
  have hlV := six_lies hBV (h2.le hwV) (h3.le hwV) h4
  have CW := hide (kwalk_key W3 V (fun f => SmF f ∧ ItF w f) (fun k sp n ats tx kids rest h => ⟨⟨h.1.2.1, h.2.2.1⟩, ⟨h.1.2.2, h.2.2.2⟩⟩) (JK w (w.heap.size + 1) (w.heap.size + 2) cs)
    (fun acc W W' h hst => h.step hst (by omega)) (fun acc W h => hV W h.2.1 h.2.2) (w.heap.size + 1) (keyF (.cons k sp n ats tx kids .nil))
    (fun acc more k' sp' n' ats' tx' kids' rest' g o x1 x2 x3 x4 W hJ' hl' hq' htot => key1_any w V (w.heap.size + 1) (w.heap.size + 2) cs (by omega) (by omega) hV acc k' sp' n' ats' tx' kids' rest' g o x1 x2 x3 x4 W hJ' hl' hq'.1 hq'.2.1 (by
      have := congrArg List.length htot
      simp only [List.length_append] at this
      omega))
    (.cons k sp n ats tx kids .nil) (some ⟨w.heap.size + 2, 0, none⟩) 1 rfl (Or.inr ⟨_, 0, rfl, hlV⟩) ⟨hs, hI⟩ (by simp [Forest.len]) (by simp [Forest.count]; omega) hJ)
  rw [show (Forest.cons k sp n ats tx kids .nil).len = 1 from rfl] at CW
  have CS := hide (fun W (h' : Kwt (w.heap.size + 1) (w.heap.size + 1) (keyF (.cons k sp n ats tx kids .nil)) W) => kstring_any (w.heap.size + 1) (w.heap.size + 1) (keyF (.cons k sp n ats tx kids .nil)) W h' (keyF_ne k sp n ats tx kids .nil))
  generalize keyF (.cons k sp n ats tx kids .nil) = kf at *
  have c0 : W2.cell? ⟨w.heap.size, 0, none⟩ = some (.int .i64 k) := k2.cell 0
  have c1 : W2.cell? ⟨w.heap.size, 1, none⟩ = some (.int .i64 sp) := k2.cell 1
  have c2 : W2.cell? ⟨w.heap.size, 2, none⟩ = some (.string n) := k2.cell 2
  have c3 : W2.cell? ⟨w.heap.size, 3, none⟩ = some (.slice qa ats.length ca) := k2.cell 3
  have c4 : W2.cell? ⟨w.heap.size, 4, none⟩ = some (.string tx) := k2.cell 4
  have c5 : W2.cell? ⟨w.heap.size, 5, none⟩ = some (.slice qk kids.len ck) := k2.cell 5
  generalize ats.length = al at *
  generalize kids.len = kl at *
  clear hlV hBV hwV hV hVd hJ kL hbw3 hb3 hb2 hb1 k0 k2 hkw h2 h3 h4 hs hI hlen hc hcs
  go_enter Tryd.func31, Tryd.ntmps31
  go_wp2_with fail
  refine (unhide CW).mono ?_
  rintro e w4 ⟨rfl, hj⟩
  have CS1 := hide (unhide CS w4 hj.1)
  have HX := hide hj.2.1
  clear CW CS hj
  go_wp2_with fail
  refine (unhide CS1).mono ?_
  rintro e w5 ⟨rfl, hb5⟩
  have HY := hide hb5
  clear CS1 hb5
  go_wp2
  go_ret
  exact ⟨rfl, (unhide HX).trans ((unhide HY).mono (by omega))⟩
end Go.Proofs.YtbabmkilbbbmoaaDoor

/-
  What keys.At does (made by mk_iat.py).
-/
namespace Go.Proofs.YtbabmkilbbbmoaaDoor
open Go.RowKit
set_option linter.unusedVariables false
set_option linter.unusedSimpArgs false

def AtSaid (w : World) (f : Forest) (zs : List Int) (e : Ending) (w' : World) : Prop := ∃ v, e = .returned (.tuple #[v, .int .i64 (atE f zs)]) ∧ NodS f zs v w' ∧ Below w.heap.size w w'
set_option maxHeartbeats 8000000 in
set_option maxRecDepth 100000 in
theorem at_any (f : Forest) (q : Option Addr) (cap : Nat) (zs : List Int) (qw : Option Addr) (n cw : Nat) (w : World) (hf : Fo q f w) (hcap : f.len ≤ cap) (hs : SmF f) (hc : f.count ≤ 900000) (hw : IntsV qw n zs w) (hcw : n ≤ cw) (hn : n ≤ 1000000) :
    Calls Tryd.prog 18 #[.slice q f.len cap, .slice qw n cw] w fun e w' => AtSaid w f zs e w' := by
  obtain ⟨FL, hFL⟩ : ∃ FL, f.len = FL := ⟨_, rfl⟩
  obtain ⟨W1, hW1⟩ : ∃ W1, (w.alloc (Obj.cells #[.slice q FL cap] 22)).alloc (Obj.cells #[.int .i64 0, .int .i64 0, .string ⟨#[]⟩, .slice none 0 0, .string ⟨#[]⟩, .slice none 0 0] 44) = W1 := ⟨_, rfl⟩
  have hb1 : Below w.heap.size w W1 := by rw [← hW1]; exact ((Below.refl w.heap.size w).alloc (Nat.le_refl _) _).alloc (by simp) _
  have hs1 : W1.heap.size = w.heap.size + 2 := by rw [← hW1]; simp
  have k0 : Blk W1 w.heap.size #[.slice q FL cap] 22 := by rw [← hW1]; exact (Blk.new w _ _).alloc _
  have k1 : Blk W1 (w.heap.size + 1) #[.int .i64 0, .int .i64 0, .string ⟨#[]⟩, .slice none 0 0, .string ⟨#[]⟩, .slice none 0 0] 44 := by
    rw [← hW1]
    have := Blk.new (w.alloc (Obj.cells #[.slice q FL cap] 22)) #[.int .i64 0, .int .i64 0, .string ⟨#[]⟩, .slice none 0 0, .string ⟨#[]⟩, .slice none 0 0] 44
    simpa using this
  have hF : FoC W1 w.heap.size 0 f := ⟨q, cap, by rw [hFL]; exact k0.cell 0, hcap, hf.below hb1⟩
  have hW : IntsV qw n zs W1 := hw.below hb1
  have HB1 := hide hb1
  have K1 := hide k1
  rw [hFL]
  by_cases h0 : zs = []
  · subst h0
    obtain rfl : n = 0 := by have := hw.1; simpa using this
    have CL := hide (lead_none w.heap.size 0 qw cw 0 W1)
    have HA : Hid (atE f [] = 1) := hide (by unfold atE; rfl)
    clear hF hW hw hcw hn hs hc k0 k1 hb1
    go_enter Tryd.func18, Tryd.ntmps18
    go_wp2_with fail
    refine (unhide CL).mono ?_
    rintro e w2 ⟨rfl, rfl⟩
    have k1 := unhide K1
    have y0 : w2.cell? ⟨w.heap.size + 1, 0, none⟩ = some (.int .i64 0) := (k1).cell 0
    have y1 : w2.cell? ⟨w.heap.size + 1, 1, none⟩ = some (.int .i64 0) := (k1).cell 1
    have y2 : w2.cell? ⟨w.heap.size + 1, 2, none⟩ = some (.string ⟨#[]⟩) := (k1).cell 2
    have y3 : w2.cell? ⟨w.heap.size + 1, 3, none⟩ = some (.slice none 0 0) := (k1).cell 3
    have y4 : w2.cell? ⟨w.heap.size + 1, 4, none⟩ = some (.string ⟨#[]⟩) := (k1).cell 4
    have y5 : w2.cell? ⟨w.heap.size + 1, 5, none⟩ = some (.slice none 0 0) := (k1).cell 5
    have yf0 : w2.frozen? ⟨w.heap.size + 1, 0, none⟩ = false := (k1).frozen 0
    have yf1 : w2.frozen? ⟨w.heap.size + 1, 1, none⟩ = false := (k1).frozen 1
    have yf2 : w2.frozen? ⟨w.heap.size + 1, 2, none⟩ = false := (k1).frozen 2
    have yf3 : w2.frozen? ⟨w.heap.size + 1, 3, none⟩ = false := (k1).frozen 3
    have yf4 : w2.frozen? ⟨w.heap.size + 1, 4, none⟩ = false := (k1).frozen 4
    have yf5 : w2.frozen? ⟨w.heap.size + 1, 5, none⟩ = false := (k1).frozen 5
    clear CL k1 hW1
    go_wp2
    have kk := (((((((unhide K1).set 0 (by simp) (.int .i64 0)).set 1 (by simp) (.int .i64 0)).set 2 (by simp) (.string ⟨#[]⟩)).set 3 (by simp) (.slice none 0 0)).set 4 (by simp) (.string ⟨#[]⟩)).set 5 (by simp) (.slice none 0 0))
    have d0 := kk.cell 0
    have d1 := kk.cell 1
    have d2 := kk.cell 2
    have d3 := kk.cell 3
    have d4 := kk.cell 4
    have d5 := kk.cell 5
    exact bodyPost_ret (v := .tuple #[.agg #[.int .i64 0, .int .i64 0, .string ⟨#[]⟩, .slice none 0 0, .string ⟨#[]⟩, .slice none 0 0], .int .i64 1]) (by simp [results, Tryd.results18, go_sem, d0, d1, d2, d3, d4, d5]) rfl ⟨_, by rw [unhide HA]; rfl, Or.inl ⟨by rw [unhide HA]; decide, rfl⟩, (((((((unhide HB1).setCell (p := ⟨w.heap.size + 1, 0, none⟩) (by simp) _).setCell (p := ⟨w.heap.size + 1, 1, none⟩) (by simp) _).setCell (p := ⟨w.heap.size + 1, 2, none⟩) (by simp) _).setCell (p := ⟨w.heap.size + 1, 3, none⟩) (by simp) _).setCell (p := ⟨w.heap.size + 1, 4, none⟩) (by simp) _).setCell (p := ⟨w.heap.size + 1, 5, none⟩) (by simp) _)⟩
  · obtain ⟨ys, z, rfl⟩ := split_last h0
    have CL := hide (lead_any f w.heap.size 0 qw n cw ys z 0 W1 hF (by omega) hW hcw hn (by omega))
    have HLED := hide (at_led ys f z)
    have HSM := hide (fun g (h : ledF f ys = some g) => led_small ys f g h hs)
    have HW := hide hW
    obtain ⟨E, hE⟩ : ∃ E, atE f (ys ++ [z]) = E := ⟨_, rfl⟩
    have HE := hide hE
    have hnl : n = ys.length + 1 := by have := hw.1; simpa using this
    have hn0 : (1 : Int) ≤ (n : Int) := by omega
    have hni : (n : Int) ≤ 1000000 := by omega
    have hcwi : (n : Int) ≤ (cw : Int) := by omega
    have HNL := hide hnl
    have HC := hide hc
    clear hF hW hw hs hc k0 k1 hb1 hE h0 hnl hn
    go_enter Tryd.func18, Tryd.ntmps18
    go_wp2_with fail
    refine (unhide CL).mono ?_
    rintro e w2 ⟨hb2, hr⟩
    have HB2 := hide (tr2 (unhide HB1) hb2)
    have k1 := (unhide K1).later hb2
    have HK1 := hide k1
    rcases hr with ⟨hno, rfl⟩ | ⟨g, b', o', hled, hz0, hz1, hL, hFC, rfl⟩
    · have HA : Hid (E = 6) := hide (by
        rw [← unhide HE]
        rcases hno with h | ⟨g, h, h'⟩
        · exact (unhide HLED).2 h
        · rw [((unhide HLED).1 g h).2, if_pos (by simpa using h')])
      have y0 : w2.cell? ⟨w.heap.size + 1, 0, none⟩ = some (.int .i64 0) := (k1).cell 0
      have y1 : w2.cell? ⟨w.heap.size + 1, 1, none⟩ = some (.int .i64 0) := (k1).cell 1
      have y2 : w2.cell? ⟨w.heap.size + 1, 2, none⟩ = some (.string ⟨#[]⟩) := (k1).cell 2
      have y3 : w2.cell? ⟨w.heap.size + 1, 3, none⟩ = some (.slice none 0 0) := (k1).cell 3
      have y4 : w2.cell? ⟨w.heap.size + 1, 4, none⟩ = some (.string ⟨#[]⟩) := (k1).cell 4
      have y5 : w2.cell? ⟨w.heap.size + 1, 5, none⟩ = some (.slice none 0 0) := (k1).cell 5
      have yf0 : w2.frozen? ⟨w.heap.size + 1, 0, none⟩ = false := (k1).frozen 0
      have yf1 : w2.frozen? ⟨w.heap.size + 1, 1, none⟩ = false := (k1).frozen 1
      have yf2 : w2.frozen? ⟨w.heap.size + 1, 2, none⟩ = false := (k1).frozen 2
      have yf3 : w2.frozen? ⟨w.heap.size + 1, 3, none⟩ = false := (k1).frozen 3
      have yf4 : w2.frozen? ⟨w.heap.size + 1, 4, none⟩ = false := (k1).frozen 4
      have yf5 : w2.frozen? ⟨w.heap.size + 1, 5, none⟩ = false := (k1).frozen 5
      clear CL k1 hW1 hno hb2
      go_wp2
      have kk := (((((((unhide HK1).set 0 (by simp) (.int .i64 0)).set 1 (by simp) (.int .i64 0)).set 2 (by simp) (.string ⟨#[]⟩)).set 3 (by simp) (.slice none 0 0)).set 4 (by simp) (.string ⟨#[]⟩)).set 5 (by simp) (.slice none 0 0))
      have d0 := kk.cell 0
      have d1 := kk.cell 1
      have d2 := kk.cell 2
      have d3 := kk.cell 3
      have d4 := kk.cell 4
      have d5 := kk.cell 5
      exact bodyPost_ret (v := .tuple #[.agg #[.int .i64 0, .int .i64 0, .string ⟨#[]⟩, .slice none 0 0, .string ⟨#[]⟩, .slice none 0 0], .int .i64 6]) (by simp [results, Tryd.results18, go_sem, d0, d1, d2, d3, d4, d5]) rfl ⟨_, by rw [unhide HE, unhide HA]; rfl, Or.inl ⟨by rw [unhide HE, unhide HA]; decide, rfl⟩, (((((((unhide HB2).setCell (p := ⟨w.heap.size + 1, 0, none⟩) (by simp) _).setCell (p := ⟨w.heap.size + 1, 1, none⟩) (by simp) _).setCell (p := ⟨w.heap.size + 1, 2, none⟩) (by simp) _).setCell (p := ⟨w.heap.size + 1, 3, none⟩) (by simp) _).setCell (p := ⟨w.heap.size + 1, 4, none⟩) (by simp) _).setCell (p := ⟨w.heap.size + 1, 5, none⟩) (by simp) _)⟩
    · have hz2 : z < (g.len : Int) := by simpa using hz1
      obtain ⟨zn, rfl⟩ : ∃ zn : Nat, z = (zn : Int) := ⟨z.toNat, by omega⟩
      have HA : Hid (E = 0 ∧ atN f (ys ++ [(zn : Int)]) = g.drop zn) := hide (by
        have h := (unhide HLED).1 g hled
        rw [if_neg (by omega)] at h
        exact ⟨by rw [← unhide HE]; exact h.2, h.1⟩)
      obtain ⟨qg, cg, cG, hcg, hfg⟩ := hFC
      have hzl : zn < g.len := by omega
      obtain ⟨gb, og, rfl, hlg⟩ : ∃ gb og, qg = some ⟨gb, og, none⟩ ∧ Lies g gb og W1 := by
        rcases hfg with h | h
        · rw [h] at hzl; simp [Forest.len] at hzl
        · exact h
      obtain ⟨sk, sc⟩ := unhide HSM g hled
      obtain ⟨k, sp, nm, ats, tx, kids, hdr⟩ := g.drop_cons zn hzl
      have hld := hlg.drop zn
      have skd := SmF.drop zn g sk
      have hcd := Forest.count_drop zn g
      rw [hdr] at hld skd hcd
      obtain ⟨⟨e0, e1, e2, ⟨qa, ca, e3, hsl⟩, e4, ⟨qk, ck, e5, hck, hfo⟩⟩, -⟩ := hld
      have hcd' : 1 + kids.count + (g.drop (zn + 1)).count ≤ g.count := hcd
      have hv : NdV k sp nm ats tx kids (ndV k sp nm qa ats.length ca tx qk kids.len ck) w2 := ⟨qa, ca, qk, ck, rfl, hsl.below hb2, (show Fo qk kids W1 from hfo).below hb2, hck⟩
      have HV : Hid (NdV k sp nm ats tx kids (ndV k sp nm qa ats.length ca tx qk kids.len ck) w2.drew) := hide (hv.below (Below.drew (Below.refl _ _)))
      have hc9 := unhide HC
      have CC := hide (fun (W : World) (h : NdV k sp nm ats tx kids (ndV k sp nm qa ats.length ca tx qk kids.len ck) W) => copied_any k sp nm ats tx kids _ W h (by omega) ⟨skd.1, skd.2.1, trivial⟩)
      unfold ndV at CC HV
      obtain ⟨gw, ow, rfl, hcz⟩ := (unhide HW).2 (by omega)
      have cz : W1.cell? ⟨gw, ow + ys.length, none⟩ = some (.int .i64 (zn : Int)) := by
        have := hcz ys.length (by have := unhide HNL; omega)
        rw [this]; simp [List.getD]
      have cz2 := cell_later hb2 cz
      have cG2 := cell_later hb2 cG
      have x0 := cell_later hb2 e0
      have x1 := cell_later hb2 e1
      have x2 := cell_later hb2 e2
      have x3 := cell_later hb2 e3
      have x4 := cell_later hb2 e4
      have x5 := cell_later hb2 e5
      have HDR := hide hdr
      have hnn : ((n : Int) - 1) = (ys.length : Int) := by have := unhide HNL; omega
      obtain rfl : n = ys.length + 1 := unhide HNL
      obtain ⟨yl, hyl⟩ : ∃ yl, ys.length = yl := ⟨_, rfl⟩
      rw [hyl] at cz2 hcwi hn0 hni
      rw [hyl]
      have hzi : (zn : Int) < (g.len : Int) := hz2
      generalize g.len = gl at *
      obtain ⟨al, hal⟩ : ∃ al, ats.length = al := ⟨_, rfl⟩
      obtain ⟨kl, hkl⟩ : ∃ kl, kids.len = kl := ⟨_, rfl⟩
      have HAL := hide hal
      have HKL := hide hkl
      rw [hal] at x3
      rw [hkl] at x5
      have HV2 := HV
      rw [hal, hkl] at HV2
      have CC2 := CC
      rw [hal, hkl] at CC2
      clear HV CC hal hkl
      have z0 : (0 : Int) ≤ (zn : Int) := hz0
      have yl0 : (0 : Int) ≤ (yl : Int) := by omega
      have yl1 : (yl : Int) ≤ 1000000 := by omega
      have hwy : IntKind.i64.wrap (yl : Int) = (yl : Int) := by rw [IntKind.wrap_i64]; omega
      clear CL k1 hW1 hled hz1 hz2 hL hcg hlg hdr hcd hcd' skd sk sc hsl hfo hck hv hcz cz cG e0 e1 e2 e3 e4 e5 hb2 hnn hyl hzl hfg HNL hn0 hcw hz0 hcwi hni hc9 hs1 hcap
      go_wp2
      go_region_with (go_at_call 47; refine Calls.mono (unhide CC2 _ (unhide HV2)) ?_; rintro e w4 ⟨v4, rfl, ⟨qa', ca', qk', ck', rfl, hsl4, hfo4, hck4⟩, hb4⟩; unfold ndV; have k4 : Blk w4 (w.heap.size + 1) #[.int .i64 0, .int .i64 0, .string ⟨#[]⟩, .slice none 0 0, .string ⟨#[]⟩, .slice none 0 0] 44 := (hb4.block _ (unhide HK1).lt).trans (unhide HK1); have y0 : w4.cell? ⟨w.heap.size + 1, 0, none⟩ = some (.int .i64 0) := (k4).cell 0; have y1 : w4.cell? ⟨w.heap.size + 1, 1, none⟩ = some (.int .i64 0) := (k4).cell 1; have y2 : w4.cell? ⟨w.heap.size + 1, 2, none⟩ = some (.string ⟨#[]⟩) := (k4).cell 2; have y3 : w4.cell? ⟨w.heap.size + 1, 3, none⟩ = some (.slice none 0 0) := (k4).cell 3; have y4 : w4.cell? ⟨w.heap.size + 1, 4, none⟩ = some (.string ⟨#[]⟩) := (k4).cell 4; have y5 : w4.cell? ⟨w.heap.size + 1, 5, none⟩ = some (.slice none 0 0) := (k4).cell 5; have yf0 : w4.frozen? ⟨w.heap.size + 1, 0, none⟩ = false := (k4).frozen 0; have yf1 : w4.frozen? ⟨w.heap.size + 1, 1, none⟩ = false := (k4).frozen 1; have yf2 : w4.frozen? ⟨w.heap.size + 1, 2, none⟩ = false := (k4).frozen 2; have yf3 : w4.frozen? ⟨w.heap.size + 1, 3, none⟩ = false := (k4).frozen 3; have yf4 : w4.frozen? ⟨w.heap.size + 1, 4, none⟩ = false := (k4).frozen 4; have yf5 : w4.frozen? ⟨w.heap.size + 1, 5, none⟩ = false := (k4).frozen 5; have HSL4 := hide hsl4; have HFO4 := hide hfo4; have HB4 := hide hb4; have HK4 := hide k4; clear hsl4 hfo4 hb4 k4)
      all_goals (
        go_wp2
        have kk := (((((((unhide HK4).set 0 (by simp) (.int .i64 k)).set 1 (by simp) (.int .i64 sp)).set 2 (by simp) (.string nm)).set 3 (by simp) (.slice qa' ats.length ca')).set 4 (by simp) (.string tx)).set 5 (by simp) (.slice qk' kids.len ck'))
        have d0 := kk.cell 0
        have d1 := kk.cell 1
        have d2 := kk.cell 2
        have d3 := kk.cell 3
        have d4 := kk.cell 4
        have d5 := kk.cell 5
        have hp : hiP w2.heap.size (w.heap.size + 1) = true := hiP_at (unhide HK1).lt
        have hle : CellLe (mask (hiP w2.heap.size) w4) _ := (((((((mask_set (o := 0) (v := .int .i64 k) hp).trans (mask_set (o := 1) (v := .int .i64 sp) hp)).trans (mask_set (o := 2) (v := .string nm) hp)).trans (mask_set (o := 3) (v := .slice qa' ats.length ca') hp)).trans (mask_set (o := 4) (v := .string tx) hp)).trans (mask_set (o := 5) (v := .slice qk' kids.len ck') hp)).trans (mask_out _ _))
        exact bodyPost_ret (v := .tuple #[.agg #[.int .i64 k, .int .i64 sp, .string nm, .slice qa' ats.length ca', .string tx, .slice qk' kids.len ck'], .int .i64 0]) (by simp [results, Tryd.results18, go_sem, d0, d1, d2, d3, d4, d5]) rfl ⟨_, by rw [unhide HE, (unhide HA).1]; rfl, Or.inr ⟨by rw [unhide HE]; exact (unhide HA).1, k, sp, nm, ats, tx, kids, _, (unhide HA).2.trans (unhide HDR), qa', ca', qk', ck', rfl, Sl.le hle (unhide HSL4), Fo.le hle (unhide HFO4), hck4⟩, ((((((((unhide HB2).drew.trans ((unhide HB4).mono (unhide HB2).size)).setCell (p := ⟨w.heap.size + 1, 0, none⟩) (by simp) _).setCell (p := ⟨w.heap.size + 1, 1, none⟩) (by simp) _).setCell (p := ⟨w.heap.size + 1, 2, none⟩) (by simp) _).setCell (p := ⟨w.heap.size + 1, 3, none⟩) (by simp) _).setCell (p := ⟨w.heap.size + 1, 4, none⟩) (by simp) _).setCell (p := ⟨w.heap.size + 1, 5, none⟩) (by simp) _)⟩)
end Go.Proofs.YtbabmkilbbbmoaaDoor
