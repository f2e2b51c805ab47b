/-
  Several texts in one: what the functions of the program and of the document's answer do.
-/
import Derived.Test.YtbabmkilbbbmoaaDoorMgAE
import Derived.Test.YtbabmkilbbbmoaaDoorMgAA
import Derived.Deep.LoopGhost
import Derived.Laws.EntriesVeiled
import Derived.Laws.AppendOwn
import Derived.Deep.Cut

/-
  What a keys.writer's text, label and node write.
-/
namespace Go.Proofs.YtbabmkilbbbmoaaDoor
open Go.RowKit
set_option linter.unusedVariables false
set_option linter.unusedSimpArgs false

theorem textB_len (w0 : World) (s : ByteArray) (h : ItoaAt w0 (s.size : Nat)) : (textB s).length ≤ 22 + s.size := by
  have := h.1
  unfold textB numB
  simp only [List.length_append, List.length_cons, List.length_nil]
  have : s.data.toList.length = s.size := by rw [Array.length_toList]; rfl
  omega
theorem numB_len (w0 : World) (n : Int) (h : ItoaAt w0 n) : (numB n).length ≤ 22 := by
  have := h.1
  unfold numB
  simp only [List.length_append, List.length_cons, List.length_nil]
  omega
set_option maxHeartbeats 2000000 in
set_option maxRecDepth 100000 in
theorem ktext_any (w0 : World) (B b : Nat) (l : List UInt8) (s : ByteArray) (w : World) (h : Kwt B b l w) (hb : Below w0.heap.size w0 w) (hB : w0.heap.size ≤ B) (hBw : B ≤ w.heap.size) (hn : ItoaAt w0 (s.size : Nat)) (hs : s.size ≤ 1000000) (hlen : l.length ≤ 10000000000000) :
    Calls Tryd.prog 85 #[.pointer (some ⟨b, 0, none⟩), .string s] w fun e w' => e = .returned (.tuple #[]) ∧ KwN w0 B b (l ++ textB s) w w' := by
  have CN := hide (knum_any w0 B b l (s.size : Nat) w h hb hB hBw hn (by omega))
  have hnl := numB_len w0 (s.size : Nat) hn
  have CW := hide (fun W (h' : Kwt B b (l ++ numB (s.size : Nat)) W) (hs' : B ≤ W.heap.size) => kwrite_any B b (l ++ numB (s.size : Nat)) s W h' (by rw [List.length_append]; omega) hs')
  rw [show l ++ numB (s.size : Nat) ++ s.data.toList = l ++ textB s by rw [textB, List.append_assoc]] at CW
  generalize l ++ textB s = l2 at *
  generalize l ++ numB (s.size : Nat) = l1 at *
  clear h hb hn hnl
  go_enter Tryd.func85, Tryd.ntmps85
  go_wp2_with fail
  refine (unhide CN).mono ?_
  rintro e w1 ⟨rfl, h1, hb1, hB1, ho1⟩
  have CW1 := hide (unhide CW w1 h1 (by have := hB1.size; omega))
  have HX := hide (And.intro hb1 (And.intro hB1 ho1))
  clear CN CW h1 hb1 hB1 ho1
  go_wp2_with fail
  refine (unhide CW1).mono ?_
  rintro e w2 ⟨rfl, h2, hb2, ho2⟩
  have HY := hide (And.intro h2 (And.intro hb2 ho2))
  clear CW1 h2 hb2 ho2
  go_wp2
  refine bodyPost_end (v := .tuple #[]) (results_none Tryd.results85 _ _ _) rfl ?_
  exact ⟨rfl, (unhide HY).1, (unhide HX).1.trans ((unhide HY).2.1.mono hB), (unhide HX).2.1.trans (unhide HY).2.1, Lib.OthersKept.trans (unhide HX).2.2 (unhide HY).2.2⟩
set_option maxHeartbeats 2000000 in
set_option maxRecDepth 100000 in
theorem klabel_any (w0 : World) (B b : Nat) (l : List UInt8) (k sp : Int) (n : ByteArray) (g o : Nat) (w : World) (h : Kwt B b l w) (hb : Below w0.heap.size w0 w) (hB : w0.heap.size ≤ B) (hBw : B ≤ w.heap.size)
    (hk : ItoaAt w0 k) (hsp : ItoaAt w0 sp) (hn : ItoaAt w0 (n.size : Nat)) (hs : n.size ≤ 1000000) (hlen : l.length ≤ 1000000000000)
    (P : World → Prop) (hP : ∀ W l' W', P W → KwN w0 B b l' W W' → P W') (hpw : P w)
    (hL : ∀ W, P W → W.cell? ⟨g, o, none⟩ = some (.int .i64 k) ∧ W.cell? ⟨g, o + 1, none⟩ = some (.int .i64 sp) ∧ W.cell? ⟨g, o + 2, none⟩ = some (.string n)) :
    Calls Tryd.prog 66 #[.pointer (some ⟨b, 0, none⟩), .pointer (some ⟨g, o, none⟩)] w fun e w' => e = .returned (.tuple #[]) ∧ KwN w0 B b (l ++ labelB k sp n) w w' := by
  have h1l := numB_len w0 k hk
  have h2l := numB_len w0 sp hsp
  have C1 := hide (knum_any w0 B b l k w h hb hB hBw hk (by omega))
  have C2 := hide (fun W (h' : Kwt B b (l ++ numB k) W) hb' (hs' : B ≤ W.heap.size) => knum_any w0 B b (l ++ numB k) sp W h' hb' hB hs' hsp (by rw [List.length_append]; omega))
  have C3 := hide (fun W (h' : Kwt B b (l ++ numB k ++ numB sp) W) hb' (hs' : B ≤ W.heap.size) => ktext_any w0 B b (l ++ numB k ++ numB sp) n W h' hb' hB hs' hn hs (by simp only [List.length_append]; omega))
  rw [show l ++ numB k ++ numB sp ++ textB n = l ++ labelB k sp n by rw [labelB, List.append_assoc, List.append_assoc]] at C3
  have HL := hide hL
  have HP := hide hP
  generalize l ++ labelB k sp n = l3 at *
  generalize l ++ numB k ++ numB sp = l2 at *
  generalize l ++ numB k = l1 at *
  obtain ⟨d0, d1, d2⟩ := unhide HL w hpw
  have HPW := hide hpw
  clear h hb hk hsp hn hs h1l h2l hL hP hpw
  go_enter Tryd.func66, Tryd.ntmps66
  go_wp2_with fail
  refine (unhide C1).mono ?_
  rintro e w1 ⟨rfl, h1, hb1, hB1, ho1⟩
  have CC2 := hide (unhide C2 w1 h1 hb1 (by have := hB1.size; omega))
  have HP1 := hide (unhide HP w _ w1 (unhide HPW) ⟨h1, hb1, hB1, ho1⟩)
  obtain ⟨e0, e1, e2⟩ := unhide HL w1 (unhide HP1)
  have HX := hide (And.intro hB1 ho1)
  clear C1 C2 h1 hb1 hB1 ho1 d0 d1 d2
  go_wp2_with fail
  refine (unhide CC2).mono ?_
  rintro e w2 ⟨rfl, h2, hb2, hB2, ho2⟩
  have hX := unhide HX
  have CC3 := hide (unhide C3 w2 h2 hb2 (by have := hX.1.size; have := hB2.size; omega))
  have HP2 := hide (unhide HP w1 _ w2 (unhide HP1) ⟨h2, hb2, hB2, ho2⟩)
  obtain ⟨f0, f1, f2⟩ := unhide HL w2 (unhide HP2)
  have HY := hide (And.intro (hX.1.trans hB2) (Lib.OthersKept.trans hX.2 ho2))
  clear C3 CC2 h2 hb2 hB2 ho2 e0 e1 e2 hX
  go_wp2_with fail
  refine (unhide CC3).mono ?_
  rintro e w3 ⟨rfl, h3, hb3, hB3, ho3⟩
  have HZ := hide (And.intro h3 (And.intro hb3 (And.intro hB3 ho3)))
  clear CC3 h3 hb3 hB3 ho3 f0 f1 f2
  go_wp2
  refine bodyPost_end (v := .tuple #[]) (results_none Tryd.results66 _ _ _) rfl ?_
  exact ⟨rfl, (unhide HZ).1, (unhide HZ).2.1, (unhide HY).1.trans (unhide HZ).2.2.1, Lib.OthersKept.trans (unhide HY).2 (unhide HZ).2.2.2⟩
theorem ItoaAt.later {w w1 : World} {n : Int} (h : ItoaAt w n) (hb : Below w.heap.size w w1) : ItoaAt w1 n := ⟨h.1, fun W hW => h.2 W (tr2 hb hW)⟩
theorem numB_ne (n : Int) : numB n ≠ [] := by unfold numB; simp
theorem labelB_ne (k sp : Int) (n : ByteArray) : labelB k sp n ≠ [] := by
  unfold labelB
  intro h
  exact numB_ne k (List.append_eq_nil_iff.1 h).1
set_option maxHeartbeats 2000000 in
set_option maxRecDepth 100000 in
/-- A node's label. -/
theorem klab_any (k sp : Int) (n : ByteArray) (x3 x4 x5 : Value) (w : World) (hk : ItoaAt w k) (hsp : ItoaAt w sp) (hn : ItoaAt w (n.size : Nat)) (hs : n.size ≤ 1000000) :
    Calls Tryd.prog 32 #[.agg #[.int .i64 k, .int .i64 sp, .string n, x3, x4, x5]] w fun e w' => e = .returned (.string (bs (labelB k sp n))) ∧ Below w.heap.size w w' := by
  obtain ⟨W1, hW1⟩ : ∃ W1, w.alloc (Obj.cells #[.int .i64 k, .int .i64 sp, .string n, x3, x4, x5] 44) = W1 := ⟨_, rfl⟩
  have hb1 : Below w.heap.size w W1 := by rw [← hW1]; exact (Below.refl w.heap.size w).alloc (Nat.le_refl _) _
  have hs1 : W1.heap.size = w.heap.size + 1 := by rw [← hW1]; simp
  have k0 : Blk W1 w.heap.size #[.int .i64 k, .int .i64 sp, .string n, x3, x4, x5] 44 := by rw [← hW1]; exact Blk.new w _ _
  have hkw := kwt_new W1
  obtain ⟨W2, hW2⟩ : ∃ W2, W1.alloc (Obj.cells #[.pointer none, .slice none 0 0] 124) = W2 := ⟨_, rfl⟩
  rw [hW2] at hkw
  have hb2 : Below W1.heap.size W1 W2 := by rw [← hW2]; exact (Below.refl _ _).alloc (Nat.le_refl _) _
  have CL := hide (klabel_any W1 W1.heap.size W1.heap.size [] k sp n w.heap.size 0 W2 hkw hb2 (Nat.le_refl _) hb2.size (hk.later hb1) (hsp.later hb1) (hn.later hb1) hs (by simp) (fun W => Below W1.heap.size W1 W) (fun W l' W' _ h => h.2.1) hb2 (fun W hW => ⟨cell_later hW (k0.cell 0), cell_later hW (k0.cell 1), cell_later hW (k0.cell 2)⟩))
  rw [List.nil_append] at CL
  have CS := hide (fun W (h' : Kwt W1.heap.size W1.heap.size (labelB k sp n) W) => kstring_any W1.heap.size W1.heap.size (labelB k sp n) W h' (labelB_ne k sp n))
  rw [hs1] at CL CS
  generalize labelB k sp n = lb at *
  have HB1 := hide hb1
  clear k0 hkw hb2 hk hsp hn hs hb1
  go_enter Tryd.func32, Tryd.ntmps32
  go_wp2_with fail
  refine (unhide CL).mono ?_
  rintro e w1 ⟨rfl, h1, hb1, hB1, ho1⟩
  have CS1 := hide (unhide CS w1 h1)
  have HX := hide hb1
  clear CL CS h1 hb1 hB1 ho1
  go_wp2_with fail
  refine (unhide CS1).mono ?_
  rintro e w2 ⟨rfl, hb2⟩
  have HY := hide hb2
  clear CS1 hb2
  go_wp2
  go_ret
  exact ⟨rfl, tr2 (unhide HB1) ((unhide HX).trans ((unhide HY).mono (by omega)))⟩
end Go.Proofs.YtbabmkilbbbmoaaDoor

/-
  What 'tree.walk' does, whatever it hands each node to.
-/
namespace Go.Proofs.YtbabmkilbbbmoaaDoor
open Go.RowKit
set_option linter.unusedVariables false

/-- A node, and how deep it lies. -/
structure Item where
  k : Int
  sp : Int
  n : ByteArray
  ats : List (ByteArray × ByteArray)
  tx : ByteArray
  kids : Forest
  d : Nat
/-- All nodes in their order, each ahead of its kids. -/
def items : Forest → Nat → List Item
  | .nil, _ => []
  | .cons k sp n ats tx kids rest, d => ⟨k, sp, n, ats, tx, kids, d⟩ :: (items kids (d + 1) ++ items rest d)
theorem items_len : ∀ (f : Forest) (d : Nat), (items f d).length = f.count
  | .nil, d => rfl
  | .cons k sp n ats tx kids rest, d => by
    show (items kids (d + 1) ++ items rest d).length + 1 = 1 + kids.count + rest.count
    rw [List.length_append, items_len kids, items_len rest]; omega
def todo : List Forest → List Item
  | [] => []
  | f :: st => items f (st.length + 1) ++ todo st
/-- What is told of nodes, one behind the other, until it is enough. -/
def tell {σ : Type} (stp : σ → Item → σ × Bool) : σ → List Item → σ
  | s, [] => s
  | s, it :: r => if (stp s it).2 = true then tell stp (stp s it).1 r else (stp s it).1

abbrev Entry := Forest × Option Addr × Nat
def Entry.val (e : Entry) : Value := .slice e.2.1 e.1.len e.2.2
def rowOf (st : List Entry) : List Value := (st.map Entry.val).reverse
theorem rowOf_cons (e : Entry) (st : List Entry) : rowOf (e :: st) = rowOf st ++ [e.val] := by simp [rowOf]
theorem rowOf_len (st : List Entry) : (rowOf st).length = st.length := by simp [rowOf]
/-- The row's last value, where it lies, and the row without it, or with another one in its place. -/
theorem row_last {w : World} {base : Nat} {e : TypeId} {v x : Value} {n : Nat} {xs : List Value} (h : w.ownsRow base e 1 v (n + 1) (xs ++ [x])) (hl : xs.length = n) :
    ∃ b cap, v = .slice (some ⟨b, 0, none⟩) (n + 1) cap ∧ base ≤ b ∧ n + 1 ≤ cap ∧ w.cell? ⟨b, n, none⟩ = some x ∧ w.frozen? ⟨b, n, none⟩ = false ∧ b < w.heap.size ∧
      w.ownsRow base e 1 (.slice (some ⟨b, 0, none⟩) n cap) n xs ∧ ∀ y, (w.setCell ⟨b, n, none⟩ y).ownsRow base e 1 (.slice (some ⟨b, 0, none⟩) (n + 1) cap) (n + 1) (xs ++ [y]) := by
  obtain ⟨hlen, h⟩ := h
  rcases h with ⟨_, h0⟩ | ⟨b, cap, cur, rfl, h1, h2, h3, h4, h5, h6⟩
  · omega
  have hsz : n < cur.size := by omega
  have hx : cur[n]? = some x := by
    have := congrArg (fun l => l[n]?) h6
    simp only [Nat.mul_one] at this
    rw [List.getElem?_take, if_pos (by omega), List.getElem?_append_right (by omega), hl, Nat.sub_self] at this
    simpa using this
  have hc : w.cell? ⟨b, n, none⟩ = some x := (Joins.cell_of_block h2 n).trans hx
  have hblt : b < w.heap.size := World.block_lt_of_cell? w _ hc
  refine ⟨b, cap, rfl, h1, h3, hc, ?_, hblt, ⟨by omega, Or.inr ⟨b, cap, cur, rfl, h1, h2, by omega, h4, h5, ?_⟩⟩, fun y => ⟨by simp; omega, Or.inr ⟨b, cap, cur.set n y hsz, rfl, h1, ?_, h3, h4, by rw [Array.size_set]; exact h5, ?_⟩⟩⟩
  · have : Blk w b cur e := h2
    exact this.frozen n
  · have := congrArg (fun l => l.take n) h6
    simp only [Nat.mul_one] at this ⊢
    rw [List.take_take, Nat.min_eq_left (by omega), List.take_left' hl] at this
    exact this
  · have : Blk w b cur e := h2
    exact this.set n hsz y
  · simp only [Nat.mul_one] at h6 ⊢
    rw [Array.toList_set, List.take_set, h6, List.set_append_right _ _ (by omega), hl, Nat.sub_self]
    rfl
end Go.Proofs.YtbabmkilbbbmoaaDoor

/-
  What 'tree.walk' does, whatever it hands each node to, if that writes but into blocks that were there ahead of it.
-/
namespace Go.Proofs.YtbabmkilbbbmoaaDoor
open Go.RowKit
set_option linter.unusedVariables false

def Since (B : Nat) (w w' : World) : Prop := w.heap.size ≤ w'.heap.size ∧ ∀ b, B ≤ b → b < w.heap.size → w'.heap[b]? = w.heap[b]?
theorem ownsRow_since {w w' : World} {B base : Nat} {e : TypeId} {size : Nat} {v : Value} {n : Nat} {xs : List Value} (h : w.ownsRow base e size v n xs) (hs : Since B w w') (hB : B ≤ base) : w'.ownsRow base e size v n xs := by
  obtain ⟨hl, h⟩ := h
  refine ⟨hl, ?_⟩
  rcases h with h | ⟨g, cap, cur, h1, h2, h3, h4, h5, h6, h7⟩
  · exact .inl h
  · refine .inr ⟨g, cap, cur, h1, h2, ?_, h4, h5, h6, h7⟩
    have hg : g < w.heap.size := by
      rcases Nat.lt_or_ge g w.heap.size with h | h
      · exact h
      · rw [Array.getElem?_eq_none h] at h3; cases h3
    rw [hs.2 g (by omega) hg]; exact h3
theorem slice_n {w : World} {base : Nat} {e : TypeId} {size : Nat} {v : Value} {n : Nat} {xs : List Value} (h : w.ownsRow base e size v n xs) : ∃ a cap, v = .slice a n cap := by
  rcases h.2 with ⟨h, h0⟩ | ⟨g, cap, cur, h, _⟩
  · exact ⟨none, 0, by rw [h, h0]⟩
  · exact ⟨_, _, h⟩
theorem lit1 {X : World} {v : Value} {t : TypeId} {j : Nat} {u : Value} (h : [v][j]? = some u) : (X.alloc (.cells #[v] t)).cell? ((⟨X.heap.size, 0, none⟩ : Addr).add j) = some u := by
  have e : (⟨X.heap.size, 0, none⟩ : Addr).add j = ⟨X.heap.size, 0 + j, none⟩ := by unfold Addr.add; split <;> simp_all
  rw [e, Nat.zero_add]
  exact ((Blk.new X #[v] t).cell j).trans (by simpa using h)
def cnt : List Entry → Nat
  | [] => 0
  | e :: st => e.1.count + cnt st
theorem todo_len : ∀ st : List Entry, (todo (st.map (·.1))).length = cnt st
  | [] => rfl
  | e :: st => by
    show (items e.1 ((st.map (·.1)).length + 1) ++ todo (st.map (·.1))).length = e.1.count + cnt st
    rw [List.length_append, items_len, todo_len st]
def StackOk (w0 : World) (st : List Entry) : Prop := ∀ e ∈ st, Fo e.2.1 e.1 w0 ∧ e.1.len ≤ e.2.2
def WalkAt {σ : Type} (stp : σ → Item → σ × Bool) (Inv : σ → World → Prop) (w0 : World) (B1 : Nat) (fin : σ) (gk : Nat) (left : Value) (wr : World) : Prop :=
  ∃ (st : List Entry) (s : σ), cnt st ≤ 1000000 ∧ st.length + cnt st ≤ 1000001 ∧ 2 * cnt st + st.length = gk ∧ StackOk w0 st ∧ wr.ownsRow B1 22 1 left st.length (rowOf st) ∧ tell stp s (todo (st.map (·.1))) = fin ∧ Inv s wr ∧ Below w0.heap.size w0 wr ∧ B1 ≤ wr.heap.size

theorem infoNodes0 : (Tryd.prog.info? 22).map (fun i => (i.zero, i.size, i.bytes)) = some (some (.slice none 0 0), 1, 24) := by kernel_rfl

/-! ### tree.Count -/
theorem wrap_one (x : Int) : IntKind.i64.wrap (IntKind.i64.wrap x + 1) = IntKind.i64.wrap (x + 1) := by
  simp [IntKind.wrap, IntKind.bits, IntKind.signed]; omega
theorem wrap_id (x : Nat) (h : x ≤ 1000000) : IntKind.i64.wrap (x : Int) = (x : Int) := by
  simp [IntKind.wrap, IntKind.bits, IntKind.signed]; omega
def CntAt (G c : Nat) (w : World) : Prop := Blk w G #[.int .i64 (IntKind.i64.wrap (c : Int))] 3
theorem tell_count : ∀ (l : List Item) (c : Nat), tell (fun (c : Nat) (_ : Item) => (c + 1, true)) c l = c + l.length
  | [], c => rfl
  | it :: l, c => by rw [tell, if_pos rfl, tell_count l (c + 1), List.length_cons]; omega
end Go.Proofs.YtbabmkilbbbmoaaDoor

/-
  'tree.Depth': 'tree.walk' under its closure (made by mk_ywd.py).
-/
namespace Go.Proofs.YtbabmkilbbbmoaaDoor
open Go.RowKit
set_option linter.unusedVariables false

/-! ### tree.counts, tree.Depth -/
def countsB (k : Int) : Bool := k != 2 && k != 3
def depStep (m : Nat) (it : Item) : Nat × Bool := (if countsB it.k = true then max m it.d else m, true)
def DepAt (G m : Nat) (w : World) : Prop := Blk w G #[.int .i64 (m : Int)] 3
end Go.Proofs.YtbabmkilbbbmoaaDoor

/-
  'tree.tooGreat': 'tree.walk' under its closure (made by mk_ywd.py).
-/
namespace Go.Proofs.YtbabmkilbbbmoaaDoor
open Go.RowKit
set_option linter.unusedVariables false

/-! ### tree.tooGreat -/
def grB (x : Int) (k : Int) (d : Nat) : Bool := decide (300 < wrap64 (x + 1)) || (countsB k && decide (40 < (d : Int)))
def grStep (s : Int × Bool) (it : Item) : (Int × Bool) × Bool := ((wrap64 (s.1 + 1), grB s.1 it.k it.d), !(grB s.1 it.k it.d))
def GrAt (G : Nat) (s : Int × Bool) (w : World) : Prop := Blk w G #[.int .i64 s.1] 3 ∧ Blk w (G + 1) #[.bool s.2] 4
def deepIn (l : List Item) : Prop := ∃ it, it ∈ l ∧ countsB it.k = true ∧ 40 < it.d
theorem deepIn_nil : ¬ deepIn [] := fun ⟨_, h, _⟩ => by cases h
theorem deepIn_cons (it : Item) (l : List Item) : deepIn (it :: l) ↔ (countsB it.k = true ∧ 40 < it.d) ∨ deepIn l := by
  constructor
  · rintro ⟨x, hx, h⟩
    rcases List.mem_cons.1 hx with rfl | hx
    · exact Or.inl h
    · exact Or.inr ⟨x, hx, h⟩
  · rintro (h | ⟨x, hx, h⟩)
    · exact ⟨it, List.mem_cons_self .., h⟩
    · exact ⟨x, List.mem_cons_of_mem _ hx, h⟩
theorem tell_dep : ∀ (l : List Item) (m : Nat), 40 < tell depStep m l ↔ 40 < m ∨ deepIn l
  | [], m => by
    show 40 < m ↔ _
    have := deepIn_nil
    exact ⟨Or.inl, fun h => h.resolve_right this⟩
  | it :: l, m => by
    rw [tell, if_pos (show (depStep m it).2 = true from rfl), tell_dep l, deepIn_cons]
    show 40 < (if countsB it.k = true then max m it.d else m) ∨ _ ↔ _
    cases hk : countsB it.k with
    | false => rw [if_neg (by simp)]; simp
    | true =>
      rw [if_pos rfl]
      constructor
      · rintro (h | h)
        · rcases Nat.lt_or_ge 40 m with h' | h'
          · exact Or.inl h'
          · exact Or.inr (Or.inl ⟨rfl, by omega⟩)
        · exact Or.inr (Or.inr h)
      · rintro (h | ⟨_, h⟩ | h)
        · exact Or.inl (by omega)
        · exact Or.inl (by omega)
        · exact Or.inr h
theorem tell_gr : ∀ (l : List Item) (c : Nat), c ≤ 300 → ((tell grStep ((c : Int), false) l).2 = true ↔ 300 < c + l.length ∨ deepIn l)
  | [], c, hc => by
    show false = true ↔ _
    have := deepIn_nil
    constructor
    · intro h; cases h
    · rintro (h | h)
      · simp at h; omega
      · exact absurd h this
  | it :: l, c, hc => by
    have hw : wrap64 ((c : Int) + 1) = ((c + 1 : Nat) : Int) := by unfold wrap64; omega
    have hg : grB (c : Int) it.k it.d = (decide (300 < c + 1) || (countsB it.k && decide (40 < it.d))) := by
      unfold grB; rw [hw]
      congr 1
      · exact decide_eq_decide.2 (by omega)
      · congr 1; exact decide_eq_decide.2 (by omega)
    rw [tell, deepIn_cons, List.length_cons]
    show (if (!(grB (c : Int) it.k it.d)) = true then tell grStep (wrap64 ((c : Int) + 1), grB (c : Int) it.k it.d) l else (wrap64 ((c : Int) + 1), grB (c : Int) it.k it.d)).2 = true ↔ _
    cases hb : grB (c : Int) it.k it.d with
    | false =>
      rw [hb] at hg
      have h0 := hg.symm
      rw [Bool.or_eq_false_iff, Bool.and_eq_false_iff] at h0
      obtain ⟨h1, h2⟩ := h0
      have h1' : ¬ 300 < c + 1 := of_decide_eq_false h1
      rw [if_pos (by simp), hw, tell_gr l (c + 1) (by omega)]
      have hn : ¬ (countsB it.k = true ∧ 40 < it.d) := by
        rintro ⟨h3, h4⟩
        rcases h2 with h2 | h2
        · rw [h3] at h2; cases h2
        · exact of_decide_eq_false h2 h4
      rw [show c + 1 + l.length = c + (l.length + 1) by omega]
      constructor
      · rintro (h | h)
        · exact Or.inl h
        · exact Or.inr (Or.inr h)
      · rintro (h | h | h)
        · exact Or.inl h
        · exact absurd h hn
        · exact Or.inr h
    | true =>
      rw [hb] at hg
      rw [if_neg (by simp)]
      have h0 := hg.symm
      rw [Bool.or_eq_true, Bool.and_eq_true] at h0
      refine ⟨fun _ => ?_, fun _ => rfl⟩
      rcases h0 with h | ⟨h1, h2⟩
      · left; have := of_decide_eq_true h; omega
      · right; left; exact ⟨h1, of_decide_eq_true h2⟩
def greatB (f : Forest) : Bool := decide (300 < f.count) || decide (40 < tell depStep 0 (items f 1))
theorem tell_great (f : Forest) : (tell grStep (0, false) (items f 1)).2 = greatB f := by
  have h := tell_gr (items f 1) 0 (by omega)
  have h2 := tell_dep (items f 1) 0
  rw [items_len, Nat.zero_add] at h
  have h3 : (tell grStep (0, false) (items f 1)).2 = true ↔ greatB f = true := by
    unfold greatB
    rw [Bool.or_eq_true, decide_eq_true_iff, decide_eq_true_iff, h2]
    refine Iff.trans h ?_
    constructor
    · exact fun h => h.imp id Or.inr
    · exact fun h => h.imp id fun h => h.resolve_left (by omega)
  exact Bool.eq_iff_iff.2 h3
end Go.Proofs.YtbabmkilbbbmoaaDoor

/-
  The reference's Depth.
-/
namespace Go.Proofs.YtbabmkilbbbmoaaDoor
open Go.RowKit
set_option linter.unusedVariables false

def leafB (k : Int) : Bool := k == 2 || k == 3
def Forest.depth : Forest → Nat
  | .nil => 0
  | .cons k _ _ _ _ kids r => max (if 0 < kids.depth ∨ leafB k = false then kids.depth + 1 else kids.depth) r.depth
theorem Forest.depth_count : ∀ f : Forest, f.depth ≤ f.count
  | .nil => Nat.le_refl _
  | .cons k _ _ _ _ kids r => by
    have h1 := Forest.depth_count kids
    have h2 := Forest.depth_count r
    show max (if 0 < kids.depth ∨ leafB k = false then kids.depth + 1 else kids.depth) r.depth ≤ 1 + kids.count + r.count
    split <;> omega
end Go.Proofs.YtbabmkilbbbmoaaDoor

/-
  How deep nodes lie: the program's and the reference's answer are one; 'tree.apart'.
-/
namespace Go.Proofs.YtbabmkilbbbmoaaDoor
open Go.RowKit
set_option linter.unusedVariables false

theorem tell_dep_append : ∀ (a b : List Item) (m : Nat), tell depStep m (a ++ b) = tell depStep (tell depStep m a) b
  | [], b, m => rfl
  | it :: a, b, m => by
    show (if (depStep m it).2 = true then tell depStep (depStep m it).1 (a ++ b) else _) = tell depStep (if (depStep m it).2 = true then tell depStep (depStep m it).1 a else _) b
    rw [if_pos (show (depStep m it).2 = true from rfl), if_pos (show (depStep m it).2 = true from rfl)]
    exact tell_dep_append a b _
theorem counts_leaf (k : Int) : countsB k = !leafB k := by
  unfold countsB leafB
  rw [Bool.not_or]; rfl
theorem tell_depth : ∀ (f : Forest) (d m : Nat), tell depStep m (items f (d + 1)) = max m (if f.depth = 0 then 0 else f.depth + d)
  | .nil, d, m => by show m = max m 0; omega
  | .cons k sp n ats tx kids r, d, m => by
    show (if (depStep m ⟨k, sp, n, ats, tx, kids, d + 1⟩).2 = true then tell depStep (depStep m ⟨k, sp, n, ats, tx, kids, d + 1⟩).1 (items kids (d + 1 + 1) ++ items r (d + 1)) else _) = _
    rw [if_pos (show (depStep m ⟨k, sp, n, ats, tx, kids, d + 1⟩).2 = true from rfl), tell_dep_append, tell_depth kids, tell_depth r]
    show max (max (if countsB k = true then max m (d + 1) else m) (if kids.depth = 0 then 0 else kids.depth + (d + 1))) (if r.depth = 0 then 0 else r.depth + d) = max m (if max (if 0 < kids.depth ∨ leafB k = false then kids.depth + 1 else kids.depth) r.depth = 0 then 0 else max (if 0 < kids.depth ∨ leafB k = false then kids.depth + 1 else kids.depth) r.depth + d)
    rw [counts_leaf]
    generalize kids.depth = x
    generalize r.depth = y
    cases leafB k with
    | false =>
      rw [if_pos (show (!false) = true from rfl), if_pos (show 0 < x ∨ false = false from Or.inr rfl)]
      split <;> split <;> split <;> omega
    | true =>
      rw [if_neg (show ¬ (!true) = true by simp)]
      by_cases hx : 0 < x
      · rw [if_pos (Or.inl hx)]
        split <;> split <;> split <;> omega
      · rw [if_neg (show ¬ (0 < x ∨ true = false) by simp; omega)]
        split <;> split <;> split <;> omega
theorem depth_is (f : Forest) : tell depStep 0 (items f 1) = f.depth := by
  rw [tell_depth f 0 0]
  split <;> omega
theorem greatB_is (f : Forest) : greatB f = (decide (300 < f.count) || decide (40 < f.depth)) := by
  unfold greatB; rw [depth_is]
end Go.Proofs.YtbabmkilbbbmoaaDoor

/-
  'tree.apart'.
-/
namespace Go.Proofs.YtbabmkilbbbmoaaDoor
open Go.RowKit
set_option linter.unusedVariables false

def Forest.kind0 : Forest → Int
  | .nil => 0
  | .cons k _ _ _ _ _ _ => k
def apartB : Forest → Bool
  | .nil => true
  | .cons k _ _ _ _ _ r => !(k == 2 && r.kind0 == 2) && apartB r
theorem apart_short (f : Forest) (h : f.len ≤ 1) : apartB f = true := by
  cases f with
  | nil => rfl
  | cons k sp n ats tx kids r =>
    cases r with
    | nil => show (!(k == 2 && (0 : Int) == 2) && true) = true; simp
    | cons _ _ _ _ _ _ r => simp [Forest.len] at h
end Go.Proofs.YtbabmkilbbbmoaaDoor
