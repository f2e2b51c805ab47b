/-
  Several texts in one: what the functions of the program and of the document's answer do.
-/
import Derived.Test.YtahclcoabffmiaaDoorMgAA
import Derived.Deep.LoopGhost
import Derived.Laws.EntriesVeiled
import Derived.Laws.AppendOwn
import Derived.Deep.Cut

/-
  Nodes as plain data (a list of nodes: a forest), and how they lie in memory.
-/
namespace Go.Proofs.YtahclcoabffmiaaDoor
open Go.RowKit
set_option linter.unusedVariables false

/-- A list of nodes: the first one's kind, space, name, attributes, text and kids, and the others. -/
inductive Forest where
  | nil : Forest
  | cons (k sp : Int) (n : ByteArray) (ats : List (ByteArray × ByteArray)) (tx : ByteArray) (kids rest : Forest) : Forest
def Forest.len : Forest → Nat
  | .nil => 0
  | .cons _ _ _ _ _ _ r => r.len + 1
def Forest.count : Forest → Nat
  | .nil => 0
  | .cons _ _ _ _ _ kids r => 1 + kids.count + r.count
def Forest.drop : Nat → Forest → Forest
  | 0, f => f
  | _ + 1, .nil => .nil
  | j + 1, .cons _ _ _ _ _ _ r => r.drop j
theorem Forest.drop_zero (f : Forest) : f.drop 0 = f := by cases f <;> rfl
theorem Forest.drop_nil (j : Nat) : Forest.drop j .nil = .nil := by cases j <;> rfl
theorem Forest.drop_len : ∀ (j : Nat) (f : Forest), (f.drop j).len = f.len - j
  | 0, f => by rw [Forest.drop_zero]; rfl
  | j + 1, .nil => by rw [Forest.drop_nil]; simp [Forest.len]
  | j + 1, .cons _ _ _ _ _ _ r => by
    show (r.drop j).len = r.len + 1 - (j + 1)
    rw [Forest.drop_len j r]; omega
theorem Forest.drop_cons : ∀ (j : Nat) (f : Forest), j < f.len → ∃ k sp n ats tx kids, f.drop j = .cons k sp n ats tx kids (f.drop (j + 1))
  | j, .nil, h => by simp [Forest.len] at h
  | 0, .cons k sp n ats tx kids r, h => ⟨k, sp, n, ats, tx, kids, by show Forest.cons k sp n ats tx kids r = _; rw [show Forest.drop (0 + 1) (.cons k sp n ats tx kids r) = r.drop 0 from rfl, Forest.drop_zero]⟩
  | j + 1, .cons k sp n ats tx kids r, h => Forest.drop_cons j r (by simp [Forest.len] at h; omega)
theorem Forest.drop_out (j : Nat) (f : Forest) (h : f.len ≤ j) : f.drop j = .nil := by
  have := Forest.drop_len j f
  cases e : f.drop j with
  | nil => rfl
  | cons _ _ _ _ _ _ r => rw [e] at this; simp [Forest.len] at this; omega
theorem Forest.count_drop : ∀ (j : Nat) (f : Forest), (f.drop j).count ≤ f.count
  | 0, f => by rw [Forest.drop_zero]; exact Nat.le_refl _
  | j + 1, .nil => by rw [Forest.drop_nil]; exact Nat.le_refl _
  | j + 1, .cons _ _ _ _ _ _ r => by
    have := Forest.count_drop j r
    show (r.drop j).count ≤ _
    simp [Forest.count]; omega
theorem Forest.len_count : ∀ (f : Forest), f.len ≤ f.count
  | .nil => Nat.le_refl _
  | .cons _ _ _ _ _ kids r => by have := Forest.len_count r; simp [Forest.len, Forest.count]; omega

/-- Nodes lie in a block from a place on, six cells each, with all that is below them. -/
def Lies : Forest → Nat → Nat → World → Prop
  | .nil, _, _, _ => True
  | .cons k sp n ats tx kids rest, g, o, w =>
    (w.cell? ⟨g, o, none⟩ = some (.int .i64 k) ∧ w.cell? ⟨g, o + 1, none⟩ = some (.int .i64 sp) ∧ w.cell? ⟨g, o + 2, none⟩ = some (.string n) ∧
      (∃ qa ca, w.cell? ⟨g, o + 3, none⟩ = some (.slice qa ats.length ca) ∧ Sl qa ats w) ∧ w.cell? ⟨g, o + 4, none⟩ = some (.string tx) ∧
      ∃ qk ck, w.cell? ⟨g, o + 5, none⟩ = some (.slice qk kids.len ck) ∧ kids.len ≤ ck ∧ (kids = .nil ∨ ∃ g' o', qk = some ⟨g', o', none⟩ ∧ Lies kids g' o' w)) ∧
    Lies rest g (o + 6) w
/-- Nodes behind a slice, or none at all. -/
def Fo (q : Option Addr) (f : Forest) (w : World) : Prop := f = .nil ∨ ∃ g o, q = some ⟨g, o, none⟩ ∧ Lies f g o w
theorem Lies.below {w w' : World} (hb : Below w.heap.size w w') : ∀ (f : Forest) (g o : Nat), Lies f g o w → Lies f g o w'
  | .nil, g, o, h => trivial
  | .cons k sp n ats tx kids rest, g, o, h => by
    obtain ⟨⟨h0, h1, h2, ⟨qa, ca, h3, h3'⟩, h4, ⟨qk, ck, h5, h6, h7⟩⟩, hr⟩ := h
    refine ⟨⟨cell_later hb h0, cell_later hb h1, cell_later hb h2, ⟨qa, ca, cell_later hb h3, h3'.below hb⟩, cell_later hb h4, ⟨qk, ck, cell_later hb h5, h6, ?_⟩⟩, Lies.below hb rest g (o + 6) hr⟩
    rcases h7 with h7 | ⟨g', o', hq, hl⟩
    · exact Or.inl h7
    · exact Or.inr ⟨g', o', hq, Lies.below hb kids g' o' hl⟩
theorem Fo.below {w w' : World} {q : Option Addr} {f : Forest} (h : Fo q f w) (hb : Below w.heap.size w w') : Fo q f w' :=
  h.imp id fun ⟨g, o, h1, h2⟩ => ⟨g, o, h1, h2.below hb⟩
theorem Lies.drop {w : World} {g : Nat} : ∀ (j : Nat) (f : Forest) (o : Nat), Lies f g o w → Lies (f.drop j) g (o + j * 6) w
  | 0, f, o, h => by rw [Forest.drop_zero]; simpa using h
  | j + 1, .nil, o, h => by rw [Forest.drop_nil]; trivial
  | j + 1, .cons _ _ _ _ _ _ r, o, h => by
    have := Lies.drop j r (o + 6) h.2
    show Lies (r.drop j) g _ w
    rw [show o + (j + 1) * 6 = o + 6 + j * 6 by omega]; exact this

/-! ### the reference's Count -/
set_option maxHeartbeats 2000000 in
theorem rcount_none (q : Option Addr) (cap : Nat) (w : World) : Calls Tryd.prog 11 #[.slice q 0 cap] w fun e w' => e = .returned (.int .i64 0) ∧ Below w.heap.size w w' := by
  go_enter Tryd.func11, Tryd.ntmps11
  go_wp2
  refine wp_loop_rounds 1 ?_
  rw [rounds_succ]; go_wp2
  go_ret
  exact ⟨rfl, Below.refl _ _⟩
set_option maxHeartbeats 4000000 in
theorem rcount_some (f : Forest) (g o cap : Nat) (w : World) (hl : Lies f g o w) (hc : f.count ≤ 1000000)
    (ih : ∀ j k sp n ats tx kids, f.drop j = .cons k sp n ats tx kids (f.drop (j + 1)) → ∀ q cap w, Fo q kids w → Calls Tryd.prog 11 #[.slice q kids.len cap] w fun e w' => e = .returned (.int .i64 (kids.count : Nat)) ∧ Below w.heap.size w w') :
    Calls Tryd.prog 11 #[.slice (some ⟨g, o, none⟩) f.len cap] w fun e w' => e = .returned (.int .i64 (f.count : Nat)) ∧ Below w.heap.size w w' := by
  have HL := hide hl
  have IH := hide ih
  have hlc := f.len_count
  clear hl ih
  go_enter Tryd.func11, Tryd.ntmps11
  go_wp2
  go_loopw [3, 8] (fun a b wr => ∃ j c : Nat, j ≤ f.len ∧ b = .int .i64 j ∧ a = .int .i64 c ∧ c + (f.drop j).count = f.count ∧ Below w.heap.size w wr) (fun _ b _ => f.len - (intOf b).toNat)
  case atStart => exact ⟨0, 0, Nat.zero_le _, rfl, rfl, by rw [Forest.drop_zero]; omega, Below.refl _ _⟩
  case round =>
    obtain ⟨j, c, hj, rfl, rfl, hsum, hbw⟩ := hrel
    by_cases hp : j < f.len
    · have hpi : (j : Int) < (f.len : Int) := by omega
      obtain ⟨k, sp, n, ats, tx, kids, hd⟩ := f.drop_cons j hp
      have hlj := (unhide HL).drop j
      have hlw := hlj.below hbw
      rw [hd] at hlw hsum
      obtain ⟨⟨c0, c1, c2, ⟨qa, ca, c3, hsl⟩, c4, ⟨qk, ck, c5, hck, hfo⟩⟩, _⟩ := hlw
      have hsum' : c + (1 + kids.count + (f.drop (j + 1)).count) = f.count := hsum
      have CK := hide (fun w h => unhide IH j k sp n ats tx kids hd qk ck w h)
      have hbA := (Below.refl wr.heap.size wr).alloc (Nat.le_refl _) (Obj.cells #[.int .i64 k, .int .i64 sp, .string n, .slice qa ats.length ca, .string tx, .slice qk kids.len ck] 34)
      have HF := hide ((show Fo qk kids wr from hfo).below hbA)
      have HB := hide (tr2 hbw hbA)
      generalize kids.len = kl at *
      generalize kids.count = kc at *
      have HS := hide hsum'
      have b1 : (c : Int) + 1 ≤ 1000000 := by omega
      have b2 : (c : Int) + 1 + (kc : Int) ≤ 1000000 := by omega
      clear hlj hsl hfo hd hsum hsum' hbA hbw
      go_wp2_with fail
      refine (unhide CK _ (unhide HF)).mono ?_
      rintro e w1 ⟨rfl, hb1⟩
      have HB1 := hide (tr2 (unhide HB) hb1)
      clear hb1 HF
      go_wp2
      go_roundw
      case rel => exact ⟨j + 1, c + 1 + kc, by omega, by go_num, by first | rfl | (congr 1) | skip, by have := unhide HS; omega, unhide HB1⟩
      case measure => simp [intOf]; omega
    · have hpi : ¬ (j : Int) < (f.len : Int) := by omega
      rw [f.drop_out j (by omega)] at hsum
      have HS : Hid (c = f.count) := hide hsum
      clear hp hsum
      go_wp2
      go_ret
      exact ⟨by rw [← unhide HS]; rfl, hbw⟩
theorem rcount_any : ∀ (m : Nat) (f : Forest), f.count ≤ m → m ≤ 1000000 → ∀ (q : Option Addr) (cap : Nat) (w : World), Fo q f w → Calls Tryd.prog 11 #[.slice q f.len cap] w fun e w' => e = .returned (.int .i64 (f.count : Nat)) ∧ Below w.heap.size w w'
  | m, f, hm, hM, q, cap, w, h => by
    rcases h with rfl | ⟨g, o, rfl, hl⟩
    · exact rcount_none q cap w
    · refine rcount_some f g o cap w hl (by omega) (fun j k sp n ats tx kids hd q cap w hf => ?_)
      have h1 : (f.drop j).count ≤ f.count := f.count_drop j
      rw [hd] at h1
      have h2 : 1 + kids.count + (f.drop (j + 1)).count ≤ f.count := h1
      match m, hm with
      | 0, hm => omega
      | m + 1, hm => exact rcount_any m kids (by omega) (by omega) q cap w hf
end Go.Proofs.YtahclcoabffmiaaDoor

/-
  'slices.Equal' of attributes; 'tree.alike' (made by mk_yeq.py).
-/
namespace Go.Proofs.YtahclcoabffmiaaDoor
open Go.RowKit
set_option linter.unusedVariables false
set_option linter.unusedSimpArgs false

def alikeN (k sp : Int) (n : ByteArray) (ats : List (ByteArray × ByteArray)) (tx : ByteArray) (k' sp' : Int) (n' : ByteArray) (ats' : List (ByteArray × ByteArray)) (tx' : ByteArray) : Bool := decide (k = k') && (decide (sp = sp') && (decide (n = n') && (decide (tx = tx') && sameA ats ats')))
end Go.Proofs.YtahclcoabffmiaaDoor

/-
  What 'tree.walk' does, whatever it hands each node to.
-/
namespace Go.Proofs.YtahclcoabffmiaaDoor
open Go.RowKit
set_option linter.unusedVariables false

/-- A node, and how deep it lies. -/
structure Item where
  k : Int
  sp : Int
  n : ByteArray
  ats : List (ByteArray × ByteArray)
  tx : ByteArray
  kids : Forest
  d : Nat
/-- All nodes in their order, each ahead of its kids. -/
def items : Forest → Nat → List Item
  | .nil, _ => []
  | .cons k sp n ats tx kids rest, d => ⟨k, sp, n, ats, tx, kids, d⟩ :: (items kids (d + 1) ++ items rest d)
theorem items_len : ∀ (f : Forest) (d : Nat), (items f d).length = f.count
  | .nil, d => rfl
  | .cons k sp n ats tx kids rest, d => by
    show (items kids (d + 1) ++ items rest d).length + 1 = 1 + kids.count + rest.count
    rw [List.length_append, items_len kids, items_len rest]; omega
def todo : List Forest → List Item
  | [] => []
  | f :: st => items f (st.length + 1) ++ todo st
/-- What is told of nodes, one behind the other, until it is enough. -/
def tell {σ : Type} (stp : σ → Item → σ × Bool) : σ → List Item → σ
  | s, [] => s
  | s, it :: r => if (stp s it).2 = true then tell stp (stp s it).1 r else (stp s it).1

abbrev Entry := Forest × Option Addr × Nat
def Entry.val (e : Entry) : Value := .slice e.2.1 e.1.len e.2.2
def rowOf (st : List Entry) : List Value := (st.map Entry.val).reverse
theorem rowOf_cons (e : Entry) (st : List Entry) : rowOf (e :: st) = rowOf st ++ [e.val] := by simp [rowOf]
theorem rowOf_len (st : List Entry) : (rowOf st).length = st.length := by simp [rowOf]
/-- The row's last value, where it lies, and the row without it, or with another one in its place. -/
theorem row_last {w : World} {base : Nat} {e : TypeId} {v x : Value} {n : Nat} {xs : List Value} (h : w.ownsRow base e 1 v (n + 1) (xs ++ [x])) (hl : xs.length = n) :
    ∃ b cap, v = .slice (some ⟨b, 0, none⟩) (n + 1) cap ∧ base ≤ b ∧ n + 1 ≤ cap ∧ w.cell? ⟨b, n, none⟩ = some x ∧ w.frozen? ⟨b, n, none⟩ = false ∧ b < w.heap.size ∧
      w.ownsRow base e 1 (.slice (some ⟨b, 0, none⟩) n cap) n xs ∧ ∀ y, (w.setCell ⟨b, n, none⟩ y).ownsRow base e 1 (.slice (some ⟨b, 0, none⟩) (n + 1) cap) (n + 1) (xs ++ [y]) := by
  obtain ⟨hlen, h⟩ := h
  rcases h with ⟨_, h0⟩ | ⟨b, cap, cur, rfl, h1, h2, h3, h4, h5, h6⟩
  · omega
  have hsz : n < cur.size := by omega
  have hx : cur[n]? = some x := by
    have := congrArg (fun l => l[n]?) h6
    simp only [Nat.mul_one] at this
    rw [List.getElem?_take, if_pos (by omega), List.getElem?_append_right (by omega), hl, Nat.sub_self] at this
    simpa using this
  have hc : w.cell? ⟨b, n, none⟩ = some x := (Joins.cell_of_block h2 n).trans hx
  have hblt : b < w.heap.size := World.block_lt_of_cell? w _ hc
  refine ⟨b, cap, rfl, h1, h3, hc, ?_, hblt, ⟨by omega, Or.inr ⟨b, cap, cur, rfl, h1, h2, by omega, h4, h5, ?_⟩⟩, fun y => ⟨by simp; omega, Or.inr ⟨b, cap, cur.set n y hsz, rfl, h1, ?_, h3, h4, by rw [Array.size_set]; exact h5, ?_⟩⟩⟩
  · have : Blk w b cur e := h2
    exact this.frozen n
  · have := congrArg (fun l => l.take n) h6
    simp only [Nat.mul_one] at this ⊢
    rw [List.take_take, Nat.min_eq_left (by omega), List.take_left' hl] at this
    exact this
  · have : Blk w b cur e := h2
    exact this.set n hsz y
  · simp only [Nat.mul_one] at h6 ⊢
    rw [Array.toList_set, List.take_set, h6, List.set_append_right _ _ (by omega), hl, Nat.sub_self]
    rfl
end Go.Proofs.YtahclcoabffmiaaDoor

/-
  What 'tree.walk' does, whatever it hands each node to, if that writes but into blocks that were there ahead of it.
-/
namespace Go.Proofs.YtahclcoabffmiaaDoor
open Go.RowKit
set_option linter.unusedVariables false

def Since (B : Nat) (w w' : World) : Prop := w.heap.size ≤ w'.heap.size ∧ ∀ b, B ≤ b → b < w.heap.size → w'.heap[b]? = w.heap[b]?
theorem ownsRow_since {w w' : World} {B base : Nat} {e : TypeId} {size : Nat} {v : Value} {n : Nat} {xs : List Value} (h : w.ownsRow base e size v n xs) (hs : Since B w w') (hB : B ≤ base) : w'.ownsRow base e size v n xs := by
  obtain ⟨hl, h⟩ := h
  refine ⟨hl, ?_⟩
  rcases h with h | ⟨g, cap, cur, h1, h2, h3, h4, h5, h6, h7⟩
  · exact .inl h
  · refine .inr ⟨g, cap, cur, h1, h2, ?_, h4, h5, h6, h7⟩
    have hg : g < w.heap.size := by
      rcases Nat.lt_or_ge g w.heap.size with h | h
      · exact h
      · rw [Array.getElem?_eq_none h] at h3; cases h3
    rw [hs.2 g (by omega) hg]; exact h3
theorem slice_n {w : World} {base : Nat} {e : TypeId} {size : Nat} {v : Value} {n : Nat} {xs : List Value} (h : w.ownsRow base e size v n xs) : ∃ a cap, v = .slice a n cap := by
  rcases h.2 with ⟨h, h0⟩ | ⟨g, cap, cur, h, _⟩
  · exact ⟨none, 0, by rw [h, h0]⟩
  · exact ⟨_, _, h⟩
theorem lit1 {X : World} {v : Value} {t : TypeId} {j : Nat} {u : Value} (h : [v][j]? = some u) : (X.alloc (.cells #[v] t)).cell? ((⟨X.heap.size, 0, none⟩ : Addr).add j) = some u := by
  have e : (⟨X.heap.size, 0, none⟩ : Addr).add j = ⟨X.heap.size, 0 + j, none⟩ := by unfold Addr.add; split <;> simp_all
  rw [e, Nat.zero_add]
  exact ((Blk.new X #[v] t).cell j).trans (by simpa using h)
def cnt : List Entry → Nat
  | [] => 0
  | e :: st => e.1.count + cnt st
theorem todo_len : ∀ st : List Entry, (todo (st.map (·.1))).length = cnt st
  | [] => rfl
  | e :: st => by
    show (items e.1 ((st.map (·.1)).length + 1) ++ todo (st.map (·.1))).length = e.1.count + cnt st
    rw [List.length_append, items_len, todo_len st]
def StackOk (w0 : World) (st : List Entry) : Prop := ∀ e ∈ st, Fo e.2.1 e.1 w0 ∧ e.1.len ≤ e.2.2
def WalkAt {σ : Type} (stp : σ → Item → σ × Bool) (Inv : σ → World → Prop) (w0 : World) (B1 : Nat) (fin : σ) (gk : Nat) (left : Value) (wr : World) : Prop :=
  ∃ (st : List Entry) (s : σ), cnt st ≤ 1000000 ∧ st.length + cnt st ≤ 1000001 ∧ 2 * cnt st + st.length = gk ∧ StackOk w0 st ∧ wr.ownsRow B1 22 1 left st.length (rowOf st) ∧ tell stp s (todo (st.map (·.1))) = fin ∧ Inv s wr ∧ Below w0.heap.size w0 wr ∧ B1 ≤ wr.heap.size

theorem infoNodes0 : (Tryd.prog.info? 22).map (fun i => (i.zero, i.size, i.bytes)) = some (some (.slice none 0 0), 1, 24) := by kernel_rfl

/-! ### tree.Count -/
theorem wrap_one (x : Int) : IntKind.i64.wrap (IntKind.i64.wrap x + 1) = IntKind.i64.wrap (x + 1) := by
  simp [IntKind.wrap, IntKind.bits, IntKind.signed]; omega
theorem wrap_id (x : Nat) (h : x ≤ 1000000) : IntKind.i64.wrap (x : Int) = (x : Int) := by
  simp [IntKind.wrap, IntKind.bits, IntKind.signed]; omega
def CntAt (G c : Nat) (w : World) : Prop := Blk w G #[.int .i64 (IntKind.i64.wrap (c : Int))] 3
theorem tell_count : ∀ (l : List Item) (c : Nat), tell (fun (c : Nat) (_ : Item) => (c + 1, true)) c l = c + l.length
  | [], c => rfl
  | it :: l, c => by rw [tell, if_pos rfl, tell_count l (c + 1), List.length_cons]; omega
end Go.Proofs.YtahclcoabffmiaaDoor

/-
  'tree.Depth': 'tree.walk' under its closure (made by mk_ywd.py).
-/
namespace Go.Proofs.YtahclcoabffmiaaDoor
open Go.RowKit
set_option linter.unusedVariables false

/-! ### tree.counts, tree.Depth -/
def countsB (k : Int) : Bool := k != 2 && k != 3
def depStep (m : Nat) (it : Item) : Nat × Bool := (if countsB it.k = true then max m it.d else m, true)
def DepAt (G m : Nat) (w : World) : Prop := Blk w G #[.int .i64 (m : Int)] 3
end Go.Proofs.YtahclcoabffmiaaDoor
