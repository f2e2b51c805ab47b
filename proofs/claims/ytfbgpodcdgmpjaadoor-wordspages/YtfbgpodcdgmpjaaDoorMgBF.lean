/-
  Several texts in one: what the functions of the program and of the document's answer do.
-/
import Derived.Test.YtfbgpodcdgmpjaaDoorJOp
import Derived.Test.YtfbgpodcdgmpjaaDoorMgBE
import Derived.Test.YtfbgpodcdgmpjaaDoorYFo
import Derived.Deep.LoopGhost
import Derived.Laws.EntriesVeiled
import Derived.Laws.AppendOwn
import Derived.Deep.Cut

/-
  What the reference's Open of layer 13, and the program's isVoid, hasRaw and ahead do (made by mk_jah.py).
-/
namespace Go.Proofs.YtfbgpodcdgmpjaaDoor
open Go.RowKit
set_option linter.unusedVariables false
set_option linter.unusedSimpArgs false

set_option maxHeartbeats 8000000 in
set_option maxRecDepth 100000 in
theorem jropen_yes (sp : Int) (n : ByteArray) (ats : List (ByteArray × ByteArray)) (tx : ByteArray) (q qk : Option Addr) (cap kl ck : Nat) (w : World) (hc : Sl q ats w) (hf : Fits ats) (hn : n.size ≤ 10000) :
    Calls Tryd.prog 31 #[.agg #[.int .i64 1, .int .i64 sp, .string n, .slice q ats.length cap, .string tx, .slice qk kl ck]] w fun e w' => e = .returned (.string (bs (openL n.data.toList ats))) ∧ Below w.heap.size w w' := by
  have HC := hide hc
  have HF := hide hf
  have hlen : ats.length ≤ 1000 := hf.1
  have h60 : (⟨#[60]⟩ : ByteArray) ++ n = bs ([60] ++ n.data.toList) := by
    have : (⟨#[60]⟩ : ByteArray) = bs [60] := rfl
    rw [this, bs_add]
  have hbN := (Below.refl w.heap.size w).alloc (Nat.le_refl _) (Obj.cells #[.int .i64 1, .int .i64 sp, .string n, .slice q ats.length cap, .string tx, .slice qk kl ck] 47)
  have HBN := hide hbN
  have hn' : ¬ 9223372036854775807 < 1 + n.size := by omega
  clear hc hf hbN
  go_enter Tryd.func31, Tryd.ntmps31
  go_wp2
  go_loopw [3, 15] (fun x i wr => ∃ k : Nat, k ≤ ats.length ∧ i = .int .i64 k ∧ x = .string (bs ([60] ++ n.data.toList ++ attL ats k)) ∧ (attL ats k).length ≤ 80000 * k ∧ Below w.heap.size w wr) (fun _ i _ => ats.length - (intOf i).toNat)
  case atStart => exact ⟨0, Nat.zero_le _, rfl, by rw [attL, List.append_nil]; rfl, by simp [attL], unhide HBN⟩
  case round =>
    obtain ⟨k, hk, rfl, rfl, hal, hbw⟩ := hrel
    have hzw := hbw.size
    have hxz : (bs ([60] ++ n.data.toList ++ attL ats k)).size ≤ 80010001 := by
      rw [bs_size, List.length_append, List.length_append, data_len]; simp; omega
    by_cases hp : k < ats.length
    · have hpi : (k : Int) < (ats.length : Int) := by omega
      rcases (unhide HC).below hbw with h0 | ⟨g, o, rfl, hc2⟩
      · rw [h0] at hp; simp at hp
      obtain ⟨c1, c2⟩ := hc2 k hp
      clear hc2
      have hki : (k : Int) ≤ 1000 := by omega
      have hft := (unhide HF).2 k hp
      have CE := hide (fun w => rescape_any (av ats k) true w (by omega))
      have hel := esc_len true (av ats k).data.toList false
      rw [data_len] at hel
      have hab : ∀ X : ByteArray, X ++ ⟨#[32]⟩ ++ an ats k ++ ⟨#[61, 34]⟩ ++ bs (escL true (av ats k).data.toList) ++ ⟨#[34]⟩ = X ++ bs (attB (an ats k).data.toList (av ats k).data.toList) := fun X => by
        have := att_bs (an ats k) (bs (escL true (av ats k).data.toList))
        rw [bs_toList] at this
        unfold attB
        rw [← this]
        simp only [ByteArray.append_assoc]
      have habz : (attB (an ats k).data.toList (av ats k).data.toList).length ≤ 80000 := by
        unfold attB
        have : (escL true (av ats k).data.toList).length ≤ 6 * (av ats k).size := hel
        simp; omega
      have esz : (bs (escL true (av ats k).data.toList)).size ≤ 60000 := by
        rw [bs_size]
        have : (escL true (av ats k).data.toList).length ≤ 6 * (av ats k).size := hel
        omega
      have hatt : bs ([60] ++ n.data.toList ++ attL ats (k + 1)) = bs ([60] ++ n.data.toList ++ attL ats k) ++ bs (attB (an ats k).data.toList (av ats k).data.toList) := by
        rw [bs_bs, attL, List.append_assoc, List.append_assoc, List.append_assoc]
      have hatl : (attL ats (k + 1)).length ≤ 80000 * (k + 1) := by rw [attL, List.length_append]; omega
      have HAB := hide (hab (bs ([60] ++ n.data.toList ++ attL ats k)))
      have HATT := hide hatt
      have HATL := hide hatl
      clear hab hatt hatl hel
      generalize attB (an ats k).data.toList (av ats k).data.toList = ab at *
      generalize bs (escL true (av ats k).data.toList) = E at *
      generalize an ats k = a1 at *
      generalize av ats k = a2 at *
      generalize hX : bs ([60] ++ n.data.toList ++ attL ats k) = X at *
      clear hX
      have hbA : Below wr.heap.size wr (wr.alloc (.cells #[.string a1, .string a2] 49)) := (Below.refl _ _).alloc (Nat.le_refl _) _
      have hbA' := tr2 hbw hbA
      go_wp2_with fail
      go_quiet ((go_at_call 48; exact Calls.quiet_of_same (unhide CE _)))
      go_wp2
      go_roundw
      case rel => exact ⟨k + 1, by omega, by go_num, by rw [unhide HATT, ← unhide HAB], unhide HATL, _root_.Go.below_drewN hbA' _⟩
      case measure => simp [intOf]; omega
    · have hke : k = ats.length := by omega
      subst hke
      have hol : bs ([60] ++ n.data.toList ++ attL ats ats.length) ++ ⟨#[62]⟩ = bs (openL n.data.toList ats) := by
        have : (⟨#[62]⟩ : ByteArray) = bs [62] := rfl
        rw [this, bs_bs]; unfold openL; simp
      have HOL := hide hol
      clear hol
      generalize hX : bs ([60] ++ n.data.toList ++ attL ats ats.length) = X at *
      clear hX
      go_wp2
      go_ret
      exact ⟨by rw [← unhide HOL]; rfl, hbw⟩


set_option maxHeartbeats 1000000 in
set_option maxRecDepth 100000 in
theorem jropen_no (k sp : Int) (n tx : ByteArray) (q qk : Option Addr) (al c kl ck : Nat) (w : World) (hk : ¬ k = 1) :
    Calls Tryd.prog 31 #[.agg #[.int .i64 k, .int .i64 sp, .string n, .slice q al c, .string tx, .slice qk kl ck]] w fun e w' => e = .returned (.string ⟨#[]⟩) ∧ Below w.heap.size w w' := by
  have e1 : (k != 1) = true := by simpa using hk
  have hbA := (Below.refl w.heap.size w).alloc (Nat.le_refl _) (Obj.cells #[.int .i64 k, .int .i64 sp, .string n, .slice q al c, .string tx, .slice qk kl ck] 47)
  have HB := hide hbA
  clear hbA hk
  go_enter Tryd.func31, Tryd.ntmps31
  go_wp2
  go_ret
  exact ⟨rfl, unhide HB⟩
theorem jropen_any (k sp : Int) (n : ByteArray) (ats : List (ByteArray × ByteArray)) (tx : ByteArray) (q qk : Option Addr) (c kl ck : Nat) (w : World) (hs : Sl q ats w) (hf : Fits ats) (hn : n.size ≤ 10000) :
    Calls Tryd.prog 31 #[.agg #[.int .i64 k, .int .i64 sp, .string n, .slice q ats.length c, .string tx, .slice qk kl ck]] w fun e w' => e = .returned (.string (bs (opL k n.data.toList ats))) ∧ Below w.heap.size w w' := by
  unfold opL
  by_cases h : k = 1
  · subst h
    rw [if_pos rfl]
    exact jropen_yes sp n ats tx q qk c kl ck w hs hf hn
  · rw [if_neg h]
    exact jropen_no k sp n tx q qk ats.length c kl ck w h

/-! ### what a node's text begins with -/
def rwNs : List (List UInt8) := [[115, 99, 114, 105, 112, 116], [115, 116, 121, 108, 101], [120, 109, 112]]
theorem raw_of (l : List UInt8) : (ofN l == 15 || ofN l == 16) = inB l rwNs := by
  by_cases h : l ∈ allNs
  · exact (show ∀ l ∈ allNs, (ofN l == 15 || ofN l == 16) = inB l rwNs by decide +kernel) l h
  · rw [ofN_no h, inB_no h (by decide +kernel)]; rfl
def vdB (sp : Int) (n : ByteArray) : Bool := (sp == 0) && inB n.toList voidNs
def rwB (k sp : Int) (n : ByteArray) : Bool := (k == 1) && ((sp == 0) && inB n.toList rwNs)
def noteL (t : List UInt8) : List UInt8 := [60, 33, 45, 45] ++ (t ++ [45, 45, 62])
def ahL (k : Int) (n : List UInt8) (ats : List (ByteArray × ByteArray)) (tx : List UInt8) (raw : Bool) : List UInt8 :=
  if k = 1 then openL n ats else if k = 3 then noteL tx else if k = 2 then (if raw = true then tx else escL false tx) else []
theorem note_bs (x : ByteArray) : (⟨#[60, 33, 45, 45]⟩ : ByteArray) ++ x ++ ⟨#[45, 45, 62]⟩ = bs (noteL x.data.toList) := by
  have h1 : (⟨#[60, 33, 45, 45]⟩ : ByteArray) = bs [60, 33, 45, 45] := rfl
  have h2 : (⟨#[45, 45, 62]⟩ : ByteArray) = bs [45, 45, 62] := rfl
  rw [h1, h2, bs_add, bs_bs]; unfold noteL; simp
end Go.Proofs.YtfbgpodcdgmpjaaDoor

/-
  What 'tree.walk' does, whatever it hands each node to.
-/
namespace Go.Proofs.YtfbgpodcdgmpjaaDoor
open Go.RowKit
set_option linter.unusedVariables false

/-- A node, and how deep it lies. -/
structure Item where
  k : Int
  sp : Int
  n : ByteArray
  ats : List (ByteArray × ByteArray)
  tx : ByteArray
  kids : Forest
  d : Nat
/-- All nodes in their order, each ahead of its kids. -/
def items : Forest → Nat → List Item
  | .nil, _ => []
  | .cons k sp n ats tx kids rest, d => ⟨k, sp, n, ats, tx, kids, d⟩ :: (items kids (d + 1) ++ items rest d)
theorem items_len : ∀ (f : Forest) (d : Nat), (items f d).length = f.count
  | .nil, d => rfl
  | .cons k sp n ats tx kids rest, d => by
    show (items kids (d + 1) ++ items rest d).length + 1 = 1 + kids.count + rest.count
    rw [List.length_append, items_len kids, items_len rest]; omega
def todo : List Forest → List Item
  | [] => []
  | f :: st => items f (st.length + 1) ++ todo st
/-- What is told of nodes, one behind the other, until it is enough. -/
def tell {σ : Type} (stp : σ → Item → σ × Bool) : σ → List Item → σ
  | s, [] => s
  | s, it :: r => if (stp s it).2 = true then tell stp (stp s it).1 r else (stp s it).1

abbrev Entry := Forest × Option Addr × Nat
def Entry.val (e : Entry) : Value := .slice e.2.1 e.1.len e.2.2
def rowOf (st : List Entry) : List Value := (st.map Entry.val).reverse
theorem rowOf_cons (e : Entry) (st : List Entry) : rowOf (e :: st) = rowOf st ++ [e.val] := by simp [rowOf]
theorem rowOf_len (st : List Entry) : (rowOf st).length = st.length := by simp [rowOf]
/-- The row's last value, where it lies, and the row without it, or with another one in its place. -/
theorem row_last {w : World} {base : Nat} {e : TypeId} {v x : Value} {n : Nat} {xs : List Value} (h : w.ownsRow base e 1 v (n + 1) (xs ++ [x])) (hl : xs.length = n) :
    ∃ b cap, v = .slice (some ⟨b, 0, none⟩) (n + 1) cap ∧ base ≤ b ∧ n + 1 ≤ cap ∧ w.cell? ⟨b, n, none⟩ = some x ∧ w.frozen? ⟨b, n, none⟩ = false ∧ b < w.heap.size ∧
      w.ownsRow base e 1 (.slice (some ⟨b, 0, none⟩) n cap) n xs ∧ ∀ y, (w.setCell ⟨b, n, none⟩ y).ownsRow base e 1 (.slice (some ⟨b, 0, none⟩) (n + 1) cap) (n + 1) (xs ++ [y]) := by
  obtain ⟨hlen, h⟩ := h
  rcases h with ⟨_, h0⟩ | ⟨b, cap, cur, rfl, h1, h2, h3, h4, h5, h6⟩
  · omega
  have hsz : n < cur.size := by omega
  have hx : cur[n]? = some x := by
    have := congrArg (fun l => l[n]?) h6
    simp only [Nat.mul_one] at this
    rw [List.getElem?_take, if_pos (by omega), List.getElem?_append_right (by omega), hl, Nat.sub_self] at this
    simpa using this
  have hc : w.cell? ⟨b, n, none⟩ = some x := (Joins.cell_of_block h2 n).trans hx
  have hblt : b < w.heap.size := World.block_lt_of_cell? w _ hc
  refine ⟨b, cap, rfl, h1, h3, hc, ?_, hblt, ⟨by omega, Or.inr ⟨b, cap, cur, rfl, h1, h2, by omega, h4, h5, ?_⟩⟩, fun y => ⟨by simp; omega, Or.inr ⟨b, cap, cur.set n y hsz, rfl, h1, ?_, h3, h4, by rw [Array.size_set]; exact h5, ?_⟩⟩⟩
  · have : Blk w b cur e := h2
    exact this.frozen n
  · have := congrArg (fun l => l.take n) h6
    simp only [Nat.mul_one] at this ⊢
    rw [List.take_take, Nat.min_eq_left (by omega), List.take_left' hl] at this
    exact this
  · have : Blk w b cur e := h2
    exact this.set n hsz y
  · simp only [Nat.mul_one] at h6 ⊢
    rw [Array.toList_set, List.take_set, h6, List.set_append_right _ _ (by omega), hl, Nat.sub_self]
    rfl
end Go.Proofs.YtfbgpodcdgmpjaaDoor

/-
  What 'tree.walk' does, whatever it hands each node to, if that writes but into blocks that were there ahead of it.
-/
namespace Go.Proofs.YtfbgpodcdgmpjaaDoor
open Go.RowKit
set_option linter.unusedVariables false

def Since (B : Nat) (w w' : World) : Prop := w.heap.size ≤ w'.heap.size ∧ ∀ b, B ≤ b → b < w.heap.size → w'.heap[b]? = w.heap[b]?
theorem ownsRow_since {w w' : World} {B base : Nat} {e : TypeId} {size : Nat} {v : Value} {n : Nat} {xs : List Value} (h : w.ownsRow base e size v n xs) (hs : Since B w w') (hB : B ≤ base) : w'.ownsRow base e size v n xs := by
  obtain ⟨hl, h⟩ := h
  refine ⟨hl, ?_⟩
  rcases h with h | ⟨g, cap, cur, h1, h2, h3, h4, h5, h6, h7⟩
  · exact .inl h
  · refine .inr ⟨g, cap, cur, h1, h2, ?_, h4, h5, h6, h7⟩
    have hg : g < w.heap.size := by
      rcases Nat.lt_or_ge g w.heap.size with h | h
      · exact h
      · rw [Array.getElem?_eq_none h] at h3; cases h3
    rw [hs.2 g (by omega) hg]; exact h3
theorem slice_n {w : World} {base : Nat} {e : TypeId} {size : Nat} {v : Value} {n : Nat} {xs : List Value} (h : w.ownsRow base e size v n xs) : ∃ a cap, v = .slice a n cap := by
  rcases h.2 with ⟨h, h0⟩ | ⟨g, cap, cur, h, _⟩
  · exact ⟨none, 0, by rw [h, h0]⟩
  · exact ⟨_, _, h⟩
theorem lit1 {X : World} {v : Value} {t : TypeId} {j : Nat} {u : Value} (h : [v][j]? = some u) : (X.alloc (.cells #[v] t)).cell? ((⟨X.heap.size, 0, none⟩ : Addr).add j) = some u := by
  have e : (⟨X.heap.size, 0, none⟩ : Addr).add j = ⟨X.heap.size, 0 + j, none⟩ := by unfold Addr.add; split <;> simp_all
  rw [e, Nat.zero_add]
  exact ((Blk.new X #[v] t).cell j).trans (by simpa using h)
def cnt : List Entry → Nat
  | [] => 0
  | e :: st => e.1.count + cnt st
theorem todo_len : ∀ st : List Entry, (todo (st.map (·.1))).length = cnt st
  | [] => rfl
  | e :: st => by
    show (items e.1 ((st.map (·.1)).length + 1) ++ todo (st.map (·.1))).length = e.1.count + cnt st
    rw [List.length_append, items_len, todo_len st]
def StackOk (w0 : World) (st : List Entry) : Prop := ∀ e ∈ st, Fo e.2.1 e.1 w0 ∧ e.1.len ≤ e.2.2
def WalkAt {σ : Type} (stp : σ → Item → σ × Bool) (Inv : σ → World → Prop) (w0 : World) (B1 : Nat) (fin : σ) (gk : Nat) (left : Value) (wr : World) : Prop :=
  ∃ (st : List Entry) (s : σ), cnt st ≤ 1000000 ∧ st.length + cnt st ≤ 1000001 ∧ 2 * cnt st + st.length = gk ∧ StackOk w0 st ∧ wr.ownsRow B1 22 1 left st.length (rowOf st) ∧ tell stp s (todo (st.map (·.1))) = fin ∧ Inv s wr ∧ Below w0.heap.size w0 wr ∧ B1 ≤ wr.heap.size

theorem infoNodes0 : (Tryd.prog.info? 22).map (fun i => (i.zero, i.size, i.bytes)) = some (some (.slice none 0 0), 1, 24) := by kernel_rfl

/-! ### tree.Count -/
theorem wrap_one (x : Int) : IntKind.i64.wrap (IntKind.i64.wrap x + 1) = IntKind.i64.wrap (x + 1) := by
  simp [IntKind.wrap, IntKind.bits, IntKind.signed]; omega
theorem wrap_id (x : Nat) (h : x ≤ 1000000) : IntKind.i64.wrap (x : Int) = (x : Int) := by
  simp [IntKind.wrap, IntKind.bits, IntKind.signed]; omega
def CntAt (G c : Nat) (w : World) : Prop := Blk w G #[.int .i64 (IntKind.i64.wrap (c : Int))] 3
theorem tell_count : ∀ (l : List Item) (c : Nat), tell (fun (c : Nat) (_ : Item) => (c + 1, true)) c l = c + l.length
  | [], c => rfl
  | it :: l, c => by rw [tell, if_pos rfl, tell_count l (c + 1), List.length_cons]; omega
end Go.Proofs.YtfbgpodcdgmpjaaDoor

/-
  'tree.Depth': 'tree.walk' under its closure (made by mk_ywd.py).
-/
namespace Go.Proofs.YtfbgpodcdgmpjaaDoor
open Go.RowKit
set_option linter.unusedVariables false

/-! ### tree.counts, tree.Depth -/
def countsB (k : Int) : Bool := k != 2 && k != 3
def depStep (m : Nat) (it : Item) : Nat × Bool := (if countsB it.k = true then max m it.d else m, true)
def DepAt (G m : Nat) (w : World) : Prop := Blk w G #[.int .i64 (m : Int)] 3
end Go.Proofs.YtfbgpodcdgmpjaaDoor
