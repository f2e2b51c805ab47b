/-
  Several texts in one: what the functions of the program and of the document's answer do.
-/
import Derived.Test.YtfdhmhdemfbfeaaGreatDoorRows
import Derived.WalkKit
import Derived.WalkSpells
import Derived.WalkLawsBesides
import Derived.Deep.QuietTactic
import Derived.BigQuiet
import Derived.Laws.BytesArg
import Derived.Lib.PathFns
import Derived.Lib.IndexBytes
import Derived.Lib.SmallJoins
import Derived.Shelf.Strings.Builder1

/-
  Small plain facts that the walks of this seat share: bytes as lists, what stays behind a call, how an answer is told.
-/
namespace Go.Proofs.YtfdhmhdemfbfeaaGreatDoor
open Go.RowKit
set_option linter.unusedVariables false

theorem hide {p : Prop} (h : p) : Hid p := h
theorem unhide {p : Prop} (h : Hid p) : p := h
theorem ret1 {a x : Value} (h1 : a = x) : Ending.returned a = .returned x := by rw [h1]
theorem ret2 {a b x y : Value} (h1 : a = x) (h2 : b = y) : Ending.returned (.tuple #[a, b]) = .returned (.tuple #[x, y]) := by rw [h1, h2]
theorem ret3 {a b c x y z : Value} (h1 : a = x) (h2 : b = y) (h3 : c = z) : Ending.returned (.tuple #[a, b, c]) = .returned (.tuple #[x, y, z]) := by rw [h1, h2, h3]

theorem below_draws (w : World) (n : Nat) : Below w.heap.size w (w.drewN n) := _root_.Go.below_drewN (Below.refl _ _) n
theorem bcell {W w1 : World} (hb : Below W.heap.size W w1) : (∀ b o, b < W.heap.size → w1.cell? ⟨b, o, none⟩ = W.cell? ⟨b, o, none⟩) ∧ (∀ b o, b < W.heap.size → w1.frozen? ⟨b, o, none⟩ = W.frozen? ⟨b, o, none⟩) :=
  ⟨fun b o h => hb.cell (p := ⟨b, o, none⟩) h, fun b o h => hb.frozen (p := ⟨b, o, none⟩) h⟩
theorem bel_of {w w1 : World} {X : Obj} (hb1 : Below (w.alloc X).heap.size (w.alloc X) w1) : Below w.heap.size w w1 :=
  ((Below.refl _ _).alloc (Nat.le_refl _) _).trans (hb1.mono (by simp))
theorem tr2 {w w1 w2 : World} (h1 : Below w.heap.size w w1) (h2 : Below w1.heap.size w1 w2) : Below w.heap.size w w2 := h1.trans (h2.mono h1.size)
theorem tr3 {w w1 w2 w3 : World} (h1 : Below w.heap.size w w1) (h2 : Below w1.heap.size w1 w2) (h3 : Below w2.heap.size w2 w3) : Below w.heap.size w w3 := tr2 (tr2 h1 h2) h3
theorem ownsRow_below {w w1 : World} {base : Nat} {e : TypeId} {size : Nat} {v : Value} {n : Nat} {xs : List Value} (h : w.ownsRow base e size v n xs) (hb : Below w.heap.size w w1) : w1.ownsRow base e size v n xs := by
  obtain ⟨hl, h⟩ := h
  refine ⟨hl, ?_⟩
  rcases h with h | ⟨g, cap, cur, h1, h2, h3, h4, h5, h6, h7⟩
  · exact .inl h
  · refine .inr ⟨g, cap, cur, h1, h2, ?_, h4, h5, h6, h7⟩
    have hg : g < w.heap.size := by
      rcases Nat.lt_or_ge g w.heap.size with h | h
      · exact h
      · rw [Array.getElem?_eq_none h] at h3; cases h3
    rw [hb.block g hg]; exact h3
theorem slice_of {w : World} {base : Nat} {e : TypeId} {size : Nat} {v : Value} {n : Nat} {xs : List Value} (h : w.ownsRow base e size v n xs) : ∃ a m cap, v = .slice a m cap := by
  rcases h.2 with ⟨h, _⟩ | ⟨g, cap, cur, h, _⟩
  · exact ⟨_, _, _, h⟩
  · exact ⟨_, _, _, h⟩

/-! ### bytes -/

def bs (l : List UInt8) : ByteArray := ⟨l.toArray⟩
def dgt (l : List UInt8) (k : Nat) : Nat := (l.getD k 0).toNat
def byt (x : Int) : UInt8 := UInt8.ofNat x.toNat
def str (xs : List Int) : ByteArray := strOfNums xs
theorem str_bs (xs : List Int) : str xs = bs (xs.map byt) := rfl
theorem byt_toNat (x : Int) (h0 : 0 ≤ x) (h1 : x < 256) : ((byt x).toNat : Int) = x := by
  have : x.toNat < 256 := by omega
  unfold byt
  rw [UInt8.toNat_ofNat']
  omega
theorem byt_nat (k : Nat) (h : k < 256) : (byt (k : Int)).toNat = k := by
  have := byt_toNat (k : Int) (by omega) (by omega)
  omega
theorem byt_self (c : UInt8) : byt (c.toNat : Int) = c := by
  apply UInt8.toNat.inj
  exact byt_nat _ (UInt8.toNat_lt c)
theorem bs_toList (l : List UInt8) : (bs l).data.toList = l := by simp [bs]
theorem bs_size (l : List UInt8) : (bs l).size = l.length := by simp [bs, ByteArray.size]
theorem bs_self (s : ByteArray) : bs s.data.toList = s := by simp [bs]
theorem bs_inj {a b : List UInt8} (h : bs a = bs b) : a = b := by
  have := congrArg (fun x : ByteArray => x.data.toList) h
  simpa [bs_toList] using this
theorem data_len (s : ByteArray) : s.data.toList.length = s.size := by simp
theorem add_bs (a b : ByteArray) : a ++ b = bs (a.data.toList ++ b.data.toList) := by
  apply ByteArray.ext
  simp [bs]
theorem bs_add (a : List UInt8) (b : ByteArray) : bs a ++ b = bs (a ++ b.data.toList) := by rw [add_bs, bs_toList]
theorem bs_bs (a b : List UInt8) : bs a ++ bs b = bs (a ++ b) := by rw [add_bs, bs_toList, bs_toList]
theorem str_size (xs : List Int) : (str xs).size = xs.length := strOfNums_size xs
theorem dgt_lt (l : List UInt8) (k : Nat) : dgt l k < 256 := by
  unfold dgt; exact UInt8.toNat_lt _
theorem dgt_at (s : ByteArray) (k : Nat) (h : k < s.size) : (s[k]).toNat = dgt s.data.toList k := by
  have h' : k < s.data.toList.length := by simpa using h
  unfold dgt
  rw [List.getD, List.getElem?_eq_getElem h']
  rfl
theorem dgt_drop (l : List UInt8) (a k : Nat) : dgt (l.drop a) k = dgt l (a + k) := by
  unfold dgt
  simp [List.getD, List.getElem?_drop]
theorem dgt_from (s : ByteArray) (a k : Nat) (h : k < (s.extract a s.size).size) : ((s.extract a s.size)[k]).toNat = dgt s.data.toList (a + k) := by
  rw [dgt_at, Lib.extract_to_end, dgt_drop]
theorem not_empty (s : ByteArray) (h : 0 < s.size) : s.toList.isEmpty = false := by
  have h' : 0 < s.data.toList.length := by simpa using h
  rw [Lib.toList_data]
  cases e : s.data.toList with
  | nil => simp [e] at h'
  | cons a b => rfl
theorem is_empty (s : ByteArray) (h : s.size = 0) : s.toList.isEmpty = true := by
  have : s.data.toList = [] := List.eq_nil_of_length_eq_zero (by simpa using h)
  simp [Lib.toList_data, this]
theorem not_bare (s : ByteArray) (h : 0 < s.size) : ¬ s = ByteArray.empty := by
  intro e; subst e; simp at h
theorem toList_eq {x y : ByteArray} : x.toList = y.toList ↔ x = y := by
  rw [Lib.toList_data, Lib.toList_data]
  constructor
  · intro h
    cases x; cases y
    simpa using h
  · intro h; rw [h]
theorem beq_yes {x y : ByteArray} (h : x = y) : (x.toList == y.toList) = true := by rw [h]; simp
theorem beq_no {x y : ByteArray} (h : ¬ x = y) : (x.toList == y.toList) = false := by
  apply beq_eq_false_iff_ne.2
  intro e; exact h (toList_eq.1 e)

/-- The text of a few bytes that lie in the last new block, told as numbers. -/
theorem convL (w : World) (n : Nat) (xs : List Int) (h : n = w.heap.size) :
    Sem.run Tryz.prog (convert 79 9 (Value.slice (some { block := n, off := 0 }) xs.length xs.length)) (w.alloc (Obj.cells (xs.map (Value.int .u8)).toArray 5)) = .ok (.string (str xs)) (w.alloc (Obj.cells (xs.map (Value.int .u8)).toArray 5)) := by
  subst h
  refine run_convert_bytes_arg (P := Tryz.prog) _ 79 5 Tryz.underlying79 Tryz.underlying5 w.heap.size 0 xs.length xs.length xs rfl ?_ 9 Tryz.underlying9
  intro i hi
  rw [World.cell?_alloc_mark]
  simp [List.getD, List.getElem?_eq_getElem hi]
end Go.Proofs.YtfdhmhdemfbfeaaGreatDoor

/-
  What the methods of strings.Builder do that the program calls: the library's contracts, laid at this program: the builder holds the bytes that were written, one behind the other, and tells them.
-/
namespace Go.Proofs.YtfdhmhdemfbfeaaGreatDoor
open Go.RowKit
set_option linter.unusedVariables false

def Tryz.vrenB : Go.Shelf.Ren := ⟨fun | 169 => 34 | 240 => 55 | 276 => 73 | n => n,
  fun | 0 => 0 | 3 => 3 | 4 => 4 | 5 => 5 | 9 => 9 | 20 => 20 | 37 => 79 | 70 => 78 | 72 => 81 | 75 => 83 | 80 => 87 | 127 => 100 | 164 => 112 | n => n,
  fun n => n⟩

theorem Tryz.vlays169 : Go.Proofs.Lays.n169 Tryz.prog Tryz.vrenB where
  mixed := by kernel_rfl
  f169 := Tryz.func34.trans (congrArg some (by kernel_rfl))
  t0 := Tryz.underlying0
  a0 := Tryz.isAgg0
  z0 := Tryz.sizeOf0
  v0 := Tryz.zeroValue0
  t3 := Tryz.underlying3
  a3 := Tryz.isAgg3
  z3 := Tryz.sizeOf3
  v3 := Tryz.zeroValue3
  t9 := Tryz.underlying9
  a9 := Tryz.isAgg9
  z9 := Tryz.sizeOf9
  v9 := Tryz.zeroValue9
  t37 := Tryz.underlying79
  a37 := Tryz.isAgg79
  z37 := Tryz.sizeOf79
  v37 := Tryz.zeroValue79
  t70 := Tryz.underlying78
  a70 := Tryz.isAgg78
  z70 := Tryz.sizeOf78
  v70 := Tryz.zeroValue78
  t72 := Tryz.underlying81
  a72 := Tryz.isAgg81
  z72 := Tryz.sizeOf81
  v72 := Tryz.zeroValue81
  t127 := Tryz.underlying100
  a127 := Tryz.isAgg100
  z127 := Tryz.sizeOf100
  v127 := Tryz.zeroValue100
theorem Tryz.vextraB : Builder.Extra Tryz.prog Tryz.vrenB where
  sizeBuilder := by kernel_rfl
  liesBuilder := by kernel_rfl
  t5 := Tryz.underlying5
  a5 := Tryz.isAgg5
  z5 := Tryz.sizeOf5
  v5 := Tryz.zeroValue5
  infoByte := by kernel_rfl
  cellsByte := by kernel_rfl
  sizeByte := by kernel_rfl
  neB5 := by decide

def vBld (B b : Nat) (l : List UInt8) (w : World) : Prop := Lib.IsBuilder 81 5 B b (Lib.byteCells l) w

theorem vstring_any (B b : Nat) (l : List UInt8) (w : World) (h : vBld B b l w) (h0 : l ≠ []) :
    Calls Tryz.prog 34 #[.pointer (some ⟨b, 0, none⟩)] w fun e w' => e = .returned (.string ⟨l.toArray⟩) ∧ Below B w w' :=
  Any.Builder_String Tryz.vlays169 Tryz.vextraB B b l w h h0

theorem vstring_nil (b : Nat) (p : Value) (w : World) (hbk : w.heap[b]? = some (.cells #[p, .slice none 0 0] 81 (0, 0))) :
    Calls Tryz.prog 34 #[.pointer (some ⟨b, 0, none⟩)] w fun e w' => e = .returned (.string ⟨#[]⟩) ∧ Below w.heap.size w w' :=
  Any.Builder_String_nil Tryz.vlays169 Tryz.vextraB w.heap.size b p w hbk

theorem vbld_below {B b : Nat} {l : List UInt8} {w w1 : World} (h : vBld B b l w) (hb : Below w.heap.size w w1) : vBld B b l w1 := by
  have one : ∀ p, Lib.BuilderAt 81 5 B b p (Lib.byteCells l) w → Lib.BuilderAt 81 5 B b p (Lib.byteCells l) w1 := by
    intro p h
    have hlt := h.lt
    obtain ⟨hB, v, hbk, hown, hne⟩ := h
    refine ⟨hB, v, (hb.block b hlt).trans hbk, ?_, hne⟩
    obtain ⟨hl, h⟩ := hown
    refine ⟨hl, ?_⟩
    rcases h with h | ⟨g, cap, cur, h1, h2, h3, h4⟩
    · exact .inl h
    · refine .inr ⟨g, cap, cur, h1, h2, ?_, h4⟩
      have hg : g < w.heap.size := by
        rcases Nat.lt_or_ge g w.heap.size with h | h
        · exact h
        · rw [Array.getElem?_eq_none h] at h3; cases h3
      rw [hb.block g hg]; exact h3
  rcases h with h | h
  · exact .inl (one _ h)
  · exact .inr (one _ h)

theorem vbld_new (w : World) : vBld w.heap.size w.heap.size [] (w.alloc (.cells #[.pointer none, .slice none 0 0] 81)) := by
  refine .inl ⟨Nat.le_refl _, .slice none 0 0, ?_, World.ownsRow_nil _ _ _ _, by simp [Value.ownBlock]⟩
  exact heap_alloc_new _ _
def Tryz.renW : Go.Shelf.Ren := ⟨fun | 167 => 95 | 240 => 55 | 276 => 73 | n => n,
  fun | 0 => 0 | 3 => 3 | 4 => 4 | 5 => 5 | 9 => 9 | 20 => 20 | 37 => 79 | 70 => 78 | 72 => 81 | 75 => 83 | 80 => 87 | 127 => 100 | 164 => 112 | n => n,
  fun n => n⟩

theorem Tryz.lays167 : Go.Proofs.Lays.n167 Tryz.prog Tryz.renW where
  mixed := by kernel_rfl
  f167 := Tryz.func95.trans (congrArg some (by kernel_rfl))
  f240 := Tryz.func55.trans (congrArg some (by kernel_rfl))
  f276 := Tryz.func73.trans (congrArg some (by kernel_rfl))
  t0 := Tryz.underlying0
  a0 := Tryz.isAgg0
  z0 := Tryz.sizeOf0
  v0 := Tryz.zeroValue0
  t4 := Tryz.underlying4
  a4 := Tryz.isAgg4
  z4 := Tryz.sizeOf4
  v4 := Tryz.zeroValue4
  t5 := Tryz.underlying5
  a5 := Tryz.isAgg5
  z5 := Tryz.sizeOf5
  v5 := Tryz.zeroValue5
  t9 := Tryz.underlying9
  a9 := Tryz.isAgg9
  z9 := Tryz.sizeOf9
  v9 := Tryz.zeroValue9
  t20 := Tryz.underlying20
  a20 := Tryz.isAgg20
  z20 := Tryz.sizeOf20
  v20 := Tryz.zeroValue20
  t37 := Tryz.underlying79
  a37 := Tryz.isAgg79
  z37 := Tryz.sizeOf79
  v37 := Tryz.zeroValue79
  t70 := Tryz.underlying78
  a70 := Tryz.isAgg78
  z70 := Tryz.sizeOf78
  v70 := Tryz.zeroValue78
  t72 := Tryz.underlying81
  a72 := Tryz.isAgg81
  z72 := Tryz.sizeOf81
  v72 := Tryz.zeroValue81
  t75 := Tryz.underlying83
  a75 := Tryz.isAgg83
  z75 := Tryz.sizeOf83
  v75 := Tryz.zeroValue83
  t164 := Tryz.underlying112
  a164 := Tryz.isAgg112
  z164 := Tryz.sizeOf112
  v164 := Tryz.zeroValue112
theorem Tryz.extraW : Builder.Extra Tryz.prog Tryz.renW where
  sizeBuilder := by kernel_rfl
  liesBuilder := by kernel_rfl
  t5 := Tryz.underlying5
  a5 := Tryz.isAgg5
  z5 := Tryz.sizeOf5
  v5 := Tryz.zeroValue5
  infoByte := by kernel_rfl
  cellsByte := by kernel_rfl
  sizeByte := by kernel_rfl
  neB5 := by decide

theorem writeByte_any (B b : Nat) (l : List UInt8) (c : Nat) (w : World) (hc : c < 256) (h : vBld B b l w) (hlen : l.length + 1 ≤ 140737488355328) (hBw : B ≤ w.heap.size) :
    Calls Tryz.prog 95 #[.pointer (some ⟨b, 0, none⟩), .int .u8 (c : Int)] w fun e w' => e = .returned .nilIface ∧ vBld B b (l ++ [byt c]) w' ∧ Below B w w' := by
  refine (Any.Builder_WriteByte Tryz.lays167 Tryz.extraW B b (Lib.byteCells l) (c : Int) w h (by rw [Lib.byteCells_length]; exact hlen) hBw).mono ?_
  rintro e w' ⟨he, hb, hbl⟩
  refine ⟨he, .inr ?_, hbl⟩
  have e1 : Lib.byteCells (l ++ [byt c]) = Lib.byteCells l ++ [.int .u8 (c : Int)] := by
    rw [Lib.byteCells_append]
    have : Lib.byteCells [byt c] = [.int .u8 ((byt c).toNat : Int)] := rfl
    rw [this, byt_nat c hc]
  rw [e1]
  exact hb
end Go.Proofs.YtfdhmhdemfbfeaaGreatDoor
