/-
  Small plain facts that the walks of this seat share: bytes as lists, what stays behind a call, how an answer is told.
-/
import Derived.Test.YtbaoomkdlbjhlaaRows
import Derived.WalkKit
import Derived.WalkSpells
import Derived.WalkLawsBesides
import Derived.Deep.QuietTactic
import Derived.BigQuiet
import Derived.Laws.BytesArg
import Derived.Lib.PathFns
import Derived.Lib.IndexBytes
import Derived.Lib.SmallJoins
namespace Go.Proofs.Ytbaoomkdlbjhlaa
open Go.RowKit
set_option linter.unusedVariables false

theorem hide {p : Prop} (h : p) : Hid p := h
theorem unhide {p : Prop} (h : Hid p) : p := h
theorem ret1 {a x : Value} (h1 : a = x) : Ending.returned a = .returned x := by rw [h1]
theorem ret2 {a b x y : Value} (h1 : a = x) (h2 : b = y) : Ending.returned (.tuple #[a, b]) = .returned (.tuple #[x, y]) := by rw [h1, h2]
theorem ret3 {a b c x y z : Value} (h1 : a = x) (h2 : b = y) (h3 : c = z) : Ending.returned (.tuple #[a, b, c]) = .returned (.tuple #[x, y, z]) := by rw [h1, h2, h3]

theorem below_draws (w : World) (n : Nat) : Below w.heap.size w (w.drewN n) := below_drewN (Below.refl _ _) n
theorem bcell {W w1 : World} (hb : Below W.heap.size W w1) : (∀ b o, b < W.heap.size → w1.cell? ⟨b, o, none⟩ = W.cell? ⟨b, o, none⟩) ∧ (∀ b o, b < W.heap.size → w1.frozen? ⟨b, o, none⟩ = W.frozen? ⟨b, o, none⟩) :=
  ⟨fun b o h => hb.cell (p := ⟨b, o, none⟩) h, fun b o h => hb.frozen (p := ⟨b, o, none⟩) h⟩
theorem bel_of {w w1 : World} {X : Obj} (hb1 : Below (w.alloc X).heap.size (w.alloc X) w1) : Below w.heap.size w w1 :=
  ((Below.refl _ _).alloc (Nat.le_refl _) _).trans (hb1.mono (by simp))
theorem tr2 {w w1 w2 : World} (h1 : Below w.heap.size w w1) (h2 : Below w1.heap.size w1 w2) : Below w.heap.size w w2 := h1.trans (h2.mono h1.size)
theorem tr3 {w w1 w2 w3 : World} (h1 : Below w.heap.size w w1) (h2 : Below w1.heap.size w1 w2) (h3 : Below w2.heap.size w2 w3) : Below w.heap.size w w3 := tr2 (tr2 h1 h2) h3
theorem ownsRow_below {w w1 : World} {base : Nat} {e : TypeId} {size : Nat} {v : Value} {n : Nat} {xs : List Value} (h : w.ownsRow base e size v n xs) (hb : Below w.heap.size w w1) : w1.ownsRow base e size v n xs := by
  obtain ⟨hl, h⟩ := h
  refine ⟨hl, ?_⟩
  rcases h with h | ⟨g, cap, cur, h1, h2, h3, h4, h5, h6, h7⟩
  · exact .inl h
  · refine .inr ⟨g, cap, cur, h1, h2, ?_, h4, h5, h6, h7⟩
    have hg : g < w.heap.size := by
      rcases Nat.lt_or_ge g w.heap.size with h | h
      · exact h
      · rw [Array.getElem?_eq_none h] at h3; cases h3
    rw [hb.block g hg]; exact h3
theorem slice_of {w : World} {base : Nat} {e : TypeId} {size : Nat} {v : Value} {n : Nat} {xs : List Value} (h : w.ownsRow base e size v n xs) : ∃ a m cap, v = .slice a m cap := by
  rcases h.2 with ⟨h, _⟩ | ⟨g, cap, cur, h, _⟩
  · exact ⟨_, _, _, h⟩
  · exact ⟨_, _, _, h⟩

/-! ### bytes -/

def bs (l : List UInt8) : ByteArray := ⟨l.toArray⟩
def dgt (l : List UInt8) (k : Nat) : Nat := (l.getD k 0).toNat
def byt (x : Int) : UInt8 := UInt8.ofNat x.toNat
def str (xs : List Int) : ByteArray := strOfNums xs
theorem str_bs (xs : List Int) : str xs = bs (xs.map byt) := rfl
theorem byt_toNat (x : Int) (h0 : 0 ≤ x) (h1 : x < 256) : ((byt x).toNat : Int) = x := by
  have : x.toNat < 256 := by omega
  unfold byt
  rw [UInt8.toNat_ofNat']
  omega
theorem byt_nat (k : Nat) (h : k < 256) : (byt (k : Int)).toNat = k := by
  have := byt_toNat (k : Int) (by omega) (by omega)
  omega
theorem byt_self (c : UInt8) : byt (c.toNat : Int) = c := by
  apply UInt8.toNat.inj
  exact byt_nat _ (UInt8.toNat_lt c)
theorem bs_toList (l : List UInt8) : (bs l).data.toList = l := by simp [bs]
theorem bs_size (l : List UInt8) : (bs l).size = l.length := by simp [bs, ByteArray.size]
theorem bs_self (s : ByteArray) : bs s.data.toList = s := by simp [bs]
theorem bs_inj {a b : List UInt8} (h : bs a = bs b) : a = b := by
  have := congrArg (fun x : ByteArray => x.data.toList) h
  simpa [bs_toList] using this
theorem data_len (s : ByteArray) : s.data.toList.length = s.size := by simp
theorem add_bs (a b : ByteArray) : a ++ b = bs (a.data.toList ++ b.data.toList) := by
  apply ByteArray.ext
  simp [bs]
theorem bs_add (a : List UInt8) (b : ByteArray) : bs a ++ b = bs (a ++ b.data.toList) := by rw [add_bs, bs_toList]
theorem bs_bs (a b : List UInt8) : bs a ++ bs b = bs (a ++ b) := by rw [add_bs, bs_toList, bs_toList]
theorem str_size (xs : List Int) : (str xs).size = xs.length := strOfNums_size xs
theorem dgt_lt (l : List UInt8) (k : Nat) : dgt l k < 256 := by
  unfold dgt; exact UInt8.toNat_lt _
theorem dgt_at (s : ByteArray) (k : Nat) (h : k < s.size) : (s[k]).toNat = dgt s.data.toList k := by
  have h' : k < s.data.toList.length := by simpa using h
  unfold dgt
  rw [List.getD, List.getElem?_eq_getElem h']
  rfl
theorem dgt_drop (l : List UInt8) (a k : Nat) : dgt (l.drop a) k = dgt l (a + k) := by
  unfold dgt
  simp [List.getD, List.getElem?_drop]
theorem dgt_from (s : ByteArray) (a k : Nat) (h : k < (s.extract a s.size).size) : ((s.extract a s.size)[k]).toNat = dgt s.data.toList (a + k) := by
  rw [dgt_at, Lib.extract_to_end, dgt_drop]
theorem not_empty (s : ByteArray) (h : 0 < s.size) : s.toList.isEmpty = false := by
  have h' : 0 < s.data.toList.length := by simpa using h
  rw [Lib.toList_data]
  cases e : s.data.toList with
  | nil => simp [e] at h'
  | cons a b => rfl
theorem is_empty (s : ByteArray) (h : s.size = 0) : s.toList.isEmpty = true := by
  have : s.data.toList = [] := List.eq_nil_of_length_eq_zero (by simpa using h)
  simp [Lib.toList_data, this]
theorem not_bare (s : ByteArray) (h : 0 < s.size) : ¬ s = ByteArray.empty := by
  intro e; subst e; simp at h
theorem toList_eq {x y : ByteArray} : x.toList = y.toList ↔ x = y := by
  rw [Lib.toList_data, Lib.toList_data]
  constructor
  · intro h
    cases x; cases y
    simpa using h
  · intro h; rw [h]
theorem beq_yes {x y : ByteArray} (h : x = y) : (x.toList == y.toList) = true := by rw [h]; simp
theorem beq_no {x y : ByteArray} (h : ¬ x = y) : (x.toList == y.toList) = false := by
  apply beq_eq_false_iff_ne.2
  intro e; exact h (toList_eq.1 e)

end Go.Proofs.Ytbaoomkdlbjhlaa
