/-
  What the texts of this claim share, one behind the other.
-/
import Derived.Test.YtmiehnknnkcdlacDoorRows
import Derived.WalkKit
import Derived.WalkSpells
import Derived.WalkLawsBesides
import Derived.Deep.QuietTactic
import Derived.BigQuiet
import Derived.Laws.BytesArg
import Derived.Lib.PathFns
import Derived.Lib.IndexBytes
import Derived.Lib.SmallJoins

/-
  Small plain facts that the walks of this seat share: bytes as lists, what stays behind a call, how an answer is told.
-/
namespace Go.Proofs.YtmiehnknnkcdlacDoor
open Go.RowKit
set_option linter.unusedVariables false

theorem hide {p : Prop} (h : p) : Hid p := h
theorem unhide {p : Prop} (h : Hid p) : p := h
theorem ret1 {a x : Value} (h1 : a = x) : Ending.returned a = .returned x := by rw [h1]
theorem ret2 {a b x y : Value} (h1 : a = x) (h2 : b = y) : Ending.returned (.tuple #[a, b]) = .returned (.tuple #[x, y]) := by rw [h1, h2]
theorem ret3 {a b c x y z : Value} (h1 : a = x) (h2 : b = y) (h3 : c = z) : Ending.returned (.tuple #[a, b, c]) = .returned (.tuple #[x, y, z]) := by rw [h1, h2, h3]

theorem below_draws (w : World) (n : Nat) : Below w.heap.size w (w.drewN n) := below_drewN (Below.refl _ _) n
theorem bcell {W w1 : World} (hb : Below W.heap.size W w1) : (∀ b o, b < W.heap.size → w1.cell? ⟨b, o, none⟩ = W.cell? ⟨b, o, none⟩) ∧ (∀ b o, b < W.heap.size → w1.frozen? ⟨b, o, none⟩ = W.frozen? ⟨b, o, none⟩) :=
  ⟨fun b o h => hb.cell (p := ⟨b, o, none⟩) h, fun b o h => hb.frozen (p := ⟨b, o, none⟩) h⟩
theorem bel_of {w w1 : World} {X : Obj} (hb1 : Below (w.alloc X).heap.size (w.alloc X) w1) : Below w.heap.size w w1 :=
  ((Below.refl _ _).alloc (Nat.le_refl _) _).trans (hb1.mono (by simp))
theorem tr2 {w w1 w2 : World} (h1 : Below w.heap.size w w1) (h2 : Below w1.heap.size w1 w2) : Below w.heap.size w w2 := h1.trans (h2.mono h1.size)
theorem tr3 {w w1 w2 w3 : World} (h1 : Below w.heap.size w w1) (h2 : Below w1.heap.size w1 w2) (h3 : Below w2.heap.size w2 w3) : Below w.heap.size w w3 := tr2 (tr2 h1 h2) h3
theorem ownsRow_below {w w1 : World} {base : Nat} {e : TypeId} {size : Nat} {v : Value} {n : Nat} {xs : List Value} (h : w.ownsRow base e size v n xs) (hb : Below w.heap.size w w1) : w1.ownsRow base e size v n xs := by
  obtain ⟨hl, h⟩ := h
  refine ⟨hl, ?_⟩
  rcases h with h | ⟨g, cap, cur, h1, h2, h3, h4, h5, h6, h7⟩
  · exact .inl h
  · refine .inr ⟨g, cap, cur, h1, h2, ?_, h4, h5, h6, h7⟩
    have hg : g < w.heap.size := by
      rcases Nat.lt_or_ge g w.heap.size with h | h
      · exact h
      · rw [Array.getElem?_eq_none h] at h3; cases h3
    rw [hb.block g hg]; exact h3
theorem slice_of {w : World} {base : Nat} {e : TypeId} {size : Nat} {v : Value} {n : Nat} {xs : List Value} (h : w.ownsRow base e size v n xs) : ∃ a m cap, v = .slice a m cap := by
  rcases h.2 with ⟨h, _⟩ | ⟨g, cap, cur, h, _⟩
  · exact ⟨_, _, _, h⟩
  · exact ⟨_, _, _, h⟩

/-! ### bytes -/

def bs (l : List UInt8) : ByteArray := ⟨l.toArray⟩
def dgt (l : List UInt8) (k : Nat) : Nat := (l.getD k 0).toNat
def byt (x : Int) : UInt8 := UInt8.ofNat x.toNat
def str (xs : List Int) : ByteArray := strOfNums xs
theorem str_bs (xs : List Int) : str xs = bs (xs.map byt) := rfl
theorem byt_toNat (x : Int) (h0 : 0 ≤ x) (h1 : x < 256) : ((byt x).toNat : Int) = x := by
  have : x.toNat < 256 := by omega
  unfold byt
  rw [UInt8.toNat_ofNat']
  omega
theorem byt_nat (k : Nat) (h : k < 256) : (byt (k : Int)).toNat = k := by
  have := byt_toNat (k : Int) (by omega) (by omega)
  omega
theorem byt_self (c : UInt8) : byt (c.toNat : Int) = c := by
  apply UInt8.toNat.inj
  exact byt_nat _ (UInt8.toNat_lt c)
theorem bs_toList (l : List UInt8) : (bs l).data.toList = l := by simp [bs]
theorem bs_size (l : List UInt8) : (bs l).size = l.length := by simp [bs, ByteArray.size]
theorem bs_self (s : ByteArray) : bs s.data.toList = s := by simp [bs]
theorem bs_inj {a b : List UInt8} (h : bs a = bs b) : a = b := by
  have := congrArg (fun x : ByteArray => x.data.toList) h
  simpa [bs_toList] using this
theorem data_len (s : ByteArray) : s.data.toList.length = s.size := by simp
theorem add_bs (a b : ByteArray) : a ++ b = bs (a.data.toList ++ b.data.toList) := by
  apply ByteArray.ext
  simp [bs]
theorem bs_add (a : List UInt8) (b : ByteArray) : bs a ++ b = bs (a ++ b.data.toList) := by rw [add_bs, bs_toList]
theorem bs_bs (a b : List UInt8) : bs a ++ bs b = bs (a ++ b) := by rw [add_bs, bs_toList, bs_toList]
theorem str_size (xs : List Int) : (str xs).size = xs.length := strOfNums_size xs
theorem dgt_lt (l : List UInt8) (k : Nat) : dgt l k < 256 := by
  unfold dgt; exact UInt8.toNat_lt _
theorem dgt_at (s : ByteArray) (k : Nat) (h : k < s.size) : (s[k]).toNat = dgt s.data.toList k := by
  have h' : k < s.data.toList.length := by simpa using h
  unfold dgt
  rw [List.getD, List.getElem?_eq_getElem h']
  rfl
theorem dgt_drop (l : List UInt8) (a k : Nat) : dgt (l.drop a) k = dgt l (a + k) := by
  unfold dgt
  simp [List.getD, List.getElem?_drop]
theorem dgt_from (s : ByteArray) (a k : Nat) (h : k < (s.extract a s.size).size) : ((s.extract a s.size)[k]).toNat = dgt s.data.toList (a + k) := by
  rw [dgt_at, Lib.extract_to_end, dgt_drop]
theorem not_empty (s : ByteArray) (h : 0 < s.size) : s.toList.isEmpty = false := by
  have h' : 0 < s.data.toList.length := by simpa using h
  rw [Lib.toList_data]
  cases e : s.data.toList with
  | nil => simp [e] at h'
  | cons a b => rfl
theorem is_empty (s : ByteArray) (h : s.size = 0) : s.toList.isEmpty = true := by
  have : s.data.toList = [] := List.eq_nil_of_length_eq_zero (by simpa using h)
  simp [Lib.toList_data, this]
theorem not_bare (s : ByteArray) (h : 0 < s.size) : ¬ s = ByteArray.empty := by
  intro e; subst e; simp at h
theorem toList_eq {x y : ByteArray} : x.toList = y.toList ↔ x = y := by
  rw [Lib.toList_data, Lib.toList_data]
  constructor
  · intro h
    cases x; cases y
    simpa using h
  · intro h; rw [h]
theorem beq_yes {x y : ByteArray} (h : x = y) : (x.toList == y.toList) = true := by rw [h]; simp
theorem beq_no {x y : ByteArray} (h : ¬ x = y) : (x.toList == y.toList) = false := by
  apply beq_eq_false_iff_ne.2
  intro e; exact h (toList_eq.1 e)

/-- The text of a few bytes that lie in the last new block, told as numbers. -/
theorem convL (w : World) (n : Nat) (xs : List Int) (h : n = w.heap.size) :
    Sem.run Tryd.prog (convert 49 9 (Value.slice (some { block := n, off := 0 }) xs.length xs.length)) (w.alloc (Obj.cells (xs.map (Value.int .u8)).toArray 5)) = .ok (.string (str xs)) (w.alloc (Obj.cells (xs.map (Value.int .u8)).toArray 5)) := by
  subst h
  refine run_convert_bytes_arg (P := Tryd.prog) _ 49 5 Tryd.underlying49 Tryd.underlying5 w.heap.size 0 xs.length xs.length xs rfl ?_ 9 Tryd.underlying9
  intro i hi
  rw [World.cell?_alloc_mark]
  simp [List.getD, List.getElem?_eq_getElem hi]
end Go.Proofs.YtmiehnknnkcdlacDoor

/-
  Plain laws on characters and their bytes, on the characters of a text, and on what is cleaned. No Go in sight.
-/
namespace Go.Proofs.YtmiehnknnkcdlacDoor
set_option linter.unusedVariables false

def isC (c : Int) : Bool := decide (0 ≤ c ∧ c ≤ 1114111 ∧ (c < 55296 ∨ 57343 < c))
theorem isC_true {c : Int} (h : isC c = true) : 0 ≤ c ∧ c ≤ 1114111 ∧ (c < 55296 ∨ 57343 < c) := by simpa [isC] using h
theorem isC_mk {c : Int} (h : 0 ≤ c ∧ c ≤ 1114111 ∧ (c < 55296 ∨ 57343 < c)) : isC c = true := by simpa [isC] using h
theorem isC_no {c : Int} (h : ¬ (0 ≤ c ∧ c ≤ 1114111 ∧ (c < 55296 ∨ 57343 < c))) : isC c = false := by simpa [isC] using h
theorem isC_false {c : Int} (h : isC c = false) : ¬ (0 ≤ c ∧ c ≤ 1114111 ∧ (c < 55296 ∨ 57343 < c)) := by simpa [isC] using h

def sz (c : Int) : Nat := if c < 128 then 1 else if c < 2048 then 2 else if c < 65536 then 3 else 4
def ubI (c : Int) : List Int :=
  if c < 128 then [c] else if c < 2048 then [192 + c / 64, 128 + c % 64] else if c < 65536 then [224 + c / 4096, 128 + c / 64 % 64, 128 + c % 64]
  else [240 + c / 262144, 128 + c / 4096 % 64, 128 + c / 64 % 64, 128 + c % 64]
def ub (c : Int) : List UInt8 := (ubI c).map byt
theorem ubI_1 {c : Int} (h : c < 128) : ubI c = [c] := by simp [ubI, h]
theorem ubI_2 {c : Int} (h0 : 128 ≤ c) (h : c < 2048) : ubI c = [192 + c / 64, 128 + c % 64] := by
  have : ¬ c < 128 := by omega
  simp [ubI, h, this]
theorem ubI_3 {c : Int} (h0 : 2048 ≤ c) (h : c < 65536) : ubI c = [224 + c / 4096, 128 + c / 64 % 64, 128 + c % 64] := by
  have h1 : ¬ c < 128 := by omega
  have h2 : ¬ c < 2048 := by omega
  simp [ubI, h, h1, h2]
theorem ubI_4 {c : Int} (h0 : 65536 ≤ c) : ubI c = [240 + c / 262144, 128 + c / 4096 % 64, 128 + c / 64 % 64, 128 + c % 64] := by
  have h1 : ¬ c < 128 := by omega
  have h2 : ¬ c < 2048 := by omega
  have h3 : ¬ c < 65536 := by omega
  simp [ubI, h1, h2, h3]
theorem sz_1 {c : Int} (h : c < 128) : sz c = 1 := by simp [sz, h]
theorem sz_2 {c : Int} (h0 : 128 ≤ c) (h : c < 2048) : sz c = 2 := by
  have : ¬ c < 128 := by omega
  simp [sz, h, this]
theorem sz_3 {c : Int} (h0 : 2048 ≤ c) (h : c < 65536) : sz c = 3 := by
  have h1 : ¬ c < 128 := by omega
  have h2 : ¬ c < 2048 := by omega
  simp [sz, h, h1, h2]
theorem sz_4 {c : Int} (h0 : 65536 ≤ c) : sz c = 4 := by
  have h1 : ¬ c < 128 := by omega
  have h2 : ¬ c < 2048 := by omega
  have h3 : ¬ c < 65536 := by omega
  simp [sz, h1, h2, h3]
theorem sz_cases (c : Int) : (c < 128 ∧ sz c = 1) ∨ (128 ≤ c ∧ c < 2048 ∧ sz c = 2) ∨ (2048 ≤ c ∧ c < 65536 ∧ sz c = 3) ∨ (65536 ≤ c ∧ sz c = 4) := by
  by_cases h1 : c < 128
  · exact .inl ⟨h1, sz_1 h1⟩
  by_cases h2 : c < 2048
  · exact .inr (.inl ⟨by omega, h2, sz_2 (by omega) h2⟩)
  by_cases h3 : c < 65536
  · exact .inr (.inr (.inl ⟨by omega, h3, sz_3 (by omega) h3⟩))
  · exact .inr (.inr (.inr ⟨by omega, sz_4 (by omega)⟩))
theorem ubI_len (c : Int) : (ubI c).length = sz c := by
  rcases sz_cases c with ⟨h, e⟩ | ⟨h0, h, e⟩ | ⟨h0, h, e⟩ | ⟨h, e⟩
  · rw [ubI_1 h, e]; rfl
  · rw [ubI_2 h0 h, e]; rfl
  · rw [ubI_3 h0 h, e]; rfl
  · rw [ubI_4 h, e]; rfl
theorem ub_len (c : Int) : (ub c).length = sz c := by rw [ub, List.length_map, ubI_len]
theorem sz_le (c : Int) : 1 ≤ sz c ∧ sz c ≤ 4 := by
  rcases sz_cases c with ⟨h, e⟩ | ⟨h0, h, e⟩ | ⟨h0, h, e⟩ | ⟨h, e⟩ <;> omega

/-- Whether a byte that goes on stands at a place. -/
def tl (l : List UInt8) (i : Nat) : Bool := decide (i < l.length ∧ 128 ≤ dgt l i ∧ dgt l i ≤ 191)
theorem tl_iff (l : List UInt8) (i : Nat) : tl l i = true ↔ i < l.length ∧ 128 ≤ dgt l i ∧ dgt l i ≤ 191 := by simp [tl]
theorem tl_no (l : List UInt8) (i : Nat) : tl l i = false ↔ ¬ (i < l.length ∧ 128 ≤ dgt l i ∧ dgt l i ≤ 191) := by
  rw [← tl_iff]; simp
def lo (l : List UInt8) (i : Nat) : Int := (dgt l i : Int) - 128
/-- The number that the bytes tell, and of how many bytes it is told. -/
def cand (l : List UInt8) : Option (Int × Nat) :=
  if dgt l 0 < 128 then some ((dgt l 0 : Int), 1)
  else if dgt l 0 < 192 then none
  else if dgt l 0 < 224 then if tl l 1 = true then some (64 * ((dgt l 0 : Int) - 192) + lo l 1, 2) else none
  else if dgt l 0 < 240 then if tl l 1 = true ∧ tl l 2 = true then some (4096 * ((dgt l 0 : Int) - 224) + 64 * lo l 1 + lo l 2, 3) else none
  else if dgt l 0 < 248 then if tl l 1 = true ∧ tl l 2 = true ∧ tl l 3 = true then some (262144 * ((dgt l 0 : Int) - 240) + 4096 * lo l 1 + 64 * lo l 2 + lo l 3, 4) else none
  else none
/-- The character with which bytes begin, and how many they are. -/
def dec (l : List UInt8) : Option (Int × Nat) :=
  match cand l with
  | none => none
  | some (c, n) => if isC c = true ∧ sz c = n then some (c, n) else none

theorem dgt_cons (c : UInt8) (l : List UInt8) : dgt (c :: l) 0 = c.toNat := rfl
theorem dgt_succ (c : UInt8) (l : List UInt8) (k : Nat) : dgt (c :: l) (k + 1) = dgt l k := rfl
theorem byt_n (x : Int) (h0 : 0 ≤ x) (h1 : x < 256) : (byt x).toNat = x.toNat := by
  have := byt_toNat x h0 h1; omega

theorem cand_ub (c : Int) (b : List UInt8) (h0 : 0 ≤ c) (h1 : c ≤ 1114111) : cand (ub c ++ b) = some (c, sz c) := by
  rcases sz_cases c with ⟨h, e⟩ | ⟨hl, h, e⟩ | ⟨hl, h, e⟩ | ⟨h, e⟩
  · rw [e, ub, ubI_1 h]
    simp only [List.map_cons, List.map_nil, List.cons_append, List.nil_append]
    have d0 : dgt (byt c :: b) 0 = c.toNat := byt_n c h0 (by omega)
    rw [cand, d0, if_pos (by omega)]
    congr 2; omega
  · rw [e, ub, ubI_2 hl h]
    simp only [List.map_cons, List.map_nil, List.cons_append, List.nil_append]
    have d0 : dgt (byt (192 + c / 64) :: byt (128 + c % 64) :: b) 0 = (192 + c / 64).toNat := byt_n _ (by omega) (by omega)
    have d1 : dgt (byt (192 + c / 64) :: byt (128 + c % 64) :: b) 1 = (128 + c % 64).toNat := byt_n _ (by omega) (by omega)
    have t1 : tl (byt (192 + c / 64) :: byt (128 + c % 64) :: b) 1 = true := by rw [tl_iff, d1]; simp; omega
    rw [cand, d0, if_neg (by omega), if_neg (by omega), if_pos (by omega), if_pos t1, lo, d1]
    congr 2; omega
  · rw [e, ub, ubI_3 hl h]
    simp only [List.map_cons, List.map_nil, List.cons_append, List.nil_append]
    have d0 : dgt (byt (224 + c / 4096) :: byt (128 + c / 64 % 64) :: byt (128 + c % 64) :: b) 0 = (224 + c / 4096).toNat := byt_n _ (by omega) (by omega)
    have d1 : dgt (byt (224 + c / 4096) :: byt (128 + c / 64 % 64) :: byt (128 + c % 64) :: b) 1 = (128 + c / 64 % 64).toNat := byt_n _ (by omega) (by omega)
    have d2 : dgt (byt (224 + c / 4096) :: byt (128 + c / 64 % 64) :: byt (128 + c % 64) :: b) 2 = (128 + c % 64).toNat := byt_n _ (by omega) (by omega)
    have t1 : tl (byt (224 + c / 4096) :: byt (128 + c / 64 % 64) :: byt (128 + c % 64) :: b) 1 = true := by rw [tl_iff, d1]; simp; omega
    have t2 : tl (byt (224 + c / 4096) :: byt (128 + c / 64 % 64) :: byt (128 + c % 64) :: b) 2 = true := by rw [tl_iff, d2]; simp; omega
    rw [cand, d0, if_neg (by omega), if_neg (by omega), if_neg (by omega), if_pos (by omega), if_pos ⟨t1, t2⟩, lo, lo, d1, d2]
    congr 2; omega
  · rw [e, ub, ubI_4 h]
    simp only [List.map_cons, List.map_nil, List.cons_append, List.nil_append]
    have d0 : dgt (byt (240 + c / 262144) :: byt (128 + c / 4096 % 64) :: byt (128 + c / 64 % 64) :: byt (128 + c % 64) :: b) 0 = (240 + c / 262144).toNat := byt_n _ (by omega) (by omega)
    have d1 : dgt (byt (240 + c / 262144) :: byt (128 + c / 4096 % 64) :: byt (128 + c / 64 % 64) :: byt (128 + c % 64) :: b) 1 = (128 + c / 4096 % 64).toNat := byt_n _ (by omega) (by omega)
    have d2 : dgt (byt (240 + c / 262144) :: byt (128 + c / 4096 % 64) :: byt (128 + c / 64 % 64) :: byt (128 + c % 64) :: b) 2 = (128 + c / 64 % 64).toNat := byt_n _ (by omega) (by omega)
    have d3 : dgt (byt (240 + c / 262144) :: byt (128 + c / 4096 % 64) :: byt (128 + c / 64 % 64) :: byt (128 + c % 64) :: b) 3 = (128 + c % 64).toNat := byt_n _ (by omega) (by omega)
    have t1 : tl (byt (240 + c / 262144) :: byt (128 + c / 4096 % 64) :: byt (128 + c / 64 % 64) :: byt (128 + c % 64) :: b) 1 = true := by rw [tl_iff, d1]; simp; omega
    have t2 : tl (byt (240 + c / 262144) :: byt (128 + c / 4096 % 64) :: byt (128 + c / 64 % 64) :: byt (128 + c % 64) :: b) 2 = true := by rw [tl_iff, d2]; simp; omega
    have t3 : tl (byt (240 + c / 262144) :: byt (128 + c / 4096 % 64) :: byt (128 + c / 64 % 64) :: byt (128 + c % 64) :: b) 3 = true := by rw [tl_iff, d3]; simp; omega
    rw [cand, d0, if_neg (by omega), if_neg (by omega), if_neg (by omega), if_neg (by omega), if_pos (by omega), if_pos ⟨t1, t2, t3⟩, lo, lo, lo, d1, d2, d3]
    congr 2; omega

theorem dec_ub (c : Int) (b : List UInt8) (h : isC c = true) : dec (ub c ++ b) = some (c, sz c) := by
  have := isC_true h
  rw [dec, cand_ub c b (by omega) (by omega)]
  simp [h]

theorem take_ext (l m : List UInt8) (n : Nat) (hm : m.length = n) (hn : n ≤ l.length) (h : ∀ i, i < n → dgt l i = dgt m i) : l.take n = m := by
  apply List.ext_getElem (by simp; omega)
  intro i h1 h2
  have hi : i < n := by omega
  have := h i hi
  unfold dgt at this
  rw [List.getD, List.getD, List.getElem?_eq_getElem (by omega), List.getElem?_eq_getElem h2] at this
  rw [List.getElem_take]
  exact UInt8.toNat.inj this

theorem dec_some {l : List UInt8} {c : Int} {n : Nat} (hl : l ≠ []) (h : dec l = some (c, n)) : isC c = true ∧ sz c = n ∧ n ≤ l.length ∧ l.take n = ub c := by
  have hpos : 0 < l.length := List.length_pos_iff.2 hl
  have b0 := dgt_lt l 0
  have b1 := dgt_lt l 1
  have b2 := dgt_lt l 2
  have b3 := dgt_lt l 3
  unfold dec at h
  cases hc : cand l with
  | none => rw [hc] at h; cases h
  | some x =>
    obtain ⟨c', n'⟩ := x
    rw [hc] at h
    by_cases hx : isC c' = true ∧ sz c' = n'
    · simp only [hx, and_self, if_true, Option.some.injEq, Prod.mk.injEq] at h
      obtain ⟨rfl, rfl⟩ := h
      refine ⟨hx.1, hx.2, ?_⟩
      have hr := isC_true hx.1
      have hs := hx.2
      unfold cand at hc
      by_cases g1 : dgt l 0 < 128
      · rw [if_pos g1] at hc
        simp only [Option.some.injEq, Prod.mk.injEq] at hc
        obtain ⟨e1, e2⟩ := hc
        rw [← e2] at hs ⊢
        refine ⟨by omega, take_ext _ _ _ (by rw [ub_len]; omega) (by omega) (fun i hi => ?_)⟩
        have : i = 0 := by omega
        subst this
        rw [ub, ubI_1 (by omega), ← e1]
        simp only [List.map_cons, List.map_nil, dgt_cons]
        exact (byt_nat _ (by omega)).symm
      rw [if_neg g1] at hc
      by_cases g2 : dgt l 0 < 192
      · rw [if_pos g2] at hc; cases hc
      rw [if_neg g2] at hc
      by_cases g3 : dgt l 0 < 224
      · rw [if_pos g3] at hc
        by_cases t1 : tl l 1 = true
        · rw [if_pos t1] at hc
          have q1 := (tl_iff _ _).1 t1
          simp only [Option.some.injEq, Prod.mk.injEq, lo] at hc
          obtain ⟨e1, e2⟩ := hc
          rw [← e2] at hs ⊢
          refine ⟨by omega, take_ext _ _ _ (by rw [ub_len]; omega) (by omega) (fun i hi => ?_)⟩
          have hz := sz_cases c'
          rw [ub, ubI_2 (by omega) (by omega)]
          have : i = 0 ∨ i = 1 := by omega
          rcases this with rfl | rfl
          · simp only [List.map_cons, dgt_cons]
            rw [byt_n _ (by omega) (by omega)]; omega
          · simp only [List.map_cons, dgt_succ, dgt_cons]
            rw [byt_n _ (by omega) (by omega)]; omega
        · rw [if_neg t1] at hc; cases hc
      rw [if_neg g3] at hc
      by_cases g4 : dgt l 0 < 240
      · rw [if_pos g4] at hc
        by_cases t1 : tl l 1 = true ∧ tl l 2 = true
        · rw [if_pos t1] at hc
          have q1 := (tl_iff _ _).1 t1.1
          have q2 := (tl_iff _ _).1 t1.2
          simp only [Option.some.injEq, Prod.mk.injEq, lo] at hc
          obtain ⟨e1, e2⟩ := hc
          rw [← e2] at hs ⊢
          refine ⟨by omega, take_ext _ _ _ (by rw [ub_len]; omega) (by omega) (fun i hi => ?_)⟩
          have hz := sz_cases c'
          rw [ub, ubI_3 (by omega) (by omega)]
          have : i = 0 ∨ i = 1 ∨ i = 2 := by omega
          rcases this with rfl | rfl | rfl
          · simp only [List.map_cons, dgt_cons]
            rw [byt_n _ (by omega) (by omega)]; omega
          · simp only [List.map_cons, dgt_succ, dgt_cons]
            rw [byt_n _ (by omega) (by omega)]; omega
          · simp only [List.map_cons, dgt_succ, dgt_cons]
            rw [byt_n _ (by omega) (by omega)]; omega
        · rw [if_neg t1] at hc; cases hc
      rw [if_neg g4] at hc
      by_cases g5 : dgt l 0 < 248
      · rw [if_pos g5] at hc
        by_cases t1 : tl l 1 = true ∧ tl l 2 = true ∧ tl l 3 = true
        · rw [if_pos t1] at hc
          have q1 := (tl_iff _ _).1 t1.1
          have q2 := (tl_iff _ _).1 t1.2.1
          have q3 := (tl_iff _ _).1 t1.2.2
          simp only [Option.some.injEq, Prod.mk.injEq, lo] at hc
          obtain ⟨e1, e2⟩ := hc
          rw [← e2] at hs ⊢
          refine ⟨by omega, take_ext _ _ _ (by rw [ub_len]; omega) (by omega) (fun i hi => ?_)⟩
          have hz := sz_cases c'
          rw [ub, ubI_4 (by omega)]
          have : i = 0 ∨ i = 1 ∨ i = 2 ∨ i = 3 := by omega
          rcases this with rfl | rfl | rfl | rfl
          · simp only [List.map_cons, dgt_cons]
            rw [byt_n _ (by omega) (by omega)]; omega
          · simp only [List.map_cons, dgt_succ, dgt_cons]
            rw [byt_n _ (by omega) (by omega)]; omega
          · simp only [List.map_cons, dgt_succ, dgt_cons]
            rw [byt_n _ (by omega) (by omega)]; omega
          · simp only [List.map_cons, dgt_succ, dgt_cons]
            rw [byt_n _ (by omega) (by omega)]; omega
        · rw [if_neg t1] at hc; cases hc
      · rw [if_neg g5] at hc; cases hc
    · simp only [hx, if_false] at h; cases h

/-- What the reference asks of the bytes is what 'dec' asks. -/
theorem dec_of_cand {l : List UInt8} {c : Int} {n : Nat} (hl : l ≠ []) (h : cand l = some (c, n)) (hc : isC c = true) : sz c = n ↔ (sz c ≤ l.length ∧ l.take (sz c) = ub c) := by
  constructor
  · intro e
    have hd : dec l = some (c, n) := by rw [dec, h]; simp [hc, e]
    have := dec_some hl hd
    rw [e]; exact ⟨this.2.2.1, this.2.2.2⟩
  · rintro ⟨h1, h2⟩
    have hr := isC_true hc
    have e := cand_ub c (l.drop (sz c)) (by omega) (by omega)
    rw [← h2, List.take_append_drop, h] at e
    simp only [Option.some.injEq, Prod.mk.injEq, true_and] at e
    exact e.symm

/-! ### the first character of bytes -/

/-- The first character of bytes that are there: which, of how many bytes, and whether it is one. -/
def step (l : List UInt8) : Int × Nat × Bool :=
  match dec l with
  | none => (65533, 1, false)
  | some (c, n) => (c, n, true)
theorem cand_1 {l : List UInt8} (h : dgt l 0 < 128) : cand l = some ((dgt l 0 : Int), 1) := by rw [cand, if_pos h]
theorem cand_0 {l : List UInt8} (h0 : 128 ≤ dgt l 0) (h : dgt l 0 < 192) : cand l = none := by rw [cand, if_neg (by omega), if_pos h]
theorem cand_2 {l : List UInt8} (h0 : 192 ≤ dgt l 0) (h : dgt l 0 < 224) : cand l = if tl l 1 = true then some (64 * ((dgt l 0 : Int) - 192) + lo l 1, 2) else none := by
  rw [cand, if_neg (by omega), if_neg (by omega), if_pos h]
theorem cand_3 {l : List UInt8} (h0 : 224 ≤ dgt l 0) (h : dgt l 0 < 240) : cand l = if tl l 1 = true ∧ tl l 2 = true then some (4096 * ((dgt l 0 : Int) - 224) + 64 * lo l 1 + lo l 2, 3) else none := by
  rw [cand, if_neg (by omega), if_neg (by omega), if_neg (by omega), if_pos h]
theorem cand_4 {l : List UInt8} (h0 : 240 ≤ dgt l 0) (h : dgt l 0 < 248) : cand l = if tl l 1 = true ∧ tl l 2 = true ∧ tl l 3 = true then some (262144 * ((dgt l 0 : Int) - 240) + 4096 * lo l 1 + 64 * lo l 2 + lo l 3, 4) else none := by
  rw [cand, if_neg (by omega), if_neg (by omega), if_neg (by omega), if_neg (by omega), if_pos h]
theorem cand_5 {l : List UInt8} (h0 : 248 ≤ dgt l 0) : cand l = none := by
  rw [cand, if_neg (by omega), if_neg (by omega), if_neg (by omega), if_neg (by omega), if_neg (by omega)]
theorem dec_none {l : List UInt8} (h : cand l = none) : dec l = none := by simp only [dec, h]
theorem dec_cand {l : List UInt8} {c : Int} {n : Nat} (h : cand l = some (c, n)) : dec l = if isC c = true ∧ sz c = n then some (c, n) else none := by simp only [dec, h]
theorem dec_not {l : List UInt8} {c : Int} {n : Nat} (h : cand l = some (c, n)) (h2 : isC c = false) : dec l = none := by rw [dec_cand h, if_neg (by rw [h2]; simp)]
theorem dec_other {l : List UInt8} {c : Int} {n : Nat} (h : cand l = some (c, n)) (h2 : ¬ sz c = n) : dec l = none := by rw [dec_cand h, if_neg (fun x => h2 x.2)]
theorem dec_yes {l : List UInt8} {c : Int} {n : Nat} (h : cand l = some (c, n)) (h2 : isC c = true) (h3 : sz c = n) : dec l = some (c, n) := by rw [dec_cand h, if_pos ⟨h2, h3⟩]


theorem step_ok {l : List UInt8} (hl : l ≠ []) : 1 ≤ (step l).2.1 ∧ (step l).2.1 ≤ l.length ∧ (step l).2.1 ≤ 4 ∧ isC (step l).1 = true := by
  have hpos : 0 < l.length := List.length_pos_iff.2 hl
  cases hd : dec l with
  | none => simp only [step, hd]; exact ⟨by omega, by omega, by omega, by decide⟩
  | some x =>
    obtain ⟨c, n⟩ := x
    have := dec_some hl hd
    have h2 := sz_le c
    simp only [step, hd]
    exact ⟨by omega, by omega, by omega, this.1⟩
theorem step_take {l : List UInt8} (hl : l ≠ []) (h : (step l).2.2 = true) : l.take (step l).2.1 = ub (step l).1 ∧ sz (step l).1 = (step l).2.1 := by
  cases hd : dec l with
  | none => simp only [step, hd] at h; cases h
  | some x =>
    obtain ⟨c, n⟩ := x
    have := dec_some hl hd
    simp only [step, hd]
    exact ⟨this.2.2.2, this.2.1⟩
theorem step_no {l : List UInt8} (h : (step l).2.2 = false) : (step l).1 = 65533 ∧ (step l).2.1 = 1 := by
  cases hd : dec l with
  | none => simp only [step, hd]; exact ⟨trivial, trivial⟩
  | some x => simp only [step, hd] at h; cases h
theorem step_ub (c : Int) (b : List UInt8) (h : isC c = true) : step (ub c ++ b) = (c, sz c, true) := by
  simp only [step, dec_ub c b h]

def chF : Nat → List UInt8 → List (Int × Bool)
  | 0, _ => []
  | f + 1, l => if l = [] then [] else ((step l).1, (step l).2.2) :: chF f (l.drop (step l).2.1)
def ch (l : List UInt8) : List (Int × Bool) := chF l.length l
theorem chF_fuel : ∀ (f g : Nat) (l : List UInt8), l.length ≤ f → l.length ≤ g → chF f l = chF g l
  | 0, 0, l, _, _ => rfl
  | 0, g + 1, l, h, _ => by
    have : l = [] := List.eq_nil_of_length_eq_zero (by omega)
    subst this; simp [chF]
  | f + 1, 0, l, _, h => by
    have : l = [] := List.eq_nil_of_length_eq_zero (by omega)
    subst this; simp [chF]
  | f + 1, g + 1, l, h1, h2 => by
    by_cases hl : l = []
    · simp [chF, hl]
    · have hs := step_ok hl
      simp only [chF, hl, if_false]
      rw [chF_fuel f g _ (by simp; omega) (by simp; omega)]
theorem ch_nil : ch [] = [] := rfl
theorem ch_cons {l : List UInt8} (hl : l ≠ []) : ch l = ((step l).1, (step l).2.2) :: ch (l.drop (step l).2.1) := by
  have hs := step_ok hl
  unfold ch
  have hpos : 0 < l.length := List.length_pos_iff.2 hl
  obtain ⟨f, hf⟩ : ∃ f, l.length = f + 1 := ⟨l.length - 1, by omega⟩
  rw [hf, chF, if_neg hl, chF_fuel f (l.drop (step l).2.1).length _ (by simp; omega) (Nat.le_refl _)]
theorem ch_len : ∀ (f : Nat) (l : List UInt8), l.length ≤ f → (ch l).length ≤ l.length
  | 0, l, h => by
    have : l = [] := List.eq_nil_of_length_eq_zero (by omega)
    subst this; simp [ch_nil]
  | f + 1, l, h => by
    by_cases hl : l = []
    · subst hl; simp [ch_nil]
    · have hs := step_ok hl
      have ih := ch_len f (l.drop (step l).2.1) (by simp; omega)
      rw [ch_cons hl, List.length_cons]
      simp at ih; omega

def rightB (l : List UInt8) : Bool := (ch l).all (·.2)
def cleanL (l : List UInt8) : List UInt8 := ((ch l).map fun p => ub p.1).flatten
theorem rightB_nil : rightB [] = true := rfl
theorem rightB_cons {l : List UInt8} (hl : l ≠ []) : rightB l = ((step l).2.2 && rightB (l.drop (step l).2.1)) := by rw [rightB, ch_cons hl]; rfl
theorem cleanL_nil : cleanL [] = [] := rfl
theorem cleanL_cons {l : List UInt8} (hl : l ≠ []) : cleanL l = ub (step l).1 ++ cleanL (l.drop (step l).2.1) := by rw [cleanL, ch_cons hl]; rfl

theorem ne_of_size {s : ByteArray} (h : 0 < s.size) : s.data.toList ≠ [] := by
  intro e
  have := data_len s
  rw [e] at this; simp at this; omega
theorem rest_of (s : ByteArray) (n : Nat) : s.extract n s.size = bs (s.data.toList.drop n) := Lib.Pa.extract_from s n


theorem ub_ne (c : Int) (r : List UInt8) : ub c ++ r ≠ [] := by
  intro e
  have h1 := ub_len c
  have h2 := sz_le c
  have := congrArg List.length e
  simp at this
  rw [this.1] at h1; simp at h1; omega
theorem ch_ub (c : Int) (r : List UInt8) (h : isC c = true) : ch (ub c ++ r) = (c, true) :: ch r := by
  rw [ch_cons (ub_ne c r), step_ub c r h]
  simp only
  rw [← ub_len c, List.drop_left]
theorem ch_flat : ∀ (cs : List Int) (r : List UInt8), (∀ c ∈ cs, isC c = true) → ch ((cs.map ub).flatten ++ r) = cs.map (fun c => (c, true)) ++ ch r
  | [], r, _ => by simp
  | c :: cs, r, h => by
    have ih := ch_flat cs r (fun x hx => h x (by simp [hx]))
    simp only [List.map_cons, List.flatten_cons, List.append_assoc, List.cons_append]
    rw [ch_ub c _ (h c (by simp)), ih]
theorem ch_isC : ∀ (f : Nat) (l : List UInt8), l.length ≤ f → ∀ p ∈ ch l, isC p.1 = true
  | 0, l, h => by
    have : l = [] := List.eq_nil_of_length_eq_zero (by omega)
    subst this; intro p hp; simp [ch_nil] at hp
  | f + 1, l, h => by
    by_cases hl : l = []
    · subst hl; intro p hp; simp [ch_nil] at hp
    · have hs := step_ok hl
      have ih := ch_isC f (l.drop (step l).2.1) (by simp; omega)
      intro p hp
      rw [ch_cons hl] at hp
      rcases List.mem_cons.1 hp with rfl | hp
      · exact hs.2.2.2
      · exact ih p hp
theorem cleanL_eq (l : List UInt8) : cleanL l = (((ch l).map (·.1)).map ub).flatten := by
  rw [cleanL, List.map_map]; rfl
theorem ch_clean (l r : List UInt8) : ch (cleanL l ++ r) = ((ch l).map (·.1)).map (fun c => (c, true)) ++ ch r := by
  rw [cleanL_eq]
  refine ch_flat _ r ?_
  intro c hc
  obtain ⟨p, hp, rfl⟩ := List.mem_map.1 hc
  exact ch_isC l.length l (Nat.le_refl _) p hp
theorem ch_clean0 (l : List UInt8) : ch (cleanL l) = ((ch l).map (·.1)).map (fun c => (c, true)) := by
  have := ch_clean l []
  rwa [List.append_nil, ch_nil, List.append_nil] at this
theorem all_true (cs : List Int) : (cs.map (fun c => ((c, true) : Int × Bool))).all (·.2) = true := by simp
theorem right_clean (l : List UInt8) : rightB (cleanL l) = true := by rw [rightB, ch_clean0]; exact all_true _
theorem right_two (l m : List UInt8) : rightB (cleanL l ++ cleanL m) = true := by
  rw [rightB, ch_clean, ch_clean0, List.all_append, all_true, all_true]; rfl
theorem clean_clean (l : List UInt8) : cleanL (cleanL l) = cleanL l := by
  rw [cleanL_eq (cleanL l), ch_clean0]
  simp only [List.map_map]
  rw [cleanL_eq, List.map_map]; rfl
theorem count_clean (l : List UInt8) : (ch (cleanL l)).length = (ch l).length := by rw [ch_clean0]; simp
theorem count_two (l m : List UInt8) : (ch (cleanL l ++ cleanL m)).length = (ch (cleanL l)).length + (ch (cleanL m)).length := by
  rw [ch_clean, List.length_append, ch_clean0 l]
theorem clean_right : ∀ (f : Nat) (l : List UInt8), l.length ≤ f → rightB l = true → cleanL l = l
  | 0, l, h, _ => by
    have : l = [] := List.eq_nil_of_length_eq_zero (by omega)
    subst this; rfl
  | f + 1, l, h, hr => by
    by_cases hl : l = []
    · subst hl; rfl
    · have hs := step_ok hl
      rw [rightB_cons hl, Bool.and_eq_true] at hr
      have ht := step_take hl hr.1
      rw [cleanL_cons hl, clean_right f _ (by simp; omega) hr.2, ← ht.1, List.take_append_drop]
theorem clean_iff (l : List UInt8) : cleanL l = l ↔ rightB l = true := by
  constructor
  · intro h; rw [← h]; exact right_clean l
  · exact clean_right l.length l (Nat.le_refl _)
theorem cleanL_len : ∀ (f : Nat) (l : List UInt8), l.length ≤ f → (cleanL l).length ≤ 3 * l.length
  | 0, l, h => by
    have : l = [] := List.eq_nil_of_length_eq_zero (by omega)
    subst this; simp [cleanL_nil]
  | f + 1, l, h => by
    by_cases hl : l = []
    · subst hl; simp [cleanL_nil]
    · have hs := step_ok hl
      have ih := cleanL_len f (l.drop (step l).2.1) (by simp; omega)
      rw [cleanL_cons hl, List.length_append, ub_len]
      rw [List.length_drop] at ih
      have : sz (step l).1 ≤ 3 * (step l).2.1 := by
        cases h2 : (step l).2.2 with
        | true => have := (step_take hl h2).2; omega
        | false =>
          have := step_no h2
          rw [this.1, this.2]; decide
      omega


def flatU (cs : List Int) (k : Nat) : List UInt8 := ((cs.take k).map ub).flatten
theorem flat_take (cs : List Int) (k : Nat) (h : k < cs.length) : flatU cs (k + 1) = flatU cs k ++ ub (cs.getD k 0) := by
  have e : cs.getD k 0 = cs[k] := by rw [List.getD, List.getElem?_eq_getElem h]; rfl
  unfold flatU
  rw [e, List.take_succ_eq_append_getElem h, List.map_append, List.flatten_append]
  simp only [List.map_cons, List.map_nil, List.flatten_cons, List.flatten_nil, List.append_nil]
theorem flat_len (cs : List Int) : ∀ k, k ≤ cs.length → (flatU cs k).length ≤ 4 * k
  | 0, _ => by simp [flatU]
  | k + 1, h => by
    have ih := flat_len cs k (by omega)
    have h2 := sz_le (cs.getD k 0)
    rw [flat_take cs k (by omega), List.length_append, ub_len]
    omega


theorem str_len (c : Int) : (str (ubI c)).size = sz c := by rw [str_size, ubI_len]
theorem ub_step (c : Int) (b : ByteArray) (h : isC c = true) : step (str (ubI c) ++ b).data.toList = (c, sz c, true) := by
  rw [str_bs, bs_add, bs_toList]; exact step_ub c _ h
theorem right_ub (c : Int) (h : isC c = true) : rightB (str (ubI c)).data.toList = true := by
  have hs := step_ub c [] h
  have hne : ub c ≠ [] := by
    intro e
    have := ub_len c
    have := sz_le c
    rw [e] at *; simp at *; omega
  rw [str_bs, bs_toList]
  show rightB (ub c) = true
  rw [List.append_nil] at hs
  rw [rightB_cons hne, hs]
  simp only [Bool.true_and]
  rw [← ub_len c, List.drop_length]; rfl


theorem extract_take (s : ByteArray) (i n : Nat) : s.extract i (i + n) = bs ((s.data.toList.drop i).take n) := by
  rw [Lib.extract_eq, Nat.add_sub_cancel_left]; rfl
/-- A character's bytes; the stranger's, if it is none. -/
def utfI (c : Int) : List Int := if isC c = true then ubI c else ubI 65533
theorem strange : str (utfI 65533) = bs (ub 65533) := rfl
end Go.Proofs.YtmiehnknnkcdlacDoor

/-
  Kinds of bytes, and what 'chars' and its reference make of texts, as plain functions of lists of bytes.
-/
namespace Go.Proofs.YtmiehnknnkcdlacDoor
open Go.RowKit
set_option linter.unusedVariables false
set_option linter.unusedSimpArgs false

def spN (b : Nat) : Bool := decide (b = 9 ∨ b = 10 ∨ b = 12 ∨ b = 32)
def upN (b : Nat) : Bool := decide (65 ≤ b ∧ b ≤ 90)
def ltN (b : Nat) : Bool := decide ((65 ≤ b ∧ b ≤ 90) ∨ (97 ≤ b ∧ b ≤ 122))
def dgN (b : Nat) : Bool := decide (48 ≤ b ∧ b ≤ 57)
theorem spN_yes {b : Nat} (h : b = 9 ∨ b = 10 ∨ b = 12 ∨ b = 32) : spN b = true := by simpa [spN] using h
theorem spN_no {b : Nat} (h : ¬ (b = 9 ∨ b = 10 ∨ b = 12 ∨ b = 32)) : spN b = false := by simpa [spN] using h
theorem spN_true {b : Nat} (h : spN b = true) : b = 9 ∨ b = 10 ∨ b = 12 ∨ b = 32 := by simpa [spN] using h
theorem spN_false {b : Nat} (h : spN b = false) : ¬ (b = 9 ∨ b = 10 ∨ b = 12 ∨ b = 32) := by simpa [spN] using h
theorem upN_yes {b : Nat} (h : 65 ≤ b ∧ b ≤ 90) : upN b = true := by simpa [upN] using h
theorem upN_no {b : Nat} (h : ¬ (65 ≤ b ∧ b ≤ 90)) : upN b = false := by simpa [upN] using h
theorem upN_true {b : Nat} (h : upN b = true) : 65 ≤ b ∧ b ≤ 90 := by simpa [upN] using h
theorem upN_false {b : Nat} (h : upN b = false) : ¬ (65 ≤ b ∧ b ≤ 90) := by simpa [upN] using h
theorem ltN_yes {b : Nat} (h : (65 ≤ b ∧ b ≤ 90) ∨ (97 ≤ b ∧ b ≤ 122)) : ltN b = true := by simpa [ltN] using h
theorem ltN_no {b : Nat} (h : ¬ ((65 ≤ b ∧ b ≤ 90) ∨ (97 ≤ b ∧ b ≤ 122))) : ltN b = false := by simpa [ltN] using h
theorem ltN_true {b : Nat} (h : ltN b = true) : (65 ≤ b ∧ b ≤ 90) ∨ (97 ≤ b ∧ b ≤ 122) := by simpa [ltN] using h
theorem ltN_false {b : Nat} (h : ltN b = false) : ¬ ((65 ≤ b ∧ b ≤ 90) ∨ (97 ≤ b ∧ b ≤ 122)) := by simpa [ltN] using h
theorem dgN_yes {b : Nat} (h : 48 ≤ b ∧ b ≤ 57) : dgN b = true := by simpa [dgN] using h
theorem dgN_no {b : Nat} (h : ¬ (48 ≤ b ∧ b ≤ 57)) : dgN b = false := by simpa [dgN] using h

/-- The byte at a place, and what is behind it. -/
theorem drop_at (l : List UInt8) (k : Nat) (h : k < l.length) : ∃ c, l.drop k = c :: l.drop (k + 1) ∧ c.toNat = dgt l k := by
  refine ⟨l[k], List.drop_eq_getElem_cons h, ?_⟩
  unfold dgt
  rw [List.getD, List.getElem?_eq_getElem h]; rfl

/-! ### blank -/
def sp (c : UInt8) : Bool := spN c.toNat
def blankL (l : List UInt8) : Bool := l.all sp
theorem blankL_nil : blankL [] = true := rfl
theorem blankL_cons (c : UInt8) (l : List UInt8) : blankL (c :: l) = (sp c && blankL l) := rfl

/-! ### the small form -/
def lowB (c : UInt8) : UInt8 := if upN c.toNat = true then c + 32 else c
def lowL (l : List UInt8) : List UInt8 := l.map lowB
theorem lowL_len (l : List UInt8) : (lowL l).length = l.length := by simp [lowL]
theorem u8add (c : UInt8) (h : c.toNat ≤ 200) : (c + 32).toNat = c.toNat + 32 := by
  rw [UInt8.toNat_add]
  have : (32 : UInt8).toNat = 32 := rfl
  omega
theorem lowB_nat (c : UInt8) : (lowB c).toNat = if upN c.toNat = true then c.toNat + 32 else c.toNat := by
  unfold lowB
  split
  · rename_i h; have := upN_true h; rw [u8add c (by omega)]
  · rfl
theorem lowB_low (c : UInt8) : lowB (lowB c) = lowB c := by
  apply UInt8.toNat.inj
  rw [lowB_nat, lowB_nat]
  cases h : upN c.toNat with
  | true =>
    have := upN_true h
    have h2 : upN (c.toNat + 32) = false := upN_no (by omega)
    simp [h2]
  | false => simp [h]
theorem lowL_low (l : List UInt8) : lowL (lowL l) = lowL l := by
  unfold lowL
  rw [List.map_map]
  apply List.map_congr_left
  intro c _
  exact lowB_low c

/-! ### without spaces at the ends -/
def ltrim (l : List UInt8) : List UInt8 := l.dropWhile sp
def rtrim (l : List UInt8) : List UInt8 := (l.reverse.dropWhile sp).reverse
def trimL (l : List UInt8) : List UInt8 := rtrim (ltrim l)
theorem ltrim_nil : ltrim [] = [] := rfl
theorem ltrim_sp {c : UInt8} {l : List UInt8} (h : sp c = true) : ltrim (c :: l) = ltrim l := by simp [ltrim, List.dropWhile_cons, h]
theorem ltrim_no {c : UInt8} {l : List UInt8} (h : sp c = false) : ltrim (c :: l) = c :: l := by simp [ltrim, List.dropWhile_cons, h]
theorem rtrim_nil : rtrim [] = [] := rfl
theorem rtrim_sp {c : UInt8} {l : List UInt8} (h : sp c = true) : rtrim (l ++ [c]) = rtrim l := by simp [rtrim, List.dropWhile_cons, h]
theorem rtrim_no {c : UInt8} {l : List UInt8} (h : sp c = false) : rtrim (l ++ [c]) = l ++ [c] := by simp [rtrim, List.dropWhile_cons, h]

/-! ### words -/
def wordsG : List UInt8 → List UInt8 → List (List UInt8)
  | cur, [] => if cur = [] then [] else [cur]
  | cur, c :: l => if sp c = true then (if cur = [] then wordsG [] l else cur :: wordsG [] l) else wordsG (cur ++ [c]) l
def wordsL (l : List UInt8) : List (List UInt8) := wordsG [] l
theorem wordsG_sp0 {c : UInt8} {l : List UInt8} (h : sp c = true) : wordsG [] (c :: l) = wordsG [] l := by simp [wordsG, h]
theorem wordsG_sp1 {c : UInt8} {cur l : List UInt8} (h : sp c = true) (hc : cur ≠ []) : wordsG cur (c :: l) = cur :: wordsG [] l := by simp [wordsG, h, hc]
theorem wordsG_no {c : UInt8} {cur l : List UInt8} (h : sp c = false) : wordsG cur (c :: l) = wordsG (cur ++ [c]) l := by simp [wordsG, h]
theorem wordsG_nil0 : wordsG [] [] = [] := rfl
theorem wordsG_nil1 {cur : List UInt8} (hc : cur ≠ []) : wordsG cur [] = [cur] := by simp [wordsG, hc]
def nsp (c : UInt8) : Bool := !sp c
theorem wordsG_run : ∀ (l cur : List UInt8), cur ++ l.takeWhile nsp ≠ [] → wordsG cur l = (cur ++ l.takeWhile nsp) :: wordsG [] (l.dropWhile nsp)
  | [], cur, h => by
    simp at h
    rw [wordsG_nil1 h]; simp [wordsG]
  | c :: l, cur, h => by
    cases hs : sp c with
    | true =>
      have hn : nsp c = false := by simp [nsp, hs]
      rw [List.takeWhile_cons, hn] at h
      simp at h
      rw [wordsG_sp1 hs h, List.takeWhile_cons, List.dropWhile_cons, hn]
      simp [wordsG_sp0 hs]
    | false =>
      have hn : nsp c = true := by simp [nsp, hs]
      rw [wordsG_no hs, wordsG_run l (cur ++ [c]) (by simp), List.takeWhile_cons, List.dropWhile_cons, hn]
      simp

/-! ### what comes in, made ready -/
def rdP : Bool → List UInt8 → List UInt8
  | _, [] => []
  | p, c :: l => if c.toNat = 13 then 10 :: rdP true l else if c.toNat = 10 ∧ p = true then rdP false l else if c.toNat = 0 then ub 65533 ++ rdP false l else c :: rdP false l
def hd10 : List UInt8 → Bool
  | [] => false
  | c :: _ => decide (c.toNat = 10)
def rdR : List UInt8 → List UInt8
  | [] => []
  | c :: l => if c.toNat = 0 then ub 65533 ++ rdR l else if ¬ c.toNat = 13 then c :: rdR l else if hd10 l = true then rdR l else 10 :: rdR l
theorem rd_tail : ∀ (l : List UInt8), rdP false l = rdR l ∧ 10 :: rdP true l = (if hd10 l = true then rdR l else 10 :: rdR l)
  | [] => ⟨rfl, rfl⟩
  | c :: l => by
    obtain ⟨h1, h2⟩ := rd_tail l
    constructor
    · by_cases e13 : c.toNat = 13
      · rw [rdP, if_pos e13, rdR, if_neg (by omega), if_neg (by omega), h2]
      · rw [rdP, if_neg e13, if_neg (by simp), rdR]
        by_cases e0 : c.toNat = 0
        · rw [if_pos e0, if_pos e0, h1]
        · rw [if_neg e0, if_neg e0, if_pos e13, h1]
    · by_cases e13 : c.toNat = 13
      · have : hd10 (c :: l) = false := by simp [hd10]; omega
        rw [rdP, if_pos e13, this, if_neg (by decide), rdR, if_neg (by omega), if_neg (by omega), h2]
      · by_cases e10 : c.toNat = 10
        · have : hd10 (c :: l) = true := by simp [hd10]; omega
          rw [rdP, if_neg e13, if_pos ⟨e10, rfl⟩, this, if_pos rfl, rdR, if_neg (by omega), if_pos e13, h1]
          have : c = 10 := by apply UInt8.toNat.inj; rw [e10]; rfl
          rw [this]
        · have : hd10 (c :: l) = false := by simp [hd10]; omega
          by_cases e0 : c.toNat = 0
          · simp [rdP, rdR, this, e0, h1]
          · simp [rdP, rdR, this, e0, e13, e10, h1]
theorem rd_same (l : List UInt8) : rdP false l = rdR l := (rd_tail l).1
def readyL (l : List UInt8) : List UInt8 := cleanL (rdR l)
end Go.Proofs.YtmiehnknnkcdlacDoor

/-
  What 'chars.Space', 'Letter', 'Digit' and the reference's do: of every byte, whether it is one.
-/
namespace Go.Proofs.YtmiehnknnkcdlacDoor
open Go.RowKit
set_option linter.unusedVariables false

theorem bneI {b : Nat} {k : Int} (h : ¬ (b : Int) = k) : ((b : Int) == k) = false := beq_eq_false_iff_ne.2 h

def ByteIs (f : Nat) (t : Nat → Bool) : Prop := ∀ (b : Nat) (w : World), Calls Tryd.prog f #[.int .u8 (b : Int)] w fun e w' => e = .returned (.bool (t b)) ∧ w' = w

theorem capital_any : ByteIs 78 upN := by
  intro b w
  by_cases h0 : 65 ≤ b
  · have i0 : (65 : Int) ≤ (b : Int) := by omega
    by_cases h1 : b ≤ 90
    · rw [upN_yes (by omega)]
      have i1 : (b : Int) ≤ 90 := by omega
      go_enter Tryd.func78, Tryd.ntmps78
      go_wp2
      go_ret
      exact ⟨rfl, rfl⟩
    · rw [upN_no (by omega)]
      have i1 : decide ((b : Int) ≤ 90) = false := by simp; omega
      clear h1
      go_enter Tryd.func78, Tryd.ntmps78
      go_wp2
      go_ret
      exact ⟨rfl, rfl⟩
  · rw [upN_no (by omega)]
    have i0 : decide ((65 : Int) ≤ (b : Int)) = false := by simp; omega
    clear h0
    go_enter Tryd.func78, Tryd.ntmps78
    go_wp2
    go_ret
    exact ⟨rfl, rfl⟩

theorem digit_any : ByteIs 36 dgN := by
  intro b w
  by_cases h0 : 48 ≤ b
  · have i0 : (48 : Int) ≤ (b : Int) := by omega
    by_cases h1 : b ≤ 57
    · rw [dgN_yes (by omega)]
      have i1 : (b : Int) ≤ 57 := by omega
      go_enter Tryd.func36, Tryd.ntmps36
      go_wp2
      go_ret
      exact ⟨rfl, rfl⟩
    · rw [dgN_no (by omega)]
      have i1 : decide ((b : Int) ≤ 57) = false := by simp; omega
      clear h1
      go_enter Tryd.func36, Tryd.ntmps36
      go_wp2
      go_ret
      exact ⟨rfl, rfl⟩
  · rw [dgN_no (by omega)]
    have i0 : decide ((48 : Int) ≤ (b : Int)) = false := by simp; omega
    clear h0
    go_enter Tryd.func36, Tryd.ntmps36
    go_wp2
    go_ret
    exact ⟨rfl, rfl⟩

theorem letter_any : ByteIs 87 ltN := by
  intro b w
  have C := hide (capital_any b)
  by_cases hu : 65 ≤ b ∧ b ≤ 90
  · rw [ltN_yes (.inl hu)]
    rw [upN_yes hu] at C
    clear hu
    go_enter Tryd.func87, Tryd.ntmps87
    go_wp2_with fail
    refine (unhide C _).mono ?_
    rintro e w1 ⟨rfl, rfl⟩
    go_wp2
    go_ret
    exact ⟨rfl, rfl⟩
  rw [upN_no hu] at C
  by_cases h0 : 97 ≤ b
  · have i0 : (97 : Int) ≤ (b : Int) := by omega
    by_cases h1 : b ≤ 122
    · rw [ltN_yes (by omega)]
      have i1 : (b : Int) ≤ 122 := by omega
      clear hu
      go_enter Tryd.func87, Tryd.ntmps87
      go_wp2_with fail
      refine (unhide C _).mono ?_
      rintro e w1 ⟨rfl, rfl⟩
      go_wp2
      go_ret
      exact ⟨rfl, rfl⟩
    · rw [ltN_no (by omega)]
      have i1 : decide ((b : Int) ≤ 122) = false := by simp; omega
      clear h1 hu
      go_enter Tryd.func87, Tryd.ntmps87
      go_wp2_with fail
      refine (unhide C _).mono ?_
      rintro e w1 ⟨rfl, rfl⟩
      go_wp2
      go_ret
      exact ⟨rfl, rfl⟩
  · rw [ltN_no (by omega)]
    have i0 : decide ((97 : Int) ≤ (b : Int)) = false := by simp; omega
    clear h0 hu
    go_enter Tryd.func87, Tryd.ntmps87
    go_wp2_with fail
    refine (unhide C _).mono ?_
    rintro e w1 ⟨rfl, rfl⟩
    go_wp2
    go_ret
    exact ⟨rfl, rfl⟩

end Go.Proofs.YtmiehnknnkcdlacDoor

/-
  What 'chars.Space' and the reference's do: of each byte, whether it is a space.
-/
namespace Go.Proofs.YtmiehnknnkcdlacDoor
open Go.RowKit
set_option linter.unusedVariables false

theorem space_any : ByteIs 58 spN := by
  intro b w
  by_cases h0 : b = 9
  · subst h0
    go_enter Tryd.func58, Tryd.ntmps58
    go_wp2
    go_ret
    exact ⟨rfl, rfl⟩
  have e0 : ((b : Int) == 9) = false := bneI (by omega)
  by_cases h1 : b = 10
  · subst h1
    go_enter Tryd.func58, Tryd.ntmps58
    go_wp2
    go_ret
    exact ⟨rfl, rfl⟩
  have e1 : ((b : Int) == 10) = false := bneI (by omega)
  by_cases h2 : b = 12
  · subst h2
    go_enter Tryd.func58, Tryd.ntmps58
    go_wp2
    go_ret
    exact ⟨rfl, rfl⟩
  have e2 : ((b : Int) == 12) = false := bneI (by omega)
  by_cases h3 : b = 32
  · subst h3
    go_enter Tryd.func58, Tryd.ntmps58
    go_wp2
    go_ret
    exact ⟨rfl, rfl⟩
  have e3 : ((b : Int) == 32) = false := bneI (by omega)
  rw [spN_no (by omega)]
  clear h0 h1 h2 h3
  go_enter Tryd.func58, Tryd.ntmps58
  go_wp2
  go_ret
  exact ⟨rfl, rfl⟩

theorem rspace_any : ByteIs 44 spN := by
  intro b w
  by_cases h0 : b = 9
  · subst h0
    go_enter Tryd.func44, Tryd.ntmps44
    go_wp2
    go_ret
    exact ⟨rfl, rfl⟩
  have e0 : ((b : Int) == 9) = false := bneI (by omega)
  by_cases h1 : b = 10
  · subst h1
    go_enter Tryd.func44, Tryd.ntmps44
    go_wp2
    go_ret
    exact ⟨rfl, rfl⟩
  have e1 : ((b : Int) == 10) = false := bneI (by omega)
  by_cases h2 : b = 12
  · subst h2
    go_enter Tryd.func44, Tryd.ntmps44
    go_wp2
    go_ret
    exact ⟨rfl, rfl⟩
  have e2 : ((b : Int) == 12) = false := bneI (by omega)
  by_cases h3 : b = 32
  · subst h3
    go_enter Tryd.func44, Tryd.ntmps44
    go_wp2
    go_ret
    exact ⟨rfl, rfl⟩
  have e3 : ((b : Int) == 32) = false := bneI (by omega)
  rw [spN_no (by omega)]
  clear h0 h1 h2 h3
  go_enter Tryd.func44, Tryd.ntmps44
  go_wp2
  go_ret
  exact ⟨rfl, rfl⟩

end Go.Proofs.YtmiehnknnkcdlacDoor

/-
  What pen and its reference make of texts, as plain functions of lists of bytes.
-/
namespace Go.Proofs.YtmiehnknnkcdlacDoor
open Go.RowKit
set_option linter.unusedVariables false

def smN (b : Nat) : Bool := decide (97 ≤ b ∧ b ≤ 122)
def okN (b : Nat) : Bool := smN b || (dgN b || (decide (b = 45) || decide (b = 58)))
def moreN (b : Nat) : Bool := decide ((48 ≤ b ∧ b ≤ 58) ∨ b = 45)
theorem ok_more (b : Nat) : okN b = (smN b || moreN b) := by
  unfold okN dgN moreN
  cases smN b with
  | true => rfl
  | false =>
    simp only [Bool.false_or]
    by_cases h : (48 ≤ b ∧ b ≤ 58) ∨ b = 45
    · rw [decide_eq_true h]
      by_cases h1 : 48 ≤ b ∧ b ≤ 57
      · simp [h1]
      · by_cases h2 : b = 45
        · simp [h2]
        · have : b = 58 := by omega
          simp [this]
    · rw [decide_eq_false h, decide_eq_false (by omega), decide_eq_false (by omega), decide_eq_false (by omega)]; rfl
def gdN (b : Nat) : Bool := decide (b ≠ 0 ∧ b ≠ 13)
def allN (p : Nat → Bool) (l : List UInt8) : Bool := l.all fun c => p c.toNat
theorem allN_nil (p : Nat → Bool) : allN p [] = true := rfl
theorem allN_step (p : Nat → Bool) {l : List UInt8} {k : Nat} (h : k < l.length) : allN p (l.drop k) = (p (dgt l k) && allN p (l.drop (k + 1))) := by
  obtain ⟨c, hc, hn⟩ := drop_at l k h
  rw [hc, ← hn]; rfl
theorem allN_end (p : Nat → Bool) {l : List UInt8} {k : Nat} (h : l.length ≤ k) : allN p (l.drop k) = true := by
  rw [List.drop_eq_nil_of_le h]; rfl
def nameB (l : List UInt8) : Bool := decide (0 < l.length ∧ l.length ≤ 24) && (smN (dgt l 0) && allN okN l)
def goodB (l : List UInt8) : Bool := rightB l && allN gdN l
theorem smN_yes {b : Nat} (h : 97 ≤ b ∧ b ≤ 122) : smN b = true := decide_eq_true h
theorem smN_no {b : Nat} (h : ¬ (97 ≤ b ∧ b ≤ 122)) : smN b = false := decide_eq_false h

theorem small_any : ByteIs 33 smN := by
  intro b w
  by_cases h1 : 97 ≤ b
  · have i1 : (97 : Int) ≤ (b : Int) := by omega
    by_cases h2 : b ≤ 122
    · have i2 : (b : Int) ≤ 122 := by omega
      rw [smN_yes ⟨h1, h2⟩]
      go_enter Tryd.func33, Tryd.ntmps33
      go_wp2
      go_ret
      exact ⟨rfl, rfl⟩
    · have i2 : decide ((b : Int) ≤ 122) = false := decide_eq_false (by omega)
      rw [smN_no (by omega)]
      clear h2
      go_enter Tryd.func33, Tryd.ntmps33
      go_wp2
      go_ret
      exact ⟨rfl, rfl⟩
  · have i1 : decide ((97 : Int) ≤ (b : Int)) = false := decide_eq_false (by omega)
    rw [smN_no (by omega)]
    clear h1
    go_enter Tryd.func33, Tryd.ntmps33
    go_wp2
    go_ret
    exact ⟨rfl, rfl⟩
theorem fine_any : ByteIs 38 gdN := by
  intro b w
  unfold gdN
  by_cases h1 : b = 0
  · subst h1
    rw [decide_eq_false (by omega)]
    go_enter Tryd.func38, Tryd.ntmps38
    go_wp2
    go_ret
    exact ⟨rfl, rfl⟩
  · have n0 : ((b : Int) == 0) = false := bneI (by omega)
    have m0 : ((b : Int) != 0) = true := by simp; omega
    by_cases h2 : b = 13
    · subst h2
      rw [decide_eq_false (by omega)]
      go_enter Tryd.func38, Tryd.ntmps38
      go_wp2
      go_ret
      exact ⟨rfl, rfl⟩
    · have n1 : ((b : Int) == 13) = false := bneI (by omega)
      have m1 : ((b : Int) != 13) = true := by simp; omega
      rw [decide_eq_true (by omega)]
      clear h1 h2
      go_enter Tryd.func38, Tryd.ntmps38
      go_wp2
      go_ret
      exact ⟨rfl, rfl⟩

/-- The variable that the test of names captures. -/
def Cap (g : Nat) (w : World) : Prop := w.cell? ⟨g, 0, none⟩ = some (.func (.func 33) #[] #[])
theorem sign_any (b g : Nat) (w : World) (hg : Cap g w) :
    Calls Tryd.prog 35 #[.int .u8 (b : Int), .pointer (some ⟨g, 0, none⟩)] w fun e w' => e = .returned (.bool (okN b)) ∧ w' = w := by
  unfold Cap at hg
  unfold okN
  have CS := hide (small_any b)
  have CD := hide (digit_any b)
  generalize smN b = sb at *
  generalize dgN b = db at *
  cases sb with
  | true =>
    rw [Bool.true_or]
    go_enter Tryd.func35, Tryd.ntmps35
    go_wp2_with (first
      | (go_at_call 33; refine (unhide CS _).mono ?_; rintro e w1 ⟨rfl, rfl⟩)
      | (go_at_call 36; refine (unhide CD _).mono ?_; rintro e w1 ⟨rfl, rfl⟩))
    go_ret
    exact ⟨rfl, rfl⟩
  | false =>
    rw [Bool.false_or]
    cases db with
    | true =>
      rw [Bool.true_or]
      go_enter Tryd.func35, Tryd.ntmps35
      go_wp2_with (first
        | (go_at_call 33; refine (unhide CS _).mono ?_; rintro e w1 ⟨rfl, rfl⟩)
        | (go_at_call 36; refine (unhide CD _).mono ?_; rintro e w1 ⟨rfl, rfl⟩))
      go_ret
      exact ⟨rfl, rfl⟩
    | false =>
      rw [Bool.false_or]
      by_cases h1 : b = 45
      · subst h1
        rw [decide_eq_true rfl, Bool.true_or]
        go_enter Tryd.func35, Tryd.ntmps35
        go_wp2_with (first
          | (go_at_call 33; refine (unhide CS _).mono ?_; rintro e w1 ⟨rfl, rfl⟩)
          | (go_at_call 36; refine (unhide CD _).mono ?_; rintro e w1 ⟨rfl, rfl⟩))
        go_ret
        exact ⟨rfl, rfl⟩
      · have n1 : ((b : Int) == 45) = false := bneI (by omega)
        rw [decide_eq_false h1, Bool.false_or]
        by_cases h2 : b = 58
        · subst h2
          rw [decide_eq_true rfl]
          go_enter Tryd.func35, Tryd.ntmps35
          go_wp2_with (first
            | (go_at_call 33; refine (unhide CS _).mono ?_; rintro e w1 ⟨rfl, rfl⟩)
            | (go_at_call 36; refine (unhide CD _).mono ?_; rintro e w1 ⟨rfl, rfl⟩))
          go_ret
          exact ⟨rfl, rfl⟩
        · have n2 : ((b : Int) == 58) = false := bneI (by omega)
          rw [decide_eq_false h2]
          clear h1 h2
          go_enter Tryd.func35, Tryd.ntmps35
          go_wp2_with (first
            | (go_at_call 33; refine (unhide CS _).mono ?_; rintro e w1 ⟨rfl, rfl⟩)
            | (go_at_call 36; refine (unhide CD _).mono ?_; rintro e w1 ⟨rfl, rfl⟩))
          go_ret
          exact ⟨rfl, rfl⟩

set_option maxHeartbeats 1000000 in
theorem every_good (s : ByteArray) (w : World) (hs : s.size ≤ 9223372036854775807) :
    Calls Tryd.prog 34 #[.string s, .func (.func 38) #[] #[]] w fun e w' => e = .returned (.bool (allN gdN s.data.toList)) ∧ w' = w := by
  go_enter Tryd.func34, Tryd.ntmps34
  go_wp2
  go_loopw [8] (fun i wr => ∃ k : Nat, k ≤ s.size ∧ i = .int .i64 k ∧ allN gdN s.data.toList = allN gdN (s.data.toList.drop k) ∧ wr = w) (fun i _ => s.size - (intOf i).toNat)
  case atStart => exact ⟨0, Nat.zero_le _, rfl, rfl, rfl⟩
  case round =>
    obtain ⟨k, hk, rfl, hr, rfl⟩ := hrel
    have HR := hide hr
    clear hr
    by_cases hp : k < s.size
    · have hpi : (k : Int) < (s.size : Int) := by omega
      have e := dgt_at s k hp
      have hst := allN_step gdN (l := s.data.toList) (k := k) (by rw [data_len]; exact hp)
      have C := hide (fine_any (dgt s.data.toList k))
      have HST := hide hst
      clear hst
      generalize dgt s.data.toList k = b at *
      cases hg : gdN b with
      | true =>
        rw [hg] at C HST
        clear hg
        go_wp2_with (go_at_call 38; refine (unhide C _).mono ?_; rintro e1 w1 ⟨rfl, rfl⟩)
        go_roundw
        case rel => exact ⟨k + 1, by omega, by go_num, by rw [unhide HR, unhide HST]; rfl, by first | exact rfl | trivial⟩
        case measure => simp [intOf]; omega
      | false =>
        rw [hg] at C HST
        clear hg
        go_wp2_with (go_at_call 38; refine (unhide C _).mono ?_; rintro e1 w1 ⟨rfl, rfl⟩)
        go_ret
        exact ⟨by rw [unhide HR, unhide HST]; rfl, rfl⟩
    · have he : allN gdN s.data.toList = true := by rw [unhide HR]; exact allN_end _ (by rw [data_len]; omega)
      have HE := hide he
      clear he
      go_wp2
      go_ret
      exact ⟨by rw [unhide HE]; rfl, rfl⟩

set_option maxHeartbeats 1000000 in
theorem every_name (s : ByteArray) (g : Nat) (w : World) (hg : Cap g w) (hs : s.size ≤ 9223372036854775807) :
    Calls Tryd.prog 34 #[.string s, .func (.func 35) #[] #[.pointer (some ⟨g, 0, none⟩)]] w fun e w' => e = .returned (.bool (allN okN s.data.toList)) ∧ w' = w := by
  have HG := hide hg
  clear hg
  go_enter Tryd.func34, Tryd.ntmps34
  go_wp2
  go_loopw [8] (fun i wr => ∃ k : Nat, k ≤ s.size ∧ i = .int .i64 k ∧ allN okN s.data.toList = allN okN (s.data.toList.drop k) ∧ wr = w) (fun i _ => s.size - (intOf i).toNat)
  case atStart => exact ⟨0, Nat.zero_le _, rfl, rfl, rfl⟩
  case round =>
    obtain ⟨k, hk, rfl, hr, rfl⟩ := hrel
    have HR := hide hr
    clear hr
    by_cases hp : k < s.size
    · have hpi : (k : Int) < (s.size : Int) := by omega
      have e := dgt_at s k hp
      have hst := allN_step okN (l := s.data.toList) (k := k) (by rw [data_len]; exact hp)
      have C := hide (fun w h => sign_any (dgt s.data.toList k) g w h)
      have HST := hide hst
      clear hst
      generalize dgt s.data.toList k = b at *
      cases ho : okN b with
      | true =>
        rw [ho] at C HST
        clear ho
        go_wp2_with (go_at_call 35; refine (unhide C _ (unhide HG)).mono ?_; rintro e1 w1 ⟨rfl, rfl⟩)
        go_roundw
        case rel => exact ⟨k + 1, by omega, by go_num, by rw [unhide HR, unhide HST]; rfl, by first | exact rfl | trivial⟩
        case measure => simp [intOf]; omega
      | false =>
        rw [ho] at C HST
        clear ho
        go_wp2_with (go_at_call 35; refine (unhide C _ (unhide HG)).mono ?_; rintro e1 w1 ⟨rfl, rfl⟩)
        go_ret
        exact ⟨by rw [unhide HR, unhide HST]; rfl, rfl⟩
    · have he : allN okN s.data.toList = true := by rw [unhide HR]; exact allN_end _ (by rw [data_len]; omega)
      have HE := hide he
      clear he
      go_wp2
      go_ret
      exact ⟨by rw [unhide HE]; rfl, rfl⟩
end Go.Proofs.YtmiehnknnkcdlacDoor

/-
  The two tables of package utf, and what 'utf.isCharacter' and 'utf.size' do.
-/
namespace Go.Proofs.YtmiehnknnkcdlacDoor
open Go.RowKit
set_option linter.unusedVariables false

/-- The two tables, as their text says them. -/
def Tabs (w : World) : Prop :=
  w.cell? ⟨0, 1, none⟩ = some (.int .i64 0) ∧ w.cell? ⟨0, 2, none⟩ = some (.int .i64 192) ∧ w.cell? ⟨0, 3, none⟩ = some (.int .i64 224) ∧ w.cell? ⟨0, 4, none⟩ = some (.int .i64 240) ∧
  w.cell? ⟨1, 1, none⟩ = some (.int .i64 128) ∧ w.cell? ⟨1, 2, none⟩ = some (.int .i64 2048) ∧ w.cell? ⟨1, 3, none⟩ = some (.int .i64 65536) ∧ w.cell? ⟨1, 4, none⟩ = some (.int .i64 1114112)
theorem Tabs.below {w w' : World} (h : Tabs w) (hb : Below w.heap.size w w') : Tabs w' := by
  obtain ⟨h1, h2, h3, h4, h5, h6, h7, h8⟩ := h
  exact ⟨cell_later hb h1, cell_later hb h2, cell_later hb h3, cell_later hb h4, cell_later hb h5, cell_later hb h6, cell_later hb h7, cell_later hb h8⟩
theorem Tabs.lt {w : World} (h : Tabs w) : 0 < w.heap.size ∧ 1 < w.heap.size := by
  obtain ⟨h1, _, _, _, h5, _⟩ := h
  exact ⟨World.block_lt_of_cell? w ⟨0, 1, none⟩ h1, World.block_lt_of_cell? w ⟨1, 1, none⟩ h5⟩

theorem isChar_any (c : Int) (w : World) :
    Calls Tryd.prog 71 #[.int .i64 c] w fun e w' => e = .returned (.bool (isC c)) ∧ w' = w := by
  by_cases h1 : 0 ≤ c
  · by_cases h2 : c ≤ 1114111
    · by_cases h3 : c < 55296
      · rw [isC_mk (by omega)]
        go_enter Tryd.func71, Tryd.ntmps71
        go_wp2
        go_ret
        exact ⟨rfl, rfl⟩
      · have h3' : 55296 ≤ c := by omega
        by_cases h4 : 57343 < c
        · rw [isC_mk (by omega)]
          clear h3
          go_enter Tryd.func71, Tryd.ntmps71
          go_wp2
          go_ret
          exact ⟨rfl, rfl⟩
        · rw [isC_no (by omega)]
          have h4' : c ≤ 57343 := by omega
          have hd : decide (57343 < c) = false := by simp; omega
          have hd3 : decide (c < 55296) = false := by simp; omega
          clear h3 h4
          go_enter Tryd.func71, Tryd.ntmps71
          go_wp2
          go_ret
          exact ⟨rfl, rfl⟩
    · rw [isC_no (by omega)]
      have h2' : 1114111 < c := by omega
      have hd : decide (c ≤ 1114111) = false := by simp; omega
      clear h2
      go_enter Tryd.func71, Tryd.ntmps71
      go_wp2
      go_ret
      exact ⟨rfl, rfl⟩
  · rw [isC_no (by omega)]
    have h1' : c < 0 := by omega
    have hd : decide (0 ≤ c) = false := by simp; omega
    clear h1
    go_enter Tryd.func71, Tryd.ntmps71
    go_wp2
    go_ret
    exact ⟨rfl, rfl⟩

theorem size_any (c : Int) (w : World) (h0 : 0 ≤ c) (h1 : c ≤ 1114111) (ht : Tabs w) :
    Calls Tryd.prog 72 #[.int .i64 c] w fun e w' => e = .returned (.int .i64 (sz c : Int)) ∧ w' = w := by
  obtain ⟨_, _, _, _, t1, t2, t3, t4⟩ := ht
  rcases sz_cases c with ⟨h, e⟩ | ⟨hl, h, e⟩ | ⟨hl, h, e⟩ | ⟨hl, e⟩
  · rw [e]
    clear e
    go_enter Tryd.func72, Tryd.ntmps72
    go_wp2
    refine wp_loop_rounds 1 ?_
    rw [rounds_succ]; go_wp2
    go_ret
    exact ⟨rfl, rfl⟩
  · rw [e]
    clear e
    go_enter Tryd.func72, Tryd.ntmps72
    go_wp2
    refine wp_loop_rounds 2 ?_
    rw [rounds_succ]; go_wp2
    rw [rounds_succ]; go_wp2
    go_ret
    exact ⟨rfl, rfl⟩
  · rw [e]
    clear e
    go_enter Tryd.func72, Tryd.ntmps72
    go_wp2
    refine wp_loop_rounds 3 ?_
    rw [rounds_succ]; go_wp2
    rw [rounds_succ]; go_wp2
    rw [rounds_succ]; go_wp2
    go_ret
    exact ⟨rfl, rfl⟩
  · rw [e]
    clear e
    go_enter Tryd.func72, Tryd.ntmps72
    go_wp2
    refine wp_loop_rounds 4 ?_
    rw [rounds_succ]; go_wp2
    rw [rounds_succ]; go_wp2
    rw [rounds_succ]; go_wp2
    rw [rounds_succ]; go_wp2
    go_ret
    exact ⟨rfl, rfl⟩
end Go.Proofs.YtmiehnknnkcdlacDoor

/-
  What 'utf.First' does: of every text its first character and how many bytes it has, as the plain function says it.
-/
namespace Go.Proofs.YtmiehnknnkcdlacDoor
open Go.RowKit
set_option linter.unusedVariables false

def tld (b : Nat) : Nat := if 240 ≤ b then 4 else if 224 ≤ b then 3 else if 192 ≤ b then 2 else 1

set_option maxRecDepth 100000 in
theorem told_any (b : Nat) (w : World) (hb : b < 256) (ht : Tabs w) :
    Calls Tryd.prog 73 #[.int .u8 b] w fun e w' => e = .returned (.int .i64 (tld b : Int)) ∧ w' = w := by
  obtain ⟨t1, t2, t3, t4, _⟩ := ht
  by_cases h4 : 240 ≤ b
  · rw [show tld b = 4 from if_pos h4]
    go_enter Tryd.func73, Tryd.ntmps73
    go_wp2
    refine wp_loop_rounds 1 ?_
    rw [rounds_succ]; go_wp2
    go_ret
    exact ⟨rfl, rfl⟩
  have g4 : b < 240 := by omega
  by_cases h3 : 224 ≤ b
  · rw [show tld b = 3 by rw [tld, if_neg (by omega), if_pos h3]]
    clear h4
    go_enter Tryd.func73, Tryd.ntmps73
    go_wp2
    refine wp_loop_rounds 2 ?_
    rw [rounds_succ]; go_wp2
    rw [rounds_succ]; go_wp2
    go_ret
    exact ⟨rfl, rfl⟩
  have g3 : b < 224 := by omega
  by_cases h2 : 192 ≤ b
  · rw [show tld b = 2 by rw [tld, if_neg (by omega), if_neg (by omega), if_pos h2]]
    clear h4 h3
    go_enter Tryd.func73, Tryd.ntmps73
    go_wp2
    refine wp_loop_rounds 3 ?_
    rw [rounds_succ]; go_wp2
    rw [rounds_succ]; go_wp2
    rw [rounds_succ]; go_wp2
    go_ret
    exact ⟨rfl, rfl⟩
  · have g2 : b < 192 := by omega
    rw [show tld b = 1 by rw [tld, if_neg (by omega), if_neg (by omega), if_neg (by omega)]]
    clear h4 h3 h2
    go_enter Tryd.func73, Tryd.ntmps73
    go_wp2
    refine wp_loop_rounds 4 ?_
    rw [rounds_succ]; go_wp2
    rw [rounds_succ]; go_wp2
    rw [rounds_succ]; go_wp2
    rw [rounds_succ]; go_wp2
    go_ret
    exact ⟨rfl, rfl⟩

def ToldIs (b n : Nat) : Prop := ∀ w, Tabs w → Calls Tryd.prog 73 #[.int .u8 b] w fun e w' => e = .returned (.int .i64 n) ∧ w' = w
def CharIs (c : Int) (t : Bool) : Prop := ∀ w, Calls Tryd.prog 71 #[.int .i64 c] w fun e w' => e = .returned (.bool t) ∧ w' = w
def SizeIs (c : Int) (k : Nat) : Prop := ∀ w, Tabs w → Calls Tryd.prog 72 #[.int .i64 c] w fun e w' => e = .returned (.int .i64 k) ∧ w' = w

theorem first_empty (s : ByteArray) (w : World) (h : s.size = 0) :
    Calls Tryd.prog 52 #[.string s] w fun e w' => e = .returned (.tuple #[.int .i64 0, .int .i64 0]) ∧ Below w.heap.size w w' := by
  have he := is_empty s h
  go_enter Tryd.func52, Tryd.ntmps52
  go_wp2
  go_ret2
  exact ⟨rfl, Below.refl _ _⟩

/-- The answer where no character begins. -/
def bad : Value := .tuple #[.int .i64 65533, .int .i64 1]

set_option maxHeartbeats 400000 in
set_option maxRecDepth 100000 in
theorem first_1_none (s : ByteArray) (b0 : Nat) (w : World) (ht : Tabs w) (hs : s.size ≤ 9223372036854775807) (hn : 1 ≤ s.size) (C : ToldIs b0 1)
    (e0 : (s[0]'(by omega)).toNat = b0) (u0 : b0 < 192)  (CC : CharIs (b0 : Int) false) :
    Calls Tryd.prog 52 #[.string s] w fun e w' => e = .returned bad ∧ Below w.heap.size w w' := by
  have he := not_empty s (by omega)
  have z0 : (0 : Int) < (s.size : Int) := by omega
  have zn : (1 : Int) ≤ (s.size : Int) := by omega
  have HT := hide ht
  obtain ⟨t1, t2, t3, t4, _⟩ := ht
  go_enter Tryd.func52, Tryd.ntmps52
  go_wp2_with fail
  refine (C _ (unhide HT)).mono ?_
  rintro e w1 ⟨rfl, rfl⟩
  go_wp2
  go_quiet (fail)
  go_wp2
  refine wp_loop_rounds 1 ?_
  rw [rounds_succ]; go_wp2_with fail
  refine (CC _).mono ?_
  rintro e w2 ⟨rfl, rfl⟩
  go_wp2
  go_ret2
  exact ⟨rfl, below_draws _ _⟩

set_option maxHeartbeats 400000 in
set_option maxRecDepth 100000 in
theorem first_1_other (s : ByteArray) (b0 : Nat) (w : World) (ht : Tabs w) (hs : s.size ≤ 9223372036854775807) (hn : 1 ≤ s.size) (C : ToldIs b0 1)
    (e0 : (s[0]'(by omega)).toNat = b0) (u0 : b0 < 192)  (CC : CharIs (b0 : Int) true) (k : Nat) (CS : SizeIs (b0 : Int) k) (hk : ((k : Int) != 1) = true) :
    Calls Tryd.prog 52 #[.string s] w fun e w' => e = .returned bad ∧ Below w.heap.size w w' := by
  have he := not_empty s (by omega)
  have z0 : (0 : Int) < (s.size : Int) := by omega
  have zn : (1 : Int) ≤ (s.size : Int) := by omega
  have HT := hide ht
  obtain ⟨t1, t2, t3, t4, _⟩ := ht
  go_enter Tryd.func52, Tryd.ntmps52
  go_wp2_with fail
  refine (C _ (unhide HT)).mono ?_
  rintro e w1 ⟨rfl, rfl⟩
  go_wp2
  go_quiet (fail)
  go_wp2
  refine wp_loop_rounds 1 ?_
  rw [rounds_succ]; go_wp2_with fail
  refine (CC _).mono ?_
  rintro e w2 ⟨rfl, rfl⟩
  go_wp2_with fail
  refine (CS _ ((unhide HT).below (below_draws _ _))).mono ?_
  rintro e w2 ⟨rfl, rfl⟩
  go_wp2
  go_ret2
  exact ⟨rfl, below_draws _ _⟩

set_option maxHeartbeats 400000 in
set_option maxRecDepth 100000 in
theorem first_1_ok (s : ByteArray) (b0 : Nat) (w : World) (ht : Tabs w) (hs : s.size ≤ 9223372036854775807) (hn : 1 ≤ s.size) (C : ToldIs b0 1)
    (e0 : (s[0]'(by omega)).toNat = b0) (u0 : b0 < 192)  (CC : CharIs (b0 : Int) true) (CS : SizeIs (b0 : Int) 1) :
    Calls Tryd.prog 52 #[.string s] w fun e w' => e = .returned (.tuple #[.int .i64 (b0 : Int), .int .i64 1]) ∧ Below w.heap.size w w' := by
  have he := not_empty s (by omega)
  have z0 : (0 : Int) < (s.size : Int) := by omega
  have zn : (1 : Int) ≤ (s.size : Int) := by omega
  have HT := hide ht
  obtain ⟨t1, t2, t3, t4, _⟩ := ht
  go_enter Tryd.func52, Tryd.ntmps52
  go_wp2_with fail
  refine (C _ (unhide HT)).mono ?_
  rintro e w1 ⟨rfl, rfl⟩
  go_wp2
  go_quiet (fail)
  go_wp2
  refine wp_loop_rounds 1 ?_
  rw [rounds_succ]; go_wp2_with fail
  refine (CC _).mono ?_
  rintro e w2 ⟨rfl, rfl⟩
  go_wp2_with fail
  refine (CS _ ((unhide HT).below (below_draws _ _))).mono ?_
  rintro e w2 ⟨rfl, rfl⟩
  go_wp2
  go_ret2
  exact ⟨rfl, below_draws _ _⟩

set_option maxHeartbeats 400000 in
set_option maxRecDepth 100000 in
theorem first_2_short (s : ByteArray) (b0 : Nat) (w : World) (ht : Tabs w) (hs : s.size ≤ 9223372036854775807) (hn : 1 ≤ s.size) (hx : s.size < 2) (C : ToldIs b0 2)
    (e0 : (s[0]'(by omega)).toNat = b0) (l0 : 192 ≤ b0) (u0 : b0 < 224)  :
    Calls Tryd.prog 52 #[.string s] w fun e w' => e = .returned bad ∧ Below w.heap.size w w' := by
  have he := not_empty s (by omega)
  have z0 : (0 : Int) < (s.size : Int) := by omega
  have zn : (s.size : Int) < 2 := by omega
  have HT := hide ht
  obtain ⟨t1, t2, t3, t4, _⟩ := ht
  go_enter Tryd.func52, Tryd.ntmps52
  go_wp2_with fail
  refine (C _ (unhide HT)).mono ?_
  rintro e w1 ⟨rfl, rfl⟩
  go_wp2
  go_ret2
  exact ⟨rfl, Below.refl _ _⟩

set_option maxHeartbeats 400000 in
set_option maxRecDepth 100000 in
theorem first_2_low1 (s : ByteArray) (b0 b1 : Nat) (w : World) (ht : Tabs w) (hs : s.size ≤ 9223372036854775807) (hn : 2 ≤ s.size) (C : ToldIs b0 2)
    (e0 : (s[0]'(by omega)).toNat = b0) (e1 : (s[1]'(by omega)).toNat = b1) (l0 : 192 ≤ b0) (u0 : b0 < 224)  (u1 : b1 < 128) :
    Calls Tryd.prog 52 #[.string s] w fun e w' => e = .returned bad ∧ Below w.heap.size w w' := by
  have he := not_empty s (by omega)
  have z0 : (0 : Int) < (s.size : Int) := by omega
  have z1 : (1 : Int) < (s.size : Int) := by omega
  have zn : (2 : Int) ≤ (s.size : Int) := by omega
  have HT := hide ht
  obtain ⟨t1, t2, t3, t4, _⟩ := ht
  go_enter Tryd.func52, Tryd.ntmps52
  go_wp2_with fail
  refine (C _ (unhide HT)).mono ?_
  rintro e w1 ⟨rfl, rfl⟩
  go_wp2
  go_quiet (fail)
  go_wp2
  refine wp_loop_rounds 2 ?_
  rw [rounds_succ]; go_wp2
  go_ret2
  exact ⟨rfl, below_draws _ _⟩

set_option maxHeartbeats 400000 in
set_option maxRecDepth 100000 in
theorem first_2_high1 (s : ByteArray) (b0 b1 : Nat) (w : World) (ht : Tabs w) (hs : s.size ≤ 9223372036854775807) (hn : 2 ≤ s.size) (C : ToldIs b0 2)
    (e0 : (s[0]'(by omega)).toNat = b0) (e1 : (s[1]'(by omega)).toNat = b1) (l0 : 192 ≤ b0) (u0 : b0 < 224)  (l1 : 192 ≤ b1) (u1 : b1 < 256) :
    Calls Tryd.prog 52 #[.string s] w fun e w' => e = .returned bad ∧ Below w.heap.size w w' := by
  have he := not_empty s (by omega)
  have z0 : (0 : Int) < (s.size : Int) := by omega
  have z1 : (1 : Int) < (s.size : Int) := by omega
  have zn : (2 : Int) ≤ (s.size : Int) := by omega
  have HT := hide ht
  obtain ⟨t1, t2, t3, t4, _⟩ := ht
  go_enter Tryd.func52, Tryd.ntmps52
  go_wp2_with fail
  refine (C _ (unhide HT)).mono ?_
  rintro e w1 ⟨rfl, rfl⟩
  go_wp2
  go_quiet (fail)
  go_wp2
  refine wp_loop_rounds 2 ?_
  rw [rounds_succ]; go_wp2
  go_ret2
  exact ⟨rfl, below_draws _ _⟩

set_option maxHeartbeats 400000 in
set_option maxRecDepth 100000 in
theorem first_2_none (s : ByteArray) (b0 b1 : Nat) (w : World) (ht : Tabs w) (hs : s.size ≤ 9223372036854775807) (hn : 2 ≤ s.size) (C : ToldIs b0 2)
    (e0 : (s[0]'(by omega)).toNat = b0) (e1 : (s[1]'(by omega)).toNat = b1) (l0 : 192 ≤ b0) (u0 : b0 < 224) (l1 : 128 ≤ b1) (u1 : b1 < 192) (CC : CharIs (((b0 : Int) - 192) * 64 + ((b1 : Int) - 128)) false) :
    Calls Tryd.prog 52 #[.string s] w fun e w' => e = .returned bad ∧ Below w.heap.size w w' := by
  have he := not_empty s (by omega)
  have z0 : (0 : Int) < (s.size : Int) := by omega
  have z1 : (1 : Int) < (s.size : Int) := by omega
  have zn : (2 : Int) ≤ (s.size : Int) := by omega
  have HT := hide ht
  obtain ⟨t1, t2, t3, t4, _⟩ := ht
  go_enter Tryd.func52, Tryd.ntmps52
  go_wp2_with fail
  refine (C _ (unhide HT)).mono ?_
  rintro e w1 ⟨rfl, rfl⟩
  go_wp2
  go_quiet (fail)
  go_wp2
  refine wp_loop_rounds 2 ?_
  rw [rounds_succ]; go_wp2
  rw [rounds_succ]; go_wp2_with fail
  refine (CC _).mono ?_
  rintro e w2 ⟨rfl, rfl⟩
  go_wp2
  go_ret2
  exact ⟨rfl, below_draws _ _⟩

set_option maxHeartbeats 400000 in
set_option maxRecDepth 100000 in
theorem first_2_other (s : ByteArray) (b0 b1 : Nat) (w : World) (ht : Tabs w) (hs : s.size ≤ 9223372036854775807) (hn : 2 ≤ s.size) (C : ToldIs b0 2)
    (e0 : (s[0]'(by omega)).toNat = b0) (e1 : (s[1]'(by omega)).toNat = b1) (l0 : 192 ≤ b0) (u0 : b0 < 224) (l1 : 128 ≤ b1) (u1 : b1 < 192) (CC : CharIs (((b0 : Int) - 192) * 64 + ((b1 : Int) - 128)) true) (k : Nat) (CS : SizeIs (((b0 : Int) - 192) * 64 + ((b1 : Int) - 128)) k) (hk : ((k : Int) != 2) = true) :
    Calls Tryd.prog 52 #[.string s] w fun e w' => e = .returned bad ∧ Below w.heap.size w w' := by
  have he := not_empty s (by omega)
  have z0 : (0 : Int) < (s.size : Int) := by omega
  have z1 : (1 : Int) < (s.size : Int) := by omega
  have zn : (2 : Int) ≤ (s.size : Int) := by omega
  have HT := hide ht
  obtain ⟨t1, t2, t3, t4, _⟩ := ht
  go_enter Tryd.func52, Tryd.ntmps52
  go_wp2_with fail
  refine (C _ (unhide HT)).mono ?_
  rintro e w1 ⟨rfl, rfl⟩
  go_wp2
  go_quiet (fail)
  go_wp2
  refine wp_loop_rounds 2 ?_
  rw [rounds_succ]; go_wp2
  rw [rounds_succ]; go_wp2_with fail
  refine (CC _).mono ?_
  rintro e w2 ⟨rfl, rfl⟩
  go_wp2_with fail
  refine (CS _ ((unhide HT).below (below_draws _ _))).mono ?_
  rintro e w2 ⟨rfl, rfl⟩
  go_wp2
  go_ret2
  exact ⟨rfl, below_draws _ _⟩

set_option maxHeartbeats 400000 in
set_option maxRecDepth 100000 in
theorem first_2_ok (s : ByteArray) (b0 b1 : Nat) (w : World) (ht : Tabs w) (hs : s.size ≤ 9223372036854775807) (hn : 2 ≤ s.size) (C : ToldIs b0 2)
    (e0 : (s[0]'(by omega)).toNat = b0) (e1 : (s[1]'(by omega)).toNat = b1) (l0 : 192 ≤ b0) (u0 : b0 < 224) (l1 : 128 ≤ b1) (u1 : b1 < 192) (CC : CharIs (((b0 : Int) - 192) * 64 + ((b1 : Int) - 128)) true) (CS : SizeIs (((b0 : Int) - 192) * 64 + ((b1 : Int) - 128)) 2) :
    Calls Tryd.prog 52 #[.string s] w fun e w' => e = .returned (.tuple #[.int .i64 (((b0 : Int) - 192) * 64 + ((b1 : Int) - 128)), .int .i64 2]) ∧ Below w.heap.size w w' := by
  have he := not_empty s (by omega)
  have z0 : (0 : Int) < (s.size : Int) := by omega
  have z1 : (1 : Int) < (s.size : Int) := by omega
  have zn : (2 : Int) ≤ (s.size : Int) := by omega
  have HT := hide ht
  obtain ⟨t1, t2, t3, t4, _⟩ := ht
  go_enter Tryd.func52, Tryd.ntmps52
  go_wp2_with fail
  refine (C _ (unhide HT)).mono ?_
  rintro e w1 ⟨rfl, rfl⟩
  go_wp2
  go_quiet (fail)
  go_wp2
  refine wp_loop_rounds 2 ?_
  rw [rounds_succ]; go_wp2
  rw [rounds_succ]; go_wp2_with fail
  refine (CC _).mono ?_
  rintro e w2 ⟨rfl, rfl⟩
  go_wp2_with fail
  refine (CS _ ((unhide HT).below (below_draws _ _))).mono ?_
  rintro e w2 ⟨rfl, rfl⟩
  go_wp2
  go_ret2
  exact ⟨rfl, below_draws _ _⟩

set_option maxHeartbeats 400000 in
set_option maxRecDepth 100000 in
theorem first_3_short (s : ByteArray) (b0 : Nat) (w : World) (ht : Tabs w) (hs : s.size ≤ 9223372036854775807) (hn : 1 ≤ s.size) (hx : s.size < 3) (C : ToldIs b0 3)
    (e0 : (s[0]'(by omega)).toNat = b0) (l0 : 224 ≤ b0) (u0 : b0 < 240)  :
    Calls Tryd.prog 52 #[.string s] w fun e w' => e = .returned bad ∧ Below w.heap.size w w' := by
  have he := not_empty s (by omega)
  have z0 : (0 : Int) < (s.size : Int) := by omega
  have zn : (s.size : Int) < 3 := by omega
  have HT := hide ht
  obtain ⟨t1, t2, t3, t4, _⟩ := ht
  go_enter Tryd.func52, Tryd.ntmps52
  go_wp2_with fail
  refine (C _ (unhide HT)).mono ?_
  rintro e w1 ⟨rfl, rfl⟩
  go_wp2
  go_ret2
  exact ⟨rfl, Below.refl _ _⟩

set_option maxHeartbeats 400000 in
set_option maxRecDepth 100000 in
theorem first_3_low1 (s : ByteArray) (b0 b1 : Nat) (w : World) (ht : Tabs w) (hs : s.size ≤ 9223372036854775807) (hn : 3 ≤ s.size) (C : ToldIs b0 3)
    (e0 : (s[0]'(by omega)).toNat = b0) (e1 : (s[1]'(by omega)).toNat = b1) (l0 : 224 ≤ b0) (u0 : b0 < 240)  (u1 : b1 < 128) :
    Calls Tryd.prog 52 #[.string s] w fun e w' => e = .returned bad ∧ Below w.heap.size w w' := by
  have he := not_empty s (by omega)
  have z0 : (0 : Int) < (s.size : Int) := by omega
  have z1 : (1 : Int) < (s.size : Int) := by omega
  have zn : (3 : Int) ≤ (s.size : Int) := by omega
  have HT := hide ht
  obtain ⟨t1, t2, t3, t4, _⟩ := ht
  go_enter Tryd.func52, Tryd.ntmps52
  go_wp2_with fail
  refine (C _ (unhide HT)).mono ?_
  rintro e w1 ⟨rfl, rfl⟩
  go_wp2
  go_quiet (fail)
  go_wp2
  refine wp_loop_rounds 3 ?_
  rw [rounds_succ]; go_wp2
  go_ret2
  exact ⟨rfl, below_draws _ _⟩

set_option maxHeartbeats 400000 in
set_option maxRecDepth 100000 in
theorem first_3_high1 (s : ByteArray) (b0 b1 : Nat) (w : World) (ht : Tabs w) (hs : s.size ≤ 9223372036854775807) (hn : 3 ≤ s.size) (C : ToldIs b0 3)
    (e0 : (s[0]'(by omega)).toNat = b0) (e1 : (s[1]'(by omega)).toNat = b1) (l0 : 224 ≤ b0) (u0 : b0 < 240)  (l1 : 192 ≤ b1) (u1 : b1 < 256) :
    Calls Tryd.prog 52 #[.string s] w fun e w' => e = .returned bad ∧ Below w.heap.size w w' := by
  have he := not_empty s (by omega)
  have z0 : (0 : Int) < (s.size : Int) := by omega
  have z1 : (1 : Int) < (s.size : Int) := by omega
  have zn : (3 : Int) ≤ (s.size : Int) := by omega
  have HT := hide ht
  obtain ⟨t1, t2, t3, t4, _⟩ := ht
  go_enter Tryd.func52, Tryd.ntmps52
  go_wp2_with fail
  refine (C _ (unhide HT)).mono ?_
  rintro e w1 ⟨rfl, rfl⟩
  go_wp2
  go_quiet (fail)
  go_wp2
  refine wp_loop_rounds 3 ?_
  rw [rounds_succ]; go_wp2
  go_ret2
  exact ⟨rfl, below_draws _ _⟩

set_option maxHeartbeats 400000 in
set_option maxRecDepth 100000 in
theorem first_3_low2 (s : ByteArray) (b0 b1 b2 : Nat) (w : World) (ht : Tabs w) (hs : s.size ≤ 9223372036854775807) (hn : 3 ≤ s.size) (C : ToldIs b0 3)
    (e0 : (s[0]'(by omega)).toNat = b0) (e1 : (s[1]'(by omega)).toNat = b1) (e2 : (s[2]'(by omega)).toNat = b2) (l0 : 224 ≤ b0) (u0 : b0 < 240) (l1 : 128 ≤ b1) (u1 : b1 < 192) (u2 : b2 < 128) :
    Calls Tryd.prog 52 #[.string s] w fun e w' => e = .returned bad ∧ Below w.heap.size w w' := by
  have he := not_empty s (by omega)
  have z0 : (0 : Int) < (s.size : Int) := by omega
  have z1 : (1 : Int) < (s.size : Int) := by omega
  have z2 : (2 : Int) < (s.size : Int) := by omega
  have zn : (3 : Int) ≤ (s.size : Int) := by omega
  have HT := hide ht
  obtain ⟨t1, t2, t3, t4, _⟩ := ht
  go_enter Tryd.func52, Tryd.ntmps52
  go_wp2_with fail
  refine (C _ (unhide HT)).mono ?_
  rintro e w1 ⟨rfl, rfl⟩
  go_wp2
  go_quiet (fail)
  go_wp2
  refine wp_loop_rounds 3 ?_
  rw [rounds_succ]; go_wp2
  rw [rounds_succ]; go_wp2
  go_ret2
  exact ⟨rfl, below_draws _ _⟩

set_option maxHeartbeats 400000 in
set_option maxRecDepth 100000 in
theorem first_3_high2 (s : ByteArray) (b0 b1 b2 : Nat) (w : World) (ht : Tabs w) (hs : s.size ≤ 9223372036854775807) (hn : 3 ≤ s.size) (C : ToldIs b0 3)
    (e0 : (s[0]'(by omega)).toNat = b0) (e1 : (s[1]'(by omega)).toNat = b1) (e2 : (s[2]'(by omega)).toNat = b2) (l0 : 224 ≤ b0) (u0 : b0 < 240) (l1 : 128 ≤ b1) (u1 : b1 < 192) (l2 : 192 ≤ b2) (u2 : b2 < 256) :
    Calls Tryd.prog 52 #[.string s] w fun e w' => e = .returned bad ∧ Below w.heap.size w w' := by
  have he := not_empty s (by omega)
  have z0 : (0 : Int) < (s.size : Int) := by omega
  have z1 : (1 : Int) < (s.size : Int) := by omega
  have z2 : (2 : Int) < (s.size : Int) := by omega
  have zn : (3 : Int) ≤ (s.size : Int) := by omega
  have HT := hide ht
  obtain ⟨t1, t2, t3, t4, _⟩ := ht
  go_enter Tryd.func52, Tryd.ntmps52
  go_wp2_with fail
  refine (C _ (unhide HT)).mono ?_
  rintro e w1 ⟨rfl, rfl⟩
  go_wp2
  go_quiet (fail)
  go_wp2
  refine wp_loop_rounds 3 ?_
  rw [rounds_succ]; go_wp2
  rw [rounds_succ]; go_wp2
  go_ret2
  exact ⟨rfl, below_draws _ _⟩

set_option maxHeartbeats 400000 in
set_option maxRecDepth 100000 in
theorem first_3_none (s : ByteArray) (b0 b1 b2 : Nat) (w : World) (ht : Tabs w) (hs : s.size ≤ 9223372036854775807) (hn : 3 ≤ s.size) (C : ToldIs b0 3)
    (e0 : (s[0]'(by omega)).toNat = b0) (e1 : (s[1]'(by omega)).toNat = b1) (e2 : (s[2]'(by omega)).toNat = b2) (l0 : 224 ≤ b0) (u0 : b0 < 240) (l1 : 128 ≤ b1) (u1 : b1 < 192) (l2 : 128 ≤ b2) (u2 : b2 < 192) (CC : CharIs ((((b0 : Int) - 224) * 64 + ((b1 : Int) - 128)) * 64 + ((b2 : Int) - 128)) false) :
    Calls Tryd.prog 52 #[.string s] w fun e w' => e = .returned bad ∧ Below w.heap.size w w' := by
  have he := not_empty s (by omega)
  have z0 : (0 : Int) < (s.size : Int) := by omega
  have z1 : (1 : Int) < (s.size : Int) := by omega
  have z2 : (2 : Int) < (s.size : Int) := by omega
  have zn : (3 : Int) ≤ (s.size : Int) := by omega
  have HT := hide ht
  obtain ⟨t1, t2, t3, t4, _⟩ := ht
  go_enter Tryd.func52, Tryd.ntmps52
  go_wp2_with fail
  refine (C _ (unhide HT)).mono ?_
  rintro e w1 ⟨rfl, rfl⟩
  go_wp2
  go_quiet (fail)
  go_wp2
  refine wp_loop_rounds 3 ?_
  rw [rounds_succ]; go_wp2
  rw [rounds_succ]; go_wp2
  rw [rounds_succ]; go_wp2_with fail
  refine (CC _).mono ?_
  rintro e w2 ⟨rfl, rfl⟩
  go_wp2
  go_ret2
  exact ⟨rfl, below_draws _ _⟩

set_option maxHeartbeats 400000 in
set_option maxRecDepth 100000 in
theorem first_3_other (s : ByteArray) (b0 b1 b2 : Nat) (w : World) (ht : Tabs w) (hs : s.size ≤ 9223372036854775807) (hn : 3 ≤ s.size) (C : ToldIs b0 3)
    (e0 : (s[0]'(by omega)).toNat = b0) (e1 : (s[1]'(by omega)).toNat = b1) (e2 : (s[2]'(by omega)).toNat = b2) (l0 : 224 ≤ b0) (u0 : b0 < 240) (l1 : 128 ≤ b1) (u1 : b1 < 192) (l2 : 128 ≤ b2) (u2 : b2 < 192) (CC : CharIs ((((b0 : Int) - 224) * 64 + ((b1 : Int) - 128)) * 64 + ((b2 : Int) - 128)) true) (k : Nat) (CS : SizeIs ((((b0 : Int) - 224) * 64 + ((b1 : Int) - 128)) * 64 + ((b2 : Int) - 128)) k) (hk : ((k : Int) != 3) = true) :
    Calls Tryd.prog 52 #[.string s] w fun e w' => e = .returned bad ∧ Below w.heap.size w w' := by
  have he := not_empty s (by omega)
  have z0 : (0 : Int) < (s.size : Int) := by omega
  have z1 : (1 : Int) < (s.size : Int) := by omega
  have z2 : (2 : Int) < (s.size : Int) := by omega
  have zn : (3 : Int) ≤ (s.size : Int) := by omega
  have HT := hide ht
  obtain ⟨t1, t2, t3, t4, _⟩ := ht
  go_enter Tryd.func52, Tryd.ntmps52
  go_wp2_with fail
  refine (C _ (unhide HT)).mono ?_
  rintro e w1 ⟨rfl, rfl⟩
  go_wp2
  go_quiet (fail)
  go_wp2
  refine wp_loop_rounds 3 ?_
  rw [rounds_succ]; go_wp2
  rw [rounds_succ]; go_wp2
  rw [rounds_succ]; go_wp2_with fail
  refine (CC _).mono ?_
  rintro e w2 ⟨rfl, rfl⟩
  go_wp2_with fail
  refine (CS _ ((unhide HT).below (below_draws _ _))).mono ?_
  rintro e w2 ⟨rfl, rfl⟩
  go_wp2
  go_ret2
  exact ⟨rfl, below_draws _ _⟩

set_option maxHeartbeats 400000 in
set_option maxRecDepth 100000 in
theorem first_3_ok (s : ByteArray) (b0 b1 b2 : Nat) (w : World) (ht : Tabs w) (hs : s.size ≤ 9223372036854775807) (hn : 3 ≤ s.size) (C : ToldIs b0 3)
    (e0 : (s[0]'(by omega)).toNat = b0) (e1 : (s[1]'(by omega)).toNat = b1) (e2 : (s[2]'(by omega)).toNat = b2) (l0 : 224 ≤ b0) (u0 : b0 < 240) (l1 : 128 ≤ b1) (u1 : b1 < 192) (l2 : 128 ≤ b2) (u2 : b2 < 192) (CC : CharIs ((((b0 : Int) - 224) * 64 + ((b1 : Int) - 128)) * 64 + ((b2 : Int) - 128)) true) (CS : SizeIs ((((b0 : Int) - 224) * 64 + ((b1 : Int) - 128)) * 64 + ((b2 : Int) - 128)) 3) :
    Calls Tryd.prog 52 #[.string s] w fun e w' => e = .returned (.tuple #[.int .i64 ((((b0 : Int) - 224) * 64 + ((b1 : Int) - 128)) * 64 + ((b2 : Int) - 128)), .int .i64 3]) ∧ Below w.heap.size w w' := by
  have he := not_empty s (by omega)
  have z0 : (0 : Int) < (s.size : Int) := by omega
  have z1 : (1 : Int) < (s.size : Int) := by omega
  have z2 : (2 : Int) < (s.size : Int) := by omega
  have zn : (3 : Int) ≤ (s.size : Int) := by omega
  have HT := hide ht
  obtain ⟨t1, t2, t3, t4, _⟩ := ht
  go_enter Tryd.func52, Tryd.ntmps52
  go_wp2_with fail
  refine (C _ (unhide HT)).mono ?_
  rintro e w1 ⟨rfl, rfl⟩
  go_wp2
  go_quiet (fail)
  go_wp2
  refine wp_loop_rounds 3 ?_
  rw [rounds_succ]; go_wp2
  rw [rounds_succ]; go_wp2
  rw [rounds_succ]; go_wp2_with fail
  refine (CC _).mono ?_
  rintro e w2 ⟨rfl, rfl⟩
  go_wp2_with fail
  refine (CS _ ((unhide HT).below (below_draws _ _))).mono ?_
  rintro e w2 ⟨rfl, rfl⟩
  go_wp2
  go_ret2
  exact ⟨rfl, below_draws _ _⟩

set_option maxHeartbeats 400000 in
set_option maxRecDepth 100000 in
theorem first_4_short (s : ByteArray) (b0 : Nat) (w : World) (ht : Tabs w) (hs : s.size ≤ 9223372036854775807) (hn : 1 ≤ s.size) (hx : s.size < 4) (C : ToldIs b0 4)
    (e0 : (s[0]'(by omega)).toNat = b0) (l0 : 240 ≤ b0) (u0 : b0 < 256)  :
    Calls Tryd.prog 52 #[.string s] w fun e w' => e = .returned bad ∧ Below w.heap.size w w' := by
  have he := not_empty s (by omega)
  have z0 : (0 : Int) < (s.size : Int) := by omega
  have zn : (s.size : Int) < 4 := by omega
  have HT := hide ht
  obtain ⟨t1, t2, t3, t4, _⟩ := ht
  go_enter Tryd.func52, Tryd.ntmps52
  go_wp2_with fail
  refine (C _ (unhide HT)).mono ?_
  rintro e w1 ⟨rfl, rfl⟩
  go_wp2
  go_ret2
  exact ⟨rfl, Below.refl _ _⟩

set_option maxHeartbeats 400000 in
set_option maxRecDepth 100000 in
theorem first_4_low1 (s : ByteArray) (b0 b1 : Nat) (w : World) (ht : Tabs w) (hs : s.size ≤ 9223372036854775807) (hn : 4 ≤ s.size) (C : ToldIs b0 4)
    (e0 : (s[0]'(by omega)).toNat = b0) (e1 : (s[1]'(by omega)).toNat = b1) (l0 : 240 ≤ b0) (u0 : b0 < 256)  (u1 : b1 < 128) :
    Calls Tryd.prog 52 #[.string s] w fun e w' => e = .returned bad ∧ Below w.heap.size w w' := by
  have he := not_empty s (by omega)
  have z0 : (0 : Int) < (s.size : Int) := by omega
  have z1 : (1 : Int) < (s.size : Int) := by omega
  have zn : (4 : Int) ≤ (s.size : Int) := by omega
  have HT := hide ht
  obtain ⟨t1, t2, t3, t4, _⟩ := ht
  go_enter Tryd.func52, Tryd.ntmps52
  go_wp2_with fail
  refine (C _ (unhide HT)).mono ?_
  rintro e w1 ⟨rfl, rfl⟩
  go_wp2
  go_quiet (fail)
  go_wp2
  refine wp_loop_rounds 4 ?_
  rw [rounds_succ]; go_wp2
  go_ret2
  exact ⟨rfl, below_draws _ _⟩

set_option maxHeartbeats 400000 in
set_option maxRecDepth 100000 in
theorem first_4_high1 (s : ByteArray) (b0 b1 : Nat) (w : World) (ht : Tabs w) (hs : s.size ≤ 9223372036854775807) (hn : 4 ≤ s.size) (C : ToldIs b0 4)
    (e0 : (s[0]'(by omega)).toNat = b0) (e1 : (s[1]'(by omega)).toNat = b1) (l0 : 240 ≤ b0) (u0 : b0 < 256)  (l1 : 192 ≤ b1) (u1 : b1 < 256) :
    Calls Tryd.prog 52 #[.string s] w fun e w' => e = .returned bad ∧ Below w.heap.size w w' := by
  have he := not_empty s (by omega)
  have z0 : (0 : Int) < (s.size : Int) := by omega
  have z1 : (1 : Int) < (s.size : Int) := by omega
  have zn : (4 : Int) ≤ (s.size : Int) := by omega
  have HT := hide ht
  obtain ⟨t1, t2, t3, t4, _⟩ := ht
  go_enter Tryd.func52, Tryd.ntmps52
  go_wp2_with fail
  refine (C _ (unhide HT)).mono ?_
  rintro e w1 ⟨rfl, rfl⟩
  go_wp2
  go_quiet (fail)
  go_wp2
  refine wp_loop_rounds 4 ?_
  rw [rounds_succ]; go_wp2
  go_ret2
  exact ⟨rfl, below_draws _ _⟩

set_option maxHeartbeats 400000 in
set_option maxRecDepth 100000 in
theorem first_4_low2 (s : ByteArray) (b0 b1 b2 : Nat) (w : World) (ht : Tabs w) (hs : s.size ≤ 9223372036854775807) (hn : 4 ≤ s.size) (C : ToldIs b0 4)
    (e0 : (s[0]'(by omega)).toNat = b0) (e1 : (s[1]'(by omega)).toNat = b1) (e2 : (s[2]'(by omega)).toNat = b2) (l0 : 240 ≤ b0) (u0 : b0 < 256) (l1 : 128 ≤ b1) (u1 : b1 < 192) (u2 : b2 < 128) :
    Calls Tryd.prog 52 #[.string s] w fun e w' => e = .returned bad ∧ Below w.heap.size w w' := by
  have he := not_empty s (by omega)
  have z0 : (0 : Int) < (s.size : Int) := by omega
  have z1 : (1 : Int) < (s.size : Int) := by omega
  have z2 : (2 : Int) < (s.size : Int) := by omega
  have zn : (4 : Int) ≤ (s.size : Int) := by omega
  have HT := hide ht
  obtain ⟨t1, t2, t3, t4, _⟩ := ht
  go_enter Tryd.func52, Tryd.ntmps52
  go_wp2_with fail
  refine (C _ (unhide HT)).mono ?_
  rintro e w1 ⟨rfl, rfl⟩
  go_wp2
  go_quiet (fail)
  go_wp2
  refine wp_loop_rounds 4 ?_
  rw [rounds_succ]; go_wp2
  rw [rounds_succ]; go_wp2
  go_ret2
  exact ⟨rfl, below_draws _ _⟩

set_option maxHeartbeats 400000 in
set_option maxRecDepth 100000 in
theorem first_4_high2 (s : ByteArray) (b0 b1 b2 : Nat) (w : World) (ht : Tabs w) (hs : s.size ≤ 9223372036854775807) (hn : 4 ≤ s.size) (C : ToldIs b0 4)
    (e0 : (s[0]'(by omega)).toNat = b0) (e1 : (s[1]'(by omega)).toNat = b1) (e2 : (s[2]'(by omega)).toNat = b2) (l0 : 240 ≤ b0) (u0 : b0 < 256) (l1 : 128 ≤ b1) (u1 : b1 < 192) (l2 : 192 ≤ b2) (u2 : b2 < 256) :
    Calls Tryd.prog 52 #[.string s] w fun e w' => e = .returned bad ∧ Below w.heap.size w w' := by
  have he := not_empty s (by omega)
  have z0 : (0 : Int) < (s.size : Int) := by omega
  have z1 : (1 : Int) < (s.size : Int) := by omega
  have z2 : (2 : Int) < (s.size : Int) := by omega
  have zn : (4 : Int) ≤ (s.size : Int) := by omega
  have HT := hide ht
  obtain ⟨t1, t2, t3, t4, _⟩ := ht
  go_enter Tryd.func52, Tryd.ntmps52
  go_wp2_with fail
  refine (C _ (unhide HT)).mono ?_
  rintro e w1 ⟨rfl, rfl⟩
  go_wp2
  go_quiet (fail)
  go_wp2
  refine wp_loop_rounds 4 ?_
  rw [rounds_succ]; go_wp2
  rw [rounds_succ]; go_wp2
  go_ret2
  exact ⟨rfl, below_draws _ _⟩

set_option maxHeartbeats 400000 in
set_option maxRecDepth 100000 in
theorem first_4_low3 (s : ByteArray) (b0 b1 b2 b3 : Nat) (w : World) (ht : Tabs w) (hs : s.size ≤ 9223372036854775807) (hn : 4 ≤ s.size) (C : ToldIs b0 4)
    (e0 : (s[0]'(by omega)).toNat = b0) (e1 : (s[1]'(by omega)).toNat = b1) (e2 : (s[2]'(by omega)).toNat = b2) (e3 : (s[3]'(by omega)).toNat = b3) (l0 : 240 ≤ b0) (u0 : b0 < 256) (l1 : 128 ≤ b1) (u1 : b1 < 192) (l2 : 128 ≤ b2) (u2 : b2 < 192) (u3 : b3 < 128) :
    Calls Tryd.prog 52 #[.string s] w fun e w' => e = .returned bad ∧ Below w.heap.size w w' := by
  have he := not_empty s (by omega)
  have z0 : (0 : Int) < (s.size : Int) := by omega
  have z1 : (1 : Int) < (s.size : Int) := by omega
  have z2 : (2 : Int) < (s.size : Int) := by omega
  have z3 : (3 : Int) < (s.size : Int) := by omega
  have zn : (4 : Int) ≤ (s.size : Int) := by omega
  have HT := hide ht
  obtain ⟨t1, t2, t3, t4, _⟩ := ht
  go_enter Tryd.func52, Tryd.ntmps52
  go_wp2_with fail
  refine (C _ (unhide HT)).mono ?_
  rintro e w1 ⟨rfl, rfl⟩
  go_wp2
  go_quiet (fail)
  go_wp2
  refine wp_loop_rounds 4 ?_
  rw [rounds_succ]; go_wp2
  rw [rounds_succ]; go_wp2
  rw [rounds_succ]; go_wp2
  go_ret2
  exact ⟨rfl, below_draws _ _⟩

set_option maxHeartbeats 400000 in
set_option maxRecDepth 100000 in
theorem first_4_high3 (s : ByteArray) (b0 b1 b2 b3 : Nat) (w : World) (ht : Tabs w) (hs : s.size ≤ 9223372036854775807) (hn : 4 ≤ s.size) (C : ToldIs b0 4)
    (e0 : (s[0]'(by omega)).toNat = b0) (e1 : (s[1]'(by omega)).toNat = b1) (e2 : (s[2]'(by omega)).toNat = b2) (e3 : (s[3]'(by omega)).toNat = b3) (l0 : 240 ≤ b0) (u0 : b0 < 256) (l1 : 128 ≤ b1) (u1 : b1 < 192) (l2 : 128 ≤ b2) (u2 : b2 < 192) (l3 : 192 ≤ b3) (u3 : b3 < 256) :
    Calls Tryd.prog 52 #[.string s] w fun e w' => e = .returned bad ∧ Below w.heap.size w w' := by
  have he := not_empty s (by omega)
  have z0 : (0 : Int) < (s.size : Int) := by omega
  have z1 : (1 : Int) < (s.size : Int) := by omega
  have z2 : (2 : Int) < (s.size : Int) := by omega
  have z3 : (3 : Int) < (s.size : Int) := by omega
  have zn : (4 : Int) ≤ (s.size : Int) := by omega
  have HT := hide ht
  obtain ⟨t1, t2, t3, t4, _⟩ := ht
  go_enter Tryd.func52, Tryd.ntmps52
  go_wp2_with fail
  refine (C _ (unhide HT)).mono ?_
  rintro e w1 ⟨rfl, rfl⟩
  go_wp2
  go_quiet (fail)
  go_wp2
  refine wp_loop_rounds 4 ?_
  rw [rounds_succ]; go_wp2
  rw [rounds_succ]; go_wp2
  rw [rounds_succ]; go_wp2
  go_ret2
  exact ⟨rfl, below_draws _ _⟩

set_option maxHeartbeats 400000 in
set_option maxRecDepth 100000 in
theorem first_4_none (s : ByteArray) (b0 b1 b2 b3 : Nat) (w : World) (ht : Tabs w) (hs : s.size ≤ 9223372036854775807) (hn : 4 ≤ s.size) (C : ToldIs b0 4)
    (e0 : (s[0]'(by omega)).toNat = b0) (e1 : (s[1]'(by omega)).toNat = b1) (e2 : (s[2]'(by omega)).toNat = b2) (e3 : (s[3]'(by omega)).toNat = b3) (l0 : 240 ≤ b0) (u0 : b0 < 256) (l1 : 128 ≤ b1) (u1 : b1 < 192) (l2 : 128 ≤ b2) (u2 : b2 < 192) (l3 : 128 ≤ b3) (u3 : b3 < 192) (CC : CharIs (((((b0 : Int) - 240) * 64 + ((b1 : Int) - 128)) * 64 + ((b2 : Int) - 128)) * 64 + ((b3 : Int) - 128)) false) :
    Calls Tryd.prog 52 #[.string s] w fun e w' => e = .returned bad ∧ Below w.heap.size w w' := by
  have he := not_empty s (by omega)
  have z0 : (0 : Int) < (s.size : Int) := by omega
  have z1 : (1 : Int) < (s.size : Int) := by omega
  have z2 : (2 : Int) < (s.size : Int) := by omega
  have z3 : (3 : Int) < (s.size : Int) := by omega
  have zn : (4 : Int) ≤ (s.size : Int) := by omega
  have HT := hide ht
  obtain ⟨t1, t2, t3, t4, _⟩ := ht
  go_enter Tryd.func52, Tryd.ntmps52
  go_wp2_with fail
  refine (C _ (unhide HT)).mono ?_
  rintro e w1 ⟨rfl, rfl⟩
  go_wp2
  go_quiet (fail)
  go_wp2
  refine wp_loop_rounds 4 ?_
  rw [rounds_succ]; go_wp2
  rw [rounds_succ]; go_wp2
  rw [rounds_succ]; go_wp2
  rw [rounds_succ]; go_wp2_with fail
  refine (CC _).mono ?_
  rintro e w2 ⟨rfl, rfl⟩
  go_wp2
  go_ret2
  exact ⟨rfl, below_draws _ _⟩

set_option maxHeartbeats 400000 in
set_option maxRecDepth 100000 in
theorem first_4_other (s : ByteArray) (b0 b1 b2 b3 : Nat) (w : World) (ht : Tabs w) (hs : s.size ≤ 9223372036854775807) (hn : 4 ≤ s.size) (C : ToldIs b0 4)
    (e0 : (s[0]'(by omega)).toNat = b0) (e1 : (s[1]'(by omega)).toNat = b1) (e2 : (s[2]'(by omega)).toNat = b2) (e3 : (s[3]'(by omega)).toNat = b3) (l0 : 240 ≤ b0) (u0 : b0 < 256) (l1 : 128 ≤ b1) (u1 : b1 < 192) (l2 : 128 ≤ b2) (u2 : b2 < 192) (l3 : 128 ≤ b3) (u3 : b3 < 192) (CC : CharIs (((((b0 : Int) - 240) * 64 + ((b1 : Int) - 128)) * 64 + ((b2 : Int) - 128)) * 64 + ((b3 : Int) - 128)) true) (k : Nat) (CS : SizeIs (((((b0 : Int) - 240) * 64 + ((b1 : Int) - 128)) * 64 + ((b2 : Int) - 128)) * 64 + ((b3 : Int) - 128)) k) (hk : ((k : Int) != 4) = true) :
    Calls Tryd.prog 52 #[.string s] w fun e w' => e = .returned bad ∧ Below w.heap.size w w' := by
  have he := not_empty s (by omega)
  have z0 : (0 : Int) < (s.size : Int) := by omega
  have z1 : (1 : Int) < (s.size : Int) := by omega
  have z2 : (2 : Int) < (s.size : Int) := by omega
  have z3 : (3 : Int) < (s.size : Int) := by omega
  have zn : (4 : Int) ≤ (s.size : Int) := by omega
  have HT := hide ht
  obtain ⟨t1, t2, t3, t4, _⟩ := ht
  go_enter Tryd.func52, Tryd.ntmps52
  go_wp2_with fail
  refine (C _ (unhide HT)).mono ?_
  rintro e w1 ⟨rfl, rfl⟩
  go_wp2
  go_quiet (fail)
  go_wp2
  refine wp_loop_rounds 4 ?_
  rw [rounds_succ]; go_wp2
  rw [rounds_succ]; go_wp2
  rw [rounds_succ]; go_wp2
  rw [rounds_succ]; go_wp2_with fail
  refine (CC _).mono ?_
  rintro e w2 ⟨rfl, rfl⟩
  go_wp2_with fail
  refine (CS _ ((unhide HT).below (below_draws _ _))).mono ?_
  rintro e w2 ⟨rfl, rfl⟩
  go_wp2
  go_ret2
  exact ⟨rfl, below_draws _ _⟩

set_option maxHeartbeats 400000 in
set_option maxRecDepth 100000 in
theorem first_4_ok (s : ByteArray) (b0 b1 b2 b3 : Nat) (w : World) (ht : Tabs w) (hs : s.size ≤ 9223372036854775807) (hn : 4 ≤ s.size) (C : ToldIs b0 4)
    (e0 : (s[0]'(by omega)).toNat = b0) (e1 : (s[1]'(by omega)).toNat = b1) (e2 : (s[2]'(by omega)).toNat = b2) (e3 : (s[3]'(by omega)).toNat = b3) (l0 : 240 ≤ b0) (u0 : b0 < 256) (l1 : 128 ≤ b1) (u1 : b1 < 192) (l2 : 128 ≤ b2) (u2 : b2 < 192) (l3 : 128 ≤ b3) (u3 : b3 < 192) (CC : CharIs (((((b0 : Int) - 240) * 64 + ((b1 : Int) - 128)) * 64 + ((b2 : Int) - 128)) * 64 + ((b3 : Int) - 128)) true) (CS : SizeIs (((((b0 : Int) - 240) * 64 + ((b1 : Int) - 128)) * 64 + ((b2 : Int) - 128)) * 64 + ((b3 : Int) - 128)) 4) :
    Calls Tryd.prog 52 #[.string s] w fun e w' => e = .returned (.tuple #[.int .i64 (((((b0 : Int) - 240) * 64 + ((b1 : Int) - 128)) * 64 + ((b2 : Int) - 128)) * 64 + ((b3 : Int) - 128)), .int .i64 4]) ∧ Below w.heap.size w w' := by
  have he := not_empty s (by omega)
  have z0 : (0 : Int) < (s.size : Int) := by omega
  have z1 : (1 : Int) < (s.size : Int) := by omega
  have z2 : (2 : Int) < (s.size : Int) := by omega
  have z3 : (3 : Int) < (s.size : Int) := by omega
  have zn : (4 : Int) ≤ (s.size : Int) := by omega
  have HT := hide ht
  obtain ⟨t1, t2, t3, t4, _⟩ := ht
  go_enter Tryd.func52, Tryd.ntmps52
  go_wp2_with fail
  refine (C _ (unhide HT)).mono ?_
  rintro e w1 ⟨rfl, rfl⟩
  go_wp2
  go_quiet (fail)
  go_wp2
  refine wp_loop_rounds 4 ?_
  rw [rounds_succ]; go_wp2
  rw [rounds_succ]; go_wp2
  rw [rounds_succ]; go_wp2
  rw [rounds_succ]; go_wp2_with fail
  refine (CC _).mono ?_
  rintro e w2 ⟨rfl, rfl⟩
  go_wp2_with fail
  refine (CS _ ((unhide HT).below (below_draws _ _))).mono ?_
  rintro e w2 ⟨rfl, rfl⟩
  go_wp2
  go_ret2
  exact ⟨rfl, below_draws _ _⟩

def firstV (l : List UInt8) : Value := .tuple #[.int .i64 (step l).1, .int .i64 ((step l).2.1 : Int)]
theorem firstV_none {l : List UInt8} (h : dec l = none) : firstV l = bad := by simp only [firstV, step, h]; rfl
theorem firstV_some {l : List UInt8} {c : Int} {n : Nat} (h : dec l = some (c, n)) : firstV l = .tuple #[.int .i64 c, .int .i64 (n : Int)] := by simp only [firstV, step, h]

theorem charIs (c : Int) (t : Bool) (h : isC c = t) : CharIs c t := by
  intro w; have := isChar_any c w; rw [h] at this; exact this
theorem sizeIs (c : Int) (k : Nat) (h : isC c = true) (hk : sz c = k) : SizeIs c k := by
  intro w ht
  have hr := isC_true h
  have := size_any c w (by omega) (by omega) ht
  rw [hk] at this; exact this
theorem toldIs (b n : Nat) (hb : b < 256) (h : tld b = n) : ToldIs b n := by
  intro w ht; have := told_any b w hb ht; rw [h] at this; exact this

theorem first_any (s : ByteArray) (w : World) (ht : Tabs w) (hs : s.size ≤ 9223372036854775807) (h0 : 0 < s.size) :
    Calls Tryd.prog 52 #[.string s] w fun e w' => e = .returned (firstV s.data.toList) ∧ Below w.heap.size w w' := by
  have hl := data_len s
  have e := dgt_at s
  have b0 := dgt_lt s.data.toList 0
  have b1 := dgt_lt s.data.toList 1
  have b2 := dgt_lt s.data.toList 2
  have b3 := dgt_lt s.data.toList 3
  have tn : ∀ i, ¬ (i < s.size ∧ 128 ≤ dgt s.data.toList i ∧ dgt s.data.toList i ≤ 191) → ¬ tl s.data.toList i = true := by
    intro i h h2; exact h (by rw [← hl]; exact (tl_iff _ _).1 h2)
  have ty : ∀ i, i < s.size → 128 ≤ dgt s.data.toList i → dgt s.data.toList i ≤ 191 → tl s.data.toList i = true := by
    intro i h1 h2 h3; exact (tl_iff _ _).2 ⟨by rw [hl]; exact h1, h2, h3⟩
  by_cases g4 : 240 ≤ dgt s.data.toList 0
  · have T := toldIs _ 4 b0 (if_pos g4)
    have none4 : ∀ i, (i = 1 ∨ i = 2 ∨ i = 3) → ¬ tl s.data.toList i = true → dec s.data.toList = none := by
      intro i hi h
      by_cases g5 : dgt s.data.toList 0 < 248
      · refine dec_none ?_
        rw [cand_4 g4 g5, if_neg]
        rintro ⟨h1, h2, h3⟩
        rcases hi with rfl | rfl | rfl
        · exact h h1
        · exact h h2
        · exact h h3
      · exact dec_none (cand_5 (by omega))
    by_cases z : s.size < 4
    · rw [firstV_none (none4 3 (by omega) (tn 3 (by omega)))]
      exact first_4_short s _ w ht hs h0 z T (e 0 h0) g4 b0
    by_cases x1 : dgt s.data.toList 1 < 128
    · rw [firstV_none (none4 1 (by omega) (tn 1 (by omega)))]
      exact first_4_low1 s _ _ w ht hs (by omega) T (e 0 _) (e 1 _) g4 b0 x1
    by_cases y1 : 192 ≤ dgt s.data.toList 1
    · rw [firstV_none (none4 1 (by omega) (tn 1 (by omega)))]
      exact first_4_high1 s _ _ w ht hs (by omega) T (e 0 _) (e 1 _) g4 b0 y1 b1
    by_cases x2 : dgt s.data.toList 2 < 128
    · rw [firstV_none (none4 2 (by omega) (tn 2 (by omega)))]
      exact first_4_low2 s _ _ _ w ht hs (by omega) T (e 0 _) (e 1 _) (e 2 _) g4 b0 (by omega) (by omega) x2
    by_cases y2 : 192 ≤ dgt s.data.toList 2
    · rw [firstV_none (none4 2 (by omega) (tn 2 (by omega)))]
      exact first_4_high2 s _ _ _ w ht hs (by omega) T (e 0 _) (e 1 _) (e 2 _) g4 b0 (by omega) (by omega) y2 b2
    by_cases x3 : dgt s.data.toList 3 < 128
    · rw [firstV_none (none4 3 (by omega) (tn 3 (by omega)))]
      exact first_4_low3 s _ _ _ _ w ht hs (by omega) T (e 0 _) (e 1 _) (e 2 _) (e 3 _) g4 b0 (by omega) (by omega) (by omega) (by omega) x3
    by_cases y3 : 192 ≤ dgt s.data.toList 3
    · rw [firstV_none (none4 3 (by omega) (tn 3 (by omega)))]
      exact first_4_high3 s _ _ _ _ w ht hs (by omega) T (e 0 _) (e 1 _) (e 2 _) (e 3 _) g4 b0 (by omega) (by omega) (by omega) (by omega) y3 b3
    by_cases g5 : dgt s.data.toList 0 < 248
    · have hc := cand_4 g4 g5
      rw [if_pos ⟨ty 1 (by omega) (by omega) (by omega), ty 2 (by omega) (by omega) (by omega), ty 3 (by omega) (by omega) (by omega)⟩] at hc
      have ee : 262144 * ((dgt s.data.toList 0 : Int) - 240) + 4096 * lo s.data.toList 1 + 64 * lo s.data.toList 2 + lo s.data.toList 3 = (((((dgt s.data.toList 0 : Int) - 240) * 64 + ((dgt s.data.toList 1 : Int) - 128)) * 64 + ((dgt s.data.toList 2 : Int) - 128)) * 64 + ((dgt s.data.toList 3 : Int) - 128)) := by
        simp only [lo]; omega
      rw [ee] at hc
      cases hi : isC (((((dgt s.data.toList 0 : Int) - 240) * 64 + ((dgt s.data.toList 1 : Int) - 128)) * 64 + ((dgt s.data.toList 2 : Int) - 128)) * 64 + ((dgt s.data.toList 3 : Int) - 128)) with
      | false =>
        rw [firstV_none (dec_not hc hi)]
        exact first_4_none s _ _ _ _ w ht hs (by omega) T (e 0 _) (e 1 _) (e 2 _) (e 3 _) g4 b0 (by omega) (by omega) (by omega) (by omega) (by omega) (by omega) (charIs _ _ hi)
      | true =>
        by_cases hz : sz (((((dgt s.data.toList 0 : Int) - 240) * 64 + ((dgt s.data.toList 1 : Int) - 128)) * 64 + ((dgt s.data.toList 2 : Int) - 128)) * 64 + ((dgt s.data.toList 3 : Int) - 128)) = 4
        · rw [firstV_some (dec_yes hc hi hz)]
          exact first_4_ok s _ _ _ _ w ht hs (by omega) T (e 0 _) (e 1 _) (e 2 _) (e 3 _) g4 b0 (by omega) (by omega) (by omega) (by omega) (by omega) (by omega) (charIs _ _ hi) (sizeIs _ _ hi hz)
        · rw [firstV_none (dec_other hc hz)]
          exact first_4_other s _ _ _ _ w ht hs (by omega) T (e 0 _) (e 1 _) (e 2 _) (e 3 _) g4 b0 (by omega) (by omega) (by omega) (by omega) (by omega) (by omega) (charIs _ _ hi) _ (sizeIs _ _ hi rfl) (by rw [bne_iff_ne]; omega)
    · rw [firstV_none (dec_none (cand_5 (by omega)))]
      exact first_4_none s _ _ _ _ w ht hs (by omega) T (e 0 _) (e 1 _) (e 2 _) (e 3 _) g4 b0 (by omega) (by omega) (by omega) (by omega) (by omega) (by omega) (charIs _ _ (isC_no (by omega)))
  by_cases g3 : 224 ≤ dgt s.data.toList 0
  · have T := toldIs _ 3 b0 (by rw [tld, if_neg g4, if_pos g3])
    have u0 : dgt s.data.toList 0 < 240 := by omega
    have none3 : ∀ i, (i = 1 ∨ i = 2) → ¬ tl s.data.toList i = true → dec s.data.toList = none := by
      intro i hi h
      refine dec_none ?_
      rw [cand_3 g3 u0, if_neg]
      rintro ⟨h1, h2⟩
      rcases hi with rfl | rfl
      · exact h h1
      · exact h h2
    by_cases z : s.size < 3
    · rw [firstV_none (none3 2 (by omega) (tn 2 (by omega)))]
      exact first_3_short s _ w ht hs h0 z T (e 0 h0) g3 u0
    by_cases x1 : dgt s.data.toList 1 < 128
    · rw [firstV_none (none3 1 (by omega) (tn 1 (by omega)))]
      exact first_3_low1 s _ _ w ht hs (by omega) T (e 0 _) (e 1 _) g3 u0 x1
    by_cases y1 : 192 ≤ dgt s.data.toList 1
    · rw [firstV_none (none3 1 (by omega) (tn 1 (by omega)))]
      exact first_3_high1 s _ _ w ht hs (by omega) T (e 0 _) (e 1 _) g3 u0 y1 b1
    by_cases x2 : dgt s.data.toList 2 < 128
    · rw [firstV_none (none3 2 (by omega) (tn 2 (by omega)))]
      exact first_3_low2 s _ _ _ w ht hs (by omega) T (e 0 _) (e 1 _) (e 2 _) g3 u0 (by omega) (by omega) x2
    by_cases y2 : 192 ≤ dgt s.data.toList 2
    · rw [firstV_none (none3 2 (by omega) (tn 2 (by omega)))]
      exact first_3_high2 s _ _ _ w ht hs (by omega) T (e 0 _) (e 1 _) (e 2 _) g3 u0 (by omega) (by omega) y2 b2
    have hc := cand_3 g3 u0
    rw [if_pos ⟨ty 1 (by omega) (by omega) (by omega), ty 2 (by omega) (by omega) (by omega)⟩] at hc
    have ee : 4096 * ((dgt s.data.toList 0 : Int) - 224) + 64 * lo s.data.toList 1 + lo s.data.toList 2 = ((((dgt s.data.toList 0 : Int) - 224) * 64 + ((dgt s.data.toList 1 : Int) - 128)) * 64 + ((dgt s.data.toList 2 : Int) - 128)) := by
      simp only [lo]; omega
    rw [ee] at hc
    cases hi : isC ((((dgt s.data.toList 0 : Int) - 224) * 64 + ((dgt s.data.toList 1 : Int) - 128)) * 64 + ((dgt s.data.toList 2 : Int) - 128)) with
    | false =>
      rw [firstV_none (dec_not hc hi)]
      exact first_3_none s _ _ _ w ht hs (by omega) T (e 0 _) (e 1 _) (e 2 _) g3 u0 (by omega) (by omega) (by omega) (by omega) (charIs _ _ hi)
    | true =>
      by_cases hz : sz ((((dgt s.data.toList 0 : Int) - 224) * 64 + ((dgt s.data.toList 1 : Int) - 128)) * 64 + ((dgt s.data.toList 2 : Int) - 128)) = 3
      · rw [firstV_some (dec_yes hc hi hz)]
        exact first_3_ok s _ _ _ w ht hs (by omega) T (e 0 _) (e 1 _) (e 2 _) g3 u0 (by omega) (by omega) (by omega) (by omega) (charIs _ _ hi) (sizeIs _ _ hi hz)
      · rw [firstV_none (dec_other hc hz)]
        exact first_3_other s _ _ _ w ht hs (by omega) T (e 0 _) (e 1 _) (e 2 _) g3 u0 (by omega) (by omega) (by omega) (by omega) (charIs _ _ hi) _ (sizeIs _ _ hi rfl) (by rw [bne_iff_ne]; omega)
  by_cases g2 : 192 ≤ dgt s.data.toList 0
  · have T := toldIs _ 2 b0 (by rw [tld, if_neg g4, if_neg g3, if_pos g2])
    have u0 : dgt s.data.toList 0 < 224 := by omega
    have none2 : ¬ tl s.data.toList 1 = true → dec s.data.toList = none := by
      intro h
      exact dec_none (by rw [cand_2 g2 u0, if_neg h])
    by_cases z : s.size < 2
    · rw [firstV_none (none2 (tn 1 (by omega)))]
      exact first_2_short s _ w ht hs h0 z T (e 0 h0) g2 u0
    by_cases x1 : dgt s.data.toList 1 < 128
    · rw [firstV_none (none2 (tn 1 (by omega)))]
      exact first_2_low1 s _ _ w ht hs (by omega) T (e 0 _) (e 1 _) g2 u0 x1
    by_cases y1 : 192 ≤ dgt s.data.toList 1
    · rw [firstV_none (none2 (tn 1 (by omega)))]
      exact first_2_high1 s _ _ w ht hs (by omega) T (e 0 _) (e 1 _) g2 u0 y1 b1
    have hc := cand_2 g2 u0
    rw [if_pos (ty 1 (by omega) (by omega) (by omega))] at hc
    have ee : 64 * ((dgt s.data.toList 0 : Int) - 192) + lo s.data.toList 1 = (((dgt s.data.toList 0 : Int) - 192) * 64 + ((dgt s.data.toList 1 : Int) - 128)) := by
      simp only [lo]; omega
    rw [ee] at hc
    cases hi : isC (((dgt s.data.toList 0 : Int) - 192) * 64 + ((dgt s.data.toList 1 : Int) - 128)) with
    | false =>
      rw [firstV_none (dec_not hc hi)]
      exact first_2_none s _ _ w ht hs (by omega) T (e 0 _) (e 1 _) g2 u0 (by omega) (by omega) (charIs _ _ hi)
    | true =>
      by_cases hz : sz (((dgt s.data.toList 0 : Int) - 192) * 64 + ((dgt s.data.toList 1 : Int) - 128)) = 2
      · rw [firstV_some (dec_yes hc hi hz)]
        exact first_2_ok s _ _ w ht hs (by omega) T (e 0 _) (e 1 _) g2 u0 (by omega) (by omega) (charIs _ _ hi) (sizeIs _ _ hi hz)
      · rw [firstV_none (dec_other hc hz)]
        exact first_2_other s _ _ w ht hs (by omega) T (e 0 _) (e 1 _) g2 u0 (by omega) (by omega) (charIs _ _ hi) _ (sizeIs _ _ hi rfl) (by rw [bne_iff_ne]; omega)
  · have T := toldIs _ 1 b0 (by rw [tld, if_neg g4, if_neg g3, if_neg g2])
    have u0 : dgt s.data.toList 0 < 192 := by omega
    have hi : isC (dgt s.data.toList 0 : Int) = true := isC_mk (by omega)
    by_cases g1 : dgt s.data.toList 0 < 128
    · have hz : sz (dgt s.data.toList 0 : Int) = 1 := sz_1 (by omega)
      rw [firstV_some (dec_yes (cand_1 g1) hi hz)]
      exact first_1_ok s _ w ht hs h0 T (e 0 _) u0 (charIs _ _ hi) (sizeIs _ _ hi hz)
    · rw [firstV_none (dec_none (cand_0 (by omega) u0))]
      have hz : sz (dgt s.data.toList 0 : Int) = 2 := sz_2 (by omega) (by omega)
      exact first_1_other s _ w ht hs h0 T (e 0 _) u0 (charIs _ _ hi) _ (sizeIs _ _ hi hz) (by decide)

def FirstIs (s : ByteArray) (c : Int) (n : Nat) : Prop := ∀ w, Tabs w → Calls Tryd.prog 52 #[.string s] w fun e w' => e = .returned (.tuple #[.int .i64 c, .int .i64 n]) ∧ Below w.heap.size w w'
theorem firstIs (s : ByteArray) (hs : s.size ≤ 9223372036854775807) (h0 : 0 < s.size) : FirstIs s (step s.data.toList).1 (step s.data.toList).2.1 := fun w ht => first_any s w ht hs h0
end Go.Proofs.YtmiehnknnkcdlacDoor

/-
  What 'utf.isWrong' and 'utf.Right' do.
-/
namespace Go.Proofs.YtmiehnknnkcdlacDoor
open Go.RowKit
set_option linter.unusedVariables false

theorem wrong_yes (w : World) : Calls Tryd.prog 53 #[.int .i64 65533, .int .i64 1] w fun e w' => e = .returned (.bool true) ∧ w' = w := by
  go_enter Tryd.func53, Tryd.ntmps53
  go_wp2
  go_ret
  exact ⟨rfl, rfl⟩
theorem wrong_no (c : Int) (n : Nat) (w : World) (h : sz c = n) : Calls Tryd.prog 53 #[.int .i64 c, .int .i64 n] w fun e w' => e = .returned (.bool false) ∧ w' = w := by
  by_cases hc : c = 65533
  · subst hc
    have hn : n = 3 := by rw [← h]; rfl
    subst hn
    clear h
    go_enter Tryd.func53, Tryd.ntmps53
    go_wp2
    go_ret
    exact ⟨rfl, rfl⟩
  · have hb : (c == 65533) = false := beq_eq_false_iff_ne.2 hc
    clear hc h
    go_enter Tryd.func53, Tryd.ntmps53
    go_wp2
    go_ret
    exact ⟨rfl, rfl⟩

def WrongIs (c : Int) (n : Nat) (b : Bool) : Prop := ∀ w, Calls Tryd.prog 53 #[.int .i64 c, .int .i64 n] w fun e w' => e = .returned (.bool b) ∧ w' = w
theorem wrongIs {l : List UInt8} (hl : l ≠ []) : WrongIs (step l).1 (step l).2.1 (!(step l).2.2) := by
  intro w
  cases h : (step l).2.2 with
  | false =>
    have := step_no h
    rw [this.1, this.2]; exact wrong_yes w
  | true => exact wrong_no _ _ w (step_take hl h).2

set_option maxHeartbeats 400000 in
theorem right_any (s : ByteArray) (w : World) (ht : Tabs w) (hs : s.size ≤ 9223372036854775807) :
    Calls Tryd.prog 37 #[.string s] w fun e w' => e = .returned (.bool (rightB s.data.toList)) ∧ Below w.heap.size w w' := by
  have HT := hide ht
  clear ht
  go_enter Tryd.func37, Tryd.ntmps37
  go_wp2
  go_loopw [0] (fun t wr => ∃ x : ByteArray, t = .string x ∧ x.size ≤ 9223372036854775807 ∧ rightB s.data.toList = rightB x.data.toList ∧ Below w.heap.size w wr) (fun t _ => match t with | .string x => x.size | _ => 0)
  case atStart => exact ⟨s, rfl, hs, rfl, Below.refl _ _⟩
  case round =>
    obtain ⟨x, rfl, hx, hr, hbw⟩ := hrel
    have HR := hide hr
    clear hr
    by_cases h0 : x.size = 0
    · have he := is_empty x h0
      have hf : rightB s.data.toList = true := by
        have : x.data.toList = [] := List.eq_nil_of_length_eq_zero (by rw [data_len]; exact h0)
        rw [unhide HR, this]; rfl
      have HF := hide hf
      clear hf
      go_wp2
      go_ret
      exact ⟨by rw [unhide HF]; rfl, hbw⟩
    · have hp : 0 < x.size := by omega
      have hne := ne_of_size hp
      have he := not_empty x hp
      have hok := step_ok hne
      rw [data_len] at hok
      have C1 := hide (firstIs x hx hp)
      have C2 := hide (wrongIs hne)
      have hcons := rightB_cons hne
      have HX := hide (rest_of x)
      generalize hstep : step x.data.toList = st at *
      obtain ⟨c, n, ok⟩ := st
      simp only at hok C1 C2 hcons
      have hn1 : (1 : Int) ≤ (n : Int) := by omega
      have hn2 : (n : Int) ≤ (x.size : Int) := by omega
      have hn0 : 1 ≤ n := by omega
      have hn3 : n ≤ x.size := by omega
      have HC := hide hcons
      clear hcons hstep hok hne
      cases ok with
      | false =>
        go_wp2_with fail
        refine (unhide C1 _ ((unhide HT).below hbw)).mono ?_
        rintro e w1 ⟨rfl, hb1⟩
        go_wp2_with fail
        refine (unhide C2 _).mono ?_
        rintro e w2 ⟨rfl, rfl⟩
        go_wp2
        go_ret
        exact ⟨by rw [unhide HR, unhide HC]; rfl, tr2 hbw hb1⟩
      | true =>
        go_wp2_with fail
        refine (unhide C1 _ ((unhide HT).below hbw)).mono ?_
        rintro e w1 ⟨rfl, hb1⟩
        go_wp2_with fail
        refine (unhide C2 _).mono ?_
        rintro e w2 ⟨rfl, rfl⟩
        go_wp2
        go_roundw
        case rel => exact ⟨x.extract n x.size, rfl, by simp; omega, by rw [unhide HR, unhide HC, unhide HX, bs_toList, Bool.true_and], tr2 hbw hb1⟩
        case measure => simp; omega
end Go.Proofs.YtmiehnknnkcdlacDoor

/-
  What 'rectoref02.Is' and 'rectoref02.Bytes' do.
-/
namespace Go.Proofs.YtmiehnknnkcdlacDoor
open Go.RowKit
set_option linter.unusedVariables false

theorem rIs_any (c : Int) (w : World) :
    Calls Tryd.prog 75 #[.int .i64 c] w fun e w' => e = .returned (.bool (isC c)) ∧ w' = w := by
  by_cases h1 : 0 ≤ c
  · by_cases h2 : c ≤ 1114111
    · by_cases h3 : c < 55296
      · rw [isC_mk (by omega)]
        have hd : decide (55296 ≤ c) = false := by simp; omega
        go_enter Tryd.func75, Tryd.ntmps75
        go_wp2
        go_ret
        exact ⟨rfl, rfl⟩
      · have h3' : 55296 ≤ c := by omega
        by_cases h4 : 57343 < c
        · rw [isC_mk (by omega)]
          have hd : decide (c ≤ 57343) = false := by simp; omega
          clear h3
          go_enter Tryd.func75, Tryd.ntmps75
          go_wp2
          go_ret
          exact ⟨rfl, rfl⟩
        · rw [isC_no (by omega)]
          have h4' : c ≤ 57343 := by omega
          clear h3 h4
          go_enter Tryd.func75, Tryd.ntmps75
          go_wp2
          go_ret
          exact ⟨rfl, rfl⟩
    · rw [isC_no (by omega)]
      have h2' : 1114111 < c := by omega
      have hd : decide (c ≤ 1114111) = false := by simp; omega
      clear h2
      go_enter Tryd.func75, Tryd.ntmps75
      go_wp2
      go_ret
      exact ⟨rfl, rfl⟩
  · rw [isC_no (by omega)]
    have h1' : c < 0 := by omega
    have hd : decide (0 ≤ c) = false := by simp; omega
    clear h1
    go_enter Tryd.func75, Tryd.ntmps75
    go_wp2
    go_ret
    exact ⟨rfl, rfl⟩

set_option maxHeartbeats 400000 in
set_option maxRecDepth 100000 in
theorem rbytes_1 (c : Int) (w : World) (hc : isC c = true) (h1 : c < 128) :
    Calls Tryd.prog 76 #[.int .i64 c] w fun e w' => e = .returned (.string (str (ubI c))) ∧ Below w.heap.size w w' := by
  have hr := isC_true hc
  have hp : 0 ≤ c := hr.1
  have hm : c ≤ 1114111 := hr.2.1
  have C0 := hide (rIs_any c)
  rw [hc] at C0
  rw [ubI_1 h1]
  have hcv : Sem.run Tryd.prog (convert 49 9 (Value.slice (some { block := w.heap.size, off := 0 }) 1 1)) (w.alloc (Obj.cells #[.int .u8 (c)] 5)) = .ok (.string (str [c])) (w.alloc (Obj.cells #[.int .u8 (c)] 5)) := convL w w.heap.size [c] rfl
  clear hr hc
  go_enter Tryd.func76, Tryd.ntmps76
  go_wp2_with fail
  refine (unhide C0 _).mono ?_
  rintro e w1 ⟨rfl, rfl⟩
  go_wp2
  go_ret
  exact ⟨rfl, (Below.refl _ _).alloc (Nat.le_refl _) _⟩

set_option maxHeartbeats 400000 in
set_option maxRecDepth 100000 in
theorem rbytes_2 (c : Int) (w : World) (hc : isC c = true) (h0 : 128 ≤ c) (h1 : c < 2048) :
    Calls Tryd.prog 76 #[.int .i64 c] w fun e w' => e = .returned (.string (str (ubI c))) ∧ Below w.heap.size w w' := by
  have hr := isC_true hc
  have hp : 0 ≤ c := hr.1
  have hm : c ≤ 1114111 := hr.2.1
  have C0 := hide (rIs_any c)
  rw [hc] at C0
  rw [ubI_2 h0 h1]
  have hcv : Sem.run Tryd.prog (convert 49 9 (Value.slice (some { block := w.heap.size, off := 0 }) 2 2)) (w.alloc (Obj.cells #[.int .u8 (192 + c / 64), .int .u8 (128 + c % 64)] 5)) = .ok (.string (str [192 + c / 64, 128 + c % 64])) (w.alloc (Obj.cells #[.int .u8 (192 + c / 64), .int .u8 (128 + c % 64)] 5)) := convL w w.heap.size [192 + c / 64, 128 + c % 64] rfl
  clear hr hc
  go_enter Tryd.func76, Tryd.ntmps76
  go_wp2_with fail
  refine (unhide C0 _).mono ?_
  rintro e w1 ⟨rfl, rfl⟩
  go_wp2
  go_ret
  exact ⟨rfl, (Below.refl _ _).alloc (Nat.le_refl _) _⟩

set_option maxHeartbeats 400000 in
set_option maxRecDepth 100000 in
theorem rbytes_3 (c : Int) (w : World) (hc : isC c = true) (h0 : 2048 ≤ c) (h1 : c < 65536) :
    Calls Tryd.prog 76 #[.int .i64 c] w fun e w' => e = .returned (.string (str (ubI c))) ∧ Below w.heap.size w w' := by
  have hr := isC_true hc
  have hp : 0 ≤ c := hr.1
  have hm : c ≤ 1114111 := hr.2.1
  have C0 := hide (rIs_any c)
  rw [hc] at C0
  rw [ubI_3 h0 h1]
  have hcv : Sem.run Tryd.prog (convert 49 9 (Value.slice (some { block := w.heap.size, off := 0 }) 3 3)) (w.alloc (Obj.cells #[.int .u8 (224 + c / 4096), .int .u8 (128 + c / 64 % 64), .int .u8 (128 + c % 64)] 5)) = .ok (.string (str [224 + c / 4096, 128 + c / 64 % 64, 128 + c % 64])) (w.alloc (Obj.cells #[.int .u8 (224 + c / 4096), .int .u8 (128 + c / 64 % 64), .int .u8 (128 + c % 64)] 5)) := convL w w.heap.size [224 + c / 4096, 128 + c / 64 % 64, 128 + c % 64] rfl
  clear hr hc
  go_enter Tryd.func76, Tryd.ntmps76
  go_wp2_with fail
  refine (unhide C0 _).mono ?_
  rintro e w1 ⟨rfl, rfl⟩
  go_wp2
  go_ret
  exact ⟨rfl, (Below.refl _ _).alloc (Nat.le_refl _) _⟩

set_option maxHeartbeats 400000 in
set_option maxRecDepth 100000 in
theorem rbytes_4 (c : Int) (w : World) (hc : isC c = true) (h0 : 65536 ≤ c) :
    Calls Tryd.prog 76 #[.int .i64 c] w fun e w' => e = .returned (.string (str (ubI c))) ∧ Below w.heap.size w w' := by
  have hr := isC_true hc
  have hp : 0 ≤ c := hr.1
  have hm : c ≤ 1114111 := hr.2.1
  have C0 := hide (rIs_any c)
  rw [hc] at C0
  rw [ubI_4 h0]
  have hcv : Sem.run Tryd.prog (convert 49 9 (Value.slice (some { block := w.heap.size, off := 0 }) 4 4)) (w.alloc (Obj.cells #[.int .u8 (240 + c / 262144), .int .u8 (128 + c / 4096 % 64), .int .u8 (128 + c / 64 % 64), .int .u8 (128 + c % 64)] 5)) = .ok (.string (str [240 + c / 262144, 128 + c / 4096 % 64, 128 + c / 64 % 64, 128 + c % 64])) (w.alloc (Obj.cells #[.int .u8 (240 + c / 262144), .int .u8 (128 + c / 4096 % 64), .int .u8 (128 + c / 64 % 64), .int .u8 (128 + c % 64)] 5)) := convL w w.heap.size [240 + c / 262144, 128 + c / 4096 % 64, 128 + c / 64 % 64, 128 + c % 64] rfl
  clear hr hc
  go_enter Tryd.func76, Tryd.ntmps76
  go_wp2_with fail
  refine (unhide C0 _).mono ?_
  rintro e w1 ⟨rfl, rfl⟩
  go_wp2
  go_ret
  exact ⟨rfl, (Below.refl _ _).alloc (Nat.le_refl _) _⟩

theorem rbytes_char (c : Int) (w : World) (hc : isC c = true) :
    Calls Tryd.prog 76 #[.int .i64 c] w fun e w' => e = .returned (.string (str (ubI c))) ∧ Below w.heap.size w w' := by
  rcases sz_cases c with ⟨h, _⟩ | ⟨hl, h, _⟩ | ⟨hl, h, _⟩ | ⟨hl, _⟩
  · exact rbytes_1 c w hc h
  · exact rbytes_2 c w hc hl h
  · exact rbytes_3 c w hc hl h
  · exact rbytes_4 c w hc hl

theorem rbytes_any (c : Int) (w : World) :
    Calls Tryd.prog 76 #[.int .i64 c] w fun e w' => e = .returned (.string (str (utfI c))) ∧ Below w.heap.size w w' := by
  cases hc : isC c with
  | true =>
    rw [utfI, hc, if_pos rfl]
    exact rbytes_char c w hc
  | false =>
    rw [utfI, hc, if_neg (by decide)]
    have C0 := hide (rIs_any c)
    rw [hc] at C0
    have C1 := hide (fun w => rbytes_char 65533 w (by decide))
    clear hc
    go_enter Tryd.func76, Tryd.ntmps76
    go_wp2_with fail
    refine (unhide C0 _).mono ?_
    rintro e w1 ⟨rfl, rfl⟩
    go_wp2_with fail
    refine (unhide C1 _).mono ?_
    rintro e w1 ⟨rfl, hb1⟩
    go_wp2
    go_ret
    exact ⟨rfl, hb1⟩
end Go.Proofs.YtmiehnknnkcdlacDoor

/-
  What 'rectoref02.low' does.
-/
namespace Go.Proofs.YtmiehnknnkcdlacDoor
open Go.RowKit
set_option linter.unusedVariables false

def lowI (l : List UInt8) (i : Nat) : Int := if tl l i = true then lo l i else -1
theorem lowI_yes {l : List UInt8} {i : Nat} (h : tl l i = true) : lowI l i = lo l i := if_pos h
theorem lowI_no {l : List UInt8} {i : Nat} (h : ¬ tl l i = true) : lowI l i = -1 := if_neg h
theorem lo_bd {l : List UInt8} {i : Nat} (h : tl l i = true) : 0 ≤ lo l i ∧ lo l i ≤ 63 := by
  have := (tl_iff _ _).1 h
  unfold lo; omega

theorem low_any (s : ByteArray) (k : Nat) (w : World) (hs : s.size ≤ 9223372036854775807) (hk : k ≤ 9223372036854775807) :
    Calls Tryd.prog 74 #[.string s, .int .i64 (k : Int)] w fun e w' => e = .returned (.int .i64 (lowI s.data.toList k)) ∧ w' = w := by
  have hl := data_len s
  by_cases h0 : s.size ≤ k
  · rw [lowI_no (by intro h; have := (tl_iff _ _).1 h; omega)]
    have hi : (s.size : Int) ≤ (k : Int) := by omega
    go_enter Tryd.func74, Tryd.ntmps74
    go_wp2
    go_ret
    exact ⟨rfl, rfl⟩
  have hlt : k < s.size := by omega
  have hi : (k : Int) < (s.size : Int) := by omega
  have hd : decide ((s.size : Int) ≤ (k : Int)) = false := by simp; omega
  have e := dgt_at s k hlt
  have hb := dgt_lt s.data.toList k
  have htl := tl_iff s.data.toList k
  rw [hl] at htl
  have hlo : lo s.data.toList k = (dgt s.data.toList k : Int) - 128 := rfl
  generalize dgt s.data.toList k = b at *
  clear hl h0
  by_cases h1 : b < 128
  · rw [lowI_no (by rw [htl]; omega)]
    clear htl hlo
    have h1i : (b : Int) < 128 := by omega
    go_enter Tryd.func74, Tryd.ntmps74
    go_wp2
    go_ret
    exact ⟨rfl, rfl⟩
  have h1i : (128 : Int) ≤ (b : Int) := by omega
  by_cases h2 : 191 < b
  · rw [lowI_no (by rw [htl]; omega)]
    clear htl hlo h1
    have h2i : (191 : Int) < (b : Int) := by omega
    go_enter Tryd.func74, Tryd.ntmps74
    go_wp2
    go_ret
    exact ⟨rfl, rfl⟩
  · rw [lowI_yes (htl.2 (by omega)), hlo]
    clear htl hlo h1
    have h2i : (b : Int) ≤ 191 := by omega
    clear h2
    go_enter Tryd.func74, Tryd.ntmps74
    go_wp2
    go_ret
    exact ⟨rfl, rfl⟩

def LowIs (s : ByteArray) (k : Int) (x : Int) : Prop := ∀ w, Calls Tryd.prog 74 #[.string s, .int .i64 k] w fun e w' => e = .returned (.int .i64 x) ∧ w' = w
def RIsIs (c : Int) (t : Bool) : Prop := ∀ w, Calls Tryd.prog 75 #[.int .i64 c] w fun e w' => e = .returned (.bool t) ∧ w' = w
def RBytesIs (c : Int) (x : ByteArray) : Prop := ∀ w, Calls Tryd.prog 76 #[.int .i64 c] w fun e w' => e = .returned (.string x) ∧ Below w.heap.size w w'
def got (c n : Int) (b : Bool) : Value := .agg #[.int .i64 c, .int .i64 n, .bool b]
end Go.Proofs.YtmiehnknnkcdlacDoor

/-
  What 'rectoref02.At' does where the bytes tell a number of one bytes.
-/
namespace Go.Proofs.YtmiehnknnkcdlacDoor
open Go.RowKit
set_option linter.unusedVariables false

set_option maxHeartbeats 1000000 in
set_option maxRecDepth 100000 in
theorem at_1_none (s : ByteArray) (i b : Nat) (x y z : Int) (w : World) (hs : s.size ≤ 9223372036854775807) (hi2 : i ≤ 9223372036854775000) (hi : i < s.size) (e0 : (s[i]).toNat = b) (u0 : b < 128)
    (L1 : LowIs s ((i : Int) + 1) x) (L2 : LowIs s ((i : Int) + 2) y) (L3 : LowIs s ((i : Int) + 3) z)  (CI : RIsIs ((b : Int)) false) :
    Calls Tryd.prog 54 #[.string s, .int .i64 (i : Int)] w fun e w' => e = .returned (got 65533 1 false) ∧ Below w.heap.size w w' := by
  have z0 : (i : Int) < (s.size : Int) := by omega
  go_enter Tryd.func54, Tryd.ntmps54
  go_wp2_with fail
  refine (L1 _).mono ?_
  rintro e w1 ⟨rfl, rfl⟩
  go_wp2_with fail
  refine (L2 _).mono ?_
  rintro e w1 ⟨rfl, rfl⟩
  go_wp2_with fail
  refine (L3 _).mono ?_
  rintro e w1 ⟨rfl, rfl⟩
  go_wp2_with fail
  refine (CI _).mono ?_
  rintro e w1 ⟨rfl, rfl⟩
  go_wp2
  exact bodyPost_ret (v := .agg #[.int .i64 65533, .int .i64 1, .bool false]) (by simp [results, Tryd.results54, go_sem]) rfl ⟨rfl, (Below.refl _ _).alloc (Nat.le_refl _) _⟩

set_option maxHeartbeats 1000000 in
set_option maxRecDepth 100000 in
theorem at_1_short (s : ByteArray) (i b : Nat) (x y z : Int) (w : World) (hs : s.size ≤ 9223372036854775807) (hi2 : i ≤ 9223372036854775000) (hi : i < s.size) (e0 : (s[i]).toNat = b) (u0 : b < 128)
    (L1 : LowIs s ((i : Int) + 1) x) (L2 : LowIs s ((i : Int) + 2) y) (L3 : LowIs s ((i : Int) + 3) z)  (CI : RIsIs ((b : Int)) true) (q : ByteArray) (CB : RBytesIs ((b : Int)) q) (hq : q.size ≤ 4) (hx : (s.size : Int) - (i : Int) < (q.size : Int)) :
    Calls Tryd.prog 54 #[.string s, .int .i64 (i : Int)] w fun e w' => e = .returned (got 65533 1 false) ∧ Below w.heap.size w w' := by
  have z0 : (i : Int) < (s.size : Int) := by omega
  go_enter Tryd.func54, Tryd.ntmps54
  go_wp2_with fail
  refine (L1 _).mono ?_
  rintro e w1 ⟨rfl, rfl⟩
  go_wp2_with fail
  refine (L2 _).mono ?_
  rintro e w1 ⟨rfl, rfl⟩
  go_wp2_with fail
  refine (L3 _).mono ?_
  rintro e w1 ⟨rfl, rfl⟩
  go_wp2_with fail
  refine (CI _).mono ?_
  rintro e w1 ⟨rfl, rfl⟩
  go_wp2_with fail
  refine (CB _).mono ?_
  rintro e w1 ⟨rfl, hb1⟩
  have hz : w.heap.size < w1.heap.size := by have := hb1.size; simp at this; omega
  obtain ⟨hc, hf⟩ := bcell hb1
  go_wp2
  exact bodyPost_ret (v := .agg #[.int .i64 65533, .int .i64 1, .bool false]) (by simp [results, Tryd.results54, go_sem, hc]) rfl
    ⟨rfl, (((bel_of hb1).setCell (by simp) _).setCell (by simp) _).setCell (by simp) _⟩

set_option maxHeartbeats 1000000 in
set_option maxRecDepth 100000 in
theorem at_1_other (s : ByteArray) (i b : Nat) (x y z : Int) (w : World) (hs : s.size ≤ 9223372036854775807) (hi2 : i ≤ 9223372036854775000) (hi : i < s.size) (e0 : (s[i]).toNat = b) (u0 : b < 128)
    (L1 : LowIs s ((i : Int) + 1) x) (L2 : LowIs s ((i : Int) + 2) y) (L3 : LowIs s ((i : Int) + 3) z)  (CI : RIsIs ((b : Int)) true) (q : ByteArray) (CB : RBytesIs ((b : Int)) q) (hq : q.size ≤ 4) (hx : (q.size : Int) ≤ (s.size : Int) - (i : Int)) (hx2 : i + q.size ≤ s.size) (hne : ((s.extract i (i + q.size)).toList == q.toList) = false) :
    Calls Tryd.prog 54 #[.string s, .int .i64 (i : Int)] w fun e w' => e = .returned (got 65533 1 false) ∧ Below w.heap.size w w' := by
  have z0 : (i : Int) < (s.size : Int) := by omega
  go_enter Tryd.func54, Tryd.ntmps54
  go_wp2_with fail
  refine (L1 _).mono ?_
  rintro e w1 ⟨rfl, rfl⟩
  go_wp2_with fail
  refine (L2 _).mono ?_
  rintro e w1 ⟨rfl, rfl⟩
  go_wp2_with fail
  refine (L3 _).mono ?_
  rintro e w1 ⟨rfl, rfl⟩
  go_wp2_with fail
  refine (CI _).mono ?_
  rintro e w1 ⟨rfl, rfl⟩
  go_wp2_with fail
  refine (CB _).mono ?_
  rintro e w1 ⟨rfl, hb1⟩
  have hz : w.heap.size < w1.heap.size := by have := hb1.size; simp at this; omega
  obtain ⟨hc, hf⟩ := bcell hb1
  go_wp2
  exact bodyPost_ret (v := .agg #[.int .i64 65533, .int .i64 1, .bool false]) (by simp [results, Tryd.results54, go_sem, hc]) rfl
    ⟨rfl, (((bel_of hb1).setCell (by simp) _).setCell (by simp) _).setCell (by simp) _⟩

set_option maxHeartbeats 1000000 in
set_option maxRecDepth 100000 in
theorem at_1_ok (s : ByteArray) (i b : Nat) (x y z : Int) (w : World) (hs : s.size ≤ 9223372036854775807) (hi2 : i ≤ 9223372036854775000) (hi : i < s.size) (e0 : (s[i]).toNat = b) (u0 : b < 128)
    (L1 : LowIs s ((i : Int) + 1) x) (L2 : LowIs s ((i : Int) + 2) y) (L3 : LowIs s ((i : Int) + 3) z)  (CI : RIsIs ((b : Int)) true) (q : ByteArray) (CB : RBytesIs ((b : Int)) q) (hq : q.size ≤ 4) (hx : (q.size : Int) ≤ (s.size : Int) - (i : Int)) (hx2 : i + q.size ≤ s.size) (hne : ((s.extract i (i + q.size)).toList == q.toList) = true) :
    Calls Tryd.prog 54 #[.string s, .int .i64 (i : Int)] w fun e w' => e = .returned (got ((b : Int)) (q.size : Int) true) ∧ Below w.heap.size w w' := by
  have z0 : (i : Int) < (s.size : Int) := by omega
  go_enter Tryd.func54, Tryd.ntmps54
  go_wp2_with fail
  refine (L1 _).mono ?_
  rintro e w1 ⟨rfl, rfl⟩
  go_wp2_with fail
  refine (L2 _).mono ?_
  rintro e w1 ⟨rfl, rfl⟩
  go_wp2_with fail
  refine (L3 _).mono ?_
  rintro e w1 ⟨rfl, rfl⟩
  go_wp2_with fail
  refine (CI _).mono ?_
  rintro e w1 ⟨rfl, rfl⟩
  go_wp2_with fail
  refine (CB _).mono ?_
  rintro e w1 ⟨rfl, hb1⟩
  have hz : w.heap.size < w1.heap.size := by have := hb1.size; simp at this; omega
  obtain ⟨hc, hf⟩ := bcell hb1
  go_wp2
  exact bodyPost_ret (v := .agg #[.int .i64 ((b : Int)), .int .i64 (q.size : Int), .bool true]) (by simp [results, Tryd.results54, go_sem, hc]) rfl
    ⟨rfl, (((bel_of hb1).setCell (by simp) _).setCell (by simp) _).setCell (by simp) _⟩
end Go.Proofs.YtmiehnknnkcdlacDoor
