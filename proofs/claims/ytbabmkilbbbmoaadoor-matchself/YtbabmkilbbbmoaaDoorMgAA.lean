/-
  Several texts in one: what the functions of the program and of the document's answer do.
-/
import Derived.Test.YtbabmkilbbbmoaaDoorRows
import Derived.WalkKit
import Derived.WalkSpells
import Derived.WalkLawsBesides
import Derived.Deep.QuietTactic
import Derived.BigQuiet
import Derived.Laws.BytesArg
import Derived.Lib.PathFns
import Derived.Lib.IndexBytes
import Derived.Lib.SmallJoins
import Derived.Maps.OwnSet
import Derived.Maps.Views
import Derived.Maps.AppendAt

/-
  Small plain facts that the walks of this seat share: bytes as lists, what stays behind a call, how an answer is told.
-/
namespace Go.Proofs.YtbabmkilbbbmoaaDoor
open Go.RowKit
set_option linter.unusedVariables false

theorem hide {p : Prop} (h : p) : Hid p := h
theorem unhide {p : Prop} (h : Hid p) : p := h
theorem ret1 {a x : Value} (h1 : a = x) : Ending.returned a = .returned x := by rw [h1]
theorem ret2 {a b x y : Value} (h1 : a = x) (h2 : b = y) : Ending.returned (.tuple #[a, b]) = .returned (.tuple #[x, y]) := by rw [h1, h2]
theorem ret3 {a b c x y z : Value} (h1 : a = x) (h2 : b = y) (h3 : c = z) : Ending.returned (.tuple #[a, b, c]) = .returned (.tuple #[x, y, z]) := by rw [h1, h2, h3]

theorem below_draws (w : World) (n : Nat) : Below w.heap.size w (w.drewN n) := _root_.Go.below_drewN (Below.refl _ _) n
theorem bcell {W w1 : World} (hb : Below W.heap.size W w1) : (∀ b o, b < W.heap.size → w1.cell? ⟨b, o, none⟩ = W.cell? ⟨b, o, none⟩) ∧ (∀ b o, b < W.heap.size → w1.frozen? ⟨b, o, none⟩ = W.frozen? ⟨b, o, none⟩) :=
  ⟨fun b o h => hb.cell (p := ⟨b, o, none⟩) h, fun b o h => hb.frozen (p := ⟨b, o, none⟩) h⟩
theorem bel_of {w w1 : World} {X : Obj} (hb1 : Below (w.alloc X).heap.size (w.alloc X) w1) : Below w.heap.size w w1 :=
  ((Below.refl _ _).alloc (Nat.le_refl _) _).trans (hb1.mono (by simp))
theorem tr2 {w w1 w2 : World} (h1 : Below w.heap.size w w1) (h2 : Below w1.heap.size w1 w2) : Below w.heap.size w w2 := h1.trans (h2.mono h1.size)
theorem tr3 {w w1 w2 w3 : World} (h1 : Below w.heap.size w w1) (h2 : Below w1.heap.size w1 w2) (h3 : Below w2.heap.size w2 w3) : Below w.heap.size w w3 := tr2 (tr2 h1 h2) h3
theorem ownsRow_below {w w1 : World} {base : Nat} {e : TypeId} {size : Nat} {v : Value} {n : Nat} {xs : List Value} (h : w.ownsRow base e size v n xs) (hb : Below w.heap.size w w1) : w1.ownsRow base e size v n xs := by
  obtain ⟨hl, h⟩ := h
  refine ⟨hl, ?_⟩
  rcases h with h | ⟨g, cap, cur, h1, h2, h3, h4, h5, h6, h7⟩
  · exact .inl h
  · refine .inr ⟨g, cap, cur, h1, h2, ?_, h4, h5, h6, h7⟩
    have hg : g < w.heap.size := by
      rcases Nat.lt_or_ge g w.heap.size with h | h
      · exact h
      · rw [Array.getElem?_eq_none h] at h3; cases h3
    rw [hb.block g hg]; exact h3
theorem slice_of {w : World} {base : Nat} {e : TypeId} {size : Nat} {v : Value} {n : Nat} {xs : List Value} (h : w.ownsRow base e size v n xs) : ∃ a m cap, v = .slice a m cap := by
  rcases h.2 with ⟨h, _⟩ | ⟨g, cap, cur, h, _⟩
  · exact ⟨_, _, _, h⟩
  · exact ⟨_, _, _, h⟩

/-! ### bytes -/

def bs (l : List UInt8) : ByteArray := ⟨l.toArray⟩
def dgt (l : List UInt8) (k : Nat) : Nat := (l.getD k 0).toNat
def byt (x : Int) : UInt8 := UInt8.ofNat x.toNat
def str (xs : List Int) : ByteArray := strOfNums xs
theorem str_bs (xs : List Int) : str xs = bs (xs.map byt) := rfl
theorem byt_toNat (x : Int) (h0 : 0 ≤ x) (h1 : x < 256) : ((byt x).toNat : Int) = x := by
  have : x.toNat < 256 := by omega
  unfold byt
  rw [UInt8.toNat_ofNat']
  omega
theorem byt_nat (k : Nat) (h : k < 256) : (byt (k : Int)).toNat = k := by
  have := byt_toNat (k : Int) (by omega) (by omega)
  omega
theorem byt_self (c : UInt8) : byt (c.toNat : Int) = c := by
  apply UInt8.toNat.inj
  exact byt_nat _ (UInt8.toNat_lt c)
theorem bs_toList (l : List UInt8) : (bs l).data.toList = l := by simp [bs]
theorem bs_size (l : List UInt8) : (bs l).size = l.length := by simp [bs, ByteArray.size]
theorem bs_self (s : ByteArray) : bs s.data.toList = s := by simp [bs]
theorem bs_inj {a b : List UInt8} (h : bs a = bs b) : a = b := by
  have := congrArg (fun x : ByteArray => x.data.toList) h
  simpa [bs_toList] using this
theorem data_len (s : ByteArray) : s.data.toList.length = s.size := by simp
theorem add_bs (a b : ByteArray) : a ++ b = bs (a.data.toList ++ b.data.toList) := by
  apply ByteArray.ext
  simp [bs]
theorem bs_add (a : List UInt8) (b : ByteArray) : bs a ++ b = bs (a ++ b.data.toList) := by rw [add_bs, bs_toList]
theorem bs_bs (a b : List UInt8) : bs a ++ bs b = bs (a ++ b) := by rw [add_bs, bs_toList, bs_toList]
theorem str_size (xs : List Int) : (str xs).size = xs.length := strOfNums_size xs
theorem dgt_lt (l : List UInt8) (k : Nat) : dgt l k < 256 := by
  unfold dgt; exact UInt8.toNat_lt _
theorem dgt_at (s : ByteArray) (k : Nat) (h : k < s.size) : (s[k]).toNat = dgt s.data.toList k := by
  have h' : k < s.data.toList.length := by simpa using h
  unfold dgt
  rw [List.getD, List.getElem?_eq_getElem h']
  rfl
theorem dgt_drop (l : List UInt8) (a k : Nat) : dgt (l.drop a) k = dgt l (a + k) := by
  unfold dgt
  simp [List.getD, List.getElem?_drop]
theorem dgt_from (s : ByteArray) (a k : Nat) (h : k < (s.extract a s.size).size) : ((s.extract a s.size)[k]).toNat = dgt s.data.toList (a + k) := by
  rw [dgt_at, Lib.extract_to_end, dgt_drop]
theorem not_empty (s : ByteArray) (h : 0 < s.size) : s.toList.isEmpty = false := by
  have h' : 0 < s.data.toList.length := by simpa using h
  rw [Lib.toList_data]
  cases e : s.data.toList with
  | nil => simp [e] at h'
  | cons a b => rfl
theorem is_empty (s : ByteArray) (h : s.size = 0) : s.toList.isEmpty = true := by
  have : s.data.toList = [] := List.eq_nil_of_length_eq_zero (by simpa using h)
  simp [Lib.toList_data, this]
theorem not_bare (s : ByteArray) (h : 0 < s.size) : ¬ s = ByteArray.empty := by
  intro e; subst e; simp at h
theorem toList_eq {x y : ByteArray} : x.toList = y.toList ↔ x = y := by
  rw [Lib.toList_data, Lib.toList_data]
  constructor
  · intro h
    cases x; cases y
    simpa using h
  · intro h; rw [h]
theorem beq_yes {x y : ByteArray} (h : x = y) : (x.toList == y.toList) = true := by rw [h]; simp
theorem beq_no {x y : ByteArray} (h : ¬ x = y) : (x.toList == y.toList) = false := by
  apply beq_eq_false_iff_ne.2
  intro e; exact h (toList_eq.1 e)

/-- The text of a few bytes that lie in the last new block, told as numbers. -/
theorem convL (w : World) (n : Nat) (xs : List Int) (h : n = w.heap.size) :
    Sem.run Tryd.prog (convert 120 9 (Value.slice (some { block := n, off := 0 }) xs.length xs.length)) (w.alloc (Obj.cells (xs.map (Value.int .u8)).toArray 5)) = .ok (.string (str xs)) (w.alloc (Obj.cells (xs.map (Value.int .u8)).toArray 5)) := by
  subst h
  refine run_convert_bytes_arg (P := Tryd.prog) _ 120 5 Tryd.underlying120 Tryd.underlying5 w.heap.size 0 xs.length xs.length xs rfl ?_ 9 Tryd.underlying9
  intro i hi
  rw [World.cell?_alloc_mark]
  simp [List.getD, List.getElem?_eq_getElem hi]
end Go.Proofs.YtbabmkilbbbmoaaDoor

/-
  Attributes as they lie in memory.
-/
namespace Go.Proofs.YtbabmkilbbbmoaaDoor
open Go.RowKit Go.Maps Go.WideMaps
set_option linter.unusedVariables false

/-- Attributes that lie in memory, one behind the other. -/
def an (ats : List (ByteArray × ByteArray)) (k : Nat) : ByteArray := (ats.getD k (ByteArray.empty, ByteArray.empty)).1
def av (ats : List (ByteArray × ByteArray)) (k : Nat) : ByteArray := (ats.getD k (ByteArray.empty, ByteArray.empty)).2
def Cells2 (g o : Nat) (ats : List (ByteArray × ByteArray)) (w : World) : Prop :=
  ∀ k, k < ats.length → w.cell? ⟨g, o + k * 2, none⟩ = some (.string (an ats k)) ∧ w.cell? ⟨g, o + k * 2 + 1, none⟩ = some (.string (av ats k))
theorem Cells2.below {g o : Nat} {ats : List (ByteArray × ByteArray)} {w w' : World} (h : Cells2 g o ats w) (hb : Below w.heap.size w w') : Cells2 g o ats w' :=
  fun k hk => ⟨cell_later hb (h k hk).1, cell_later hb (h k hk).2⟩
/-- Attributes behind a slice, or none at all. -/
def Sl (q : Option Addr) (ats : List (ByteArray × ByteArray)) (w : World) : Prop := ats = [] ∨ ∃ g o, q = some ⟨g, o, none⟩ ∧ Cells2 g o ats w
theorem Sl.below {q : Option Addr} {ats : List (ByteArray × ByteArray)} {w w' : World} (h : Sl q ats w) (hb : Below w.heap.size w w') : Sl q ats w' :=
  h.imp id fun ⟨g, o, h1, h2⟩ => ⟨g, o, h1, h2.below hb⟩
theorem law9 : Keyed Tryd.prog 9 := string_keyed Tryd.underlying9
theorem isKey (b : ByteArray) : WideAt.IsKeyLit (.string b.data.toList) := by simp [WideAt.IsKeyLit]
end Go.Proofs.YtbabmkilbbbmoaaDoor

/-
  A block of cells as it lies in memory; a world made a letter.
-/
namespace Go.Proofs.YtbabmkilbbbmoaaDoor
open Go.RowKit
set_option linter.unusedVariables false

/-- A block of cells, as it lies. -/
def Blk (w : World) (b : Nat) (vs : Array Value) (t : TypeId) : Prop := w.heap[b]? = some (.cells vs t (0, 0))
theorem Blk.lt {w : World} {b : Nat} {vs : Array Value} {t : TypeId} (h : Blk w b vs t) : b < w.heap.size := by
  rcases Nat.lt_or_ge b w.heap.size with h' | h'
  · exact h'
  · unfold Blk at h; rw [Array.getElem?_eq_none h'] at h; cases h
theorem Blk.cell {w : World} {b : Nat} {vs : Array Value} {t : TypeId} (h : Blk w b vs t) (o : Nat) : w.cell? ⟨b, o, none⟩ = vs[o]? := Joins.cell_of_block h o
theorem Blk.frozen {w : World} {b : Nat} {vs : Array Value} {t : TypeId} (h : Blk w b vs t) (o : Nat) : w.frozen? ⟨b, o, none⟩ = false := by
  have h' : w.heap[b]? = some (.cells vs t (0, 0)) := h
  simp [World.frozen?, h']
theorem Blk.below {w w' : World} {b B : Nat} {vs : Array Value} {t : TypeId} (h : Blk w b vs t) (hb : Below B w w') (hB : b < B) : Blk w' b vs t := (hb.block b hB).trans h
theorem Blk.later {w w' : World} {b : Nat} {vs : Array Value} {t : TypeId} (h : Blk w b vs t) (hb : Below w.heap.size w w') : Blk w' b vs t := h.below hb h.lt
theorem Blk.alloc {w : World} {b : Nat} {vs : Array Value} {t : TypeId} (h : Blk w b vs t) (o : Obj) : Blk (w.alloc o) b vs t := h.later ((Below.refl _ _).alloc (Nat.le_refl _) _)
theorem Blk.new (w : World) (vs : Array Value) (t : TypeId) : Blk (w.alloc (.cells vs t)) w.heap.size vs t := by show (w.heap.push _)[w.heap.size]? = _; simp
theorem Blk.away {w : World} {b : Nat} {vs : Array Value} {t : TypeId} (h : Blk w b vs t) {b' o : Nat} (hb : b ≠ b') (u : Value) : Blk (w.setCell ⟨b', o, none⟩ u) b vs t := (Below.heap_setCell w ⟨b', o, none⟩ u b hb).trans h
theorem Blk.set {w : World} {b : Nat} {vs : Array Value} {t : TypeId} (h : Blk w b vs t) (o : Nat) (ho : o < vs.size) (u : Value) : Blk (w.setCell ⟨b, o, none⟩ u) b (vs.set o u) t := by
  have h' : w.heap[b]? = some (.cells vs t (0, 0)) := h
  simp [Blk, World.setCell, Array.getElem?_modify, h', Array.setIfInBounds, ho]

/-- From here on no more is asked of the world than this. -/
theorem calls_from {P : Program} {f : FuncId} {args : Array Value} {W : World} {R : Ending → World → Prop} (S : World → Prop) (h : S W) (k : ∀ W', S W' → Calls P f args W' R) : Calls P f args W R := k W h
end Go.Proofs.YtbabmkilbbbmoaaDoor

/-
  Nodes as plain data (a list of nodes: a forest), and how they lie in memory.
-/
namespace Go.Proofs.YtbabmkilbbbmoaaDoor
open Go.RowKit
set_option linter.unusedVariables false

/-- A list of nodes: the first one's kind, space, name, attributes, text and kids, and the others. -/
inductive Forest where
  | nil : Forest
  | cons (k sp : Int) (n : ByteArray) (ats : List (ByteArray × ByteArray)) (tx : ByteArray) (kids rest : Forest) : Forest
def Forest.len : Forest → Nat
  | .nil => 0
  | .cons _ _ _ _ _ _ r => r.len + 1
def Forest.count : Forest → Nat
  | .nil => 0
  | .cons _ _ _ _ _ kids r => 1 + kids.count + r.count
def Forest.drop : Nat → Forest → Forest
  | 0, f => f
  | _ + 1, .nil => .nil
  | j + 1, .cons _ _ _ _ _ _ r => r.drop j
theorem Forest.drop_zero (f : Forest) : f.drop 0 = f := by cases f <;> rfl
theorem Forest.drop_nil (j : Nat) : Forest.drop j .nil = .nil := by cases j <;> rfl
theorem Forest.drop_len : ∀ (j : Nat) (f : Forest), (f.drop j).len = f.len - j
  | 0, f => by rw [Forest.drop_zero]; rfl
  | j + 1, .nil => by rw [Forest.drop_nil]; simp [Forest.len]
  | j + 1, .cons _ _ _ _ _ _ r => by
    show (r.drop j).len = r.len + 1 - (j + 1)
    rw [Forest.drop_len j r]; omega
theorem Forest.drop_cons : ∀ (j : Nat) (f : Forest), j < f.len → ∃ k sp n ats tx kids, f.drop j = .cons k sp n ats tx kids (f.drop (j + 1))
  | j, .nil, h => by simp [Forest.len] at h
  | 0, .cons k sp n ats tx kids r, h => ⟨k, sp, n, ats, tx, kids, by show Forest.cons k sp n ats tx kids r = _; rw [show Forest.drop (0 + 1) (.cons k sp n ats tx kids r) = r.drop 0 from rfl, Forest.drop_zero]⟩
  | j + 1, .cons k sp n ats tx kids r, h => Forest.drop_cons j r (by simp [Forest.len] at h; omega)
theorem Forest.drop_out (j : Nat) (f : Forest) (h : f.len ≤ j) : f.drop j = .nil := by
  have := Forest.drop_len j f
  cases e : f.drop j with
  | nil => rfl
  | cons _ _ _ _ _ _ r => rw [e] at this; simp [Forest.len] at this; omega
theorem Forest.count_drop : ∀ (j : Nat) (f : Forest), (f.drop j).count ≤ f.count
  | 0, f => by rw [Forest.drop_zero]; exact Nat.le_refl _
  | j + 1, .nil => by rw [Forest.drop_nil]; exact Nat.le_refl _
  | j + 1, .cons _ _ _ _ _ _ r => by
    have := Forest.count_drop j r
    show (r.drop j).count ≤ _
    simp [Forest.count]; omega
theorem Forest.len_count : ∀ (f : Forest), f.len ≤ f.count
  | .nil => Nat.le_refl _
  | .cons _ _ _ _ _ kids r => by have := Forest.len_count r; simp [Forest.len, Forest.count]; omega

/-- Nodes lie in a block from a place on, six cells each, with all that is below them. -/
def Lies : Forest → Nat → Nat → World → Prop
  | .nil, _, _, _ => True
  | .cons k sp n ats tx kids rest, g, o, w =>
    (w.cell? ⟨g, o, none⟩ = some (.int .i64 k) ∧ w.cell? ⟨g, o + 1, none⟩ = some (.int .i64 sp) ∧ w.cell? ⟨g, o + 2, none⟩ = some (.string n) ∧
      (∃ qa ca, w.cell? ⟨g, o + 3, none⟩ = some (.slice qa ats.length ca) ∧ Sl qa ats w) ∧ w.cell? ⟨g, o + 4, none⟩ = some (.string tx) ∧
      ∃ qk ck, w.cell? ⟨g, o + 5, none⟩ = some (.slice qk kids.len ck) ∧ kids.len ≤ ck ∧ (kids = .nil ∨ ∃ g' o', qk = some ⟨g', o', none⟩ ∧ Lies kids g' o' w)) ∧
    Lies rest g (o + 6) w
/-- Nodes behind a slice, or none at all. -/
def Fo (q : Option Addr) (f : Forest) (w : World) : Prop := f = .nil ∨ ∃ g o, q = some ⟨g, o, none⟩ ∧ Lies f g o w
theorem Lies.below {w w' : World} (hb : Below w.heap.size w w') : ∀ (f : Forest) (g o : Nat), Lies f g o w → Lies f g o w'
  | .nil, g, o, h => trivial
  | .cons k sp n ats tx kids rest, g, o, h => by
    obtain ⟨⟨h0, h1, h2, ⟨qa, ca, h3, h3'⟩, h4, ⟨qk, ck, h5, h6, h7⟩⟩, hr⟩ := h
    refine ⟨⟨cell_later hb h0, cell_later hb h1, cell_later hb h2, ⟨qa, ca, cell_later hb h3, h3'.below hb⟩, cell_later hb h4, ⟨qk, ck, cell_later hb h5, h6, ?_⟩⟩, Lies.below hb rest g (o + 6) hr⟩
    rcases h7 with h7 | ⟨g', o', hq, hl⟩
    · exact Or.inl h7
    · exact Or.inr ⟨g', o', hq, Lies.below hb kids g' o' hl⟩
theorem Fo.below {w w' : World} {q : Option Addr} {f : Forest} (h : Fo q f w) (hb : Below w.heap.size w w') : Fo q f w' :=
  h.imp id fun ⟨g, o, h1, h2⟩ => ⟨g, o, h1, h2.below hb⟩
theorem Lies.drop {w : World} {g : Nat} : ∀ (j : Nat) (f : Forest) (o : Nat), Lies f g o w → Lies (f.drop j) g (o + j * 6) w
  | 0, f, o, h => by rw [Forest.drop_zero]; simpa using h
  | j + 1, .nil, o, h => by rw [Forest.drop_nil]; trivial
  | j + 1, .cons _ _ _ _ _ _ r, o, h => by
    have := Lies.drop j r (o + 6) h.2
    show Lies (r.drop j) g _ w
    rw [show o + (j + 1) * 6 = o + 6 + j * 6 by omega]; exact this

/-! ### the reference's Count -/
set_option maxHeartbeats 2000000 in
theorem rcount_none (q : Option Addr) (cap : Nat) (w : World) : Calls Tryd.prog 21 #[.slice q 0 cap] w fun e w' => e = .returned (.int .i64 0) ∧ Below w.heap.size w w' := by
  go_enter Tryd.func21, Tryd.ntmps21
  go_wp2
  refine wp_loop_rounds 1 ?_
  rw [rounds_succ]; go_wp2
  go_ret
  exact ⟨rfl, Below.refl _ _⟩
set_option maxHeartbeats 4000000 in
theorem rcount_some (f : Forest) (g o cap : Nat) (w : World) (hl : Lies f g o w) (hc : f.count ≤ 1000000)
    (ih : ∀ j k sp n ats tx kids, f.drop j = .cons k sp n ats tx kids (f.drop (j + 1)) → ∀ q cap w, Fo q kids w → Calls Tryd.prog 21 #[.slice q kids.len cap] w fun e w' => e = .returned (.int .i64 (kids.count : Nat)) ∧ Below w.heap.size w w') :
    Calls Tryd.prog 21 #[.slice (some ⟨g, o, none⟩) f.len cap] w fun e w' => e = .returned (.int .i64 (f.count : Nat)) ∧ Below w.heap.size w w' := by
  have HL := hide hl
  have IH := hide ih
  have hlc := f.len_count
  clear hl ih
  go_enter Tryd.func21, Tryd.ntmps21
  go_wp2
  go_loopw [3, 8] (fun a b wr => ∃ j c : Nat, j ≤ f.len ∧ b = .int .i64 j ∧ a = .int .i64 c ∧ c + (f.drop j).count = f.count ∧ Below w.heap.size w wr) (fun _ b _ => f.len - (intOf b).toNat)
  case atStart => exact ⟨0, 0, Nat.zero_le _, rfl, rfl, by rw [Forest.drop_zero]; omega, Below.refl _ _⟩
  case round =>
    obtain ⟨j, c, hj, rfl, rfl, hsum, hbw⟩ := hrel
    by_cases hp : j < f.len
    · have hpi : (j : Int) < (f.len : Int) := by omega
      obtain ⟨k, sp, n, ats, tx, kids, hd⟩ := f.drop_cons j hp
      have hlj := (unhide HL).drop j
      have hlw := hlj.below hbw
      rw [hd] at hlw hsum
      obtain ⟨⟨c0, c1, c2, ⟨qa, ca, c3, hsl⟩, c4, ⟨qk, ck, c5, hck, hfo⟩⟩, _⟩ := hlw
      have hsum' : c + (1 + kids.count + (f.drop (j + 1)).count) = f.count := hsum
      have CK := hide (fun w h => unhide IH j k sp n ats tx kids hd qk ck w h)
      have hbA := (Below.refl wr.heap.size wr).alloc (Nat.le_refl _) (Obj.cells #[.int .i64 k, .int .i64 sp, .string n, .slice qa ats.length ca, .string tx, .slice qk kids.len ck] 44)
      have HF := hide ((show Fo qk kids wr from hfo).below hbA)
      have HB := hide (tr2 hbw hbA)
      generalize kids.len = kl at *
      generalize kids.count = kc at *
      have HS := hide hsum'
      have b1 : (c : Int) + 1 ≤ 1000000 := by omega
      have b2 : (c : Int) + 1 + (kc : Int) ≤ 1000000 := by omega
      clear hlj hsl hfo hd hsum hsum' hbA hbw
      go_wp2_with fail
      refine (unhide CK _ (unhide HF)).mono ?_
      rintro e w1 ⟨rfl, hb1⟩
      have HB1 := hide (tr2 (unhide HB) hb1)
      clear hb1 HF
      go_wp2
      go_roundw
      case rel => exact ⟨j + 1, c + 1 + kc, by omega, by go_num, by first | rfl | (congr 1) | skip, by have := unhide HS; omega, unhide HB1⟩
      case measure => simp [intOf]; omega
    · have hpi : ¬ (j : Int) < (f.len : Int) := by omega
      rw [f.drop_out j (by omega)] at hsum
      have HS : Hid (c = f.count) := hide hsum
      clear hp hsum
      go_wp2
      go_ret
      exact ⟨by rw [← unhide HS]; rfl, hbw⟩
theorem rcount_any : ∀ (m : Nat) (f : Forest), f.count ≤ m → m ≤ 1000000 → ∀ (q : Option Addr) (cap : Nat) (w : World), Fo q f w → Calls Tryd.prog 21 #[.slice q f.len cap] w fun e w' => e = .returned (.int .i64 (f.count : Nat)) ∧ Below w.heap.size w w'
  | m, f, hm, hM, q, cap, w, h => by
    rcases h with rfl | ⟨g, o, rfl, hl⟩
    · exact rcount_none q cap w
    · refine rcount_some f g o cap w hl (by omega) (fun j k sp n ats tx kids hd q cap w hf => ?_)
      have h1 : (f.drop j).count ≤ f.count := f.count_drop j
      rw [hd] at h1
      have h2 : 1 + kids.count + (f.drop (j + 1)).count ≤ f.count := h1
      match m, hm with
      | 0, hm => omega
      | m + 1, hm => exact rcount_any m kids (by omega) (by omega) q cap w hf
end Go.Proofs.YtbabmkilbbbmoaaDoor

/-
  keys.Items: the items of nodes, told plainly; how keys.walk's levels lie; what its closure does.
-/
namespace Go.Proofs.YtbabmkilbbbmoaaDoor
open Go.RowKit Go.Maps
set_option linter.unusedVariables false
set_option linter.unusedSimpArgs false

/-- A node's item without its size: its number, its parent's, its place, how deep it lies. -/
abbrev It := Int × Int × Int × Int
def itm : Forest → Nat → Int → Nat → Nat → List It
  | .nil, _, _, _, _ => []
  | .cons _ _ _ _ _ kids rest, num, par, pl, dep => ((num : Int), par, (pl : Int), (dep : Int)) :: (itm kids (num + 1) (num : Int) 0 (dep + 1) ++ itm rest (num + 1 + kids.count) par (pl + 1) dep)
theorem itm_len : ∀ (f : Forest) (num : Nat) (par : Int) (pl dep : Nat), (itm f num par pl dep).length = f.count
  | .nil, _, _, _, _ => rfl
  | .cons _ _ _ _ _ kids rest, num, par, pl, dep => by
    simp only [itm, List.length_cons, List.length_append, itm_len kids, itm_len rest, Forest.count]; omega
/-- A list that is gone through. -/
structure Lev where
  F : Forest
  q : Option Addr
  cap : Nat
  par : Int
  nx : Nat
def levL (l : Lev) : List Value := [.slice l.q l.F.len l.cap, .int .i64 l.par, .int .i64 (l.nx : Int)]
def rowL : List Lev → List Value
  | [] => []
  | l :: st => rowL st ++ levL l
theorem rowL_len : ∀ st : List Lev, (rowL st).length = st.length * 3
  | [] => rfl
  | l :: st => by simp only [rowL, List.length_append, rowL_len st, levL, List.length_cons, List.length_nil]; omega
def tdo : List Lev → Nat → List It
  | [], _ => []
  | l :: st, num => itm (l.F.drop l.nx) num l.par l.nx st.length ++ tdo st (num + (l.F.drop l.nx).count)
def cntL : List Lev → Nat
  | [] => 0
  | l :: st => (l.F.drop l.nx).count + cntL st
theorem tdo_pop (l : Lev) (st : List Lev) (num : Nat) (h : l.F.drop l.nx = .nil) : tdo (l :: st) num = tdo st num ∧ cntL (l :: st) = cntL st := by
  simp only [tdo, cntL, h, itm, Forest.count, List.nil_append, Nat.add_zero, Nat.zero_add, and_self]
theorem tdo_push (l : Lev) (st : List Lev) (num : Nat) {k sp : Int} {n : ByteArray} {ats : List (ByteArray × ByteArray)} {tx : ByteArray} {kids : Forest} (q : Option Addr) (c : Nat) (h : l.F.drop l.nx = .cons k sp n ats tx kids (l.F.drop (l.nx + 1))) :
    tdo (l :: st) num = ((num : Int), l.par, (l.nx : Int), (st.length : Int)) :: tdo (⟨kids, q, c, (num : Int), 0⟩ :: { l with nx := l.nx + 1 } :: st) (num + 1) ∧ cntL (l :: st) = cntL (⟨kids, q, c, (num : Int), 0⟩ :: { l with nx := l.nx + 1 } :: st) + 1 := by
  constructor
  · simp only [tdo, h, itm, Forest.drop_zero, List.length_cons, List.cons_append, List.append_assoc, Forest.count]
    rw [show num + (1 + kids.count + (l.F.drop (l.nx + 1)).count) = num + 1 + kids.count + (l.F.drop (l.nx + 1)).count by omega]
  · simp only [cntL, h, Forest.drop_zero, Forest.count]; omega

/-! ### items in memory -/
def itL (x : It) : List Value := [.int .i64 x.1, .int .i64 x.2.1, .int .i64 x.2.2.1, .int .i64 x.2.2.2, .int .i64 0]
def flatI : List It → List Value
  | [] => []
  | x :: r => itL x ++ flatI r
theorem flatI_app (a b : List It) : flatI (a ++ b) = flatI a ++ flatI b := by
  induction a with
  | nil => rfl
  | cons e r ih => simp only [List.cons_append, flatI, ih, List.append_assoc]
theorem infoItem0 : (Tryd.prog.info? 49).map (fun i => (i.zero, i.size, i.bytes)) = some (some (.agg #[.int .i64 0, .int .i64 0, .int .i64 0, .int .i64 0, .int .i64 0]), 5, 40) := by kernel_rfl
theorem infoItem : ∃ i, Tryd.prog.info? 49 = some i ∧ i.zero = some (.agg #[.int .i64 0, .int .i64 0, .int .i64 0, .int .i64 0, .int .i64 0]) ∧ i.size = 5 ∧ i.bytes = 40 := by
  have h := infoItem0
  cases hi : Tryd.prog.info? 49 with
  | none => rw [hi] at h; cases h
  | some i =>
    rw [hi] at h
    simp only [Option.map_some, Option.some.injEq, Prod.mk.injEq] at h
    exact ⟨i, rfl, h.1, h.2.1, h.2.2⟩
def AllV (w : World) (G : Nat) (acc : List It) : Prop := ∃ u, Blk w G #[u] 34 ∧ w.ownsRow (G + 1) 49 5 u acc.length (flatI acc)
/-- What the closure may touch: its variable, rows of items, and what is new. -/
def KeepI (G : Nat) (w w' : World) : Prop := w'.os = w.os ∧ w'.tape = w.tape ∧ w'.output = w.output ∧ w.heap.size ≤ w'.heap.size ∧ ∀ b, b < w.heap.size → b ≠ G → (G < b → ∀ cs z, w.heap[b]? ≠ some (.cells cs 49 z)) → w'.heap[b]? = w.heap[b]?
theorem blk_grown {w w' : World} {b : Nat} {vs : Array Value} {t : TypeId} {row : Option Nat} (h : Blk w b vs t) (hg : w.grownBy w' row) (hr : some b ≠ row) : Blk w' b vs t := (hg.block b h.lt hr).trans h
theorem cell_five_new (w : World) (a b c d e : Value) (t : TypeId) : ∀ j u, [a, b, c, d, e][j]? = some u → (w.alloc (Obj.cells #[a, b, c, d, e] t)).cell? ((⟨w.heap.size, 0, none⟩ : Addr).add j) = some u := by
  intro j u h
  have e' : (⟨w.heap.size, 0, none⟩ : Addr).add j = ⟨w.heap.size, j, none⟩ := by unfold Addr.add; split <;> simp_all
  rw [e', (Blk.new w #[a, b, c, d, e] t).cell j]
  simpa using h
theorem owns_blockI {w : World} {base : Nat} {e : TypeId} {size : Nat} {v : Value} {n : Nat} {xs : List Value} (h : w.ownsRow base e size v n xs) {k : Nat} (hk : v.ownBlock = some k) : base ≤ k ∧ ∃ cur, w.heap[k]? = some (.cells cur e (0, 0)) := by
  rcases h.2 with ⟨rfl, _⟩ | ⟨g, cap, cur, rfl, hb, h3, _⟩
  · cases hk
  · simp only [Value.ownBlock, Option.some.injEq] at hk
    subst hk
    exact ⟨hb, cur, h3⟩
theorem owns_awayI {w : World} {base : Nat} {e : TypeId} {size : Nat} {v : Value} {n : Nat} {xs : List Value} (h : w.ownsRow base e size v n xs) {c o : Nat} {x : Value} (hc : ∀ k, some k = v.ownBlock → k ≠ c) : (w.setCell ⟨c, o, none⟩ x).ownsRow base e size v n xs := by
  obtain ⟨hl, h⟩ := h
  refine ⟨hl, ?_⟩
  rcases h with h | ⟨g, cap, cur, h1, h2, h3, h4, h5, h6, h7⟩
  · exact .inl h
  · refine .inr ⟨g, cap, cur, h1, h2, ?_, h4, h5, h6, h7⟩
    have hg : g ≠ c := hc g (by rw [h1]; rfl)
    rw [Below.heap_setCell w ⟨c, o, none⟩ x g hg]; exact h3

set_option maxHeartbeats 1000000 in
theorem itemsC_any (p : Value) (x : It) (G : Nat) (acc : List It) (w : World) (h : AllV w G acc) (hl : acc.length ≤ 1000000) :
    Calls Tryd.prog 44 #[p, .agg #[.int .i64 x.1, .int .i64 x.2.1, .int .i64 x.2.2.1, .int .i64 x.2.2.2, .int .i64 0], .pointer (some ⟨G, 0, none⟩)] w fun e w' => e = .returned (.tuple #[]) ∧ AllV w' G (acc ++ [x]) ∧ KeepI G w w' := by
  obtain ⟨i0, hi0, hi1, hi2, hi3⟩ := infoItem
  obtain ⟨u, hb, hr⟩ := h
  obtain ⟨xq, xn, xc, hu⟩ := slice_of hr
  subst hu
  obtain ⟨x1, x2, x3, x4⟩ := x
  dsimp only
  have hG := hb.lt
  have HB := hide hb
  have HR := hide hr
  have k1 : Hid (Blk ((w.alloc (Obj.cells #[.int .i64 x1, .int .i64 x2, .int .i64 x3, .int .i64 x4, .int .i64 0] 49)).alloc (Obj.cells #[.int .i64 x1, .int .i64 x2, .int .i64 x3, .int .i64 x4, .int .i64 0] 49)) G #[.slice xq xn xc] 34) := hide ((hb.alloc _).alloc _)
  have c0 : w.cell? ⟨G, 0, none⟩ = some (.slice xq xn xc) := hb.cell 0
  have hrb : Hid (∀ j, some j = (Value.slice xq xn xc).ownBlock → G + 1 ≤ j ∧ ∃ cur, w.heap[j]? = some (.cells cur 49 (0, 0))) := hide (fun j hj => owns_blockI (unhide HR) hj.symm)
  clear hb hr
  go_enter Tryd.func44, Tryd.ntmps44
  go_wp2_with (at_builtin; refine wpList_append_own_at _ rfl _ _ 34 rfl (G + 1) 49 i0 (.agg #[.int .i64 0, .int .i64 0, .int .i64 0, .int .i64 0, .int .i64 0]) 5 40 Tryd.underlying34 hi0 hi1 hi2 hi3 rfl (by decide) (.slice xq xn xc) _ _ rfl (((unhide HR).alloc _).alloc _) ⟨w.heap.size + 1, 0, none⟩ 1 1 [.int .i64 x1, .int .i64 x2, .int .i64 x3, .int .i64 x4, .int .i64 0] rfl rfl (by have := cell_five_new (w.alloc (Obj.cells #[.int .i64 x1, .int .i64 x2, .int .i64 x3, .int .i64 x4, .int .i64 0] 49)) (.int .i64 x1) (.int .i64 x2) (.int .i64 x3) (.int .i64 x4) (.int .i64 0) 49; simpa using this) (by simp [Value.oneCell']) (by simp only [maxLen]; omega) (by omega) (by simp; omega) ?_; intro u' w3 hown hgr _ _; obtain ⟨yq, yn, yc, rfl⟩ := slice_of hown; have k3 := blk_grown (unhide k1) hgr (fun e => by have := (unhide hrb _ e).1; omega); have d0 : w3.cell? ⟨G, 0, none⟩ = some (.slice xq xn xc) := k3.cell 0; have g0 := k3.frozen 0)
  refine bodyPost_end (v := .tuple #[]) (results_none Tryd.results44 _ _ _) rfl ?_
  refine ⟨rfl, ⟨_, k3.set 0 (by simp) _, ?_⟩, ?_⟩
  · rw [List.length_append, flatI_app]
    refine owns_awayI hown (fun j hj => ?_)
    have := (owns_blockI hown hj.symm).1
    omega
  · have hz := hgr.size
    refine ⟨hgr.os, hgr.tape, hgr.output, ?_, fun b hlt hne hnot => ?_⟩
    · simp at hz ⊢; omega
    · rw [Below.heap_setCell w3 ⟨G, 0, none⟩ _ b hne, hgr.block b (by simp; omega) (fun e => ?_)]
      · exact ((((Below.refl w.heap.size w).alloc (Nat.le_refl _) _).alloc (by simp) _).block b hlt)
      · obtain ⟨h1, cur, h2⟩ := unhide hrb b e
        exact hnot (by omega) _ _ h2
end Go.Proofs.YtbabmkilbbbmoaaDoor
