/-
  Several texts in one: what the functions of the program and of the document's answer do.
-/
import Derived.Test.YtemccomnhjhjeaaDoorMgAQ
import Derived.Test.YtemccomnhjhjeaaDoorMgAH
import Derived.Test.YtemccomnhjhjeaaDoorMgAN
import Derived.Test.YtemccomnhjhjeaaDoorQPl
import Derived.Test.YtemccomnhjhjeaaDoorMgAS
import Derived.Deep.RegionHeld

/-
  What the reference's Right and Check do (made by mk_yrr.py).
-/
namespace Go.Proofs.YtemccomnhjhjeaaDoor
open Go.RowKit
set_option linter.unusedVariables false
set_option linter.unusedSimpArgs false

/-- Are nodes right, but for texts side by side among the first ones? -/
def allB : Forest → Bool
  | .nil => true
  | .cons k sp n ats tx kids rest => raB k sp n ats tx kids.len && ((leafB k || (apartB kids && allB kids)) && allB rest)
def rightN (f : Forest) : Bool := apartB f && allB f
def apartP (pk : Int) (f : Forest) : Bool := !(pk == 2 && f.kind0 == 2) && apartB f
theorem apartP_cons (pk k sp : Int) (n : ByteArray) (ats : List (ByteArray × ByteArray)) (tx : ByteArray) (kids rest : Forest) : apartP pk (.cons k sp n ats tx kids rest) = (!(pk == 2 && k == 2) && apartP k rest) := rfl
theorem apartP_zero (f : Forest) : apartP 0 f = apartB f := by unfold apartP; simp
theorem emp_ne (s : ByteArray) (h : s.toList.isEmpty = false) : (s.toList == ByteArray.toList ⟨#[]⟩) = false := by
  apply beq_eq_false_iff_ne.2
  intro e
  rw [e] at h
  simp at h
theorem emp_eq (s : ByteArray) (h : s.toList.isEmpty = true) : (s.toList == ByteArray.toList ⟨#[]⟩) = true := by
  have : s.toList = [] := List.isEmpty_iff.1 h
  rw [this]; simp
theorem ra_two (sp : Int) (n : ByteArray) (ats : List (ByteArray × ByteArray)) (tx : ByteArray) (kl : Nat) : raB 2 sp n ats tx kl = (!tx.toList.isEmpty && (goodB tx.data.toList && (sp == 0 && (n.toList.isEmpty && (ats.length == 0 && kl == 0))))) := by simp [raB, taB]
theorem ra_three (sp : Int) (n : ByteArray) (ats : List (ByteArray × ByteArray)) (tx : ByteArray) (kl : Nat) : raB 3 sp n ats tx kl = (goodB tx.data.toList && (sp == 0 && (n.toList.isEmpty && (ats.length == 0 && kl == 0)))) := by simp [raB, taB]
theorem ra_one (sp : Int) (n : ByteArray) (ats : List (ByteArray × ByteArray)) (tx : ByteArray) (kl : Nat) : raB 1 sp n ats tx kl = (decide (wrongN n.data.toList ats = 0) && (decide (0 ≤ sp) && (decide (sp ≤ 2) && tx.toList.isEmpty))) := by simp [raB]
theorem ra_other (k sp : Int) (n : ByteArray) (ats : List (ByteArray × ByteArray)) (tx : ByteArray) (kl : Nat) (h1 : k ≠ 1) (h2 : k ≠ 2) (h3 : k ≠ 3) : raB k sp n ats tx kl = false := by simp [raB, h1, h2, h3]
/-- What the loop keeps. -/
def RrAt (f : Forest) (g o : Nat) (w : World) (RR : Bool) (b : Value) (wr : World) : Prop :=
  ∃ (j : Nat) (pk : Int), j ≤ f.len ∧ b = .int .i64 j ∧ RR = (apartP pk (f.drop j) && allB (f.drop j)) ∧ (j = 0 ∧ pk = 0 ∨ 0 < j ∧ w.cell? ⟨g, o + (j - 1) * 6, none⟩ = some (.int .i64 pk)) ∧ SmF (f.drop j) ∧ Below w.heap.size w wr
end Go.Proofs.YtemccomnhjhjeaaDoor

/-
  The reference's Right and Check at any nodes; the two Checks are one.
-/
namespace Go.Proofs.YtemccomnhjhjeaaDoor
open Go.RowKit
set_option linter.unusedVariables false
set_option linter.unusedSimpArgs false

theorem SmF.drop : ∀ (j : Nat) (f : Forest), SmF f → SmF (f.drop j)
  | 0, f, h => by rw [Forest.drop_zero]; exact h
  | j + 1, .nil, h => by rw [Forest.drop_nil]; trivial
  | j + 1, .cons _ _ _ _ _ _ r, h => SmF.drop j r h.2.2
def rcheckN (f : Forest) : Int := if 300 < f.count ∨ 40 < f.depth then 2 else if rightN f = true then 0 else 4
/-! ### they are one -/
def itB (it : Item) : Bool := raB it.k it.sp it.n it.ats it.tx it.kids.len && apartB it.kids
theorem tell_ck : ∀ (l : List Item) (b : Bool), tell ckStep b l = (b && l.all itB)
  | [], b => by simp [tell]
  | it :: l, b => by
    have hs : ckStep b it = (b && itB it, b && itB it) := rfl
    rw [tell, hs]
    cases h : (b && itB it) with
    | true =>
      rw [if_pos rfl, tell_ck l true]
      simp at h
      simp [h.1, h.2]
    | false =>
      rw [if_neg (by simp)]
      simp only [List.all_cons]
      rw [← Bool.and_assoc, h]; simp
theorem ra_leaf {k sp : Int} {n : ByteArray} {ats : List (ByteArray × ByteArray)} {tx : ByteArray} {kl : Nat} (hk : leafB k = true) (h : raB k sp n ats tx kl = true) : kl = 0 := by
  unfold leafB at hk
  simp at hk
  rcases hk with rfl | rfl
  · rw [ra_two] at h; simp at h; exact h.2.2.2.2.2
  · rw [ra_three] at h; simp at h; exact h.2.2.2.2
theorem items_all : ∀ (f : Forest) (d : Nat), (items f d).all itB = allB f
  | .nil, d => rfl
  | .cons k sp n ats tx kids rest, d => by
    have ih1 := items_all kids (d + 1)
    have ih2 := items_all rest d
    rw [items, List.all_cons, List.all_append, ih1, ih2, allB]
    show (raB k sp n ats tx kids.len && apartB kids && (allB kids && allB rest)) = _
    cases hr : raB k sp n ats tx kids.len with
    | false => simp
    | true =>
      cases hl : leafB k with
      | true =>
        have h0 := ra_leaf hl hr
        have hn : kids = .nil := by cases kids with | nil => rfl | cons _ _ _ _ _ _ r => simp [Forest.len] at h0
        subst hn
        simp [apartB, allB]
      | false =>
        simp only [Bool.true_and, Bool.false_or]
        cases apartB kids <;> simp
theorem check_is (f : Forest) : checkN f = rcheckN f := by
  unfold checkN rcheckN
  rw [greatB_is, tell_ck, items_all]
  by_cases h : 300 < f.count ∨ 40 < f.depth
  · rw [if_pos h, if_pos (by simpa using h)]
  · rw [if_neg h, if_neg (by simpa using h)]
    rfl
end Go.Proofs.YtemccomnhjhjeaaDoor

/-
  What 'rectoref01.Size' does.
-/
namespace Go.Proofs.YtemccomnhjhjeaaDoor
open Go.RowKit
set_option linter.unusedVariables false

end Go.Proofs.YtemccomnhjhjeaaDoor

/-
  What 'rectoref01.Plain' does.
-/
namespace Go.Proofs.YtemccomnhjhjeaaDoor
open Go.RowKit
set_option linter.unusedVariables false

theorem conv1 (w : World) (n : Nat) (c : Int) (h : n = w.heap.size) :
    Sem.run Tryd.prog (convert 74 9 (Value.slice (some { block := n, off := 0 }) 1 1)) (w.alloc (Obj.cells #[.int .u8 c] 5)) = .ok (.string (str [c])) (w.alloc (Obj.cells #[.int .u8 c] 5)) := by
  subst h
  refine run_convert_bytes_arg (P := Tryd.prog) _ 74 5 Tryd.underlying74 Tryd.underlying5 w.heap.size 0 1 1 [c] rfl ?_ 9 Tryd.underlying9
  intro i hi
  have : i = 0 := by omega
  subst this
  rw [World.cell?_alloc_mark]; rfl
theorem str_add (a b : List Int) : str a ++ str b = str (a ++ b) := by
  apply ByteArray.ext
  simp [str, strOfNums]
theorem str_none (a : ByteArray) : a ++ (⟨#[]⟩ : ByteArray) = a := by
  apply ByteArray.ext
  simp

end Go.Proofs.YtemccomnhjhjeaaDoor

/-
  The reference's text, Long, node, Plain and Bytes of the tree (made by mk_yrp.py).
-/
namespace Go.Proofs.YtemccomnhjhjeaaDoor
open Go.RowKit
set_option linter.unusedVariables false
set_option linter.unusedSimpArgs false

/-! ### Long -/
/-! ### node -/
def NdS (w0 : World) (R : Nat) (k sp : Int) (n : ByteArray) (qa : Option Addr) (al ca : Nat) (tx : ByteArray) (qk : Option Addr) (kl ck : Nat) (w : World) : Prop :=
  w.cell? ⟨R, 1, none⟩ = some (.int .i64 sp) ∧ w.cell? ⟨R, 2, none⟩ = some (.string n) ∧ w.cell? ⟨R, 3, none⟩ = some (.slice qa al ca) ∧ Blk w R #[.int .i64 k, .int .i64 sp, .string n, .slice qa al ca, .string tx, .slice qk kl ck] 34 ∧ Below w0.heap.size w0 w
theorem NdS.mk {w0 w : World} {R : Nat} {k sp : Int} {n : ByteArray} {qa : Option Addr} {al ca : Nat} {tx : ByteArray} {qk : Option Addr} {kl ck : Nat} (h : Blk w R #[.int .i64 k, .int .i64 sp, .string n, .slice qa al ca, .string tx, .slice qk kl ck] 34) (hb : Below w0.heap.size w0 w) : NdS w0 R k sp n qa al ca tx qk kl ck w := ⟨h.cell 1, h.cell 2, h.cell 3, h, hb⟩
theorem NdS.below {w0 w w' : World} {R : Nat} {k sp : Int} {n : ByteArray} {qa : Option Addr} {al ca : Nat} {tx : ByteArray} {qk : Option Addr} {kl ck : Nat} (h : NdS w0 R k sp n qa al ca tx qk kl ck w) (hb : Below w.heap.size w w') : NdS w0 R k sp n qa al ca tx qk kl ck w' := NdS.mk (Blk.later h.2.2.2.1 hb) (tr2 h.2.2.2.2 hb)
def AtS (w0 : World) (R : Nat) (k sp : Int) (n : ByteArray) (qa : Option Addr) (al ca : Nat) (tx : ByteArray) (qk : Option Addr) (kl ck : Nat) (H : Nat) (ya yb : ByteArray) (w : World) : Prop :=
  w.cell? ⟨H, 0, none⟩ = some (.string ya) ∧ w.cell? ⟨H, 1, none⟩ = some (.string yb) ∧ NdS w0 R k sp n qa al ca tx qk kl ck w
theorem AtS.below {w0 w w' : World} {R : Nat} {k sp : Int} {n : ByteArray} {qa : Option Addr} {al ca : Nat} {tx : ByteArray} {qk : Option Addr} {kl ck : Nat} {H : Nat} {ya yb : ByteArray} (h : AtS w0 R k sp n qa al ca tx qk kl ck H ya yb w) (hb : Below w.heap.size w w') : AtS w0 R k sp n qa al ca tx qk kl ck H ya yb w' := ⟨cell_later hb h.1, cell_later hb h.2.1, h.2.2.below hb⟩
theorem AtS.new {w0 w : World} {R : Nat} {k sp : Int} {n : ByteArray} {qa : Option Addr} {al ca : Nat} {tx : ByteArray} {qk : Option Addr} {kl ck : Nat} (ya yb : ByteArray) (h : NdS w0 R k sp n qa al ca tx qk kl ck w) : AtS w0 R k sp n qa al ca tx qk kl ck w.heap.size ya yb (w.alloc (Obj.cells #[.string ya, .string yb] 82)) :=
  ⟨(Blk.new w #[.string ya, .string yb] 82).cell 0, (Blk.new w #[.string ya, .string yb] 82).cell 1, h.below ((Below.refl _ _).alloc (Nat.le_refl _) _)⟩
theorem numW_nb {n : Int} (h0 : 0 ≤ n) (h1 : n ≤ 1099511627776) : numW n = nb n := if_pos ⟨h0, h1⟩
/-! ### Plain -/
theorem ra_elem {k sp : Int} {n : ByteArray} {ats : List (ByteArray × ByteArray)} {tx : ByteArray} {kl : Nat} (hk : leafB k = false) (h : raB k sp n ats tx kl = true) : k = 1 ∧ 0 ≤ sp ∧ sp ≤ 2 := by
  unfold leafB at hk
  simp at hk
  unfold raB at h
  by_cases h1 : k = 1
  · rw [if_pos h1] at h
    simp at h
    exact ⟨h1, h.2.1, h.2.2.1⟩
  · rw [if_neg h1, if_neg hk.1, if_neg hk.2] at h
    cases h
def plnV (f : Forest) : List UInt8 := bytesL f
/-! ### Bytes -/
end Go.Proofs.YtemccomnhjhjeaaDoor
