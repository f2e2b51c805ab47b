/-
  Several texts in one: what the functions of the program and of the document's answer do.
-/
import Derived.Test.YtfbgpodcdgmpjaaDoorBase
import Derived.Test.YtfbgpodcdgmpjaaDoorMgAG

/-
  The names that mean something, told plainly: which stand in which list.
-/
namespace Go.Proofs.YtfbgpodcdgmpjaaDoor
open Go.RowKit
set_option linter.unusedVariables false

def inB (l : List UInt8) (ns : List (List UInt8)) : Bool := ns.any (fun n => l == n)
def gN : Nat → List (List UInt8)
  | 1 => [[104, 116, 109, 108], [104, 101, 97, 100], [98, 111, 100, 121], [102, 114, 97, 109, 101], [102, 114, 97, 109, 101, 115, 101, 116]]
  | 2 => [[99, 97, 112, 116, 105, 111, 110], [116, 98, 111, 100, 121], [116, 104, 101, 97, 100], [116, 114], [116, 100], [116, 104]]
  | 3 => [[116, 97, 98, 108, 101]]
  | 4 => [[98, 108, 111, 99, 107, 113, 117, 111, 116, 101], [100, 105, 118], [111, 108], [115, 101, 99, 116, 105, 111, 110], [117, 108]]
  | 5 => [[112]]
  | 6 => [[104, 49], [104, 50], [104, 51]]
  | 7 => [[112, 114, 101]]
  | 8 => [[108, 105]]
  | 9 => [[97]]
  | 10 => [[98], [99, 111, 100, 101], [101, 109], [105], [115, 116, 114, 111, 110, 103], [117]]
  | 11 => [[98, 114], [105, 109, 103], [105, 110, 112, 117, 116], [119, 98, 114]]
  | 12 => [[104, 114]]
  | 13 => [[116, 105, 116, 108, 101]]
  | 14 => [[116, 101, 120, 116, 97, 114, 101, 97]]
  | 15 => [[115, 99, 114, 105, 112, 116], [115, 116, 121, 108, 101]]
  | 16 => [[120, 109, 112]]
  | 17 => [[109, 97, 116, 104], [115, 118, 103]]
  | _ => []
def ofN (l : List UInt8) : Nat := if inB l (gN 1) then 1 else if inB l (gN 2) then 2 else if inB l (gN 3) then 3 else if inB l (gN 4) then 4 else if inB l (gN 5) then 5 else if inB l (gN 6) then 6 else if inB l (gN 7) then 7 else if inB l (gN 8) then 8 else if inB l (gN 9) then 9 else if inB l (gN 10) then 10 else if inB l (gN 11) then 11 else if inB l (gN 12) then 12 else if inB l (gN 13) then 13 else if inB l (gN 14) then 14 else if inB l (gN 15) then 15 else if inB l (gN 16) then 16 else if inB l (gN 17) then 17 else 0
def voidNs : List (List UInt8) := [[98, 114], [104, 114], [105, 109, 103], [105, 110, 112, 117, 116], [119, 98, 114]]
def mathNs : List (List UInt8) := [[109, 105], [109, 110], [109, 111], [109, 115], [109, 116, 101, 120, 116]]
def svgNs : List (List UInt8) := [[100, 101, 115, 99], [102, 111, 114, 101, 105, 103, 110, 111, 98, 106, 101, 99, 116], [116, 105, 116, 108, 101]]
def spcNs : List (List UInt8) := [[98, 108, 111, 99, 107, 113, 117, 111, 116, 101], [98, 111, 100, 121], [98, 114], [99, 97, 112, 116, 105, 111, 110], [100, 105, 118], [102, 114, 97, 109, 101], [102, 114, 97, 109, 101, 115, 101, 116], [104, 49], [104, 50], [104, 51], [104, 101, 97, 100], [104, 114], [104, 116, 109, 108], [105, 109, 103], [105, 110, 112, 117, 116], [108, 105], [111, 108], [112], [112, 114, 101], [115, 99, 114, 105, 112, 116], [115, 101, 99, 116, 105, 111, 110], [115, 116, 121, 108, 101], [116, 97, 98, 108, 101], [116, 98, 111, 100, 121], [116, 100], [116, 101, 120, 116, 97, 114, 101, 97], [116, 104], [116, 104, 101, 97, 100], [116, 105, 116, 108, 101], [116, 114], [117, 108], [119, 98, 114], [120, 109, 112]]
def endNs : List (List UInt8) := [[99, 97, 112, 116, 105, 111, 110], [104, 116, 109, 108], [116, 97, 98, 108, 101], [116, 100], [116, 104]]
def brkNs : List (List UInt8) := [[98], [98, 105, 103], [98, 108, 111, 99, 107, 113, 117, 111, 116, 101], [98, 111, 100, 121], [98, 114], [99, 101, 110, 116, 101, 114], [99, 111, 100, 101], [100, 100], [100, 105, 118], [100, 108], [100, 116], [101, 109], [101, 109, 98, 101, 100], [104, 49], [104, 50], [104, 51], [104, 52], [104, 53], [104, 54], [104, 101, 97, 100], [104, 114], [105], [105, 109, 103], [108, 105], [108, 105, 115, 116, 105, 110, 103], [109, 101, 110, 117], [109, 101, 116, 97], [110, 111, 98, 114], [111, 108], [112], [112, 114, 101], [114, 117, 98, 121], [115], [115, 109, 97, 108, 108], [115, 112, 97, 110], [115, 116, 114, 105, 107, 101], [115, 116, 114, 111, 110, 103], [115, 117, 98], [115, 117, 112], [116, 97, 98, 108, 101], [116, 116], [117], [117, 108], [118, 97, 114]]
def allNs : List (List UInt8) := [[104, 116, 109, 108], [104, 101, 97, 100], [98, 111, 100, 121], [102, 114, 97, 109, 101], [102, 114, 97, 109, 101, 115, 101, 116], [99, 97, 112, 116, 105, 111, 110], [116, 98, 111, 100, 121], [116, 104, 101, 97, 100], [116, 114], [116, 100], [116, 104], [116, 97, 98, 108, 101], [98, 108, 111, 99, 107, 113, 117, 111, 116, 101], [100, 105, 118], [111, 108], [115, 101, 99, 116, 105, 111, 110], [117, 108], [112], [104, 49], [104, 50], [104, 51], [112, 114, 101], [108, 105], [97], [98], [99, 111, 100, 101], [101, 109], [105], [115, 116, 114, 111, 110, 103], [117], [98, 114], [105, 109, 103], [105, 110, 112, 117, 116], [119, 98, 114], [104, 114], [116, 105, 116, 108, 101], [116, 101, 120, 116, 97, 114, 101, 97], [115, 99, 114, 105, 112, 116], [115, 116, 121, 108, 101], [120, 109, 112], [109, 97, 116, 104], [115, 118, 103], [109, 105], [109, 110], [109, 111], [109, 115], [109, 116, 101, 120, 116], [100, 101, 115, 99], [102, 111, 114, 101, 105, 103, 110, 111, 98, 106, 101, 99, 116], [98, 105, 103], [99, 101, 110, 116, 101, 114], [100, 100], [100, 108], [100, 116], [101, 109, 98, 101, 100], [104, 52], [104, 53], [104, 54], [108, 105, 115, 116, 105, 110, 103], [109, 101, 110, 117], [109, 101, 116, 97], [110, 111, 98, 114], [114, 117, 98, 121], [115], [115, 109, 97, 108, 108], [115, 112, 97, 110], [115, 116, 114, 105, 107, 101], [115, 117, 98], [115, 117, 112], [116, 116], [118, 97, 114]]
def againN (sp : Int) (l : List UInt8) : Int := if sp == 2 && inB l mathNs then 1 else if sp == 1 && inB l svgNs then 2 else 0
def spcB (sp : Int) (l : List UInt8) : Bool := (againN sp l != 0) || (sp == 0 && inB l spcNs)
def endB (sp : Int) (l : List UInt8) : Bool := (againN sp l != 0) || (sp == 0 && inB l endNs)

theorem inB_no {l : List UInt8} (h : ¬ l ∈ allNs) {ns : List (List UInt8)} (hs : ns.all (fun n => allNs.any (fun m => n == m)) = true) : inB l ns = false := by
  rw [inB, List.any_eq_false]
  intro n hn he
  have he' := beq_iff_eq.1 he
  subst he'
  have := List.all_eq_true.1 hs l hn
  obtain ⟨m, hm, e⟩ := List.any_eq_true.1 this
  rw [beq_iff_eq.1 e] at h
  exact h hm
theorem ofN_no {l : List UInt8} (h : ¬ l ∈ allNs) : ofN l = 0 := by
  unfold ofN
  rw [inB_no h (ns := gN 1) (by decide +kernel), inB_no h (ns := gN 2) (by decide +kernel), inB_no h (ns := gN 3) (by decide +kernel), inB_no h (ns := gN 4) (by decide +kernel), inB_no h (ns := gN 5) (by decide +kernel), inB_no h (ns := gN 6) (by decide +kernel), inB_no h (ns := gN 7) (by decide +kernel), inB_no h (ns := gN 8) (by decide +kernel), inB_no h (ns := gN 9) (by decide +kernel), inB_no h (ns := gN 10) (by decide +kernel), inB_no h (ns := gN 11) (by decide +kernel), inB_no h (ns := gN 12) (by decide +kernel), inB_no h (ns := gN 13) (by decide +kernel), inB_no h (ns := gN 14) (by decide +kernel), inB_no h (ns := gN 15) (by decide +kernel), inB_no h (ns := gN 16) (by decide +kernel), inB_no h (ns := gN 17) (by decide +kernel)]
  rfl
theorem againN_no {l : List UInt8} (h : ¬ l ∈ allNs) (sp : Int) : againN sp l = 0 := by
  unfold againN
  rw [inB_no h (ns := mathNs) (by decide +kernel), inB_no h (ns := svgNs) (by decide +kernel)]
  simp
theorem void_of (l : List UInt8) : (ofN l == 11 || ofN l == 12) = inB l voidNs := by
  by_cases h : l ∈ allNs
  · exact (by decide +kernel : ∀ l ∈ allNs, (ofN l == 11 || ofN l == 12) = inB l voidNs) l h
  · rw [ofN_no h, inB_no h (by decide +kernel)]; rfl
theorem special_of (l : List UInt8) : (!(ofN l == 9 || ofN l == 10 || ofN l == 17 || ofN l == 0)) = inB l spcNs := by
  by_cases h : l ∈ allNs
  · exact (by decide +kernel : ∀ l ∈ allNs, (!(ofN l == 9 || ofN l == 10 || ofN l == 17 || ofN l == 0)) = inB l spcNs) l h
  · rw [ofN_no h, inB_no h (by decide +kernel)]; rfl
theorem follows_of (l : List UInt8) : (!(inB l voidNs || ofN l == 4 || ofN l == 6 || ofN l == 2) || inB l spcNs) = true := by
  by_cases h : l ∈ allNs
  · exact (by decide +kernel : ∀ l ∈ allNs, (!(inB l voidNs || ofN l == 4 || ofN l == 6 || ofN l == 2) || inB l spcNs) = true) l h
  · rw [ofN_no h, inB_no h (by decide +kernel)]; rfl
theorem ends_of (l : List UInt8) : (!(inB l endNs) || inB l spcNs) = true := by
  by_cases h : l ∈ allNs
  · exact (by decide +kernel : ∀ l ∈ allNs, (!(inB l endNs) || inB l spcNs) = true) l h
  · rw [inB_no h (ns := endNs) (by decide +kernel)]; rfl
theorem format_of (l : List UInt8) : (!(ofN l == 10) || !(inB l spcNs || inB l mathNs || inB l svgNs)) = true := by
  by_cases h : l ∈ allNs
  · exact (by decide +kernel : ∀ l ∈ allNs, (!(ofN l == 10) || !(inB l spcNs || inB l mathNs || inB l svgNs)) = true) l h
  · rw [ofN_no h]; rfl
theorem endB_spc (sp : Int) (l : List UInt8) : (!(endB sp l) || spcB sp l) = true := by
  have := ends_of l
  unfold endB spcB
  revert this
  generalize againN sp l = a
  generalize inB l endNs = b
  generalize inB l spcNs = c
  cases a != 0 <;> cases sp == 0 <;> cases b <;> cases c <;> decide
theorem format_spc (sp : Int) (l : List UInt8) : (!(ofN l == 10) || !(spcB sp l)) = true := by
  have := format_of l
  unfold spcB againN
  revert this
  generalize inB l mathNs = a
  generalize inB l svgNs = b
  generalize inB l spcNs = c
  cases (ofN l == 10) <;> cases a <;> cases b <;> cases c <;> simp
theorem follows_spc (l : List UInt8) : (!(inB l voidNs || ofN l == 4 || ofN l == 6 || ofN l == 2) || spcB 0 l) = true := by
  have := follows_of l
  unfold spcB
  revert this
  generalize (inB l voidNs || ofN l == 4 || ofN l == 6 || ofN l == 2) = a
  generalize inB l spcNs = c
  cases a <;> cases c <;> simp
theorem none_spaces {sp : Int} (h : ¬ (0 ≤ sp ∧ sp ≤ 2)) (l : List UInt8) : againN sp l = 0 ∧ spcB sp l = false ∧ endB sp l = false := by
  have h0 : (sp == 0) = false := beq_eq_false_iff_ne.2 (by omega)
  have h1 : (sp == 1) = false := beq_eq_false_iff_ne.2 (by omega)
  have h2 : (sp == 2) = false := beq_eq_false_iff_ne.2 (by omega)
  simp [againN, spcB, endB, h0, h1, h2]
end Go.Proofs.YtfbgpodcdgmpjaaDoor

/-
  What package tags does: of every name and space.
-/
namespace Go.Proofs.YtfbgpodcdgmpjaaDoor
open Go.RowKit
set_option linter.unusedVariables false

theorem no_both {x : Bool} (h : x = true) (h' : x = false) : False := by rw [h] at h'; cases h'
end Go.Proofs.YtfbgpodcdgmpjaaDoor

/-
  What tags.Void, Special and Ends do.
-/
namespace Go.Proofs.YtfbgpodcdgmpjaaDoor
open Go.RowKit
set_option linter.unusedVariables false

theorem natI (n k : Nat) : ((n : Int) == (k : Int)) = (n == k) := by
  by_cases h : n = k
  · simp [h]
  · rw [beq_eq_false_iff_ne.2 h, beq_eq_false_iff_ne.2 (by omega)]

end Go.Proofs.YtfbgpodcdgmpjaaDoor

/-
  What the reference's In does, and its lists.
-/
namespace Go.Proofs.YtfbgpodcdgmpjaaDoor
open Go.RowKit
set_option linter.unusedVariables false

def Ls (ns : List (List UInt8)) : List ByteArray := ns.map bs
theorem ls_len (ns : List (List UInt8)) : (Ls ns).length = ns.length := List.length_map _
theorem ls_get (ns : List (List UInt8)) (i : Nat) (h : i < ns.length) : ((Ls ns).getD i ByteArray.empty).toList = ns.getD i [] := by
  rw [Lib.toList_data, Ls, List.getD, List.getElem?_map, List.getElem?_eq_getElem h, List.getD, List.getElem?_eq_getElem h]
  exact bs_toList _

/-- A literal of texts, in new memory. -/
theorem view_lit (w : World) (ns : List (List UInt8)) (t : TypeId) (hn : ns.length ≤ 1000) (n : Nat) (h : n = ns.length) :
    View (w.alloc (Obj.cells (ns.map (fun l => Value.string (bs l))).toArray t)) (.slice (some ⟨w.heap.size, 0, none⟩) n n) (Ls ns) := by
  subst h
  refine ⟨by rw [ls_len]; omega, some ⟨w.heap.size, 0, none⟩, ns.length, by rw [ls_len], fun _ => ⟨w.heap.size, 0, rfl, fun i hi => ?_⟩⟩
  rw [ls_len] at hi
  rw [World.cell?_alloc_mark]
  simp [Ls, List.getD, List.getElem?_eq_getElem hi]

end Go.Proofs.YtfbgpodcdgmpjaaDoor

/-
  What the reference of layer 7 does: of every name and space.
-/
namespace Go.Proofs.YtfbgpodcdgmpjaaDoor
open Go.RowKit
set_option linter.unusedVariables false

theorem ofN_hit {l : List UInt8} {k : Nat} (h1 : 1 ≤ k) (h2 : k < 18) (hn : ∀ j, 1 ≤ j → j < k → inB l (gN j) = false) (hy : inB l (gN k) = true) : ofN l = k := by
  rcases (by omega : k = 1 ∨ k = 2 ∨ k = 3 ∨ k = 4 ∨ k = 5 ∨ k = 6 ∨ k = 7 ∨ k = 8 ∨ k = 9 ∨ k = 10 ∨ k = 11 ∨ k = 12 ∨ k = 13 ∨ k = 14 ∨ k = 15 ∨ k = 16 ∨ k = 17) with rfl | rfl | rfl | rfl | rfl | rfl | rfl | rfl | rfl | rfl | rfl | rfl | rfl | rfl | rfl | rfl | rfl
  · unfold ofN; rw [hy]; rfl
  · unfold ofN; rw [hn 1 (by omega) (by omega), hy]; rfl
  · unfold ofN; rw [hn 1 (by omega) (by omega), hn 2 (by omega) (by omega), hy]; rfl
  · unfold ofN; rw [hn 1 (by omega) (by omega), hn 2 (by omega) (by omega), hn 3 (by omega) (by omega), hy]; rfl
  · unfold ofN; rw [hn 1 (by omega) (by omega), hn 2 (by omega) (by omega), hn 3 (by omega) (by omega), hn 4 (by omega) (by omega), hy]; rfl
  · unfold ofN; rw [hn 1 (by omega) (by omega), hn 2 (by omega) (by omega), hn 3 (by omega) (by omega), hn 4 (by omega) (by omega), hn 5 (by omega) (by omega), hy]; rfl
  · unfold ofN; rw [hn 1 (by omega) (by omega), hn 2 (by omega) (by omega), hn 3 (by omega) (by omega), hn 4 (by omega) (by omega), hn 5 (by omega) (by omega), hn 6 (by omega) (by omega), hy]; rfl
  · unfold ofN; rw [hn 1 (by omega) (by omega), hn 2 (by omega) (by omega), hn 3 (by omega) (by omega), hn 4 (by omega) (by omega), hn 5 (by omega) (by omega), hn 6 (by omega) (by omega), hn 7 (by omega) (by omega), hy]; rfl
  · unfold ofN; rw [hn 1 (by omega) (by omega), hn 2 (by omega) (by omega), hn 3 (by omega) (by omega), hn 4 (by omega) (by omega), hn 5 (by omega) (by omega), hn 6 (by omega) (by omega), hn 7 (by omega) (by omega), hn 8 (by omega) (by omega), hy]; rfl
  · unfold ofN; rw [hn 1 (by omega) (by omega), hn 2 (by omega) (by omega), hn 3 (by omega) (by omega), hn 4 (by omega) (by omega), hn 5 (by omega) (by omega), hn 6 (by omega) (by omega), hn 7 (by omega) (by omega), hn 8 (by omega) (by omega), hn 9 (by omega) (by omega), hy]; rfl
  · unfold ofN; rw [hn 1 (by omega) (by omega), hn 2 (by omega) (by omega), hn 3 (by omega) (by omega), hn 4 (by omega) (by omega), hn 5 (by omega) (by omega), hn 6 (by omega) (by omega), hn 7 (by omega) (by omega), hn 8 (by omega) (by omega), hn 9 (by omega) (by omega), hn 10 (by omega) (by omega), hy]; rfl
  · unfold ofN; rw [hn 1 (by omega) (by omega), hn 2 (by omega) (by omega), hn 3 (by omega) (by omega), hn 4 (by omega) (by omega), hn 5 (by omega) (by omega), hn 6 (by omega) (by omega), hn 7 (by omega) (by omega), hn 8 (by omega) (by omega), hn 9 (by omega) (by omega), hn 10 (by omega) (by omega), hn 11 (by omega) (by omega), hy]; rfl
  · unfold ofN; rw [hn 1 (by omega) (by omega), hn 2 (by omega) (by omega), hn 3 (by omega) (by omega), hn 4 (by omega) (by omega), hn 5 (by omega) (by omega), hn 6 (by omega) (by omega), hn 7 (by omega) (by omega), hn 8 (by omega) (by omega), hn 9 (by omega) (by omega), hn 10 (by omega) (by omega), hn 11 (by omega) (by omega), hn 12 (by omega) (by omega), hy]; rfl
  · unfold ofN; rw [hn 1 (by omega) (by omega), hn 2 (by omega) (by omega), hn 3 (by omega) (by omega), hn 4 (by omega) (by omega), hn 5 (by omega) (by omega), hn 6 (by omega) (by omega), hn 7 (by omega) (by omega), hn 8 (by omega) (by omega), hn 9 (by omega) (by omega), hn 10 (by omega) (by omega), hn 11 (by omega) (by omega), hn 12 (by omega) (by omega), hn 13 (by omega) (by omega), hy]; rfl
  · unfold ofN; rw [hn 1 (by omega) (by omega), hn 2 (by omega) (by omega), hn 3 (by omega) (by omega), hn 4 (by omega) (by omega), hn 5 (by omega) (by omega), hn 6 (by omega) (by omega), hn 7 (by omega) (by omega), hn 8 (by omega) (by omega), hn 9 (by omega) (by omega), hn 10 (by omega) (by omega), hn 11 (by omega) (by omega), hn 12 (by omega) (by omega), hn 13 (by omega) (by omega), hn 14 (by omega) (by omega), hy]; rfl
  · unfold ofN; rw [hn 1 (by omega) (by omega), hn 2 (by omega) (by omega), hn 3 (by omega) (by omega), hn 4 (by omega) (by omega), hn 5 (by omega) (by omega), hn 6 (by omega) (by omega), hn 7 (by omega) (by omega), hn 8 (by omega) (by omega), hn 9 (by omega) (by omega), hn 10 (by omega) (by omega), hn 11 (by omega) (by omega), hn 12 (by omega) (by omega), hn 13 (by omega) (by omega), hn 14 (by omega) (by omega), hn 15 (by omega) (by omega), hy]; rfl
  · unfold ofN; rw [hn 1 (by omega) (by omega), hn 2 (by omega) (by omega), hn 3 (by omega) (by omega), hn 4 (by omega) (by omega), hn 5 (by omega) (by omega), hn 6 (by omega) (by omega), hn 7 (by omega) (by omega), hn 8 (by omega) (by omega), hn 9 (by omega) (by omega), hn 10 (by omega) (by omega), hn 11 (by omega) (by omega), hn 12 (by omega) (by omega), hn 13 (by omega) (by omega), hn 14 (by omega) (by omega), hn 15 (by omega) (by omega), hn 16 (by omega) (by omega), hy]; rfl
theorem ofN_miss {l : List UInt8} (hn : ∀ j, 1 ≤ j → j < 18 → inB l (gN j) = false) : ofN l = 0 := by
  unfold ofN; rw [hn 1 (by omega) (by omega), hn 2 (by omega) (by omega), hn 3 (by omega) (by omega), hn 4 (by omega) (by omega), hn 5 (by omega) (by omega), hn 6 (by omega) (by omega), hn 7 (by omega) (by omega), hn 8 (by omega) (by omega), hn 9 (by omega) (by omega), hn 10 (by omega) (by omega), hn 11 (by omega) (by omega), hn 12 (by omega) (by omega), hn 13 (by omega) (by omega), hn 14 (by omega) (by omega), hn 15 (by omega) (by omega), hn 16 (by omega) (by omega), hn 17 (by omega) (by omega)]; rfl

end Go.Proofs.YtfbgpodcdgmpjaaDoor
