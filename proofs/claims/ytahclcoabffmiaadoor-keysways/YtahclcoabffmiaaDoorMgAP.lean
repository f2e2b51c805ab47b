/-
  Several texts in one: what the functions of the program and of the document's answer do.
-/
import Derived.Test.YtahclcoabffmiaaDoorQPl
import Derived.Test.YtahclcoabffmiaaDoorMgAN
import Derived.Shelf.Strings.BuilderK
import Derived.Deep.RegionHeld

/-
  What 'quill.numBytes' and 'quill.Num' do: of every number its bytes, or the error, in new memory alone.
-/
namespace Go.Proofs.YtahclcoabffmiaaDoor
open Go.RowKit
set_option linter.unusedVariables false
set_option maxRecDepth 100000

end Go.Proofs.YtahclcoabffmiaaDoor

/-
  What 'quill.textBytes' and 'quill.Text' do.
-/
namespace Go.Proofs.YtahclcoabffmiaaDoor
open Go.RowKit
set_option linter.unusedVariables false

end Go.Proofs.YtahclcoabffmiaaDoor

/-
  A strings.Builder that lies in a tree.writer, ahead of its error: what WriteString and String do there; the writer's num and text.
-/
namespace Go.Proofs.YtahclcoabffmiaaDoor
open Go.RowKit
set_option linter.unusedVariables false
set_option linter.unusedSimpArgs false

theorem oth_of_below {b : Nat} {w w' : World} (h : Below w.heap.size w w') : Oth b w w' := fun k o hk _ _ => (h.block k (Array.getElem?_eq_some_iff.1 hk).1).trans hk
theorem sizeBld : (Tryd.prog.info? 76).map (fun i => i.size) = some 2 := by kernel_rfl

set_option maxHeartbeats 1000000 in
set_option maxRecDepth 100000 in
theorem wcopy_used (b : Nat) (w : World) (h0 : w.cell? ⟨b, 0, none⟩ = some (.pointer (some ⟨b, 0, none⟩))) :
    Calls Tryd.prog 57 #[.pointer (some ⟨b, 0, none⟩)] w fun e w' => e = .returned (.tuple #[]) ∧ w' = w := by
  obtain ⟨j, hj, _⟩ := Option.map_eq_some_iff.1 sizeBld
  go_enter Tryd.func57, Tryd.ntmps57
  go_wp2
  rw [Lib.run_neq_ptr_same w _ Tryd.underlying73 hj]
  go_wp2
  refine bodyPost_end (v := .tuple #[]) (results_none Tryd.results57 _ _ _) rfl ?_
  exact ⟨rfl, rfl⟩
theorem infoByteW : (Tryd.prog.info? 5).map (fun i => (i.zero, i.size, i.bytes)) = some (some (.int .u8 0), 1, 1) := by kernel_rfl
end Go.Proofs.YtahclcoabffmiaaDoor

/-
  What a tree.writer's num, text and node write (made by mk_ybn.py).
-/
namespace Go.Proofs.YtahclcoabffmiaaDoor
open Go.RowKit
set_option linter.unusedVariables false
set_option linter.unusedSimpArgs false

def OthS (b : Nat) (w w' : World) : Prop := Oth b w w' ∧ w.heap.size ≤ w'.heap.size
theorem OthS.trans {b : Nat} {w w1 w2 : World} (h : OthS b w w1) (h' : OthS b w1 w2) : OthS b w w2 := ⟨Lib.OthersKept.trans h.1 h'.1, Nat.le_trans h.2 h'.2⟩
theorem OthS.alloc {b : Nat} {w w1 : World} (h : OthS b w w1) (o : Obj) : OthS b w (w1.alloc o) := ⟨Lib.OthersKept.alloc h.1 o, by have := h.2; simp; omega⟩
theorem othS_of_below {b : Nat} {w w' : World} (h : Below w.heap.size w w') : OthS b w w' := ⟨oth_of_below h, h.size⟩
def numW (n : Int) : List UInt8 := if 0 ≤ n ∧ n ≤ 1099511627776 then nb n else []
theorem numW_len (n : Int) : (numW n).length ≤ 7 := by
  unfold numW
  split
  · have := nb_size n; rw [bs_size] at this; exact this
  · exact Nat.zero_le _
/-- The bytes of attributes, of a node without its kids. -/
def atW : List (ByteArray × ByteArray) → List UInt8
  | [] => []
  | a :: r => tb a.1 ++ (tb a.2 ++ atW r)
def nodeL (k sp : Int) (n : ByteArray) (ats : List (ByteArray × ByteArray)) (tx : ByteArray) (kl : Nat) : List UInt8 :=
  if k = 1 then numW k ++ (numW sp ++ (tb n ++ (numW ats.length ++ (atW ats ++ numW kl)))) else numW k ++ tb tx
theorem atW_drop (ats : List (ByteArray × ByteArray)) (j : Nat) (hj : j < ats.length) : atW (ats.drop j) = tb (an ats j) ++ (tb (av ats j) ++ atW (ats.drop (j + 1))) := by
  rw [List.drop_eq_getElem_cons hj, atW]
  have h3 : ats.getD j (ByteArray.empty, ByteArray.empty) = ats[j] := by simp [List.getD, List.getElem?_eq_getElem hj]
  unfold an av
  rw [h3]
end Go.Proofs.YtahclcoabffmiaaDoor

/-
  'tree.Bytes': 'tree.walk' under its closure, which writes each node (made by mk_yby.py).
-/
namespace Go.Proofs.YtahclcoabffmiaaDoor
open Go.RowKit
set_option linter.unusedVariables false
set_option linter.unusedSimpArgs false

/-! ### tree.Bytes -/
def byStep (l : List UInt8) (it : Item) : List UInt8 × Bool := (l ++ nodeL it.k it.sp it.n it.ats it.tx it.kids.len, true)
def byF : Forest → List UInt8
  | .nil => []
  | .cons k sp n ats tx kids rest => nodeL k sp n ats tx kids.len ++ (byF kids ++ byF rest)
theorem tell_by_app : ∀ (l1 l2 : List Item) (s : List UInt8), tell byStep s (l1 ++ l2) = tell byStep (tell byStep s l1) l2
  | [], l2, s => rfl
  | it :: l1, l2, s => by
    show tell byStep (byStep s it).1 (l1 ++ l2) = tell byStep (tell byStep (byStep s it).1 l1) l2
    exact tell_by_app l1 l2 _
theorem tell_by : ∀ (f : Forest) (d : Nat) (s : List UInt8), tell byStep s (items f d) = s ++ byF f
  | .nil, d, s => by show s = s ++ []; simp
  | .cons k sp n ats tx kids rest, d, s => by
    show tell byStep (s ++ nodeL k sp n ats tx kids.len) (items kids (d + 1) ++ items rest d) = _
    rw [tell_by_app, tell_by kids, tell_by rest, byF]
    simp only [List.append_assoc]
theorem tell_by_len : ∀ (l : List Item) (s : List UInt8), s.length ≤ (tell byStep s l).length
  | [], s => Nat.le_refl _
  | it :: l, s => by
    show s.length ≤ (tell byStep (byStep s it).1 l).length
    refine Nat.le_trans ?_ (tell_by_len l _)
    show s.length ≤ (s ++ nodeL it.k it.sp it.n it.ats it.tx it.kids.len).length
    rw [List.length_append]; omega
theorem atW_len (ats : List (ByteArray × ByteArray)) (hf : Fits ats) : ∀ (m j : Nat), ats.length - j = m → (atW (ats.drop j)).length ≤ 20014 * m
  | 0, j, h => by rw [List.drop_eq_nil_of_le (by omega)]; exact Nat.zero_le _
  | m + 1, j, h => by
    have h1 := atW_len ats hf m (j + 1) (by omega)
    rw [atW_drop ats j (by omega), List.length_append, List.length_append]
    have h2 := hf.2 j (by omega)
    have h3 := tb_len (an ats j)
    have h4 := tb_len (av ats j)
    omega
theorem node_len (k sp : Int) (n : ByteArray) (ats : List (ByteArray × ByteArray)) (tx : ByteArray) (kl : Nat) (ht : tx.size ≤ 5000) (hn : n.size ≤ 5000) (hf : Fits ats) : (nodeL k sp n ats tx kl).length ≤ 21000000 := by
  unfold nodeL
  have h1 := numW_len k
  have h2 := numW_len sp
  have h3 := numW_len ats.length
  have h4 := numW_len kl
  have h5 := tb_len n
  have h6 := tb_len tx
  have h7 := atW_len ats hf _ 0 rfl
  have h8 := hf.1
  rw [List.drop_zero] at h7
  split
  · simp only [List.length_append]; omega
  · simp only [List.length_append]; omega
theorem by_len : ∀ (f : Forest), SmF f → (byF f).length ≤ 21000000 * f.count
  | .nil, _ => Nat.zero_le _
  | .cons k sp n ats tx kids rest, h => by
    have h1 := by_len kids h.2.1
    have h2 := by_len rest h.2.2
    have h3 := node_len k sp n ats tx kids.len h.1.1 h.1.2.1 h.1.2.2.1
    rw [byF, List.length_append, List.length_append]
    simp only [Forest.count]
    omega
theorem num_ne (n : Nat) (h : n ≤ 1099511627776) (l : List UInt8) : numW n ++ l ≠ [] := by
  unfold numW
  rw [if_pos (by omega), nb_cons]
  simp
def bytesL (f : Forest) : List UInt8 := numW f.len ++ byF f
def bytesV (f : Forest) : List UInt8 := if checkN f = 0 then bytesL f else []
end Go.Proofs.YtahclcoabffmiaaDoor

/-
  What 'rectoref01.Size' does.
-/
namespace Go.Proofs.YtahclcoabffmiaaDoor
open Go.RowKit
set_option linter.unusedVariables false

end Go.Proofs.YtahclcoabffmiaaDoor

/-
  What 'rectoref01.Plain' does.
-/
namespace Go.Proofs.YtahclcoabffmiaaDoor
open Go.RowKit
set_option linter.unusedVariables false

theorem conv1 (w : World) (n : Nat) (c : Int) (h : n = w.heap.size) :
    Sem.run Tryd.prog (convert 74 9 (Value.slice (some { block := n, off := 0 }) 1 1)) (w.alloc (Obj.cells #[.int .u8 c] 5)) = .ok (.string (str [c])) (w.alloc (Obj.cells #[.int .u8 c] 5)) := by
  subst h
  refine run_convert_bytes_arg (P := Tryd.prog) _ 74 5 Tryd.underlying74 Tryd.underlying5 w.heap.size 0 1 1 [c] rfl ?_ 9 Tryd.underlying9
  intro i hi
  have : i = 0 := by omega
  subst this
  rw [World.cell?_alloc_mark]; rfl
theorem str_add (a b : List Int) : str a ++ str b = str (a ++ b) := by
  apply ByteArray.ext
  simp [str, strOfNums]
theorem str_none (a : ByteArray) : a ++ (⟨#[]⟩ : ByteArray) = a := by
  apply ByteArray.ext
  simp

end Go.Proofs.YtahclcoabffmiaaDoor

/-
  The reference's text, Long, node, Plain and Bytes of the tree (made by mk_yrp.py).
-/
namespace Go.Proofs.YtahclcoabffmiaaDoor
open Go.RowKit
set_option linter.unusedVariables false
set_option linter.unusedSimpArgs false

/-! ### Long -/
/-! ### node -/
def NdS (w0 : World) (R : Nat) (k sp : Int) (n : ByteArray) (qa : Option Addr) (al ca : Nat) (tx : ByteArray) (qk : Option Addr) (kl ck : Nat) (w : World) : Prop :=
  w.cell? ⟨R, 1, none⟩ = some (.int .i64 sp) ∧ w.cell? ⟨R, 2, none⟩ = some (.string n) ∧ w.cell? ⟨R, 3, none⟩ = some (.slice qa al ca) ∧ Blk w R #[.int .i64 k, .int .i64 sp, .string n, .slice qa al ca, .string tx, .slice qk kl ck] 34 ∧ Below w0.heap.size w0 w
theorem NdS.mk {w0 w : World} {R : Nat} {k sp : Int} {n : ByteArray} {qa : Option Addr} {al ca : Nat} {tx : ByteArray} {qk : Option Addr} {kl ck : Nat} (h : Blk w R #[.int .i64 k, .int .i64 sp, .string n, .slice qa al ca, .string tx, .slice qk kl ck] 34) (hb : Below w0.heap.size w0 w) : NdS w0 R k sp n qa al ca tx qk kl ck w := ⟨h.cell 1, h.cell 2, h.cell 3, h, hb⟩
theorem NdS.below {w0 w w' : World} {R : Nat} {k sp : Int} {n : ByteArray} {qa : Option Addr} {al ca : Nat} {tx : ByteArray} {qk : Option Addr} {kl ck : Nat} (h : NdS w0 R k sp n qa al ca tx qk kl ck w) (hb : Below w.heap.size w w') : NdS w0 R k sp n qa al ca tx qk kl ck w' := NdS.mk (Blk.later h.2.2.2.1 hb) (tr2 h.2.2.2.2 hb)
def AtS (w0 : World) (R : Nat) (k sp : Int) (n : ByteArray) (qa : Option Addr) (al ca : Nat) (tx : ByteArray) (qk : Option Addr) (kl ck : Nat) (H : Nat) (ya yb : ByteArray) (w : World) : Prop :=
  w.cell? ⟨H, 0, none⟩ = some (.string ya) ∧ w.cell? ⟨H, 1, none⟩ = some (.string yb) ∧ NdS w0 R k sp n qa al ca tx qk kl ck w
theorem AtS.below {w0 w w' : World} {R : Nat} {k sp : Int} {n : ByteArray} {qa : Option Addr} {al ca : Nat} {tx : ByteArray} {qk : Option Addr} {kl ck : Nat} {H : Nat} {ya yb : ByteArray} (h : AtS w0 R k sp n qa al ca tx qk kl ck H ya yb w) (hb : Below w.heap.size w w') : AtS w0 R k sp n qa al ca tx qk kl ck H ya yb w' := ⟨cell_later hb h.1, cell_later hb h.2.1, h.2.2.below hb⟩
theorem AtS.new {w0 w : World} {R : Nat} {k sp : Int} {n : ByteArray} {qa : Option Addr} {al ca : Nat} {tx : ByteArray} {qk : Option Addr} {kl ck : Nat} (ya yb : ByteArray) (h : NdS w0 R k sp n qa al ca tx qk kl ck w) : AtS w0 R k sp n qa al ca tx qk kl ck w.heap.size ya yb (w.alloc (Obj.cells #[.string ya, .string yb] 82)) :=
  ⟨(Blk.new w #[.string ya, .string yb] 82).cell 0, (Blk.new w #[.string ya, .string yb] 82).cell 1, h.below ((Below.refl _ _).alloc (Nat.le_refl _) _)⟩
theorem numW_nb {n : Int} (h0 : 0 ≤ n) (h1 : n ≤ 1099511627776) : numW n = nb n := if_pos ⟨h0, h1⟩
/-! ### Plain -/
theorem ra_elem {k sp : Int} {n : ByteArray} {ats : List (ByteArray × ByteArray)} {tx : ByteArray} {kl : Nat} (hk : leafB k = false) (h : raB k sp n ats tx kl = true) : k = 1 ∧ 0 ≤ sp ∧ sp ≤ 2 := by
  unfold leafB at hk
  simp at hk
  unfold raB at h
  by_cases h1 : k = 1
  · rw [if_pos h1] at h
    simp at h
    exact ⟨h1, h.2.1, h.2.2.1⟩
  · rw [if_neg h1, if_neg hk.1, if_neg hk.2] at h
    cases h
def plnV (f : Forest) : List UInt8 := bytesL f
/-! ### Bytes -/
end Go.Proofs.YtahclcoabffmiaaDoor
