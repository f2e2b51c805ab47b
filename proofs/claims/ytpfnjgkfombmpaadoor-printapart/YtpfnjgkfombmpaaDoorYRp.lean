/-
  The reference's text, Long, node, Plain and Bytes of the tree (made by mk_yrp.py).
-/
import Derived.Test.YtpfnjgkfombmpaaDoorYCt
import Derived.Test.YtpfnjgkfombmpaaDoorMgN
import Derived.Test.YtpfnjgkfombmpaaDoorMgH
import Derived.Deep.RegionHeld
namespace Go.Proofs.YtpfnjgkfombmpaaDoor
open Go.RowKit
set_option linter.unusedVariables false
set_option linter.unusedSimpArgs false

/-! ### Long -/
/-! ### node -/
def NdS (w0 : World) (R : Nat) (k sp : Int) (n : ByteArray) (qa : Option Addr) (al ca : Nat) (tx : ByteArray) (qk : Option Addr) (kl ck : Nat) (w : World) : Prop :=
  w.cell? ⟨R, 1, none⟩ = some (.int .i64 sp) ∧ w.cell? ⟨R, 2, none⟩ = some (.string n) ∧ w.cell? ⟨R, 3, none⟩ = some (.slice qa al ca) ∧ Blk w R #[.int .i64 k, .int .i64 sp, .string n, .slice qa al ca, .string tx, .slice qk kl ck] 31 ∧ Below w0.heap.size w0 w
theorem NdS.mk {w0 w : World} {R : Nat} {k sp : Int} {n : ByteArray} {qa : Option Addr} {al ca : Nat} {tx : ByteArray} {qk : Option Addr} {kl ck : Nat} (h : Blk w R #[.int .i64 k, .int .i64 sp, .string n, .slice qa al ca, .string tx, .slice qk kl ck] 31) (hb : Below w0.heap.size w0 w) : NdS w0 R k sp n qa al ca tx qk kl ck w := ⟨h.cell 1, h.cell 2, h.cell 3, h, hb⟩
theorem NdS.below {w0 w w' : World} {R : Nat} {k sp : Int} {n : ByteArray} {qa : Option Addr} {al ca : Nat} {tx : ByteArray} {qk : Option Addr} {kl ck : Nat} (h : NdS w0 R k sp n qa al ca tx qk kl ck w) (hb : Below w.heap.size w w') : NdS w0 R k sp n qa al ca tx qk kl ck w' := NdS.mk (Blk.later h.2.2.2.1 hb) (tr2 h.2.2.2.2 hb)
def AtS (w0 : World) (R : Nat) (k sp : Int) (n : ByteArray) (qa : Option Addr) (al ca : Nat) (tx : ByteArray) (qk : Option Addr) (kl ck : Nat) (H : Nat) (ya yb : ByteArray) (w : World) : Prop :=
  w.cell? ⟨H, 0, none⟩ = some (.string ya) ∧ w.cell? ⟨H, 1, none⟩ = some (.string yb) ∧ NdS w0 R k sp n qa al ca tx qk kl ck w
theorem AtS.below {w0 w w' : World} {R : Nat} {k sp : Int} {n : ByteArray} {qa : Option Addr} {al ca : Nat} {tx : ByteArray} {qk : Option Addr} {kl ck : Nat} {H : Nat} {ya yb : ByteArray} (h : AtS w0 R k sp n qa al ca tx qk kl ck H ya yb w) (hb : Below w.heap.size w w') : AtS w0 R k sp n qa al ca tx qk kl ck H ya yb w' := ⟨cell_later hb h.1, cell_later hb h.2.1, h.2.2.below hb⟩
theorem AtS.new {w0 w : World} {R : Nat} {k sp : Int} {n : ByteArray} {qa : Option Addr} {al ca : Nat} {tx : ByteArray} {qk : Option Addr} {kl ck : Nat} (ya yb : ByteArray) (h : NdS w0 R k sp n qa al ca tx qk kl ck w) : AtS w0 R k sp n qa al ca tx qk kl ck w.heap.size ya yb (w.alloc (Obj.cells #[.string ya, .string yb] 55)) :=
  ⟨(Blk.new w #[.string ya, .string yb] 55).cell 0, (Blk.new w #[.string ya, .string yb] 55).cell 1, h.below ((Below.refl _ _).alloc (Nat.le_refl _) _)⟩
theorem numW_nb {n : Int} (h0 : 0 ≤ n) (h1 : n ≤ 1099511627776) : numW n = nb n := if_pos ⟨h0, h1⟩
/-! ### Plain -/
theorem ra_elem {k sp : Int} {n : ByteArray} {ats : List (ByteArray × ByteArray)} {tx : ByteArray} {kl : Nat} (hk : leafB k = false) (h : raB k sp n ats tx kl = true) : k = 1 ∧ 0 ≤ sp ∧ sp ≤ 2 := by
  unfold leafB at hk
  simp at hk
  unfold raB at h
  by_cases h1 : k = 1
  · rw [if_pos h1] at h
    simp at h
    exact ⟨h1, h.2.1, h.2.2.1⟩
  · rw [if_neg h1, if_neg hk.1, if_neg hk.2] at h
    cases h
def plnV (f : Forest) : List UInt8 := bytesL f
/-! ### Bytes -/
end Go.Proofs.YtpfnjgkfombmpaaDoor
