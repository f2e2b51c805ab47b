/-
  What 'toks.cut' does: what stands up to a mark, and the place behind it.
-/
import Derived.Test.YtakjlolmmoladaaGreatDoorTAt
namespace Go.Proofs.YtakjlolmmoladaaGreatDoor
open Go.RowKit
set_option linter.unusedVariables false

/-- What stands from a place to the next mark, and the place behind that. -/
def cutL (s : ByteArray) (i : Nat) (p : List UInt8) : List UInt8 := (Lib.cut (s.data.toList.drop i) p).1
def cutE (s : ByteArray) (i : Nat) (p : List UInt8) : Nat := if (Lib.cut (s.data.toList.drop i) p).2.2 = true then i + (cutL s i p).length + p.length else s.size
theorem cut_len (l p : List UInt8) : (Lib.cut l p).1.length ≤ l.length := by
  unfold Lib.cut; split
  · rw [List.length_take]; omega
  · exact Nat.le_refl _

set_option maxHeartbeats 1000000 in
theorem tcut_any (s : ByteArray) (i : Nat) (p : List UInt8) (w : World) (hm : Mx w) (hi : i ≤ s.size) (hs : s.size ≤ 100000) (hp : p.length ≤ 10) :
    Calls Tryz.prog 76 #[.string s, .int .i64 (i : Int), .string (bs p)] w fun e w' => e = .returned (.tuple #[.string (bs (cutL s i p)), .int .i64 (cutE s i p : Int)]) ∧ Below w.heap.size w w' := by
  have hii : (i : Int) ≤ (s.size : Int) := by omega
  have hx := rest_of s i
  have hxs : (s.extract i s.size).size = s.size - i := by simp
  have C := hide (fun w h => cut_any (s.extract i s.size) p w h (by omega))
  have hxd : (s.extract i s.size).data.toList = s.data.toList.drop i := by rw [hx, bs_toList]
  rw [hxd] at C
  have hcl := cut_len (s.data.toList.drop i) p
  rw [List.length_drop, data_len] at hcl
  have HM := hide hm
  have hpz : (bs p).size = p.length := bs_size p
  have hcz : (bs (cutL s i p)).size = (cutL s i p).length := bs_size _
  have hcl' : (cutL s i p).length ≤ s.size - i := hcl
  have hv : (Lib.cut (s.data.toList.drop i) p).1 = cutL s i p := rfl
  rw [hv] at C
  unfold cutE
  generalize (Lib.cut (s.data.toList.drop i) p).2.2 = f at *
  generalize (Lib.cut (s.data.toList.drop i) p).2.1 = b at *
  clear hv hcl hx hxd hm
  generalize cutL s i p = a at *
  generalize ha : bs a = A at *
  generalize hb : bs p = B at *
  clear ha hb
  cases f with
  | true =>
    rw [if_pos rfl]
    rw [Int.natCast_add, Int.natCast_add]
    go_enter Tryz.func76, Tryz.ntmps76
    go_wp2_with fail
    refine (unhide C _ (unhide HM)).mono ?_
    rintro e w1 ⟨rfl, hb1⟩
    go_wp2
    go_ret2
    exact ⟨rfl, hb1⟩
  | false =>
    rw [if_neg (by decide)]
    go_enter Tryz.func76, Tryz.ntmps76
    go_wp2_with fail
    refine (unhide C _ (unhide HM)).mono ?_
    rintro e w1 ⟨rfl, hb1⟩
    go_wp2
    go_ret2
    exact ⟨rfl, hb1⟩
end Go.Proofs.YtakjlolmmoladaaGreatDoor
