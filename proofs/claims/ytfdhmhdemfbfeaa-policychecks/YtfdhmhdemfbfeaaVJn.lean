/-
  What 'urls.Join' does, and the reference's: what parts tell.
-/
import Derived.Test.YtfdhmhdemfbfeaaVSq
namespace Go.Proofs.Ytfdhmhdemfbfeaa
open Go.RowKit
set_option linter.unusedVariables false

def cB : ByteArray := ⟨#[58]⟩
def ssB : ByteArray := ⟨#[47, 47]⟩
def qB : ByteArray := ⟨#[63]⟩
def hB : ByteArray := ⟨#[35]⟩
theorem sz_add (a b : ByteArray) : (a ++ b).size = a.size + b.size := by simp

/-- What parts tell, one behind the other. -/
def jnB (sc ho pa qu ma : ByteArray) (hs hh hq hm : Bool) : ByteArray :=
  bs ((if hs = true then sc.data.toList ++ [58] else []) ++ ((if hh = true then [47, 47] ++ ho.data.toList else []) ++ (pa.data.toList ++ ((if hq = true then 63 :: qu.data.toList else []) ++ (if hm = true then 35 :: ma.data.toList else [])))))

theorem ba_eq {a b : ByteArray} (h : a.data.toList = b.data.toList) : a = b := by
  have := congrArg bs h
  rwa [bs_self, bs_self] at this
theorem ba_add (a b : ByteArray) : (a ++ b).data.toList = a.data.toList ++ b.data.toList := by simp

end Go.Proofs.Ytfdhmhdemfbfeaa
