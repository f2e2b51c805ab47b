/-
  What 'urls.Join' does, and the reference's: what parts tell.
-/
import Derived.Test.YtcpebhecjlcioaaVSq
namespace Go.Proofs.Ytcpebhecjlcioaa
open Go.RowKit
set_option linter.unusedVariables false

def cB : ByteArray := ⟨#[58]⟩
def ssB : ByteArray := ⟨#[47, 47]⟩
def qB : ByteArray := ⟨#[63]⟩
def hB : ByteArray := ⟨#[35]⟩
theorem sz_add (a b : ByteArray) : (a ++ b).size = a.size + b.size := by simp

/-- What parts tell, one behind the other. -/
def jnB (sc ho pa qu ma : ByteArray) (hs hh hq hm : Bool) : ByteArray :=
  bs ((if hs = true then sc.data.toList ++ [58] else []) ++ ((if hh = true then [47, 47] ++ ho.data.toList else []) ++ (pa.data.toList ++ ((if hq = true then 63 :: qu.data.toList else []) ++ (if hm = true then 35 :: ma.data.toList else [])))))

theorem ba_eq {a b : ByteArray} (h : a.data.toList = b.data.toList) : a = b := by
  have := congrArg bs h
  rwa [bs_self, bs_self] at this
theorem ba_add (a b : ByteArray) : (a ++ b).data.toList = a.data.toList ++ b.data.toList := by simp

set_option maxHeartbeats 4000000 in
theorem join_any (sc ho pa qu ma : ByteArray) (hs hh hq hm : Bool) (w : World) (z1 : sc.size ≤ 100000) (z2 : ho.size ≤ 100000) (z3 : pa.size ≤ 100000) (z4 : qu.size ≤ 100000) (z5 : ma.size ≤ 100000) :
    Calls Try.prog 15 #[.agg (ptC sc ho pa qu ma hs hh hq hm)] w fun e w' => e = .returned (.string (jnB sc ho pa qu ma hs hh hq hm)) ∧ Below w.heap.size w w' := by
  have HQ : Hid (∀ b1 b2 b3 b4 : Bool, ∀ x : ByteArray, x.data.toList = (jnB sc ho pa qu ma b1 b2 b3 b4).data.toList → x = jnB sc ho pa qu ma b1 b2 b3 b4) := hide (fun _ _ _ _ x h => ba_eq h)
  unfold ptC
  cases hs <;> cases hh <;> cases hq <;> cases hm
  all_goals go_enter Try.func15, Try.ntmps15
  all_goals go_wp2
  all_goals go_ret
  all_goals refine ⟨ret1 (congrArg Value.string (unhide HQ _ _ _ _ _ ?_)), (Below.refl _ _).alloc (Nat.le_refl _) _⟩
  all_goals simp [jnB, bs_toList]

set_option maxHeartbeats 4000000 in
theorem rjoin_any (sc ho pa qu ma : ByteArray) (hs hh hq hm : Bool) (w : World) (z1 : sc.size ≤ 100000) (z2 : ho.size ≤ 100000) (z3 : pa.size ≤ 100000) (z4 : qu.size ≤ 100000) (z5 : ma.size ≤ 100000) :
    Calls Try.prog 16 #[.agg (ptC sc ho pa qu ma hs hh hq hm)] w fun e w' => e = .returned (.string (jnB sc ho pa qu ma hs hh hq hm)) ∧ Below w.heap.size w w' := by
  have HQ : Hid (∀ b1 b2 b3 b4 : Bool, ∀ x : ByteArray, x.data.toList = (jnB sc ho pa qu ma b1 b2 b3 b4).data.toList → x = jnB sc ho pa qu ma b1 b2 b3 b4) := hide (fun _ _ _ _ x h => ba_eq h)
  unfold ptC
  cases hs <;> cases hh <;> cases hq <;> cases hm
  all_goals go_enter Try.func16, Try.ntmps16
  all_goals go_wp2
  all_goals go_ret
  all_goals refine ⟨ret1 (congrArg Value.string (unhide HQ _ _ _ _ _ ?_)), (Below.refl _ _).alloc (Nat.le_refl _) _⟩
  all_goals simp [jnB, bs_toList]

set_option maxHeartbeats 1000000 in
theorem refp_any (sc ho pa qu ma : ByteArray) (hs hh hq hm : Bool) (w : World) :
    Calls Try.prog 13 #[.agg (ptC sc ho pa qu ma hs hh hq hm)] w fun e w' => e = .returned (.agg (ptC sc ho pa qu ma hs hh hq hm)) ∧ Below w.heap.size w w' := by
  unfold ptC
  have kk : Blk ((w.alloc (Obj.cells #[.string sc, .string ho, .string pa, .string qu, .string ma, .bool hs, .bool hh, .bool hq, .bool hm] 24)).alloc (Obj.cells #[.string sc, .string ho, .string pa, .string qu, .string ma, .bool hs, .bool hh, .bool hq, .bool hm] 29)) (w.heap.size + 1) #[.string sc, .string ho, .string pa, .string qu, .string ma, .bool hs, .bool hh, .bool hq, .bool hm] 29 := Eq.mp (by simp) (Blk.new (w.alloc (Obj.cells #[.string sc, .string ho, .string pa, .string qu, .string ma, .bool hs, .bool hh, .bool hq, .bool hm] 24)) #[.string sc, .string ho, .string pa, .string qu, .string ma, .bool hs, .bool hh, .bool hq, .bool hm] 29)
  have KK := hide kk
  clear kk
  go_enter Try.func13, Try.ntmps13
  go_wp2
  have dd0 := (unhide KK).cell 0
  have dd1 := (unhide KK).cell 1
  have dd2 := (unhide KK).cell 2
  have dd3 := (unhide KK).cell 3
  have dd4 := (unhide KK).cell 4
  have dd5 := (unhide KK).cell 5
  have dd6 := (unhide KK).cell 6
  have dd7 := (unhide KK).cell 7
  have dd8 := (unhide KK).cell 8
  exact bodyPost_ret (v := .agg #[.string sc, .string ho, .string pa, .string qu, .string ma, .bool hs, .bool hh, .bool hq, .bool hm]) (by simp [results, Try.results13, go_sem, dd0, dd1, dd2, dd3, dd4, dd5, dd6, dd7, dd8]) rfl ⟨rfl, ((Below.refl _ _).alloc (Nat.le_refl _) _).alloc (by simp) _⟩
end Go.Proofs.Ytcpebhecjlcioaa
