/-
  'policy.isShort', 'demands', 'Check': whether a policy is right (made by mk_wch.py).
-/
import Derived.Test.YtfdhmhdemfbfeaaGreatDoorWEa
namespace Go.Proofs.YtfdhmhdemfbfeaaGreatDoor
open Go.RowKit
set_option linter.unusedVariables false
set_option linter.unusedSimpArgs false

theorem ofe_few (w : World) : Calls Tryz.prog 45 #[.func (Fn.func 61) #[] #[]] w fun e w' => e = .returned (.func (Fn.func 63) #[] #[.pointer (some ⟨w.heap.size, 0, none⟩)]) ∧ w' = w.alloc (Obj.cells #[.func (Fn.func 61) #[] #[]] 95) := by
  go_enter Tryz.func45, Tryz.ntmps45
  go_wp2
  go_ret
  exact ⟨rfl, rfl⟩
theorem ofe_nonce (w : World) : Calls Tryz.prog 45 #[.func (Fn.func 46) #[] #[]] w fun e w' => e = .returned (.func (Fn.func 63) #[] #[.pointer (some ⟨w.heap.size, 0, none⟩)]) ∧ w' = w.alloc (Obj.cells #[.func (Fn.func 46) #[] #[]] 95) := by
  go_enter Tryz.func45, Tryz.ntmps45
  go_wp2
  go_ret
  exact ⟨rfl, rfl⟩
theorem ofe_names (w : World) : Calls Tryz.prog 45 #[.func (Fn.func 47) #[] #[]] w fun e w' => e = .returned (.func (Fn.func 63) #[] #[.pointer (some ⟨w.heap.size, 0, none⟩)]) ∧ w' = w.alloc (Obj.cells #[.func (Fn.func 47) #[] #[]] 95) := by
  go_enter Tryz.func45, Tryz.ntmps45
  go_wp2
  go_ret
  exact ⟨rfl, rfl⟩
theorem ofe_act (w : World) : Calls Tryz.prog 45 #[.func (Fn.func 48) #[] #[]] w fun e w' => e = .returned (.func (Fn.func 63) #[] #[.pointer (some ⟨w.heap.size, 0, none⟩)]) ∧ w' = w.alloc (Obj.cells #[.func (Fn.func 48) #[] #[]] 95) := by
  go_enter Tryz.func45, Tryz.ntmps45
  go_wp2
  go_ret
  exact ⟨rfl, rfl⟩
theorem ofe_kept (w : World) : Calls Tryz.prog 45 #[.func (Fn.func 49) #[] #[]] w fun e w' => e = .returned (.func (Fn.func 63) #[] #[.pointer (some ⟨w.heap.size, 0, none⟩)]) ∧ w' = w.alloc (Obj.cells #[.func (Fn.func 49) #[] #[]] 95) := by
  go_enter Tryz.func45, Tryz.ntmps45
  go_wp2
  go_ret
  exact ⟨rfl, rfl⟩

def shB (p : PPol) : Bool := decide (p.rs.length ≤ 60) && (decide (p.sc.length ≤ 20) && p.rs.all fewB)
set_option maxHeartbeats 2000000 in
theorem short_any (v : Value) (p : PPol) (w : World) (hv : PolV w v p) :
    Calls Tryz.prog 43 #[v] w fun e w' => e = .returned (.bool (shB p)) ∧ Below w.heap.size w w' := by
  have HV := hide hv
  obtain ⟨vr, vs, rfl, h1, h2⟩ := hv
  obtain ⟨a2, c2, rfl⟩ := h2.slice
  obtain ⟨hrl, a1, c1, rfl, _⟩ := h1
  have CO := hide ofe_few
  have CE := hide (fun c W hW hc => each_few _ p c W ((unhide HV).below hW) (fun _ _ => trivial) hc)
  unfold polC at *
  unfold shB
  obtain ⟨rs, sc, ot, st⟩ := p
  dsimp only at *
  generalize rs.all fewB = D3 at *
  have hscl : sc.length ≤ 9223372036854775807 := h2.1
  clear h2 HV
  generalize rs.length = n1 at *
  generalize sc.length = n2 at *
  by_cases i1 : n1 ≤ 60
  · have j1 : (n1 : Int) ≤ 60 := by omega
    rw [decide_eq_true i1]
    by_cases i2 : n2 ≤ 20
    · have j2 : (n2 : Int) ≤ 20 := by omega
      rw [decide_eq_true i2]
      have hk : Hid (Blk ((w.alloc (Obj.cells #[.slice a1 n1 c1, .slice a2 n2 c2, .int .i64 ot, .int .i64 st] 25)).alloc (Obj.cells #[.func (Fn.func 61) #[] #[]] 95)) (w.heap.size + 1) #[.func (Fn.func 61) #[] #[]] 95) := hide (Eq.mp (by simp) (Blk.new (w.alloc (Obj.cells #[.slice a1 n1 c1, .slice a2 n2 c2, .int .i64 ot, .int .i64 st] 25)) #[.func (Fn.func 61) #[] #[]] 95))
      have hb0 : Below w.heap.size w ((w.alloc (Obj.cells #[.slice a1 n1 c1, .slice a2 n2 c2, .int .i64 ot, .int .i64 st] 25)).alloc (Obj.cells #[.func (Fn.func 61) #[] #[]] 95)) := ((Below.refl _ _).alloc (Nat.le_refl _) _).alloc (by simp) _
      have C := hide (unhide CE _ _ hb0 (unhide hk))
      clear CE hk
      go_enter Tryz.func43, Tryz.ntmps43
      go_wp2_with fail
      refine (unhide CO _).mono ?_
      rintro e1 w1 ⟨rfl, hw1⟩
      subst hw1
      go_wp2_with fail
      refine (unhide C).mono ?_
      rintro e1 w2 ⟨rfl, hb2⟩
      go_wp2
      go_ret
      exact ⟨by simp, tr2 hb0 hb2⟩
    · have j2 : decide ((n2 : Int) ≤ 20) = false := by simp; omega
      rw [decide_eq_false i2]
      go_enter Tryz.func43, Tryz.ntmps43
      go_wp2_with fail
      refine (unhide CO _).mono ?_
      rintro e1 w1 ⟨rfl, hw1⟩
      subst hw1
      go_wp2
      go_ret
      exact ⟨by simp, ((Below.refl _ _).alloc (Nat.le_refl _) _).alloc (by simp) _⟩
  · have j1 : decide ((n1 : Int) ≤ 60) = false := by simp; omega
    rw [decide_eq_false i1]
    go_enter Tryz.func43, Tryz.ntmps43
    go_wp2_with fail
    refine (unhide CO _).mono ?_
    rintro e1 w1 ⟨rfl, hw1⟩
    subst hw1
    go_wp2
    go_ret
    exact ⟨by simp, ((Below.refl _ _).alloc (Nat.le_refl _) _).alloc (by simp) _⟩

/-- What 'demands' leaves. -/
def dmC (n : Nat) : Array Value := #[.func (Fn.func 43) #[] #[], .int .i64 2, .func (Fn.func 44) #[] #[], .int .i64 8, .func (Fn.func 63) #[] #[.pointer (some ⟨n, 0, none⟩)], .int .i64 8, .func (Fn.func 63) #[] #[.pointer (some ⟨n + 1, 0, none⟩)], .int .i64 4, .func (Fn.func 63) #[] #[.pointer (some ⟨n + 2, 0, none⟩)], .int .i64 4, .func (Fn.func 63) #[] #[.pointer (some ⟨n + 3, 0, none⟩)], .int .i64 4, .func (Fn.func 50) #[] #[], .int .i64 4, .func (Fn.func 51) #[] #[], .int .i64 4]
structure Dmd (n : Nat) (w : World) : Prop where
  c0 : Blk w n #[.func (Fn.func 46) #[] #[]] 95
  c1 : Blk w (n + 1) #[.func (Fn.func 47) #[] #[]] 95
  c2 : Blk w (n + 2) #[.func (Fn.func 48) #[] #[]] 95
  c3 : Blk w (n + 3) #[.func (Fn.func 49) #[] #[]] 95
  dm : Blk w (n + 4) (dmC n) 72
theorem Dmd.later {n : Nat} {w w' : World} (h : Dmd n w) (hb : Below w.heap.size w w') : Dmd n w' := ⟨h.c0.later hb, h.c1.later hb, h.c2.later hb, h.c3.later hb, h.dm.later hb⟩
theorem blk_next {w : World} {vs : Array Value} {t : TypeId} {n : Nat} (h : n = w.heap.size) : Blk (w.alloc (.cells vs t)) n vs t := by subst h; exact Blk.new w vs t

set_option maxHeartbeats 2000000 in
theorem demands_any (w : World) :
    Calls Tryz.prog 27 #[] w fun e w' => e = .returned (.slice (some ⟨w.heap.size + 4, 0, none⟩) 8 8) ∧ Dmd w.heap.size w' ∧ Below w.heap.size w w' := by
  have C_nonce := hide ofe_nonce
  have C_names := hide ofe_names
  have C_act := hide ofe_act
  have C_kept := hide ofe_kept
  have HD : Hid (Dmd w.heap.size (((((w.alloc (Obj.cells #[.func (Fn.func 46) #[] #[]] 95)).alloc (Obj.cells #[.func (Fn.func 47) #[] #[]] 95)).alloc (Obj.cells #[.func (Fn.func 48) #[] #[]] 95)).alloc (Obj.cells #[.func (Fn.func 49) #[] #[]] 95)).alloc (Obj.cells #[.func (Fn.func 43) #[] #[], .int .i64 2, .func (Fn.func 44) #[] #[], .int .i64 8, .func (Fn.func 63) #[] #[.pointer (some ⟨w.heap.size, 0, none⟩)], .int .i64 8, .func (Fn.func 63) #[] #[.pointer (some ⟨w.heap.size + 1, 0, none⟩)], .int .i64 4, .func (Fn.func 63) #[] #[.pointer (some ⟨w.heap.size + 2, 0, none⟩)], .int .i64 4, .func (Fn.func 63) #[] #[.pointer (some ⟨w.heap.size + 3, 0, none⟩)], .int .i64 4, .func (Fn.func 50) #[] #[], .int .i64 4, .func (Fn.func 51) #[] #[], .int .i64 4] 72))) := hide ⟨((((Blk.new w _ _).alloc _).alloc _).alloc _).alloc _, (((blk_next (by simp)).alloc _).alloc _).alloc _, ((blk_next (by simp)).alloc _).alloc _, (blk_next (by simp)).alloc _, blk_next (by simp)⟩
  have HB : Hid (Below w.heap.size w (((((w.alloc (Obj.cells #[.func (Fn.func 46) #[] #[]] 95)).alloc (Obj.cells #[.func (Fn.func 47) #[] #[]] 95)).alloc (Obj.cells #[.func (Fn.func 48) #[] #[]] 95)).alloc (Obj.cells #[.func (Fn.func 49) #[] #[]] 95)).alloc (Obj.cells #[.func (Fn.func 43) #[] #[], .int .i64 2, .func (Fn.func 44) #[] #[], .int .i64 8, .func (Fn.func 63) #[] #[.pointer (some ⟨w.heap.size, 0, none⟩)], .int .i64 8, .func (Fn.func 63) #[] #[.pointer (some ⟨w.heap.size + 1, 0, none⟩)], .int .i64 4, .func (Fn.func 63) #[] #[.pointer (some ⟨w.heap.size + 2, 0, none⟩)], .int .i64 4, .func (Fn.func 63) #[] #[.pointer (some ⟨w.heap.size + 3, 0, none⟩)], .int .i64 4, .func (Fn.func 50) #[] #[], .int .i64 4, .func (Fn.func 51) #[] #[], .int .i64 4] 72))) := hide (((((( Below.refl _ _).alloc (Nat.le_refl _) _).alloc (by simp) _).alloc (by simp; omega) _).alloc (by simp; omega) _).alloc (by simp; omega) _)
  go_enter Tryz.func27, Tryz.ntmps27
  go_wp2_with fail
  refine (unhide C_nonce _).mono ?_
  rintro e1 w1 ⟨rfl, hw1⟩
  subst hw1
  go_wp2_with fail
  refine (unhide C_names _).mono ?_
  rintro e1 w1 ⟨rfl, hw1⟩
  subst hw1
  go_wp2_with fail
  refine (unhide C_act _).mono ?_
  rintro e1 w1 ⟨rfl, hw1⟩
  subst hw1
  go_wp2_with fail
  refine (unhide C_kept _).mono ?_
  rintro e1 w1 ⟨rfl, hw1⟩
  subst hw1
  go_wp2
  go_ret
  refine ⟨?_, ?_, ?_⟩
  · first | rfl | simp
  · first | exact unhide HD | simpa using unhide HD
  · first | exact unhide HB | simpa using unhide HB
end Go.Proofs.YtfdhmhdemfbfeaaGreatDoor
