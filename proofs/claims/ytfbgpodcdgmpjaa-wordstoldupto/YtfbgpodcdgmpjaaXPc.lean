/-
  Pieces in memory; what 'words.appendAll' does.
-/
import Derived.Test.YtfbgpodcdgmpjaaXSp
import Derived.Test.YtfbgpodcdgmpjaaMRb
import Derived.Lib.OthersKept
import Derived.Lib.BufferKept
namespace Go.Proofs.Ytfbgpodcdgmpjaa
open Go.RowKit
set_option linter.unusedVariables false
set_option linter.unusedSimpArgs false

theorem infoPiece0 : (Try.prog.info? 41).map (fun i => (i.zero, i.size, i.bytes)) = some (some (.agg #[.int .i64 0, .string ⟨#[]⟩]), 2, 24) := by kernel_rfl
def flatQ : List Pc → List Value
  | [] => []
  | p :: r => [.int .i64 p.1, .string p.2] ++ flatQ r
theorem flatQ_app (L M : List Pc) : flatQ (L ++ M) = flatQ L ++ flatQ M := by
  induction L with
  | nil => rfl
  | cons p r ih => rw [List.cons_append, flatQ, flatQ, ih, List.append_assoc]
theorem flatQ_len (L : List Pc) : (flatQ L).length = L.length * 2 := by
  induction L with
  | nil => rfl
  | cons p r ih => rw [flatQ, List.length_append, ih]; simp only [List.length_cons, List.length_nil]; omega
/-- Pieces that a call owns. -/
def PcsV (w : World) (base : Nat) (v : Value) (L : List Pc) : Prop := w.ownsRow base 41 2 v L.length (flatQ L)
theorem pcs_nil (w : World) (base : Nat) : PcsV w base (.slice none 0 0) [] := World.ownsRow_nil _ _ _ _
theorem cell_two_new (w : World) (x y : Value) (t : TypeId) : ∀ j u, [x, y][j]? = some u → (w.alloc (Obj.cells #[x, y] t)).cell? ((⟨w.heap.size, 0, none⟩ : Addr).add j) = some u := by
  intro j u h
  have hj := (List.getElem?_eq_some_iff.1 h).1
  have e : (⟨w.heap.size, 0, none⟩ : Addr).add j = ⟨w.heap.size, 0 + j, none⟩ := by unfold Addr.add; split <;> simp_all
  rw [e, Nat.zero_add]
  exact ((Blk.new w #[x, y] t).cell j).trans (by simpa using h)
theorem owns_kind {w : World} {base : Nat} {e : TypeId} {size : Nat} {v : Value} {n : Nat} {xs : List Value} (h : w.ownsRow base e size v n xs) : ∀ g, v.ownBlock = some g → ∃ c fz, w.heap[g]? = some (.cells c e fz) := by
  intro g hg
  rcases h.2 with ⟨h1, _⟩ | ⟨g', cap, cur, h1, h2, h3, _⟩
  · rw [h1] at hg; cases hg
  · rw [h1] at hg
    have : g' = g := by simpa [Value.ownBlock] using hg
    subst this
    exact ⟨cur, (0, 0), h3⟩
theorem pcs_snoc {w : World} {base : Nat} {v : Value} {M : List Pc} {k : Int} {s : ByteArray} (h : w.ownsRow base 41 2 v (M.length + 1) (flatQ M ++ [.int .i64 k, .string s])) : PcsV w base v (M ++ [(k, s)]) := by
  unfold PcsV
  rw [List.length_append, flatQ_app]
  exact h
/-- What a call leaves that appends pieces to a row of base B. -/
def ApSaid (base : Nat) (L : List Pc) (w : World) (e : Ending) (w' : World) : Prop := ∃ v, e = .returned v ∧ PcsV w' base v L ∧ Below base w w' ∧ Lib.OthersKept 41 none w w'
set_option maxHeartbeats 1000000 in
theorem appendAll_any (base : Nat) (v : Value) (L : List Pc) (k : Int) (q : Option Addr) (n c : Nat) (ss : List ByteArray) (w : World) (hv : PcsV w base v L) (hs : ∀ W, Below base w W → Lib.OthersKept 41 none w W → View W (.slice q n c) ss) (hbw : base ≤ w.heap.size) (hl : L.length + ss.length ≤ 1000000) :
    Calls Try.prog 29 #[v, .int .i64 k, .slice q n c] w (ApSaid base (L ++ tk k ss) w) := by
  obtain ⟨i0, hi0, hi1, hi2, hi3⟩ := info_parts infoPiece0
  have hn : n = ss.length := by obtain ⟨_, a, c', e, _⟩ := hs w (Below.refl _ _) (Lib.OthersKept.refl _ _ _); cases e; rfl
  subst hn
  have HV := hide hs
  have H0 := hide hv
  obtain ⟨vq, vn, vc, hvs⟩ := slice_of hv
  subst hvs
  unfold ApSaid
  clear hs hv
  go_enter Try.func29, Try.ntmps29
  go_wp2
  go_loopw [11, 0] (fun i u wr => ∃ j : Nat, j ≤ ss.length ∧ i = .int .i64 (j : Int) ∧ PcsV wr base u (L ++ tk k (ss.take j)) ∧ Below base w wr ∧ Lib.OthersKept 41 none w wr) (fun i _ _ => ss.length - (intOf i).toNat)
  case atStart => exact ⟨0, Nat.zero_le _, rfl, by rw [List.take_zero]; show PcsV w base _ (L ++ []); rw [List.append_nil]; exact unhide H0, Below.refl _ _, Lib.OthersKept.refl _ _ _⟩
  case round =>
    obtain ⟨j, hj, rfl, hrow, hbx, hok⟩ := hrel
    obtain ⟨uq, un, uc, hu⟩ := slice_of hrow
    subst hu
    have HR := hide hrow
    have HBX := hide hbx
    have HOK := hide hok
    have hz := hbx.size
    by_cases hp : j < ss.length
    · have hpi : (j : Int) < (ss.length : Int) := by omega
      obtain ⟨bb, ob, rfl, cS⟩ := view_atR (unhide HV wr hbx hok) (Below.refl _ _) j hp
      have HT : Hid (tk k (ss.take (j + 1)) = tk k (ss.take j) ++ [(k, tx ss j)]) := hide (by
        unfold tk tx
        rw [List.take_add_one, List.getElem?_eq_getElem hp, List.getD, List.getElem?_eq_getElem hp, List.map_append]; rfl)
      have hlen : (L ++ tk k (ss.take j)).length ≤ 1000000 := by rw [List.length_append, tk_len, List.length_take]; omega
      generalize tx ss j = s at *
      obtain ⟨M, hM⟩ : ∃ M, M = L ++ tk k (ss.take j) := ⟨_, rfl⟩
      rw [← hM] at HR hlen
      have HM := hide hM
      unfold PcsV at HR
      clear hM
      clear hrow hbx hok
      go_wp2_with (at_builtin; refine wpList_append_own_at _ rfl _ _ 27 rfl base 41 i0 (.agg #[.int .i64 0, .string ⟨#[]⟩]) 2 24 Try.underlying27 hi0 hi1 hi2 hi3 rfl (by decide) (.slice uq un uc) _ _ rfl ((unhide HR).alloc _) ⟨wr.heap.size, 0, none⟩ 1 1 [.int .i64 k, .string s] rfl rfl (cell_two_new _ _ _ _) (by simp [Value.oneCell']) (by simp only [maxLen]; omega) (by omega) (by simp; omega) ?_)
      intro u' w3 hown hgr _ _
      have HO : Hid (PcsV w3 base u' (L ++ tk k (ss.take (j + 1)))) := hide (by
        rw [unhide HT, ← List.append_assoc, ← unhide HM]
        exact pcs_snoc hown)
      have HB3 : Hid (Below base w w3) := hide (((unhide HBX).alloc (Nat.le_trans hbw hz) _).grown hgr (by simp; omega) (fun q hq => ((unhide HR).lt q hq).1))
      have HK3 : Hid (Lib.OthersKept 41 none w w3) := hide (((unhide HOK).alloc _).grown hgr (owns_kind ((unhide HR).alloc _)))
      clear hown hgr
      go_wp2
      go_roundw
      case rel => exact ⟨j + 1, by omega, by go_num, unhide HO, unhide HB3, unhide HK3⟩
      case measure => simp [intOf]; omega
    · have hpi : ¬ (j : Int) < (ss.length : Int) := by omega
      have hje : ss.take j = ss := List.take_of_length_le (by omega)
      have HJ := hide hje
      clear hrow hbx hok hje
      go_wp2
      go_ret
      exact ⟨_, rfl, by have := unhide HR; rw [unhide HJ] at this; exact this, unhide HBX, unhide HOK⟩
end Go.Proofs.Ytfbgpodcdgmpjaa
