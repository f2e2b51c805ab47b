/-
  The law's own 'same' of layer 25: the same parts?
-/
import Derived.Test.YtbaoomkdlbjhlaaZRx
import Derived.Test.YtbaoomkdlbjhlaaZCl
import Derived.Test.YtbaoomkdlbjhlaaZQe
namespace Go.Proofs.Ytbaoomkdlbjhlaa
open Go.RowKit
set_option linter.unusedVariables false
set_option linter.unusedSimpArgs false

/-- The reference's parts in memory, read. -/
def RtA (w : World) (q : Option Addr) (L : List PT) : Prop := 0 < L.length → ∃ g, q = some ⟨g, 0, none⟩ ∧ ∀ k, k < L.length → ∀ j, j < 7 → w.cell? ⟨g, k * 7 + j, none⟩ = (ptR (L.getD k p7))[j]?
theorem RtA.below {w w' : World} {q : Option Addr} {L : List PT} (h : RtA w q L) (hb : Below w.heap.size w w') : RtA w' q L := fun h0 => by
  obtain ⟨g, h1, h2⟩ := h h0
  refine ⟨g, h1, fun k hk j hj => ?_⟩
  have hs : (ptR (L.getD k p7))[j]? = some ((ptR (L.getD k p7))[j]'hj) := List.getElem?_eq_getElem _
  have := h2 k hk j hj
  rw [hs] at this ⊢
  exact cellB hb this
theorem rparts_at {w : World} {base : Nat} {u : Value} {L : List PT} (h : RPartsV w base u L) : ∃ q c, u = .slice q L.length c ∧ RtA w q L := by
  obtain ⟨_, h⟩ := h
  rcases h with ⟨h1, h0⟩ | ⟨g, cap, cur, h0, h1, h2, h3, h4, h5, h6⟩
  · exact ⟨none, 0, by rw [h0]; exact h1, fun x => by omega⟩
  · refine ⟨_, cap, h0, fun _ => ⟨g, rfl, fun k hk j hj => ?_⟩⟩
    rw [Joins.cell_of_block h2, ← flat7_split ptR ptR_len L k hk j hj, ← h6, List.getElem?_take, if_pos (by omega)]
    simp
set_option maxHeartbeats 4000000 in
set_option maxRecDepth 100000 in
theorem same25_yes (q1 q2 : Option Addr) (c1 c2 : Nat) (L : List PT) (w : World) (h1 : PtA w q1 L) (h2 : RtA w q2 L) (hl : L.length ≤ 1000000) :
    Calls Try.prog 12 #[.slice q1 L.length c1, .slice q2 L.length c2] w fun e w' => e = .returned (.bool true) ∧ Below w.heap.size w w' := by
  have H1 := hide h1
  have H2 := hide h2
  clear h1 h2
  generalize hn : L.length = n at *
  have HN := hide hn
  clear hn
  go_enter Try.func12, Try.ntmps12
  go_wp2
  go_loopw [9] (fun i wr => ∃ k : Nat, k ≤ n ∧ i = .int .i64 (k : Int) ∧ Below w.heap.size w wr) (fun i _ => n - (intOf i).toNat)
  case atStart => exact ⟨0, Nat.zero_le _, rfl, Below.refl _ _⟩
  case round =>
    obtain ⟨k, hk, rfl, hbl⟩ := hrel
    have hz := hbl.size
    by_cases hp : k < n
    · have hpi : (k : Int) < (n : Int) := by omega
      have hpn : ¬ (n : Int) ≤ (k : Int) := by omega
      have hpd : decide ((n : Int) ≤ (k : Int)) = false := decide_eq_false hpn
      have hpd2 : decide (n ≤ k) = false := decide_eq_false (by omega)
      have hpL : k < L.length := by rw [unhide HN]; exact hp
      obtain ⟨g1, hq1, f1⟩ := (unhide H1).below hbl (by omega)
      obtain ⟨g2, hq2, f2⟩ := (unhide H2).below hbl (by omega)
      subst hq1
      subst hq2
      have e1 := f1 k hpL
      have e2 := f2 k hpL
      generalize L.getD k p7 = t at *
      obtain ⟨kd, ⟨o1, o2⟩, ⟨a1, a2⟩, ⟨b1, b2⟩⟩ := t
      have x0 : wr.cell? ⟨g1, k * 7, none⟩ = some (.int .i64 (kd : Int)) := e1 0 (by decide)
      have x1 : wr.cell? ⟨g1, k * 7 + 1, none⟩ = some (.int .i64 (o1 : Int)) := e1 1 (by decide)
      have x2 : wr.cell? ⟨g1, k * 7 + 2, none⟩ = some (.int .i64 (o2 : Int)) := e1 2 (by decide)
      have x3 : wr.cell? ⟨g1, k * 7 + 3, none⟩ = some (.int .i64 (a1 : Int)) := e1 3 (by decide)
      have x4 : wr.cell? ⟨g1, k * 7 + 4, none⟩ = some (.int .i64 (a2 : Int)) := e1 4 (by decide)
      have x5 : wr.cell? ⟨g1, k * 7 + 5, none⟩ = some (.int .i64 (b1 : Int)) := e1 5 (by decide)
      have x6 : wr.cell? ⟨g1, k * 7 + 6, none⟩ = some (.int .i64 (b2 : Int)) := e1 6 (by decide)
      have y0 : wr.cell? ⟨g2, k * 7, none⟩ = some (.int .i64 (kd : Int)) := e2 0 (by decide)
      have y1 : wr.cell? ⟨g2, k * 7 + 1, none⟩ = some (.int .i64 (o1 : Int)) := e2 1 (by decide)
      have y2 : wr.cell? ⟨g2, k * 7 + 2, none⟩ = some (.int .i64 (a1 : Int)) := e2 2 (by decide)
      have y3 : wr.cell? ⟨g2, k * 7 + 3, none⟩ = some (.int .i64 (b1 : Int)) := e2 3 (by decide)
      have y4 : wr.cell? ⟨g2, k * 7 + 4, none⟩ = some (.int .i64 (o2 : Int)) := e2 4 (by decide)
      have y5 : wr.cell? ⟨g2, k * 7 + 5, none⟩ = some (.int .i64 (a2 : Int)) := e2 5 (by decide)
      have y6 : wr.cell? ⟨g2, k * 7 + 6, none⟩ = some (.int .i64 (b2 : Int)) := e2 6 (by decide)
      have hg1 : g1 < wr.heap.size := World.block_lt_of_cell? wr _ x0
      have hg2 : g2 < wr.heap.size := World.block_lt_of_cell? wr _ y0
      have Q1 := fun W => eq3 (o1 : Int) (a1 : Int) (b1 : Int) (o1 : Int) (a1 : Int) (b1 : Int) W
      have Q2 := fun W => eq3 (o2 : Int) (a2 : Int) (b2 : Int) (o2 : Int) (a2 : Int) (b2 : Int) W
      simp only [beq_self_eq_true, Bool.and_self] at Q1 Q2
      have HBL := hide hbl
      clear hbl e1 e2 f1 f2
      go_wp2
      go_quiet (fail)
      go_wp2
      go_roundw
      case rel => exact ⟨k + 1, by omega, by go_num, _root_.Go.below_drewN ((unhide HBL).alloc hz _) _⟩
      case measure => simp [intOf]; omega
    · have hpi : ¬ (k : Int) < (n : Int) := by omega
      go_wp2
      go_ret
      exact ⟨by simp, hbl⟩
end Go.Proofs.Ytbaoomkdlbjhlaa
