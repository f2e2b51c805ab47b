/-
  What 'blend.Clean' does.
-/
import Derived.Test.YtbaoomkdlbjhlaaZJp
import Derived.Laws.EntriesVeiled
namespace Go.Proofs.Ytbaoomkdlbjhlaa
open Go.RowKit
set_option linter.unusedVariables false
set_option linter.unusedSimpArgs false

/-- Parts in memory, read. -/
def PtA (w : World) (q : Option Addr) (L : List PT) : Prop := 0 < L.length → ∃ g, q = some ⟨g, 0, none⟩ ∧ ∀ k, k < L.length → ∀ j, j < 7 → w.cell? ⟨g, k * 7 + j, none⟩ = (ptL (L.getD k p7))[j]?
theorem PtA.below {w w' : World} {q : Option Addr} {L : List PT} (h : PtA w q L) (hb : Below w.heap.size w w') : PtA w' q L := fun h0 => by
  obtain ⟨g, h1, h2⟩ := h h0
  refine ⟨g, h1, fun k hk j hj => ?_⟩
  have hs : (ptL (L.getD k p7))[j]? = some ((ptL (L.getD k p7))[j]'hj) := List.getElem?_eq_getElem _
  have := h2 k hk j hj
  rw [hs] at this ⊢
  exact cellB hb this
theorem parts_at {w : World} {base : Nat} {u : Value} {L : List PT} (h : PartsV w base u L) : ∃ q c, u = .slice q L.length c ∧ PtA w q L := by
  obtain ⟨_, h⟩ := h
  rcases h with ⟨h1, h0⟩ | ⟨g, cap, cur, h0, h1, h2, h3, h4, h5, h6⟩
  · exact ⟨none, 0, by rw [h0]; exact h1, fun x => by omega⟩
  · refine ⟨_, cap, h0, fun _ => ⟨g, rfl, fun k hk j hj => ?_⟩⟩
    rw [Joins.cell_of_block h2, ← flat7_split ptL ptL_len L k hk j hj, ← h6, List.getElem?_take, if_pos (by omega)]
    simp
theorem clean1_any (kd : Nat) (x1 x2 x3 x4 x5 x6 : Int) (w : World) (hk : kd ≤ 5) :
    Calls Try.prog 25 #[.agg #[.int .i64 (kd : Int), .int .i64 x1, .int .i64 x2, .int .i64 x3, .int .i64 x4, .int .i64 x5, .int .i64 x6]] w fun e w' => e = .returned (.bool (decide (kd = 5))) ∧ Below w.heap.size w w' := by
  have he : ((kd : Int) == 5) = decide (kd = 5) := by
    by_cases h : kd = 5
    · subst h; rfl
    · rw [decide_eq_false h]; exact beq_eq_false_iff_ne.2 (by omega)
  go_enter Try.func25, Try.ntmps25
  go_wp2
  go_ret
  exact ⟨by first | rfl | (show Ending.returned (.bool ((kd : Int) == 5)) = _; rw [he]), (Below.refl _ _).alloc (Nat.le_refl _) _⟩
theorem clF_zero : ∀ L : List PT, clF L = 0 ↔ ∀ k, k < L.length → ¬ (L.getD k p7).1 = 5
  | [] => ⟨fun _ k hk => absurd hk (Nat.not_lt_zero _), fun _ => rfl⟩
  | p :: r => by
    rw [clF]
    constructor
    · intro h k hk
      cases k with
      | zero => intro e; rw [if_pos (show p.1 = 5 from e)] at h; omega
      | succ k => exact (clF_zero r).1 (by omega) k (by simpa using hk)
    · intro h
      rw [if_neg (show ¬ p.1 = 5 from h 0 (by simp)), (clF_zero r).2 (fun k hk => h (k + 1) (by simpa using hk))]
def IdxS (b : Bool) (e : Ending) : Prop := ∃ i : Int, e = .returned (.int .i64 i) ∧ decide (0 ≤ i) = b
set_option maxHeartbeats 1000000 in
theorem cidx_any (q : Option Addr) (c : Nat) (L : List PT) (w : World) (hv : PtA w q L) (hs : ∀ p ∈ L, p.1 ≤ 5) (hl : L.length ≤ 10000) :
    Calls Try.prog 32 #[.slice q L.length c, .func (Fn.func 25) #[] #[]] w fun e w' => IdxS (!decide (clF L = 0)) e ∧ Below w.heap.size w w' := by
  have HV := hide hv
  have HN : Hid ((∀ k, k < L.length → ¬ (L.getD k p7).1 = 5) → clF L = 0) := hide (clF_zero L).2
  have HY : Hid (∀ k, k < L.length → (L.getD k p7).1 = 5 → ¬ clF L = 0) := hide (fun k hk h h0 => (clF_zero L).1 h0 k hk h)
  have HS := hide hs
  clear hv hs
  generalize hB : clF L = B at *
  clear hB
  go_enter Try.func32, Try.ntmps32
  go_wp2
  go_loopw [8] (fun i wr => ∃ k : Nat, k ≤ L.length ∧ i = .int .i64 k ∧ (∀ j, j < k → ¬ (L.getD j p7).1 = 5) ∧ Below w.heap.size w wr) (fun i _ => L.length - (intOf i).toNat)
  case atStart => exact ⟨0, Nat.zero_le _, rfl, fun j hj => absurd hj (Nat.not_lt_zero _), Below.refl _ _⟩
  case round =>
    obtain ⟨k, hk, rfl, hr, hbw⟩ := hrel
    have HR := hide hr
    clear hr
    by_cases hp : k < L.length
    · have hpi : (k : Int) < (L.length : Int) := by omega
      obtain ⟨g, rfl, hcell⟩ := (unhide HV).below hbw (by omega)
      have hck := hcell k hp
      have hyk := hide (unhide HY k hp)
      have hmem : L.getD k p7 ∈ L := by rw [List.getD, List.getElem?_eq_getElem hp]; exact List.getElem_mem hp
      have h5 := unhide HS _ hmem
      have HR2 : Hid (¬ (L.getD k p7).1 = 5 → ∀ j, j < k + 1 → ¬ (L.getD j p7).1 = 5) := hide (fun hx j hj => by
        by_cases ej : j = k
        · rw [ej]; exact hx
        · exact unhide HR j (by omega))
      generalize L.getD k p7 = t at *
      obtain ⟨kd, ⟨o1, o2⟩, ⟨a1, a2⟩, ⟨b1, b2⟩⟩ := t
      have k0 : wr.cell? ⟨g, k * 7, none⟩ = some (.int .i64 (kd : Int)) := hck 0 (by decide)
      have k1 : wr.cell? ⟨g, k * 7 + 1, none⟩ = some (.int .i64 (o1 : Int)) := hck 1 (by decide)
      have k2 : wr.cell? ⟨g, k * 7 + 2, none⟩ = some (.int .i64 (o2 : Int)) := hck 2 (by decide)
      have k3 : wr.cell? ⟨g, k * 7 + 3, none⟩ = some (.int .i64 (a1 : Int)) := hck 3 (by decide)
      have k4 : wr.cell? ⟨g, k * 7 + 4, none⟩ = some (.int .i64 (a2 : Int)) := hck 4 (by decide)
      have k5 : wr.cell? ⟨g, k * 7 + 5, none⟩ = some (.int .i64 (b1 : Int)) := hck 5 (by decide)
      have k6 : wr.cell? ⟨g, k * 7 + 6, none⟩ = some (.int .i64 (b2 : Int)) := hck 6 (by decide)
      have C := hide (fun W => clean1_any kd o1 o2 a1 a2 b1 b2 W h5)
      dsimp only at hyk HR2 h5
      clear hcell hck hmem
      by_cases hx : kd = 5
      · rw [decide_eq_true hx] at C
        have H := hide (unhide hyk hx)
        clear hyk hx HR2
        go_wp2_with fail
        refine (unhide C _).mono ?_
        rintro e1 w1 ⟨rfl, hb1⟩
        go_wp2
        go_ret
        exact ⟨⟨_, rfl, by rw [decide_eq_false (unhide H)]; simp⟩, tr2 hbw hb1⟩
      · rw [decide_eq_false hx] at C
        have H := hide (unhide HR2 hx)
        clear hyk hx HR2
        go_wp2_with fail
        refine (unhide C _).mono ?_
        rintro e1 w1 ⟨rfl, hb1⟩
        go_wp2
        go_roundw
        case rel => exact ⟨k + 1, by omega, by go_num, unhide H, tr2 hbw hb1⟩
        case measure => simp [intOf]; omega
    · have hkn : k = L.length := by omega
      have H := hide (unhide HN (by rw [← hkn]; exact unhide HR))
      have hpi : ¬ (k : Int) < (L.length : Int) := by omega
      go_wp2
      go_ret
      exact ⟨⟨_, rfl, by rw [decide_eq_true (unhide H)]; decide⟩, hbw⟩
theorem ccont_any (q : Option Addr) (c : Nat) (L : List PT) (w : World) (hv : PtA w q L) (hs : ∀ p ∈ L, p.1 ≤ 5) (hl : L.length ≤ 10000) :
    Calls Try.prog 24 #[.slice q L.length c, .func (Fn.func 25) #[] #[]] w fun e w' => e = .returned (.bool (!decide (clF L = 0))) ∧ Below w.heap.size w w' := by
  have C := hide (cidx_any q c L w hv hs hl)
  generalize decide (clF L = 0) = D at *
  go_enter Try.func24, Try.ntmps24
  go_wp2_with fail
  refine (unhide C).mono ?_
  rintro e1 w1 ⟨⟨i, rfl, hi⟩, hb1⟩
  go_wp2
  go_ret
  exact ⟨rfl, hb1⟩
theorem clean_any (q : Option Addr) (c : Nat) (L : List PT) (w : World) (hv : PtA w q L) (hs : ∀ p ∈ L, p.1 ≤ 5) (hl : L.length ≤ 10000) :
    Calls Try.prog 15 #[.slice q L.length c] w fun e w' => e = .returned (.bool (decide (clF L = 0))) ∧ Below w.heap.size w w' := by
  have C := hide (ccont_any q c L w hv hs hl)
  generalize decide (clF L = 0) = D at *
  go_enter Try.func15, Try.ntmps15
  go_wp2_with fail
  refine (unhide C).mono ?_
  rintro e1 w1 ⟨rfl, hb1⟩
  go_wp2
  go_ret
  exact ⟨by simp, hb1⟩
end Go.Proofs.Ytbaoomkdlbjhlaa
