/-
  Several texts in one: what the functions of the program and of the document's answer do.
-/
import Derived.Test.YtbabmkilbbbmoaaDoorMgAM
import Derived.Laws.EntriesVeiled
import Derived.Test.YtbabmkilbbbmoaaDoorMgAJ
import Derived.Test.YtbabmkilbbbmoaaDoorZSu
import Derived.Laws.OwnMore
import Derived.Test.YtbabmkilbbbmoaaDoorZPa

/-
  What 'blend.Clean' does.
-/
namespace Go.Proofs.YtbabmkilbbbmoaaDoor
open Go.RowKit
set_option linter.unusedVariables false
set_option linter.unusedSimpArgs false

/-- Parts in memory, read. -/
def PtA (w : World) (q : Option Addr) (L : List PT) : Prop := 0 < L.length → ∃ g, q = some ⟨g, 0, none⟩ ∧ ∀ k, k < L.length → ∀ j, j < 7 → w.cell? ⟨g, k * 7 + j, none⟩ = (ptL (L.getD k p7))[j]?
theorem PtA.below {w w' : World} {q : Option Addr} {L : List PT} (h : PtA w q L) (hb : Below w.heap.size w w') : PtA w' q L := fun h0 => by
  obtain ⟨g, h1, h2⟩ := h h0
  refine ⟨g, h1, fun k hk j hj => ?_⟩
  have hs : (ptL (L.getD k p7))[j]? = some ((ptL (L.getD k p7))[j]'hj) := List.getElem?_eq_getElem _
  have := h2 k hk j hj
  rw [hs] at this ⊢
  exact cellB hb this
theorem parts_at {w : World} {base : Nat} {u : Value} {L : List PT} (h : PartsV w base u L) : ∃ q c, u = .slice q L.length c ∧ PtA w q L := by
  obtain ⟨_, h⟩ := h
  rcases h with ⟨h1, h0⟩ | ⟨g, cap, cur, h0, h1, h2, h3, h4, h5, h6⟩
  · exact ⟨none, 0, by rw [h0]; exact h1, fun x => by omega⟩
  · refine ⟨_, cap, h0, fun _ => ⟨g, rfl, fun k hk j hj => ?_⟩⟩
    rw [Joins.cell_of_block h2, ← flat7_split ptL ptL_len L k hk j hj, ← h6, List.getElem?_take, if_pos (by omega)]
    simp
theorem clean1_any (kd : Nat) (x1 x2 x3 x4 x5 x6 : Int) (w : World) (hk : kd ≤ 5) :
    Calls Tryd.prog 78 #[.agg #[.int .i64 (kd : Int), .int .i64 x1, .int .i64 x2, .int .i64 x3, .int .i64 x4, .int .i64 x5, .int .i64 x6]] w fun e w' => e = .returned (.bool (decide (kd = 5))) ∧ Below w.heap.size w w' := by
  have he : ((kd : Int) == 5) = decide (kd = 5) := by
    by_cases h : kd = 5
    · subst h; rfl
    · rw [decide_eq_false h]; exact beq_eq_false_iff_ne.2 (by omega)
  go_enter Tryd.func78, Tryd.ntmps78
  go_wp2
  go_ret
  exact ⟨by first | rfl | (show Ending.returned (.bool ((kd : Int) == 5)) = _; rw [he]), (Below.refl _ _).alloc (Nat.le_refl _) _⟩
theorem clF_zero : ∀ L : List PT, clF L = 0 ↔ ∀ k, k < L.length → ¬ (L.getD k p7).1 = 5
  | [] => ⟨fun _ k hk => absurd hk (Nat.not_lt_zero _), fun _ => rfl⟩
  | p :: r => by
    rw [clF]
    constructor
    · intro h k hk
      cases k with
      | zero => intro e; rw [if_pos (show p.1 = 5 from e)] at h; omega
      | succ k => exact (clF_zero r).1 (by omega) k (by simpa using hk)
    · intro h
      rw [if_neg (show ¬ p.1 = 5 from h 0 (by simp)), (clF_zero r).2 (fun k hk => h (k + 1) (by simpa using hk))]
def IdxS (b : Bool) (e : Ending) : Prop := ∃ i : Int, e = .returned (.int .i64 i) ∧ decide (0 ≤ i) = b
set_option maxHeartbeats 1000000 in
theorem cidx_any (q : Option Addr) (c : Nat) (L : List PT) (w : World) (hv : PtA w q L) (hs : ∀ p ∈ L, p.1 ≤ 5) (hl : L.length ≤ 10000) :
    Calls Tryd.prog 104 #[.slice q L.length c, .func (Fn.func 78) #[] #[]] w fun e w' => IdxS (!decide (clF L = 0)) e ∧ Below w.heap.size w w' := by
  have HV := hide hv
  have HN : Hid ((∀ k, k < L.length → ¬ (L.getD k p7).1 = 5) → clF L = 0) := hide (clF_zero L).2
  have HY : Hid (∀ k, k < L.length → (L.getD k p7).1 = 5 → ¬ clF L = 0) := hide (fun k hk h h0 => (clF_zero L).1 h0 k hk h)
  have HS := hide hs
  clear hv hs
  generalize hB : clF L = B at *
  clear hB
  go_enter Tryd.func104, Tryd.ntmps104
  go_wp2
  go_loopw [8] (fun i wr => ∃ k : Nat, k ≤ L.length ∧ i = .int .i64 k ∧ (∀ j, j < k → ¬ (L.getD j p7).1 = 5) ∧ Below w.heap.size w wr) (fun i _ => L.length - (intOf i).toNat)
  case atStart => exact ⟨0, Nat.zero_le _, rfl, fun j hj => absurd hj (Nat.not_lt_zero _), Below.refl _ _⟩
  case round =>
    obtain ⟨k, hk, rfl, hr, hbw⟩ := hrel
    have HR := hide hr
    clear hr
    by_cases hp : k < L.length
    · have hpi : (k : Int) < (L.length : Int) := by omega
      obtain ⟨g, rfl, hcell⟩ := (unhide HV).below hbw (by omega)
      have hck := hcell k hp
      have hyk := hide (unhide HY k hp)
      have hmem : L.getD k p7 ∈ L := by rw [List.getD, List.getElem?_eq_getElem hp]; exact List.getElem_mem hp
      have h5 := unhide HS _ hmem
      have HR2 : Hid (¬ (L.getD k p7).1 = 5 → ∀ j, j < k + 1 → ¬ (L.getD j p7).1 = 5) := hide (fun hx j hj => by
        by_cases ej : j = k
        · rw [ej]; exact hx
        · exact unhide HR j (by omega))
      generalize L.getD k p7 = t at *
      obtain ⟨kd, ⟨o1, o2⟩, ⟨a1, a2⟩, ⟨b1, b2⟩⟩ := t
      have k0 : wr.cell? ⟨g, k * 7, none⟩ = some (.int .i64 (kd : Int)) := hck 0 (by decide)
      have k1 : wr.cell? ⟨g, k * 7 + 1, none⟩ = some (.int .i64 (o1 : Int)) := hck 1 (by decide)
      have k2 : wr.cell? ⟨g, k * 7 + 2, none⟩ = some (.int .i64 (o2 : Int)) := hck 2 (by decide)
      have k3 : wr.cell? ⟨g, k * 7 + 3, none⟩ = some (.int .i64 (a1 : Int)) := hck 3 (by decide)
      have k4 : wr.cell? ⟨g, k * 7 + 4, none⟩ = some (.int .i64 (a2 : Int)) := hck 4 (by decide)
      have k5 : wr.cell? ⟨g, k * 7 + 5, none⟩ = some (.int .i64 (b1 : Int)) := hck 5 (by decide)
      have k6 : wr.cell? ⟨g, k * 7 + 6, none⟩ = some (.int .i64 (b2 : Int)) := hck 6 (by decide)
      have C := hide (fun W => clean1_any kd o1 o2 a1 a2 b1 b2 W h5)
      dsimp only at hyk HR2 h5
      clear hcell hck hmem
      by_cases hx : kd = 5
      · rw [decide_eq_true hx] at C
        have H := hide (unhide hyk hx)
        clear hyk hx HR2
        go_wp2_with fail
        refine (unhide C _).mono ?_
        rintro e1 w1 ⟨rfl, hb1⟩
        go_wp2
        go_ret
        exact ⟨⟨_, rfl, by rw [decide_eq_false (unhide H)]; simp⟩, tr2 hbw hb1⟩
      · rw [decide_eq_false hx] at C
        have H := hide (unhide HR2 hx)
        clear hyk hx HR2
        go_wp2_with fail
        refine (unhide C _).mono ?_
        rintro e1 w1 ⟨rfl, hb1⟩
        go_wp2
        go_roundw
        case rel => exact ⟨k + 1, by omega, by go_num, unhide H, tr2 hbw hb1⟩
        case measure => simp [intOf]; omega
    · have hkn : k = L.length := by omega
      have H := hide (unhide HN (by rw [← hkn]; exact unhide HR))
      have hpi : ¬ (k : Int) < (L.length : Int) := by omega
      go_wp2
      go_ret
      exact ⟨⟨_, rfl, by rw [decide_eq_true (unhide H)]; decide⟩, hbw⟩
theorem ccont_any (q : Option Addr) (c : Nat) (L : List PT) (w : World) (hv : PtA w q L) (hs : ∀ p ∈ L, p.1 ≤ 5) (hl : L.length ≤ 10000) :
    Calls Tryd.prog 77 #[.slice q L.length c, .func (Fn.func 78) #[] #[]] w fun e w' => e = .returned (.bool (!decide (clF L = 0))) ∧ Below w.heap.size w w' := by
  have C := hide (cidx_any q c L w hv hs hl)
  generalize decide (clF L = 0) = D at *
  go_enter Tryd.func77, Tryd.ntmps77
  go_wp2_with fail
  refine (unhide C).mono ?_
  rintro e1 w1 ⟨⟨i, rfl, hi⟩, hb1⟩
  go_wp2
  go_ret
  exact ⟨rfl, hb1⟩
theorem bclean_any (q : Option Addr) (c : Nat) (L : List PT) (w : World) (hv : PtA w q L) (hs : ∀ p ∈ L, p.1 ≤ 5) (hl : L.length ≤ 10000) :
    Calls Tryd.prog 53 #[.slice q L.length c] w fun e w' => e = .returned (.bool (decide (clF L = 0))) ∧ Below w.heap.size w w' := by
  have C := hide (ccont_any q c L w hv hs hl)
  generalize decide (clF L = 0) = D at *
  go_enter Tryd.func53, Tryd.ntmps53
  go_wp2_with fail
  refine (unhide C).mono ?_
  rintro e1 w1 ⟨rfl, hb1⟩
  go_wp2
  go_ret
  exact ⟨by simp, hb1⟩
end Go.Proofs.YtbabmkilbbbmoaaDoor

/-
  The law's own 'same' of layer 25: the same parts?
-/
namespace Go.Proofs.YtbabmkilbbbmoaaDoor
open Go.RowKit
set_option linter.unusedVariables false
set_option linter.unusedSimpArgs false

/-- The reference's parts in memory, read. -/
def RtA (w : World) (q : Option Addr) (L : List PT) : Prop := 0 < L.length → ∃ g, q = some ⟨g, 0, none⟩ ∧ ∀ k, k < L.length → ∀ j, j < 7 → w.cell? ⟨g, k * 7 + j, none⟩ = (ptR (L.getD k p7))[j]?
theorem RtA.below {w w' : World} {q : Option Addr} {L : List PT} (h : RtA w q L) (hb : Below w.heap.size w w') : RtA w' q L := fun h0 => by
  obtain ⟨g, h1, h2⟩ := h h0
  refine ⟨g, h1, fun k hk j hj => ?_⟩
  have hs : (ptR (L.getD k p7))[j]? = some ((ptR (L.getD k p7))[j]'hj) := List.getElem?_eq_getElem _
  have := h2 k hk j hj
  rw [hs] at this ⊢
  exact cellB hb this
theorem rparts_at {w : World} {base : Nat} {u : Value} {L : List PT} (h : RPartsV w base u L) : ∃ q c, u = .slice q L.length c ∧ RtA w q L := by
  obtain ⟨_, h⟩ := h
  rcases h with ⟨h1, h0⟩ | ⟨g, cap, cur, h0, h1, h2, h3, h4, h5, h6⟩
  · exact ⟨none, 0, by rw [h0]; exact h1, fun x => by omega⟩
  · refine ⟨_, cap, h0, fun _ => ⟨g, rfl, fun k hk j hj => ?_⟩⟩
    rw [Joins.cell_of_block h2, ← flat7_split ptR ptR_len L k hk j hj, ← h6, List.getElem?_take, if_pos (by omega)]
    simp
set_option maxHeartbeats 4000000 in
set_option maxRecDepth 100000 in
theorem same25_yes (q1 q2 : Option Addr) (c1 c2 : Nat) (L : List PT) (w : World) (h1 : PtA w q1 L) (h2 : RtA w q2 L) (hl : L.length ≤ 1000000) :
    Calls Tryd.prog 24 #[.slice q1 L.length c1, .slice q2 L.length c2] w fun e w' => e = .returned (.bool true) ∧ Below w.heap.size w w' := by
  have H1 := hide h1
  have H2 := hide h2
  clear h1 h2
  generalize hn : L.length = n at *
  have HN := hide hn
  clear hn
  go_enter Tryd.func24, Tryd.ntmps24
  go_wp2
  go_loopw [9] (fun i wr => ∃ k : Nat, k ≤ n ∧ i = .int .i64 (k : Int) ∧ Below w.heap.size w wr) (fun i _ => n - (intOf i).toNat)
  case atStart => exact ⟨0, Nat.zero_le _, rfl, Below.refl _ _⟩
  case round =>
    obtain ⟨k, hk, rfl, hbl⟩ := hrel
    have hz := hbl.size
    by_cases hp : k < n
    · have hpi : (k : Int) < (n : Int) := by omega
      have hpn : ¬ (n : Int) ≤ (k : Int) := by omega
      have hpd : decide ((n : Int) ≤ (k : Int)) = false := decide_eq_false hpn
      have hpd2 : decide (n ≤ k) = false := decide_eq_false (by omega)
      have hpL : k < L.length := by rw [unhide HN]; exact hp
      obtain ⟨g1, hq1, f1⟩ := (unhide H1).below hbl (by omega)
      obtain ⟨g2, hq2, f2⟩ := (unhide H2).below hbl (by omega)
      subst hq1
      subst hq2
      have e1 := f1 k hpL
      have e2 := f2 k hpL
      generalize L.getD k p7 = t at *
      obtain ⟨kd, ⟨o1, o2⟩, ⟨a1, a2⟩, ⟨b1, b2⟩⟩ := t
      have x0 : wr.cell? ⟨g1, k * 7, none⟩ = some (.int .i64 (kd : Int)) := e1 0 (by decide)
      have x1 : wr.cell? ⟨g1, k * 7 + 1, none⟩ = some (.int .i64 (o1 : Int)) := e1 1 (by decide)
      have x2 : wr.cell? ⟨g1, k * 7 + 2, none⟩ = some (.int .i64 (o2 : Int)) := e1 2 (by decide)
      have x3 : wr.cell? ⟨g1, k * 7 + 3, none⟩ = some (.int .i64 (a1 : Int)) := e1 3 (by decide)
      have x4 : wr.cell? ⟨g1, k * 7 + 4, none⟩ = some (.int .i64 (a2 : Int)) := e1 4 (by decide)
      have x5 : wr.cell? ⟨g1, k * 7 + 5, none⟩ = some (.int .i64 (b1 : Int)) := e1 5 (by decide)
      have x6 : wr.cell? ⟨g1, k * 7 + 6, none⟩ = some (.int .i64 (b2 : Int)) := e1 6 (by decide)
      have y0 : wr.cell? ⟨g2, k * 7, none⟩ = some (.int .i64 (kd : Int)) := e2 0 (by decide)
      have y1 : wr.cell? ⟨g2, k * 7 + 1, none⟩ = some (.int .i64 (o1 : Int)) := e2 1 (by decide)
      have y2 : wr.cell? ⟨g2, k * 7 + 2, none⟩ = some (.int .i64 (a1 : Int)) := e2 2 (by decide)
      have y3 : wr.cell? ⟨g2, k * 7 + 3, none⟩ = some (.int .i64 (b1 : Int)) := e2 3 (by decide)
      have y4 : wr.cell? ⟨g2, k * 7 + 4, none⟩ = some (.int .i64 (o2 : Int)) := e2 4 (by decide)
      have y5 : wr.cell? ⟨g2, k * 7 + 5, none⟩ = some (.int .i64 (a2 : Int)) := e2 5 (by decide)
      have y6 : wr.cell? ⟨g2, k * 7 + 6, none⟩ = some (.int .i64 (b2 : Int)) := e2 6 (by decide)
      have hg1 : g1 < wr.heap.size := World.block_lt_of_cell? wr _ x0
      have hg2 : g2 < wr.heap.size := World.block_lt_of_cell? wr _ y0
      have Q1 := fun W => eq3 (o1 : Int) (a1 : Int) (b1 : Int) (o1 : Int) (a1 : Int) (b1 : Int) W
      have Q2 := fun W => eq3 (o2 : Int) (a2 : Int) (b2 : Int) (o2 : Int) (a2 : Int) (b2 : Int) W
      simp only [beq_self_eq_true, Bool.and_self] at Q1 Q2
      have HBL := hide hbl
      clear hbl e1 e2 f1 f2
      go_wp2
      go_quiet (fail)
      go_wp2
      go_roundw
      case rel => exact ⟨k + 1, by omega, by go_num, _root_.Go.below_drewN ((unhide HBL).alloc hz _) _⟩
      case measure => simp [intOf]; omega
    · have hpi : ¬ (k : Int) < (n : Int) := by omega
      go_wp2
      go_ret
      exact ⟨by simp, hbl⟩
end Go.Proofs.YtbabmkilbbbmoaaDoor

/-
  Texts of a cut list appended to a row of the call's own.
-/
namespace Go.Proofs.YtbabmkilbbbmoaaDoor
open Go.RowKit
set_option linter.unusedVariables false
set_option linter.unusedSimpArgs false

/-- A list of texts that came in. -/
def ArgV (w : World) (q : Option Addr) (c : Nat) (ss : List ByteArray) : Prop := View w (.slice q ss.length c) ss ∧ ss.length ≤ c ∧ (q = none → c = 0)
theorem ArgV.below {w w' : World} {q : Option Addr} {c : Nat} {ss : List ByteArray} (h : ArgV w q c ss) (hb : Below w.heap.size w w') : ArgV w' q c ss := ⟨view_below h.1 hb, h.2⟩
theorem arg_of {w : World} {q : Option Addr} {l c : Nat} {ss : List ByteArray} (h : View w (.slice q l c) ss) (hc : l ≤ c ∧ (q = none → c = 0)) : l = ss.length ∧ ArgV w q c ss := by
  have h2 := h
  obtain ⟨_, a, c', e, _⟩ := h2
  cases e
  exact ⟨rfl, h, hc.1, hc.2⟩
/-- A part of it. -/
def PrtV (w : World) (q : Option Addr) (n c : Nat) (ss : List ByteArray) : Prop := n = ss.length ∧ View w (.slice q n c) ss ∧ (q = none → n = 0 ∧ c = 0)
theorem ArgV.part {w : World} {q : Option Addr} {c : Nat} {ss : List ByteArray} (h : ArgV w q c ss) {i x : Nat} (hi : i ≤ x) (hx : x ≤ ss.length) : PrtV w (fromQ q i c) (x - i) (c - i) (sub ss i x) := by
  refine ⟨(sub_len ss i x hx).symm, view_part h.1 hi hx h.2.1, fun hq => ?_⟩
  have hn : q = none := by
    unfold fromQ at hq
    split at hq
    · exact hq
    · cases q with
      | none => rfl
      | some a => simp at hq
  have := h.2.2 hn
  have := h.2.1
  omega
theorem infoS : ∃ i, Tryd.prog.info? 9 = some i ∧ i.zero = some (.string ⟨#[]⟩) ∧ i.size = 1 ∧ i.bytes = 16 := by
  have h := Tryd.infoStr
  cases hi : Tryd.prog.info? 9 with
  | none => rw [hi] at h; cases h
  | some i =>
    rw [hi] at h
    simp only [Option.map_some, Option.some.injEq, Prod.mk.injEq] at h
    exact ⟨i, rfl, h.1, h.2.1, h.2.2⟩
/-- Texts that a call owns. -/
def TxsV (w : World) (base : Nat) (v : Value) (ss : List ByteArray) : Prop := w.ownsRow base 9 1 v ss.length (ss.map Value.string)
theorem append_view (w : World) (base : Nat) (ty : TypeId) (v : Value) (xs : List ByteArray) (hown : TxsV w base v xs) (q : Option Addr) (n c : Nat) (ss : List ByteArray) (hv : PrtV w q n c ss) (hl : xs.length + ss.length ≤ 1000000) (hbase : base ≤ w.heap.size) :
    ∃ v' w', (Builtin.append_ #[62, 62] ty #[v, .slice q n c]).run Tryd.prog w = .ok v' w' ∧ TxsV w' base v' (xs ++ ss) ∧ w.grownBy w' v.ownBlock ∧ (∀ k, v'.ownBlock = some k → v.ownBlock = some k ∨ w.heap.size ≤ k) := by
  obtain ⟨i0, hi0, hi1, hi2, hi3⟩ := infoS
  obtain ⟨hn, ⟨_, a, c', e, hx⟩, hnone⟩ := hv
  cases e
  cases q with
  | none =>
    obtain ⟨h1, h2⟩ := hnone rfl
    subst h2
    have hs : ss = [] := List.eq_nil_of_length_eq_zero h1
    subst hs
    have hr := run_append_owned_none (P := Tryd.prog) (w := w) base 62 ty 9 i0 1 Tryd.underlying62 hi0 v xs.length (xs.map Value.string) hown
    refine ⟨v, w, hr, by rw [List.append_nil]; exact hown, ⟨rfl, rfl, rfl, Nat.le_refl _, fun _ _ _ => rfl⟩, fun k hk => .inl hk⟩
  | some ad =>
    have hcell : ∀ (j : Nat) (u : Value), (ss.map Value.string)[j]? = some u → w.cell? (ad.add j) = some u := by
      intro j u hj
      have hjl : j < ss.length := by
        have := (List.getElem?_eq_some_iff.1 hj).1
        simpa using this
      obtain ⟨b, off, hab, hc⟩ := hx (by omega)
      cases hab
      have := hc j hjl
      rw [List.getElem?_map, List.getElem?_eq_getElem hjl] at hj
      simp only [Option.map_some, Option.some.injEq] at hj
      have e : (⟨b, off, none⟩ : Addr).add j = ⟨b, off + j, none⟩ := by unfold Addr.add; split <;> simp_all
      rw [e, this, ← hj, List.getD, List.getElem?_eq_getElem hjl]
      rfl
    obtain ⟨v', w', h1, h2, h3, h4⟩ := append_fresh (P := Tryd.prog) w base 62 ty 9 i0 (.string ⟨#[]⟩) 1 16 Tryd.underlying62 hi0 hi1 hi2 hi3 rfl (by decide) v xs.length (xs.map Value.string) hown ad ss.length c (ss.map Value.string) (by simp) hcell (fun u hu => by obtain ⟨s, _, rfl⟩ := List.mem_map.1 hu; rfl) (by simp only [maxLen]; omega) (by omega) hbase
    refine ⟨v', w', h1, ?_, h3, h4⟩
    unfold TxsV
    rw [List.length_append, List.map_append]
    exact h2
theorem wpList_append_view (w : World) {ops : Array Oper} {rest : List Oper} {o : Oper} {a : Act} {Q : Exit → Act → World → Prop} (hgd : o.guard = none) (s x : Operand)
    (ho : o.op = .call { callee := .builtin .append, args := #[s, x], argTypes := #[62, 62] }) (base : Nat) (v : Value) (xs : List ByteArray) (hs : a.eval s = v) (hown : TxsV w base v xs) (q : Option Addr) (n c : Nat) (ss : List ByteArray) (hx : a.eval x = .slice q n c) (hv : PrtV w q n c ss) (hl : xs.length + ss.length ≤ 1000000) (hbase : base ≤ w.heap.size)
    (h : ∀ v' w', TxsV w' base v' (xs ++ ss) → w.grownBy w' v.ownBlock → (∀ k, v'.ownBlock = some k → v.ownBlock = some k ∨ w.heap.size ≤ k) → wpList Tryd.prog ops Q rest (a.put o.dst v') w') : wpList Tryd.prog ops Q (o :: rest) a w := by
  obtain ⟨v', w', hr, h2, h3, h4⟩ := append_view w base o.type v xs hown q n c ss hv hl hbase
  exact Lib.wpList_append_run w hgd s x _ _ ho v _ hs hx v' w' hr (h v' w' h2 h3 h4)
end Go.Proofs.YtbabmkilbbbmoaaDoor

/-
  What 'blend.Texts' does.
-/
namespace Go.Proofs.YtbabmkilbbbmoaaDoor
open Go.RowKit
set_option linter.unusedVariables false
set_option linter.unusedSimpArgs false

def SzT (ss : List ByteArray) : Prop := ∀ k, k < ss.length → (tx ss k).size ≤ 9223372036854775807
set_option maxHeartbeats 2000000 in
theorem btexts_any (qo qa qb : Option Addr) (co ca cb : Nat) (o a b : List ByteArray) (w : World) (ho : ArgV w qo co o) (ha : ArgV w qa ca a) (hb : ArgV w qb cb b) (so : SzT o) (sa : SzT a) (sb : SzT b) (lo : o.length ≤ 1000) (la : a.length ≤ 1000) (lb : b.length ≤ 1000) :
    Calls Tryd.prog 51 #[.slice qo o.length co, .slice qa a.length ca, .slice qb b.length cb] w fun e w' => ∃ u, e = .returned u ∧ PartsV w' w.heap.size u (allQ o a b) ∧ Below w.heap.size w w' := by
  have HO := hide ho
  have HA := hide ha
  have HB := hide hb
  have C1 := hide (fun W (hW : Below w.heap.size w W) => mline_any _ _ o a W (ho.below hW).1 (ha.below hW).1 so sa lo la)
  have C2 := hide (fun W (hW : Below w.heap.size w W) => mline_any _ _ o b W (ho.below hW).1 (hb.below hW).1 so sb lo lb)
  have R1 := hide (rise_p _ _ _ (lnP_rise0 (eqT o a) o.length a.length 0 0))
  have R2 := hide (rise_p _ _ _ (lnP_rise0 (eqT o b) o.length b.length 0 0))
  have CP := hide (fun q1 q2 c1 c2 W => parts_any w.heap.size qo qa qb co ca cb o a b q1 q2 c1 c2 (lnP (eqT o a) o.length a.length 0 0) (lnP (eqT o b) o.length b.length 0 0) W)
  unfold LineSaid at C1 C2
  unfold allQ
  generalize lnP (eqT o a) o.length a.length 0 0 = L1 at *
  generalize lnP (eqT o b) o.length b.length 0 0 = L2 at *
  have HX := hide (Blk.new w #[.slice qo o.length co, .slice qa a.length ca, .slice qb b.length cb, .func (Fn.func 75) #[] #[]] 143)
  have hbx : Below w.heap.size w (w.alloc (Obj.cells #[.slice qo o.length co, .slice qa a.length ca, .slice qb b.length cb, .func (Fn.func 75) #[] #[]] 143)) := (Below.refl _ _).alloc (Nat.le_refl _) _
  have HBX := hide hbx
  clear ho ha hb hbx
  go_enter Tryd.func51, Tryd.ntmps51
  go_wp2_with fail
  refine (unhide C1 _ (unhide HBX)).mono ?_
  rintro e w1 ⟨u1, rfl, hp1, hb1⟩
  have hb01 := tr2 (unhide HBX) hb1
  obtain ⟨q1, c1, rfl, hc1, hm1, hp1'⟩ := pairsV_at hp1
  have HB01 := hide hb01
  have HB1 := hide hb1
  have HP1 := hide hp1'
  clear hp1 hp1' hb1 hb01
  go_wp2_with fail
  refine (unhide C2 _ (unhide HB01)).mono ?_
  rintro e w2 ⟨u2, rfl, hp2, hb2⟩
  obtain ⟨q2, c2, rfl, hc2, hm2, hp2'⟩ := pairsV_at hp2
  have HB02 := hide (tr2 (unhide HB01) hb2)
  have HB12 := hide (tr2 (unhide HB1) hb2)
  have hTV : ThreeV w2 w.heap.size qo qa qb co ca cb o a b := ⟨cellB (unhide HB12) ((unhide HX).cell 0), cellB (unhide HB12) ((unhide HX).cell 1), cellB (unhide HB12) ((unhide HX).cell 2), cellB (unhide HB12) ((unhide HX).cell 3), ((unhide HO).below (unhide HB02)).1, ((unhide HA).below (unhide HB02)).1, ((unhide HB).below (unhide HB02)).1, (unhide HO).2.1, (unhide HA).2.1, (unhide HB).2.1⟩
  have C3 := hide (unhide CP q1 q2 c1 c2 w2 hTV ((unhide HP1).below hb2) hp2' hc1 hc2 (unhide R1) (unhide R2) lo la lb hm1 hm2)
  clear hp2 hp2' hb2 hTV CP C1 C2 HX HO HA HB
  go_wp2_with fail
  refine (unhide C3).mono ?_
  rintro e w3 ⟨u3, rfl, hp3, hb3⟩
  have HP3 := hide hp3
  have HB3 := hide hb3
  clear hp3 hb3
  go_wp2
  go_ret
  exact ⟨_, rfl, owns_mono (unhide HP3) (unhide HB02).size, tr2 (unhide HB02) (unhide HB3)⟩
end Go.Proofs.YtbabmkilbbbmoaaDoor
