/-
  What the reference's 'fellow', 'Triples', 'kind' and 'empty' of layer 25 do.
-/
import Derived.Test.YtbaoomkdlbjhlaaZTr
import Derived.Test.YtbaoomkdlbjhlaaMRn
import Derived.Test.YtbaoomkdlbjhlaaMSm
import Derived.Test.YtbaoomkdlbjhlaaZQe
namespace Go.Proofs.Ytbaoomkdlbjhlaa
open Go.RowKit
set_option linter.unusedVariables false
set_option linter.unusedSimpArgs false

theorem prCells_at {w : World} {u : Value} {L : List (Nat × Nat)} (h : PrCells w u (whP L)) : ∃ q c, u = .slice q L.length c ∧ PrAt w q L := by
  have hl : (whP L).length = L.length := by unfold whP; rw [List.length_map]
  obtain ⟨q, c, h1, h2⟩ := h
  rw [hl] at h1 h2
  refine ⟨q, c, h1, fun h0 => ?_⟩
  obtain ⟨g, hq, h4⟩ := h2 h0
  refine ⟨g, 0, hq, fun k hk => ?_⟩
  have e : (whP L).getD k p0 = (((L.getD k (0, 0)).1 : Int), ((L.getD k (0, 0)).2 : Int), true) := by
    unfold whP
    rw [List.getD, List.getD, List.getElem?_map, List.getElem?_eq_getElem hk]
    rfl
  have := h4 k hk
  rw [e] at this
  simpa using this
def felI (L : List (Nat × Nat)) (o : Nat) : Int := match felF L o with
  | some y => (y : Int)
  | none => -1
theorem felF_found : ∀ (L : List (Nat × Nat)) (o k : Nat), k < L.length → (∀ j, j < k → ¬ (L.getD j (0, 0)).1 = o) → (L.getD k (0, 0)).1 = o → felF L o = some (L.getD k (0, 0)).2
  | p :: r, o, 0, _, _, h => by
    have : p.1 = o := h
    subst this
    exact felF_cons_eq p r
  | p :: r, o, k + 1, hk, hn, h => by
    rw [felF_cons_ne r (show ¬ p.1 = o from hn 0 (by omega))]
    exact felF_found r o k (by simpa using hk) (fun j hj => hn (j + 1) (by omega)) h
theorem felF_never : ∀ (L : List (Nat × Nat)) (o : Nat), (∀ j, j < L.length → ¬ (L.getD j (0, 0)).1 = o) → felF L o = none
  | [], _, _ => rfl
  | p :: r, o, h => by
    rw [felF_cons_ne r (show ¬ p.1 = o from h 0 (by simp))]
    exact felF_never r o (fun j hj => h (j + 1) (by simpa using hj))
set_option maxHeartbeats 1000000 in
theorem fellow_any (q : Option Addr) (c : Nat) (L : List (Nat × Nat)) (o : Nat) (w : World) (hv : PrAt w q L) (hl : L.length ≤ 10000) :
    Calls Try.prog 30 #[.slice q L.length c, .int .i64 (o : Int)] w fun e w' => e = .returned (.int .i64 (felI L o)) ∧ Below w.heap.size w w' := by
  have HV := hide hv
  have HN : Hid ((∀ j, j < L.length → ¬ (L.getD j (0, 0)).1 = o) → felI L o = -1) := hide (fun h => by unfold felI; rw [felF_never L o h])
  have HY : Hid (∀ k, k < L.length → (∀ j, j < k → ¬ (L.getD j (0, 0)).1 = o) → (L.getD k (0, 0)).1 = o → felI L o = ((L.getD k (0, 0)).2 : Int)) := hide (fun k hk h1 h2 => by unfold felI; rw [felF_found L o k hk h1 h2])
  clear hv
  generalize felI L o = R at *
  go_enter Try.func30, Try.ntmps30
  go_wp2
  go_loopw [9] (fun i wr => ∃ k : Nat, k ≤ L.length ∧ i = .int .i64 k ∧ (∀ j, j < k → ¬ (L.getD j (0, 0)).1 = o) ∧ Below w.heap.size w wr) (fun i _ => L.length - (intOf i).toNat)
  case atStart => exact ⟨0, Nat.zero_le _, rfl, fun j hj => absurd hj (Nat.not_lt_zero _), Below.refl _ _⟩
  case round =>
    obtain ⟨k, hk, rfl, hr, hbw⟩ := hrel
    have HR := hide hr
    clear hr
    by_cases hp : k < L.length
    · have hpi : (k : Int) < (L.length : Int) := by omega
      obtain ⟨g, og, rfl, hcell⟩ := (unhide HV).below hbw (by omega)
      obtain ⟨k0, k1, k2⟩ := hcell k hp
      have hyk := hide (unhide HY k hp (unhide HR))
      have HR2 : Hid (¬ (L.getD k (0, 0)).1 = o → ∀ j, j < k + 1 → ¬ (L.getD j (0, 0)).1 = o) := hide (fun hx j hj => by
        by_cases ej : j = k
        · rw [ej]; exact hx
        · exact unhide HR j (by omega))
      generalize L.getD k (0, 0) = t at *
      obtain ⟨t1, t2⟩ := t
      dsimp only at hyk HR2 k0 k1
      have hzr := hbw.size
      have HBW := hide hbw
      clear hcell hbw
      by_cases hx : t1 = o
      · have H := hide (unhide hyk hx)
        subst hx
        clear hyk HR2
        go_wp2
        go_ret
        exact ⟨by rw [unhide H]; rfl, (unhide HBW).alloc hzr _⟩
      · have H := hide (unhide HR2 hx)
        have hxi : ¬ (t1 : Int) = (o : Int) := by omega
        have hxb : ((t1 : Int) == (o : Int)) = false := beq_eq_false_iff_ne.2 hxi
        clear hyk hx HR2
        go_wp2
        go_roundw
        case rel => exact ⟨k + 1, by omega, by go_num, unhide H, (unhide HBW).alloc hzr _⟩
        case measure => simp [intOf]; omega
    · have hkn : k = L.length := by omega
      have H := hide (unhide HN (by rw [← hkn]; exact unhide HR))
      have hpi : ¬ (k : Int) < (L.length : Int) := by omega
      go_wp2
      go_ret
      exact ⟨by rw [unhide H]; rfl, hbw⟩
theorem kind_any (x y z : Bool) (w : World) :
    Calls Try.prog 22 #[.bool x, .bool y, .bool z] w fun e w' => e = .returned (.int .i64 (kd3 x y z : Nat)) ∧ Below w.heap.size w w' := by
  cases x <;> cases y <;> cases z <;>
  (go_enter Try.func22, Try.ntmps22
   go_wp2
   go_ret
   exact ⟨rfl, Below.refl _ _⟩)
def emB (i i' j j' k k' : Nat) : Bool := decide (i = i' ∧ j = j' ∧ k = k')
set_option maxHeartbeats 1000000 in
theorem empty_any (kd : Int) (i i' j j' k k' : Nat) (w : World) :
    Calls Try.prog 23 #[.agg #[.int .i64 kd, .int .i64 (i : Int), .int .i64 (j : Int), .int .i64 (k : Int), .int .i64 (i' : Int), .int .i64 (j' : Int), .int .i64 (k' : Int)]] w fun e w' => e = .returned (.bool (emB i i' j j' k k')) ∧ Below w.heap.size w w' := by
  have hq := fun W => eq3 (i : Int) (j : Int) (k : Int) (i' : Int) (j' : Int) (k' : Int) W
  have he : ((i : Int) == (i' : Int) && ((j : Int) == (j' : Int) && (k : Int) == (k' : Int))) = emB i i' j j' k k' := by
    have e : ∀ a b : Nat, ((a : Int) == (b : Int)) = decide (a = b) := fun a b => by
      by_cases h : a = b
      · subst h; simp
      · rw [decide_eq_false h]; exact beq_eq_false_iff_ne.2 (by omega)
    rw [e, e, e]
    unfold emB
    simp
  rw [he] at hq
  clear he
  generalize emB i i' j j' k k' = x at *
  go_enter Try.func23, Try.ntmps23
  go_wp2
  go_ret
  exact ⟨rfl, (Below.refl _ _).alloc (Nat.le_refl _) _⟩
end Go.Proofs.Ytbaoomkdlbjhlaa
