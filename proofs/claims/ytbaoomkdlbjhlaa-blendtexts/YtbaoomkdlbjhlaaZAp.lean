/-
  Texts of a cut list appended to a row of the call's own.
-/
import Derived.Test.YtbaoomkdlbjhlaaZSu
import Derived.Laws.OwnMore
namespace Go.Proofs.Ytbaoomkdlbjhlaa
open Go.RowKit
set_option linter.unusedVariables false
set_option linter.unusedSimpArgs false

/-- A list of texts that came in. -/
def ArgV (w : World) (q : Option Addr) (c : Nat) (ss : List ByteArray) : Prop := View w (.slice q ss.length c) ss ∧ ss.length ≤ c ∧ (q = none → c = 0)
theorem ArgV.below {w w' : World} {q : Option Addr} {c : Nat} {ss : List ByteArray} (h : ArgV w q c ss) (hb : Below w.heap.size w w') : ArgV w' q c ss := ⟨view_below h.1 hb, h.2⟩
theorem arg_of {w : World} {q : Option Addr} {l c : Nat} {ss : List ByteArray} (h : View w (.slice q l c) ss) (hc : l ≤ c ∧ (q = none → c = 0)) : l = ss.length ∧ ArgV w q c ss := by
  have h2 := h
  obtain ⟨_, a, c', e, _⟩ := h2
  cases e
  exact ⟨rfl, h, hc.1, hc.2⟩
/-- A part of it. -/
def PrtV (w : World) (q : Option Addr) (n c : Nat) (ss : List ByteArray) : Prop := n = ss.length ∧ View w (.slice q n c) ss ∧ (q = none → n = 0 ∧ c = 0)
theorem ArgV.part {w : World} {q : Option Addr} {c : Nat} {ss : List ByteArray} (h : ArgV w q c ss) {i x : Nat} (hi : i ≤ x) (hx : x ≤ ss.length) : PrtV w (fromQ q i c) (x - i) (c - i) (sub ss i x) := by
  refine ⟨(sub_len ss i x hx).symm, view_part h.1 hi hx h.2.1, fun hq => ?_⟩
  have hn : q = none := by
    unfold fromQ at hq
    split at hq
    · exact hq
    · cases q with
      | none => rfl
      | some a => simp at hq
  have := h.2.2 hn
  have := h.2.1
  omega
theorem infoS : ∃ i, Try.prog.info? 9 = some i ∧ i.zero = some (.string ⟨#[]⟩) ∧ i.size = 1 ∧ i.bytes = 16 := by
  have h := Try.infoStr
  cases hi : Try.prog.info? 9 with
  | none => rw [hi] at h; cases h
  | some i =>
    rw [hi] at h
    simp only [Option.map_some, Option.some.injEq, Prod.mk.injEq] at h
    exact ⟨i, rfl, h.1, h.2.1, h.2.2⟩
/-- Texts that a call owns. -/
def TxsV (w : World) (base : Nat) (v : Value) (ss : List ByteArray) : Prop := w.ownsRow base 9 1 v ss.length (ss.map Value.string)
theorem append_view (w : World) (base : Nat) (ty : TypeId) (v : Value) (xs : List ByteArray) (hown : TxsV w base v xs) (q : Option Addr) (n c : Nat) (ss : List ByteArray) (hv : PrtV w q n c ss) (hl : xs.length + ss.length ≤ 1000000) (hbase : base ≤ w.heap.size) :
    ∃ v' w', (Builtin.append_ #[22, 22] ty #[v, .slice q n c]).run Try.prog w = .ok v' w' ∧ TxsV w' base v' (xs ++ ss) ∧ w.grownBy w' v.ownBlock ∧ (∀ k, v'.ownBlock = some k → v.ownBlock = some k ∨ w.heap.size ≤ k) := by
  obtain ⟨i0, hi0, hi1, hi2, hi3⟩ := infoS
  obtain ⟨hn, ⟨_, a, c', e, hx⟩, hnone⟩ := hv
  cases e
  cases q with
  | none =>
    obtain ⟨h1, h2⟩ := hnone rfl
    subst h2
    have hs : ss = [] := List.eq_nil_of_length_eq_zero h1
    subst hs
    have hr := run_append_owned_none (P := Try.prog) (w := w) base 22 ty 9 i0 1 Try.underlying22 hi0 v xs.length (xs.map Value.string) hown
    refine ⟨v, w, hr, by rw [List.append_nil]; exact hown, ⟨rfl, rfl, rfl, Nat.le_refl _, fun _ _ _ => rfl⟩, fun k hk => .inl hk⟩
  | some ad =>
    have hcell : ∀ (j : Nat) (u : Value), (ss.map Value.string)[j]? = some u → w.cell? (ad.add j) = some u := by
      intro j u hj
      have hjl : j < ss.length := by
        have := (List.getElem?_eq_some_iff.1 hj).1
        simpa using this
      obtain ⟨b, off, hab, hc⟩ := hx (by omega)
      cases hab
      have := hc j hjl
      rw [List.getElem?_map, List.getElem?_eq_getElem hjl] at hj
      simp only [Option.map_some, Option.some.injEq] at hj
      have e : (⟨b, off, none⟩ : Addr).add j = ⟨b, off + j, none⟩ := by unfold Addr.add; split <;> simp_all
      rw [e, this, ← hj, List.getD, List.getElem?_eq_getElem hjl]
      rfl
    obtain ⟨v', w', h1, h2, h3, h4⟩ := append_fresh (P := Try.prog) w base 22 ty 9 i0 (.string ⟨#[]⟩) 1 16 Try.underlying22 hi0 hi1 hi2 hi3 rfl (by decide) v xs.length (xs.map Value.string) hown ad ss.length c (ss.map Value.string) (by simp) hcell (fun u hu => by obtain ⟨s, _, rfl⟩ := List.mem_map.1 hu; rfl) (by simp only [maxLen]; omega) (by omega) hbase
    refine ⟨v', w', h1, ?_, h3, h4⟩
    unfold TxsV
    rw [List.length_append, List.map_append]
    exact h2
theorem wpList_append_view (w : World) {ops : Array Oper} {rest : List Oper} {o : Oper} {a : Act} {Q : Exit → Act → World → Prop} (hgd : o.guard = none) (s x : Operand)
    (ho : o.op = .call { callee := .builtin .append, args := #[s, x], argTypes := #[22, 22] }) (base : Nat) (v : Value) (xs : List ByteArray) (hs : a.eval s = v) (hown : TxsV w base v xs) (q : Option Addr) (n c : Nat) (ss : List ByteArray) (hx : a.eval x = .slice q n c) (hv : PrtV w q n c ss) (hl : xs.length + ss.length ≤ 1000000) (hbase : base ≤ w.heap.size)
    (h : ∀ v' w', TxsV w' base v' (xs ++ ss) → w.grownBy w' v.ownBlock → (∀ k, v'.ownBlock = some k → v.ownBlock = some k ∨ w.heap.size ≤ k) → wpList Try.prog ops Q rest (a.put o.dst v') w') : wpList Try.prog ops Q (o :: rest) a w := by
  obtain ⟨v', w', hr, h2, h3, h4⟩ := append_view w base o.type v xs hown q n c ss hv hl hbase
  exact Lib.wpList_append_run w hgd s x _ _ ho v _ hs hx v' w' hr (h v' w' h2 h3 h4)
end Go.Proofs.Ytbaoomkdlbjhlaa
