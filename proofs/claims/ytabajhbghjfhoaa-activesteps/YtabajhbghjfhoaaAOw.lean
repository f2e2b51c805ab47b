/-
  What a list's own does of an entry with any attributes.
-/
import Derived.Test.YtabajhbghjfhoaaAAl
import Derived.Test.YtabajhbghjfhoaaAOn
namespace Go.Proofs.Ytabajhbghjfhoaa
open Go.RowKit
set_option linter.unusedVariables false
set_option linter.unusedSimpArgs false

def flatT : List (ByteArray × ByteArray) → List Value
  | [] => []
  | x :: r => .string x.1 :: .string x.2 :: flatT r
theorem flatT_len (l : List (ByteArray × ByteArray)) : (flatT l).length = l.length * 2 := by
  induction l with
  | nil => rfl
  | cons x r ih => simp only [flatT, List.length_cons, ih]; omega
theorem flatT_one (l : List (ByteArray × ByteArray)) : ∀ u ∈ flatT l, u.oneCell' = true := by
  induction l with
  | nil => intro u h; cases h
  | cons x r ih =>
    intro u h
    simp only [flatT, List.mem_cons] at h
    rcases h with rfl | rfl | h
    · rfl
    · rfl
    · exact ih u h
theorem flatT_at : ∀ (l : List (ByteArray × ByteArray)) (k : Nat), k < l.length → (flatT l)[k * 2]? = some (.string (an l k)) ∧ (flatT l)[k * 2 + 1]? = some (.string (av l k))
  | [], k, h => by simp at h
  | x :: r, 0, h => by simp [flatT, an, av]
  | x :: r, k + 1, h => by
    have := flatT_at r k (by simpa using h)
    rw [show (k + 1) * 2 = k * 2 + 2 by omega]
    simpa [flatT, an, av] using this
theorem flatT_cells {g o : Nat} {l : List (ByteArray × ByteArray)} {w : World} (h : Cells2 g o l w) : ∀ j u, (flatT l)[j]? = some u → w.cell? ((⟨g, o, none⟩ : Addr).add j) = some u := by
  intro j u hj
  have hl := (List.getElem?_eq_some_iff.1 hj).1
  rw [flatT_len] at hl
  rw [Addr.add_lit]
  obtain ⟨c1, c2⟩ := h (j / 2) (by omega)
  obtain ⟨f1, f2⟩ := flatT_at l (j / 2) (by omega)
  by_cases he : j % 2 = 0
  · have e : j / 2 * 2 = j := by omega
    rw [e] at f1 c1
    rw [hj] at f1
    rw [c1, ← f1]
  · have e : j / 2 * 2 + 1 = j := by omega
    rw [e] at f2
    rw [Nat.add_assoc, e] at c2
    rw [hj] at f2
    rw [c2, ← f2]
theorem cells2_of_row {base g n cap m : Nat} {l : List (ByteArray × ByteArray)} {w : World} {e : TypeId} (h : w.ownsRow base e 2 (.slice (some ⟨g, 0, none⟩) n cap) m (flatT l)) : Cells2 g 0 l w := by
  intro k hk
  obtain ⟨h1, h2⟩ := flatT_at l k hk
  have c1 := h.cells (g := g) rfl _ _ h1
  have c2 := h.cells (g := g) rfl _ _ h2
  rw [Addr.add_lit] at c1 c2
  exact ⟨c1, by rw [Nat.add_assoc]; exact c2⟩
/-- A slice of attributes of its own: nil, or in a block from z on. -/
def OwnA (z : Nat) (q : Option Addr) (n : Nat) (ats : List (ByteArray × ByteArray)) (w : World) : Prop :=
  AtsV q n ats w ∧ (q = none ∨ ∃ g, q = some ⟨g, 0, none⟩ ∧ z ≤ g ∧ g < w.heap.size ∧ ∃ vs, w.heap[g]? = some (.cells vs 108 (0, 0)))
theorem cell_same {w w' : World} {g : Nat} (h : w'.heap[g]? = w.heap[g]?) (o : Nat) : w'.cell? ⟨g, o, none⟩ = w.cell? ⟨g, o, none⟩ := by
  unfold World.cell?
  simp only [h]
theorem OwnA.keep {z n : Nat} {q : Option Addr} {ats : List (ByteArray × ByteArray)} {w w' : World} (h : OwnA z q n ats w) (hz : w.heap.size ≤ w'.heap.size) (hk : ∀ g, q = some ⟨g, 0, none⟩ → z ≤ g → g < w.heap.size → w'.heap[g]? = w.heap[g]?) : OwnA z q n ats w' := by
  obtain ⟨⟨h1, h2, h3, h4⟩, h5⟩ := h
  rcases h5 with rfl | ⟨g, rfl, hg, hl, hty⟩
  · refine ⟨⟨h1, h2, h3, ?_⟩, Or.inl rfl⟩
    rcases h4 with h0 | ⟨g', o', he, hc⟩
    · exact Or.inl h0
    · cases he
  · refine ⟨⟨h1, h2, h3, ?_⟩, Or.inr ⟨g, rfl, hg, by omega, by rw [hk g rfl hg hl]; exact hty⟩⟩
    rcases h4 with h0 | ⟨g', o', he, hc⟩
    · exact Or.inl h0
    · injection he with he
      injection he with e1 e2
      subst e1 e2
      have hb := hk g rfl hg hl
      refine Or.inr ⟨g, 0, rfl, fun k hk => ?_⟩
      obtain ⟨c1, c2⟩ := hc k hk
      exact ⟨(cell_same hb _).trans c1, (cell_same hb _).trans c2⟩
theorem OwnA.below {z n : Nat} {q : Option Addr} {ats : List (ByteArray × ByteArray)} {w w' : World} (h : OwnA z q n ats w) (hb : Below w.heap.size w w') : OwnA z q n ats w' := h.keep hb.size (fun g _ _ hl => hb.block g hl)
theorem OwnA.away {z n b o : Nat} {q : Option Addr} {ats : List (ByteArray × ByteArray)} {w : World} (h : OwnA z q n ats w) (hb : b < z) (u : Value) : OwnA z q n ats (w.setCell ⟨b, o, none⟩ u) :=
  h.keep (by simp) (fun g _ hg _ => Below.heap_setCell w ⟨b, o, none⟩ u g (by show g ≠ b; omega))
theorem OwnA.mono {z z' n : Nat} {q : Option Addr} {ats : List (ByteArray × ByteArray)} {w : World} (h : OwnA z q n ats w) (hz : z' ≤ z) : OwnA z' q n ats w := by
  refine ⟨h.1, ?_⟩
  rcases h.2 with h | ⟨g, h1, h2, h3⟩
  · exact Or.inl h
  · exact Or.inr ⟨g, h1, by omega, h3⟩

set_option maxHeartbeats 1000000 in
set_option maxRecDepth 100000 in
theorem cloneA_pos (ad : Addr) (n c : Nat) (ats : List (ByteArray × ByteArray)) (w : World) (hn : Hid (n = ats.length)) (hb : n ≤ 4398046511104) (hs : SzA ats) (h : n = 0 ∨ ∃ g o, ad = ⟨g, o, none⟩ ∧ Cells2 g o ats w) :
    Calls Try.prog 95 #[.slice (some ad) n c] w fun e w' => ∃ q2 c2, e = .returned (.slice q2 n c2) ∧ OwnA w.heap.size q2 n ats w' ∧ (q2 = none → n = 0 ∧ c2 = 0) ∧ Below w.heap.size w w' := by
  obtain ⟨i0, hi0, hi1, hi2, hi3⟩ := infoT
  have hrow : (w.alloc (Obj.cells #[] 108)).ownsRow w.heap.size 108 2 (.slice (some ⟨w.heap.size, 0, none⟩) 0 0) 0 [] := World.ownsRow_made w #[] 0 (Nat.le_refl _) (by simp [maxLen]) rfl
  have b1 : Below w.heap.size w (w.alloc (Obj.cells #[] 108)) := (Below.refl _ _).alloc (Nat.le_refl _) _
  have HC : Hid (∀ j u, (flatT ats)[j]? = some u → (w.alloc (Obj.cells #[] 108)).cell? (ad.add j) = some u) := hide (by
    rcases h with h0 | ⟨g, o, rfl, h⟩
    · have : ats = [] := List.eq_nil_of_length_eq_zero (by have := unhide hn; omega)
      subst this
      intro j u hj
      simp [flatT] at hj
    · exact flatT_cells (h.below b1))
  have HL : Hid ((flatT ats).length = n * 2) := hide (by rw [flatT_len, unhide hn])
  have H1 := hide (flatT_one ats)
  have HR := hide hrow
  have HS := hide hs
  clear hrow h b1 hs
  have q22 : ∀ (w : World) (a : Option Addr) (n c n' c' : Nat), (binOp .eql 56 (.slice a n c) (.slice none n' c')).run Try.prog w = .ok (.bool a.isNone) w := fun w a n c n' c' => Lib.run_eql_slice_nil w _ _ a n c n' c' Try.underlying56
  go_enter Try.func95, Try.ntmps95
  go_wp2_with (at_builtin; refine wpList_append_own_at _ rfl _ _ 56 rfl w.heap.size 108 i0 (.agg #[.string ⟨#[]⟩, .string ⟨#[]⟩]) 2 32 Try.underlying56 hi0 hi1 hi2 hi3 rfl (by decide) _ 0 [] rfl (unhide HR) ad n c (flatT ats) rfl ?c1 (unhide HC) ?c2 ?c3 ?c4 ?c5 ?_)
  case c1 => exact unhide HL
  case c2 => exact unhide H1
  case c3 => simp only [maxLen]; omega
  case c4 => omega
  case c5 => simp
  intro v' w1 hown' hgrow _ hat
  have HB := hide (((Below.refl w.heap.size w).alloc (Nat.le_refl _) (Obj.cells #[] 108)).grown hgrow (by simp) (fun k hk => by simp [Value.ownBlock] at hk; omega))
  obtain ⟨q2, n2, c2, rfl⟩ : ∃ a m cap, v' = .slice a m cap := slice_of hown'
  have hn2 : n2 = n := by
    rcases hown'.2 with ⟨h, h0⟩ | ⟨g2, cap, cur, h, _⟩
    · injection h with _ h; omega
    · injection h with _ h
  subst hn2
  have HNN : Hid (q2 = none → n2 = 0 ∧ c2 = 0) := hide (by
    rcases hown'.2 with ⟨h, h0⟩ | ⟨g2, cap, cur, h, _⟩
    · injection h with h1 h2 h3
      exact fun _ => ⟨h2, h3⟩
    · injection h with h1 h2 h3
      intro e; rw [h1] at e; cases e)
  have HO : Hid (OwnA w.heap.size q2 n2 ats w1) := hide (by
    rcases hown'.2 with ⟨h, h0⟩ | ⟨g2, cap, cur, h, hbg, hblk, _⟩
    · injection h with h1 h2 h3
      exact ⟨⟨unhide hn, hb, unhide HS, Or.inl h0⟩, Or.inl h1⟩
    · injection h with h1 h2 h3
      subst h1
      exact ⟨⟨unhide hn, hb, unhide HS, Or.inr ⟨g2, 0, rfl, cells2_of_row hown'⟩⟩, Or.inr ⟨g2, rfl, hbg, (Array.getElem?_eq_some_iff.1 hblk).1, cur, hblk⟩⟩)
  clear hown' hgrow hat
  go_wp2
  go_ret
  exact ⟨q2, c2, rfl, unhide HO, unhide HNN, unhide HB⟩
theorem cloneA_any (q : Option Addr) (n c : Nat) (ats : List (ByteArray × ByteArray)) (w : World) (hq : q = none → n = 0 ∧ c = 0) (h : AtsV q n ats w) :
    Calls Try.prog 95 #[.slice q n c] w fun e w' => ∃ q2 c2, e = .returned (.slice q2 n c2) ∧ OwnA w.heap.size q2 n ats w' ∧ (q2 = none → n = 0 ∧ c2 = 0) ∧ Below w.heap.size w w' := by
  cases q with
  | none =>
    obtain ⟨rfl, rfl⟩ := hq rfl
    refine (cloneA_none w).mono ?_
    rintro e w' ⟨rfl, rfl⟩
    exact ⟨none, 0, rfl, ⟨h, Or.inl rfl⟩, fun _ => ⟨rfl, rfl⟩, Below.refl _ _⟩
  | some a =>
    obtain ⟨h1, h2, h3, h4⟩ := h
    refine cloneA_pos a n c ats w (hide h1) h2 h3 ?_
    rcases h4 with h | ⟨g', o', he, hc⟩
    · exact Or.inl h
    · injection he with he
      exact Or.inr ⟨g', o', he, hc⟩
set_option maxHeartbeats 1000000 in
set_option maxRecDepth 100000 in
theorem own_any (xm : Bool) (xi : Int) (xn : ByteArray) (q : Option Addr) (n c : Nat) (ats : List (ByteArray × ByteArray)) (w : World) (hq : q = none → n = 0 ∧ c = 0) (h : AtsV q n ats w) : Calls Try.prog 68 #[.agg #[.bool xm, .int .i64 xi, .string xn, .slice q n c]] w fun e w' => ∃ q2 c2, e = .returned (.agg #[.bool xm, .int .i64 xi, .string xn, .slice q2 n c2]) ∧ OwnA w.heap.size q2 n ats w' ∧ (q2 = none → n = 0 ∧ c2 = 0) ∧ Below w.heap.size w w' := by
  have b2 : Below w.heap.size w ((w.alloc (Obj.cells #[.bool xm, .int .i64 xi, .string xn, .slice q n c] 58)).alloc (Obj.cells #[.bool false, .int .i64 0, .string ⟨#[]⟩, .slice none 0 0] 58)) := ((Below.refl w.heap.size w).alloc (Nat.le_refl _) _).alloc (by simp) _
  have C := hide (cloneA_any q n c ats _ hq (h.below b2))
  have HB := hide b2
  have K0 : Hid (Blk ((w.alloc (Obj.cells #[.bool xm, .int .i64 xi, .string xn, .slice q n c] 58)).alloc (Obj.cells #[.bool false, .int .i64 0, .string ⟨#[]⟩, .slice none 0 0] 58)) w.heap.size #[.bool xm, .int .i64 xi, .string xn, .slice q n c] 58) := hide ((Blk.new w _ _).alloc _)
  have K1 : Hid (Blk ((w.alloc (Obj.cells #[.bool xm, .int .i64 xi, .string xn, .slice q n c] 58)).alloc (Obj.cells #[.bool false, .int .i64 0, .string ⟨#[]⟩, .slice none 0 0] 58)) (w.heap.size + 1) #[.bool false, .int .i64 0, .string ⟨#[]⟩, .slice none 0 0] 58) := by
    have h1 := Blk.new (w.alloc (Obj.cells #[.bool xm, .int .i64 xi, .string xn, .slice q n c] 58)) #[.bool false, .int .i64 0, .string ⟨#[]⟩, .slice none 0 0] 58
    rw [show (w.alloc (Obj.cells #[.bool xm, .int .i64 xi, .string xn, .slice q n c] 58)).heap.size = w.heap.size + 1 by simp] at h1
    exact h1
  clear h b2
  go_enter Try.func68, Try.ntmps68
  go_wp2_with fail
  refine (unhide C).mono ?_
  rintro e w1 ⟨q2, c2, rfl, hA, hNN, hb⟩
  have HNN := hide hNN
  clear hNN
  have hz2 : ((w.alloc (Obj.cells #[.bool xm, .int .i64 xi, .string xn, .slice q n c] 58)).alloc (Obj.cells #[.bool false, .int .i64 0, .string ⟨#[]⟩, .slice none 0 0] 58)).heap.size = w.heap.size + 1 + 1 := by simp
  rw [hz2] at hA
  clear hz2
  have k0 := (unhide K0).later hb
  have k1 := (unhide K1).later hb
  have HB1 := hide ((unhide HB).trans (hb.mono (unhide HB).size))
  have c0 : w1.cell? ⟨w.heap.size, 0, none⟩ = some (.bool xm) := k0.cell 0
  have c1 : w1.cell? ⟨w.heap.size, 1, none⟩ = some (.int .i64 xi) := k0.cell 1
  have c2' : w1.cell? ⟨w.heap.size, 2, none⟩ = some (.string xn) := k0.cell 2
  have c3 : w1.cell? ⟨w.heap.size, 3, none⟩ = some (.slice q n c) := k0.cell 3
  have f3 : w1.frozen? ⟨w.heap.size, 3, none⟩ = false := k0.frozen 3
  have r0 : w1.cell? ⟨w.heap.size + 1, 0, none⟩ = some (.bool false) := k1.cell 0
  have r1 : w1.cell? ⟨w.heap.size + 1, 1, none⟩ = some (.int .i64 0) := k1.cell 1
  have r2 : w1.cell? ⟨w.heap.size + 1, 2, none⟩ = some (.string ⟨#[]⟩) := k1.cell 2
  have r3 : w1.cell? ⟨w.heap.size + 1, 3, none⟩ = some (.slice none 0 0) := k1.cell 3
  have e0 : w1.frozen? ⟨w.heap.size + 1, 0, none⟩ = false := k1.frozen 0
  have e1 : w1.frozen? ⟨w.heap.size + 1, 1, none⟩ = false := k1.frozen 1
  have e2 : w1.frozen? ⟨w.heap.size + 1, 2, none⟩ = false := k1.frozen 2
  have e3 : w1.frozen? ⟨w.heap.size + 1, 3, none⟩ = false := k1.frozen 3
  have HA := hide hA
  have kF := hide ((((((k1.away (b' := w.heap.size) (o := 3) (by omega) (.slice q2 n c2)).set 0 (by simp) (.bool xm)).set 1 (by simp) (.int .i64 xi)).set 2 (by simp) (.string xn)).set 3 (by simp) (.slice q2 n c2)))
  clear hA hb k0 k1
  go_wp2
  have g0 := (unhide kF).cell 0
  have g1 := (unhide kF).cell 1
  have g2c := (unhide kF).cell 2
  have g3 := (unhide kF).cell 3
  refine bodyPost_ret (v := .agg #[.bool xm, .int .i64 xi, .string xn, .slice q2 n c2]) (by simp [results, Try.results68, go_sem, g0, g1, g2c, g3]) rfl ?_
  refine ⟨q2, c2, rfl, ((((((unhide HA).away (by omega) _).away (by omega) _).away (by omega) _).away (by omega) _).away (by omega) _).mono (by omega), unhide HNN, (((((unhide HB1).setCell (by simp) _).setCell (by simp) _).setCell (by simp) _).setCell (by simp) _).setCell (by simp) _⟩
end Go.Proofs.Ytabajhbghjfhoaa
