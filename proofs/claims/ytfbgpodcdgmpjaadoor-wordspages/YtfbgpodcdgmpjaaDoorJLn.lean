/-
  What 'print.line' does.
-/
import Derived.Test.YtfbgpodcdgmpjaaDoorMgBI
import Derived.Test.YtfbgpodcdgmpjaaDoorSh
namespace Go.Proofs.YtfbgpodcdgmpjaaDoor
open Go.RowKit
set_option linter.unusedVariables false
set_option linter.unusedSimpArgs false

def flB (b : UInt8) : UInt8 := if b = 10 then 32 else b
def flatL (l : List UInt8) : List UInt8 := l.map flB
theorem flat_replace : ∀ s : List UInt8, Lib.replaceK [10] [32] (s.count 10) s = flatL s
  | [] => rfl
  | b :: l => by
    have ih := flat_replace l
    by_cases hb : b = 10
    · subst hb
      rw [List.count_cons_self, Lib.replaceK_hit [10] [32] _ _ 0 (by simp [Lib.index])]
      show [32] ++ Lib.replaceK [10] [32] (l.count 10) l = _
      rw [ih]; rfl
    · have hc : (b :: l).count 10 = l.count 10 := by rw [List.count_cons]; simp [hb]
      have hf : flatL (b :: l) = b :: flatL l := by show flB b :: _ = _; unfold flB; rw [if_neg hb]; rfl
      rw [hc, hf, ← ih]
      cases hn : l.count 10 with
      | zero => rfl
      | succ c =>
        obtain ⟨i, hi⟩ := Lib.index_of_count (s := l) (old := [10]) (by rw [Lib.count_one, hn]; omega)
        have hi' : Lib.index (b :: l) [10] = ((i + 1 : Nat) : Int) := by
          rw [Lib.index, hi]
          have : ([10] : List UInt8).isPrefixOf (b :: l) = false := by simp [List.isPrefixOf]; exact fun e => hb e.symm
          rw [this]
          simp
        rw [Lib.replaceK_hit [10] [32] c _ (i + 1) hi', Lib.replaceK_hit [10] [32] c l i hi]
        rfl
theorem flat_all (s : List UInt8) : Lib.replaceAll s [10] [32] = flatL s := by
  unfold Lib.replaceAll Lib.replace Lib.replaceNum
  rw [if_neg (by decide), if_pos (Or.inl (by decide)), Lib.count_one]
  exact flat_replace s
def MxJ (w : World) : Prop := ∃ m : Int, w.cell? ⟨0, 0, none⟩ = some (.int .i64 m)
theorem MxJ.below {w w' : World} (h : MxJ w) (hb : Below w.heap.size w w') : MxJ w' := by
  obtain ⟨m, hm⟩ := h
  exact ⟨m, cell_later hb hm⟩
def lnL (k : Int) (n : List UInt8) (ats : List (ByteArray × ByteArray)) (tx : List UInt8) : List UInt8 := if k = 1 then openL n ats else if k = 2 ∨ k = 3 then flatL tx else []
theorem repl_any (tx : ByteArray) (w : World) (hm : MxJ w) (ht : tx.size ≤ 10000) :
    Calls Tryd.prog 46 #[.string tx, .string ⟨#[10]⟩, .string ⟨#[32]⟩] w fun e w' => e = .returned (.string (bs (flatL tx.data.toList))) ∧ Below w.heap.size w w' := by
  obtain ⟨m, hm⟩ := hm
  have := Tryd.strings_ReplaceAll tx ⟨#[10]⟩ ⟨#[32]⟩ m w (by omega) hm (by decide) (by
    have h1 : Lib.countB tx ⟨#[10]⟩ ≤ tx.size := by
      unfold Lib.countB
      show Lib.count tx.data.toList [10] ≤ _
      rw [Lib.count_one, ← data_len tx]
      exact List.count_le_length
    have h2 : (⟨#[32]⟩ : ByteArray).size = 1 := rfl
    rw [h2]; omega)
  rw [show (⟨(Lib.replaceAll tx.data.toList (⟨#[10]⟩ : ByteArray).data.toList (⟨#[32]⟩ : ByteArray).data.toList).toArray⟩ : ByteArray) = bs (flatL tx.data.toList) by rw [← flat_all]; rfl] at this
  exact this
set_option maxHeartbeats 1000000 in
theorem line_any (g o : Nat) (k sp : Int) (n : ByteArray) (ats : List (ByteArray × ByteArray)) (tx : ByteArray) (kids rest : Forest) (w : World) (ht : Tabs w) (hm : MxJ w) (hl : Lies (.cons k sp n ats tx kids rest) g o w) (hf : Fits ats) (hn : n.size ≤ 10000) (htx : tx.size ≤ 10000) :
    Calls Tryd.prog 29 #[.pointer (some ⟨g, o, none⟩)] w fun e w' => e = .returned (.string (bs (lnL k n.data.toList ats tx.data.toList))) ∧ Below w.heap.size w w' := by
  obtain ⟨⟨c0, c1, c2, ⟨qa, ca, c3, hsl⟩, c4, ⟨qk, ck, c5, _, _⟩⟩, _⟩ := hl
  unfold lnL
  by_cases h1 : k = 1
  · subst h1
    rw [if_pos rfl]
    have C := hide (jopen_yes sp n ats tx qa qk ca kids.len ck w ht hsl hf hn)
    generalize bs (openL n.data.toList ats) = y at *
    clear ht hsl hf hm
    go_enter Tryd.func29, Tryd.ntmps29
    go_wp2_with fail
    refine (unhide C).mono ?_
    rintro e w1 ⟨rfl, hb⟩
    have HB := hide hb
    clear hb C
    go_wp2
    go_ret
    exact ⟨rfl, unhide HB⟩
  rw [if_neg h1]
  have e1 : (k == 1) = false := beq_eq_false_iff_ne.2 h1
  by_cases h2 : k = 2 ∨ k = 3
  · rw [if_pos h2]
    have C := hide (repl_any tx w hm htx)
    generalize bs (flatL tx.data.toList) = y at *
    clear ht hsl hf hm c3 c5 h1
    rcases h2 with h2 | h2
    · subst h2
      go_enter Tryd.func29, Tryd.ntmps29
      go_wp2_with fail
      refine (unhide C).mono ?_
      rintro e w1 ⟨rfl, hb⟩
      have HB := hide hb
      clear hb C
      go_wp2
      go_ret
      exact ⟨rfl, unhide HB⟩
    · subst h2
      go_enter Tryd.func29, Tryd.ntmps29
      go_wp2_with fail
      refine (unhide C).mono ?_
      rintro e w1 ⟨rfl, hb⟩
      have HB := hide hb
      clear hb C
      go_wp2
      go_ret
      exact ⟨rfl, unhide HB⟩
  rw [if_neg h2]
  have e2 : (k == 2) = false := beq_eq_false_iff_ne.2 (fun h => h2 (Or.inl h))
  have e3 : (k == 3) = false := beq_eq_false_iff_ne.2 (fun h => h2 (Or.inr h))
  clear ht hsl hf hm c3 c5 h1 h2
  go_enter Tryd.func29, Tryd.ntmps29
  go_wp2
  go_ret
  exact ⟨rfl, Below.refl _ _⟩
end Go.Proofs.YtfbgpodcdgmpjaaDoor
