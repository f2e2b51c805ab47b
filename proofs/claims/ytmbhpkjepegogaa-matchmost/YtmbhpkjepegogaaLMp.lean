/-
  The law MatchMost, of any arguments.
-/
import Derived.Test.YtmbhpkjepegogaaLMo
namespace Go.Proofs.Ytmbhpkjepegogaa
open Go.RowKit
set_option linter.unusedVariables false

theorem tx_small {ss : List ByteArray} (h : ∀ s ∈ ss, s.size ≤ 9223372036854775807) (k : Nat) (hk : k < ss.length) : (tx ss k).size ≤ 9223372036854775807 := h _ (getD_mem ss k hk)
theorem matchMost_walk (qa qb qo : Option Addr) (la lb lo ca cb co : Nat) (ss tt : List ByteArray) (O : List (Int × Int × Bool)) (w : World) (ha : View w (.slice qa la ca) ss) (hb : View w (.slice qb lb cb) tt) (h1 : ∀ s ∈ ss, s.size ≤ 9223372036854775807) (h2 : ∀ s ∈ tt, s.size ≤ 9223372036854775807) (ho : PairsA w qo O) (hlo : O.length = lo) (hl : lo ≤ 9223372036854775807) :
    Calls Try.prog 4 #[.slice qa la ca, .slice qb lb cb, .slice qo lo co] w fun e w' => e = .returned (.bool true) ∧ Below w.heap.size w w' := by
  have hla := ha.1
  have hlb := hb.1
  obtain ⟨a1, c1, e1⟩ := view_slice ha
  obtain ⟨a2, c2, e2⟩ := view_slice hb
  cases e1
  cases e2
  by_cases h : 60 < ss.length ∨ 60 < tt.length
  · exact matchMost_great _ _ lo _ _ co _ _ qo w h hla hlb
  · exact matchMost_small _ _ ss tt qo lo co O w ha hb (tx_small h1) (tx_small h2) (by omega) (by omega) ho hlo hl
end Go.Proofs.Ytmbhpkjepegogaa
