/-
  The reference's Add and Last, told plainly.
-/
import Derived.Test.YtabajhbghjfhoaaBRx
import Derived.Test.YtabajhbghjfhoaaBCo
namespace Go.Proofs.Ytabajhbghjfhoaa
open Go.RowKit
set_option linter.unusedVariables false
set_option linter.unusedSimpArgs false

theorem radd_p (A base p : Nat) (v : Value) (P : List PEnt) (x : PEnt) (q : Option Addr) (n c : Nat) (w : World) (h : RLst A base p v P w) (hbase : base ≤ w.heap.size) (hats : AtsV q n x.ats w) (hq : ∀ a, q = some a → 0 < n → a.block < A) :
    Calls Try.prog 56 #[ptr p, .agg #[.bool x.mr, .int .i64 x.id, .string x.nm, .slice q n c]] w fun e w' => e = .returned (.int .i64 (addR x P.length)) ∧ RUpdP A base p v (addP x P) w w' := by
  obtain ⟨L, hs, hr, hA, hp⟩ := h
  have hl := hr.len
  have hf : ∀ k, k < L.length → ∀ W, Below w.heap.size w W → Calls Try.prog 34 #[entV (L.getD k e0), entV ⟨x.mr, x.id, x.nm, q, n, c⟩] W fun e w' => e = .returned (.bool (al (P.getD k p0) x)) ∧ Below W.heap.size W w' := by
    intro k hk W hW
    obtain ⟨g1, g2, g3, g4, g5⟩ := hr.get k hk
    have ra := ralike_any (L.getD k e0).mr x.mr (L.getD k e0).id x.id (L.getD k e0).nm x.nm (L.getD k e0).q q (L.getD k e0).n (L.getD k e0).c n c (P.getD k p0).ats x.ats W (g4.below hW) (hats.below hW)
    rw [g3, g4.1, hats.1, ralike_eq] at ra
    unfold entV
    dsimp only
    rw [g3, g4.1, hats.1]
    exact ra
  refine (radd_any base p v ⟨x.mr, x.id, x.nm, q, n, c⟩ (fun k => al (P.getD k p0) x) L w hs hbase (hide hf)).mono ?_
  rintro e w' ⟨rfl, hu⟩
  refine ⟨?_, rlst_upd hs hA hp hu ?_⟩
  · unfold raddR addR
    rw [hl]
    rfl
  · unfold raddL addP
    rw [show isElB ⟨x.mr, x.id, x.nm, q, n, c⟩ = isElP x from rfl, hl]
    split
    · exact hr
    · split
      · exact hr
      · have hm : lastE (fun x => x.mr) L = lastP (fun x => x.mr) P := last_rel (fun a b hab => hab.1) hr
        have hlt := lastP_lt (fun x => x.mr) P
        have hfp : lastP (fun x => x.mr) P + 1 = ((firstP P : Nat) : Int) := by unfold firstP; omega
        rw [hm, hfp, addG_eq _ (firstP P) L _ (by omega) (samesP x P) (by
          rw [hl]
          unfold samesP
          refine congrArg (fun g => plcK g (P.length - firstP P) (firstP P)) (funext fun k => ?_)
          exact al_symm (P.getD k p0) x)]
        refine Rel2.app ?_ ⟨⟨rfl, rfl, rfl, hats, hq⟩, trivial⟩
        split
        · exact hr
        · exact hr.erase _
def lastI (nm : ByteArray) (P : List PEnt) : Int := if 0 ≤ lastNm nm P ∧ (P.getD (lastNm nm P).toNat p0).mr = false then lastNm nm P else -1
theorem rlast_p (A base p : Nat) (v : Value) (nm : ByteArray) (P : List PEnt) (w : World) (h : RLst A base p v P w) (hN : P.length ≤ 1000) :
    Calls Try.prog 28 #[ptr p, .string nm] w fun e w' => e = .returned (.int .i64 (lastI nm P)) ∧ Below w.heap.size w w' := by
  obtain ⟨L, hs, hr, hA, hp⟩ := h
  have hl := hr.len
  have hlt := lastP_lt (fun x => x.mr || (x.nm.toList == nm.toList)) P
  have hlt2 : lastNm nm P < P.length := hlt.1
  have ra := rlast_any base p v nm L w hs (by omega)
  rw [last_tie, show lastE (nameB nm) L = lastNm nm P from last_rel (fun a b hab => by unfold nameB; rw [hab.1, hab.2.2.1]) hr] at ra
  unfold lastI
  by_cases h0 : 0 ≤ lastNm nm P
  · rw [(hr.get (lastNm nm P).toNat (by omega)).1] at ra
    exact ra
  · rw [if_neg (fun h => h0 h.1)] at ra ⊢
    exact ra
end Go.Proofs.Ytabajhbghjfhoaa
