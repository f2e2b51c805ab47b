/-
  What a list's alikeTo does where its last part has entries, none with attributes.
-/
import Derived.Test.YtabajhbghjfhoaaATo
namespace Go.Proofs.Ytabajhbghjfhoaa
open Go.RowKit
set_option linter.unusedVariables false
set_option linter.unusedSimpArgs false

set_option maxHeartbeats 4000000 in
set_option maxRecDepth 100000 in
theorem alikeTo_some (base p f0 : Nat) (v : Value) (a : AEnt) (L : List AEnt) (w : World) (h : Stk base p v L w) (hN : L.length ≤ 1000) (hf : lastE isMk L + 1 = (f0 : Int)) (hf0 : f0 < L.length) (ha : a.n = 0) (hM : ∀ x ∈ L.drop f0, x.n = 0) :
    Calls Try.prog 76 #[ptr p, entV a] w (ToPost (plcs a (L.drop f0) f0) w) := by
  obtain ⟨i0, hi0, hi1, hi2, hi3⟩ := infoI
  have b1 : Below w.heap.size w (w.alloc (Obj.cells #[.bool a.mr, .int .i64 a.id, .string a.nm, .slice a.q a.n a.c] 58)) := (Below.refl _ _).alloc (Nat.le_refl _) _
  have C := hide (last_mark base p v isMk L (w.alloc (Obj.cells #[.bool a.mr, .int .i64 a.id, .string a.nm, .slice a.q a.n a.c] 58)) (h.later b1) (hide fun x W hW => isMark_any x W))
  have hf2 : lastE isMk L = (f0 : Int) - 1 := by omega
  rw [hf2] at C
  obtain ⟨q, cap, hv, hc, hm, hg⟩ := h.slice
  obtain ⟨g, rfl, hgl⟩ := hg (by omega)
  subst hv
  have HC : Hid (∀ W, Below w.heap.size w W → ∀ k, k < (L.drop f0).length → W.cell? ⟨g, (f0 + k) * 4, none⟩ = some (.bool ((L.drop f0).getD k e0).mr) ∧ W.cell? ⟨g, (f0 + k) * 4 + 1, none⟩ = some (.int .i64 ((L.drop f0).getD k e0).id) ∧ W.cell? ⟨g, (f0 + k) * 4 + 2, none⟩ = some (.string ((L.drop f0).getD k e0).nm) ∧ W.cell? ⟨g, (f0 + k) * 4 + 3, none⟩ = some (.slice ((L.drop f0).getD k e0).q ((L.drop f0).getD k e0).n ((L.drop f0).getD k e0).c)) := hide fun W hW k hk => by
    have := h.cells.below hW (f0 + k) (by rw [List.length_drop] at hk; omega)
    rw [Nat.zero_add] at this
    have e : (L.drop f0).getD k e0 = L.getD (f0 + k) e0 := by simp [List.getD, List.getElem?_drop]
    rw [e]; exact this
  have CA := hide (fun x W (hx : x.n = 0) => alike_none a x W ha hx)
  have H := hide h
  have HB := hide b1
  have HM : Hid (∀ k, k < (L.drop f0).length → ((L.drop f0).getD k e0).n = 0) := hide fun k hk => by rw [getD_get hk]; exact hM _ (List.getElem_mem hk)
  have hml : (L.drop f0).length = L.length - f0 := List.length_drop
  have HML := hide hml
  obtain ⟨all, hall⟩ : ∃ all, all = plcs a (L.drop f0) f0 := ⟨_, rfl⟩
  rw [← hall]
  have HALL := hide hall
  unfold ToPost
  clear h b1 hg hf hf2 hM hall
  generalize L.drop f0 = M at *
  have hm1 : M.length = L.length - f0 := hml
  generalize L.length = n at *
  obtain ⟨m, rfl⟩ : ∃ m, n = f0 + m := ⟨n - f0, by omega⟩
  have hmm : M.length = m := by omega
  replace HML := hide hmm
  clear hml hm1 hmm
  have hm0 : 0 < m := by omega
  have hw1 : IntKind.i64.wrap ((f0 : Int) - 1 + 1) = (f0 : Int) := by rw [IntKind.wrap_i64]; omega
  have hn1 : (f0 : Int) - 1 + 1 = (f0 : Int) := by omega
  have hfc : ¬ cap = f0 := by omega
  have hfI : (f0 : Int) ≤ ((f0 + m : Nat) : Int) := by omega
  have hmI : (m : Int) ≤ 1000 := by omega
  have hsub : f0 + m - f0 = m := by omega
  unfold entV at CA
  unfold ptr at *
  unfold entV
  obtain ⟨am, ai, an, aq, al, ac⟩ := a
  dsimp only at ha
  subst ha
  dsimp only at *
  go_enter Try.func76, Try.ntmps76
  go_wp2_with fail
  refine (unhide C).mono ?_
  rintro e w1 ⟨rfl, hb⟩
  have B1 := hide (cellC (unhide HB) hb)
  have c0 : w1.cell? ⟨p, 0, none⟩ = some (.slice (some ⟨g, 0, none⟩) (f0 + m) cap) := ((unhide H).later (unhide B1)).1.cell 0
  have HAT : Hid (ToAt ⟨am, ai, an, aq, 0, ac⟩ M f0 all w (.slice none 0 0) (.int .i64 0) w1) := hide ⟨0, [], Nat.zero_le _, rfl, Nat.zero_le _, World.ownsRow_nil _ _ _ _, by rw [unhide HALL]; simp, unhide B1, (Blk.new w _ _).later hb⟩
  clear hb
  go_wp2
  go_loopw [5, 19] (fun u i wr => ToAt ⟨am, ai, an, aq, 0, ac⟩ M f0 all w u i wr) (fun _ i _ => m - (intOf i).toNat)
  case atStart => exact unhide HAT
  case round =>
    clear HAT
    obtain ⟨k, acc, hk, rfl, hacc, hrow, hps, hbw, kE⟩ := hrel
    rw [unhide HML] at hk
    have HR := hide hrow
    have HP := hide hps
    have HBW := hide hbw
    have KE := hide kE
    obtain ⟨qu, nu, cu, rfl⟩ := slice_of hrow
    by_cases hlt : k < m
    · have hlti : (k : Int) < (m : Int) := by omega
      have hkM : k < M.length := by rw [unhide HML]; exact hlt
      obtain ⟨c1, c2, c3, c4⟩ := unhide HC wr hbw k hkM
      have hx0 := unhide HM k hkM
      have hst := plcs_step ⟨am, ai, an, aq, 0, ac⟩ M k f0 hkM
      generalize hx : M.getD k e0 = x at *
      have CA1 := hide (fun W => unhide CA x W hx0)
      have hst' := hide hst
      generalize hnb : nmB ⟨am, ai, an, aq, 0, ac⟩ x = nb at *
      obtain ⟨xm, xi, xn, xq, xl, xc⟩ := x
      dsimp only at *
      subst hx0
      have k1 : wr.cell? ⟨w.heap.size, 0, none⟩ = some (.bool am) := kE.cell 0
      have k2 : wr.cell? ⟨w.heap.size, 1, none⟩ = some (.int .i64 ai) := kE.cell 1
      have k3 : wr.cell? ⟨w.heap.size, 2, none⟩ = some (.string an) := kE.cell 2
      have k4 : wr.cell? ⟨w.heap.size, 3, none⟩ = some (.slice aq 0 ac) := kE.cell 3
      have hzz : w.heap.size < wr.heap.size := kE.lt
      have bx : Below wr.heap.size wr (wr.alloc (Obj.cells #[.bool xm, .int .i64 xi, .string xn, .slice xq 0 xc] 58)) := (Below.refl _ _).alloc (Nat.le_refl _) _
      have BX := hide bx
      have hoff : f0 * 4 + k * 4 = (f0 + k) * 4 := by omega
      rw [← hoff] at c1 c2 c3 c4
      clear hst hx hnb hkM bx hrow hps hbw kE hoff
      cases nb with
      | false =>
        go_wp2_with fail
        refine (unhide CA1 _).mono ?_
        rintro e w2 ⟨rfl, hb2⟩
        have b2 := tr2 (unhide BX) hb2
        go_wp2
        go_roundw
        case rel =>
          refine ⟨k + 1, acc, by rw [unhide HML]; omega, by go_num, by omega, ownsRow_below (unhide HR) b2, ?_, cellC (unhide HBW) b2, (unhide KE).later b2⟩
          have := unhide HP
          rw [unhide hst'] at this
          simpa using this
        case measure => simp [intOf]; omega
      | true =>
        go_wp2_with fail
        refine (unhide CA1 _).mono ?_
        rintro e w2 ⟨rfl, hb2⟩
        have b2 := hide (tr2 (unhide BX) hb2)
        have R2 := hide (ownsRow_below (unhide HR) (unhide b2))
        have B2 := hide (cellC (unhide HBW) (unhide b2))
        have K2 := hide ((unhide KE).later (unhide b2))
        have hz2 : w.heap.size < w2.heap.size := (unhide K2).lt
        have hfk : (f0 : Int) + (k : Int) ≤ 2000 := by omega
        clear hb2
        go_wp2_with (at_builtin; refine wpList_append_own_at _ rfl _ _ 49 rfl (w.heap.size + 1) 3 i0 (.int .i64 0) 1 8 Try.underlying49 hi0 hi1 hi2 hi3 rfl (by decide) _ _ _ rfl ((unhide R2).alloc _) ⟨w2.heap.size, 0, none⟩ 1 1 [.int .i64 ((f0 : Int) + (k : Int))] rfl rfl ?c1 ?c2 ?c3 ?c4 ?c5 ?_)
        case c1 => exact cell_one_new _ _ _
        case c2 => simp [Value.oneCell']
        case c3 => simp only [maxLen]; omega
        case c4 => omega
        case c5 => simp; omega
        intro u' w3 hown hgr _ hat
        go_wp2
        go_roundw
        case rel =>
          refine ⟨k + 1, acc ++ [f0 + k], by rw [unhide HML]; omega, by go_num, by simp; omega, ?_, ?_, ?_, ?_⟩
          · rw [List.length_append, List.map_append]
            exact (by simpa [intV] using hown)
          · have := unhide HP
            rw [unhide hst'] at this
            simpa using this
          · exact ((unhide B2).alloc (unhide B2).size _).grown hgr (by simp; omega) (fun j hj => by have := ((unhide R2).lt j hj).1; omega)
          · exact ((unhide K2).alloc _).grown hgr (fun e => by have := ((unhide R2).lt _ e.symm).1; omega)
        case measure => simp [intOf]; omega
    · have hkm : k = m := by omega
      have hlti : ¬ (k : Int) < (m : Int) := by omega
      have HA : Hid (acc = all) := hide (by
        have := unhide HP
        rw [List.drop_eq_nil_of_le (by rw [unhide HML]; omega)] at this
        simpa [plcs] using this)
      clear hkm hlt hrow hps hbw kE
      go_wp2
      go_ret
      exact ⟨_, rfl, by rw [← unhide HA]; exact unhide HR, unhide HBW⟩
end Go.Proofs.Ytabajhbghjfhoaa
