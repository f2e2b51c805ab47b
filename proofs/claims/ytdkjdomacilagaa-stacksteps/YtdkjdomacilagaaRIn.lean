/-
  The reference's In.
-/
import Derived.Test.YtdkjdomacilagaaRBk
namespace Go.Proofs.Ytdkjdomacilagaa
open Go.RowKit
set_option linter.unusedVariables false
set_option linter.unusedSimpArgs false

theorem any_step (f : Ent → Bool) (L : List Ent) (k : Nat) (h : k < L.length) : (L.drop k).any f = (f (L.getD k e0) || (L.drop (k + 1)).any f) := by
  rw [List.drop_eq_getElem_cons h, getD_get h, List.any_cons]

set_option maxHeartbeats 2000000 in
set_option maxRecDepth 100000 in
theorem rin_pos (g cap p base : Nat) (scope : Int) (nv : Value) (ns : List (List UInt8)) (L : List Ent) (n m : Nat) (w : World) (hn : Hid (L.length = n)) (h0 : 0 < n) (hn2 : n ≤ 1000000) (hcap : n ≤ cap) (hcap2 : cap ≤ 9223372036854775807) (h : RStk base p (.slice (some ⟨g, 0, none⟩) n cap) L w) (hv : View w nv (Ls ns)) (hm : lastN ns L 0 (-1) = (m : Int)) (hmn : m < n) :
    Calls Try.prog 19 #[ptr p, .int .i64 scope, nv] w fun e w' => e = .returned (.bool (!((L.drop (m + 1)).any (endsE scope)))) ∧ Below w.heap.size w w' := by
  have C := hide (rlast_any base p _ nv ns L w h hv)
  rw [hm] at C
  have HK := hide h.1
  have HC := hide h.cells
  have D := hide (fun e w => rends_e scope e w)
  obtain ⟨_, nq, nc, rfl, _⟩ := hv
  clear h hm
  unfold ptr at *
  go_enter Try.func19, Try.ntmps19
  go_wp2_with fail
  refine (unhide C).mono ?_
  rintro e w1 ⟨rfl, hb⟩
  have c0 : w1.cell? ⟨p, 0, none⟩ = some (.slice (some ⟨g, 0, none⟩) n cap) := ((unhide HK).later hb).cell 0
  have HB := hide hb
  have hmi : ¬ (m : Int) < 0 := by omega
  have hmi2 : (m : Int) + 1 ≤ (n : Int) := by omega
  clear hb
  by_cases hz : m + 1 = n
  · obtain rfl := hz
    go_wp2
    all_goals
      refine wp_loop_rounds 1 ?_
      rw [rounds_succ]; go_wp2
      go_ret
      exact ⟨by rw [List.drop_eq_nil_of_le (by rw [unhide hn]; omega)]; rfl, unhide HB⟩
  · have hzi : (m : Int) + 1 < (n : Int) := by omega
    go_wp2
    go_loopw [23] (fun i wr => ∃ k : Nat, m + 1 + k ≤ n ∧ i = .int .i64 k ∧ Below w.heap.size w wr ∧ (L.drop (m + 1)).any (endsE scope) = (L.drop (m + 1 + k)).any (endsE scope)) (fun i _ => n - (intOf i).toNat)
    case atStart => exact ⟨0, by omega, rfl, unhide HB, rfl⟩
    case round =>
      obtain ⟨k, hk, rfl, hbw, hr⟩ := hrel
      have HR := hide hr
      have HW := hide hbw
      clear hr
      by_cases hlt : m + 1 + k < n
      · have hlti : (k : Int) < ((n - (m + 1) : Nat) : Int) := by omega
        have hltn : k < n - (m + 1) := by omega
        have hkl : m + 1 + k < L.length := by rw [unhide hn]; exact hlt
        obtain ⟨c1, c2, c3⟩ := (unhide HC).below hbw (m + 1 + k) hkl
        have HE := hide ((unhide HR).trans (any_step (endsE scope) L (m + 1 + k) hkl))
        rw [Nat.zero_add, Nat.add_mul (m + 1) k 3] at c1 c2 c3
        have D1 := hide (fun w => unhide D (L.getD (m + 1 + k) e0) w)
        generalize endsE scope (L.getD (m + 1 + k) e0) = eb at *
        generalize L.getD (m + 1 + k) e0 = y at *
        obtain ⟨yi, ys, yn⟩ := y
        unfold entV at D1
        dsimp only at *
        have BX := hide (hbw.alloc hbw.size (Obj.cells #[.int .i64 yi, .int .i64 ys, .string yn] 42))
        clear hkl hbw
        cases eb with
        | true =>
          have HX : Hid ((L.drop (m + 1)).any (endsE scope) = true) := hide (by rw [unhide HE]; rfl)
          go_wp2_with fail
          refine (unhide D1 _).mono ?_
          rintro r w2 ⟨rfl, hb2⟩
          have B2 := hide ((unhide BX).trans (hb2.mono (unhide BX).size))
          clear hb2
          go_wp2
          go_ret
          exact ⟨by rw [unhide HX]; rfl, unhide B2⟩
        | false =>
          have HX : Hid ((L.drop (m + 1)).any (endsE scope) = (L.drop (m + 1 + (k + 1))).any (endsE scope)) := hide (by rw [unhide HE]; rfl)
          go_wp2_with fail
          refine (unhide D1 _).mono ?_
          rintro r w2 ⟨rfl, hb2⟩
          have B2 := hide ((unhide BX).trans (hb2.mono (unhide BX).size))
          clear hb2
          go_wp2
          go_roundw
          case rel => exact ⟨k + 1, by omega, by go_num, unhide B2, unhide HX⟩
          case measure => simp [intOf]; omega
      · have hlti : ¬ (k : Int) < ((n - (m + 1) : Nat) : Int) := by omega
        have HX : Hid ((L.drop (m + 1)).any (endsE scope) = false) := hide ((unhide HR).trans (by rw [List.drop_eq_nil_of_le (by rw [unhide hn]; omega)]; rfl))
        clear hlt hbw
        go_wp2
        go_ret
        exact ⟨by rw [unhide HX]; rfl, unhide HW⟩

set_option maxHeartbeats 1000000 in
theorem rin_neg (base p : Nat) (v : Value) (scope : Int) (nv : Value) (ns : List (List UInt8)) (L : List Ent) (w : World) (h : RStk base p v L w) (hv : View w nv (Ls ns)) (hm : lastN ns L 0 (-1) < 0) :
    Calls Try.prog 19 #[ptr p, .int .i64 scope, nv] w fun e w' => e = .returned (.bool false) ∧ Below w.heap.size w w' := by
  have C := hide (rlast_any base p _ nv ns L w h hv)
  obtain ⟨_, nq, nc, rfl, _⟩ := hv
  clear h
  generalize lastN ns L 0 (-1) = x at *
  unfold ptr at *
  go_enter Try.func19, Try.ntmps19
  go_wp2_with fail
  refine (unhide C).mono ?_
  rintro e w1 ⟨rfl, hb⟩
  have HB := hide hb
  clear hb
  go_wp2
  go_ret
  exact ⟨rfl, unhide HB⟩
/-- The reference's In is the program's. -/
theorem rin_any (base p : Nat) (v : Value) (scope : Int) (nv : Value) (ns : List (List UInt8)) (L : List Ent) (w : World) (h : RStk base p v L w) (hN : L.length ≤ 1000000) (hv : View w nv (Ls ns)) :
    Calls Try.prog 19 #[ptr p, .int .i64 scope, nv] w fun e w' => e = .returned (.bool (inS scope ns L)) ∧ Below w.heap.size w w' := by
  have hb := lastN_lt ns L
  rw [← inN_eq]
  unfold inN
  by_cases hm : lastN ns L 0 (-1) < 0
  · rw [if_pos hm]
    exact rin_neg base p v scope nv ns L w h hv hm
  · rw [if_neg hm]
    obtain ⟨m, hm'⟩ := Int.eq_ofNat_of_zero_le (Int.not_lt.1 hm)
    rw [hm', show ((m : Int) + 1).toNat = m + 1 by omega]
    obtain ⟨q, cap, rfl, hc, hm2, hg⟩ := h.slice
    obtain ⟨g, rfl, _⟩ := hg (by omega)
    exact rin_pos g cap p base scope nv ns L L.length m w (hide rfl) (by omega) hN hc hm2 h hv hm' (by omega)
end Go.Proofs.Ytdkjdomacilagaa
