/-
  What the reference's Is, Find and last do.
-/
import Derived.Test.YtdkjdomacilagaaRPl
namespace Go.Proofs.Ytdkjdomacilagaa
open Go.RowKit
set_option linter.unusedVariables false
set_option linter.unusedSimpArgs false


set_option maxHeartbeats 1000000 in
theorem ris_any (e : Ent) (v : Value) (ns : List (List UInt8)) (w : World) (hv : View w v (Ls ns)) :
    Calls Try.prog 86 #[entV e, v] w fun r w' => r = .returned (.bool (nmdB e ns)) ∧ Below w.heap.size w w' := by
  obtain ⟨id, sp, nm⟩ := e
  have C := hide (in_any nm v ns (w.alloc (Obj.cells #[.int .i64 id, .int .i64 sp, .string nm] 42)) (view_alloc hv _))
  unfold nmdB entV
  dsimp only
  generalize inB nm.toList ns = b at *
  obtain ⟨_, a, cap, rfl, _⟩ := hv
  by_cases h0 : sp = 0
  · subst h0
    go_enter Try.func86, Try.ntmps86
    go_wp2_with fail
    refine (unhide C).mono ?_
    rintro r w1 ⟨rfl, hb⟩
    go_wp2
    go_ret
    exact ⟨rfl, bel_of hb⟩
  · have h1 : (sp == 0) = false := beq_eq_false_iff_ne.2 h0
    rw [h1, Bool.false_and]
    go_enter Try.func86, Try.ntmps86
    go_wp2
    go_ret
    exact ⟨rfl, (Below.refl _ _).alloc (Nat.le_refl _) _⟩
/-- The last place of an entry that is named so; -1: none. -/
def lastN (ns : List (List UInt8)) : List Ent → Nat → Int → Int
  | [], _, a => a
  | e :: r, i, a => lastN ns r (i + 1) (if nmdB e ns then (i : Int) else a)
def findN (id : Int) : List Ent → Nat → Int → Int
  | [], _, a => a
  | e :: r, i, a => findN id r (i + 1) (if e.id = id then (i : Int) else a)
theorem lastN_step (ns : List (List UInt8)) (L : List Ent) (k : Nat) (a : Int) (h : k < L.length) : lastN ns (L.drop k) k a = lastN ns (L.drop (k + 1)) (k + 1) (if nmdB (L.getD k e0) ns then (k : Int) else a) := by
  rw [List.drop_eq_getElem_cons h, getD_get h, lastN]
theorem findN_step (id : Int) (L : List Ent) (k : Nat) (a : Int) (h : k < L.length) : findN id (L.drop k) k a = findN id (L.drop (k + 1)) (k + 1) (if (L.getD k e0).id = id then (k : Int) else a) := by
  rw [List.drop_eq_getElem_cons h, getD_get h, findN]

set_option maxHeartbeats 2000000 in
theorem rfind_loop (g cap p : Nat) (id : Int) (L : List Ent) (n : Nat) (w : World) (hn : Hid (L.length = n)) (h0 : 0 < n) (hn2 : n ≤ 9223372036854775807) (hb : Blk w p #[.slice (some ⟨g, 0, none⟩) n cap] 30) (hc : Cells3 g 0 L w) :
    Calls Try.prog 15 #[ptr p, .int .i64 id] w fun e w' => e = .returned (.int .i64 (findN id L 0 (-1))) ∧ Below w.heap.size w w' := by
  have c0 : w.cell? ⟨p, 0, none⟩ = some (.slice (some ⟨g, 0, none⟩) n cap) := hb.cell 0
  have HC := hide hc
  clear hb hc
  unfold ptr
  go_enter Try.func15, Try.ntmps15
  go_wp2
  go_loopw [5, 13] (fun a i wr => ∃ (k : Nat) (x : Int), k ≤ n ∧ i = .int .i64 k ∧ a = .int .i64 x ∧ Below w.heap.size w wr ∧ findN id L 0 (-1) = findN id (L.drop k) k x) (fun _ i _ => n - (intOf i).toNat)
  case atStart => exact ⟨0, -1, Nat.zero_le _, rfl, rfl, Below.refl _ _, by simp⟩
  case round =>
    obtain ⟨k, x, hk, rfl, rfl, hbw, hr⟩ := hrel
    have HR := hide hr
    have HB := hide hbw
    clear hr
    by_cases hlt : k < n
    · have hlti : (k : Int) < (n : Int) := by omega
      have hkl : k < L.length := by rw [unhide hn]; exact hlt
      obtain ⟨c1, c2, c3⟩ := (unhide HC).below hbw k hkl
      have HE := hide ((unhide HR).trans (findN_step id L k x hkl))
      rw [Nat.zero_add] at c1 c2 c3
      generalize L.getD k e0 = y at *
      obtain ⟨yi, ys, yn⟩ := y
      dsimp only at *
      clear hkl hbw
      by_cases hxi : yi = id
      · have f1 : (yi == id) = true := by simp [hxi]
        have HX : Hid (findN id L 0 (-1) = findN id (L.drop (k + 1)) (k + 1) (k : Int)) := hide (by rw [unhide HE, if_pos hxi])
        clear hxi
        go_wp2
        go_roundw
        case rel => exact ⟨k + 1, k, by omega, by go_num, rfl, (unhide HB).alloc (unhide HB).size _, unhide HX⟩
        case measure => simp [intOf]; omega
      · have f1 : (yi == id) = false := beq_eq_false_iff_ne.2 hxi
        have HX : Hid (findN id L 0 (-1) = findN id (L.drop (k + 1)) (k + 1) x) := hide (by rw [unhide HE, if_neg hxi])
        go_wp2
        go_roundw
        case rel => exact ⟨k + 1, x, by omega, by go_num, rfl, (unhide HB).alloc (unhide HB).size _, unhide HX⟩
        case measure => simp [intOf]; omega
    · have hlti : ¬ (k : Int) < (n : Int) := by omega
      have HX : Hid (findN id L 0 (-1) = x) := hide (by
        have := unhide HR
        rw [List.drop_eq_nil_of_le (by rw [unhide hn]; omega), findN] at this
        exact this)
      clear hlt hbw
      go_wp2
      go_ret
      exact ⟨by rw [unhide HX]; rfl, unhide HB⟩

set_option maxHeartbeats 2000000 in
theorem rlast_loop (g cap p : Nat) (nv : Value) (ns : List (List UInt8)) (L : List Ent) (n : Nat) (w : World) (hn : Hid (L.length = n)) (h0 : 0 < n) (hn2 : n ≤ 9223372036854775807) (hb : Blk w p #[.slice (some ⟨g, 0, none⟩) n cap] 30) (hc : Cells3 g 0 L w) (hv : View w nv (Ls ns)) :
    Calls Try.prog 54 #[ptr p, nv] w fun e w' => e = .returned (.int .i64 (lastN ns L 0 (-1))) ∧ Below w.heap.size w w' := by
  have c0 : w.cell? ⟨p, 0, none⟩ = some (.slice (some ⟨g, 0, none⟩) n cap) := hb.cell 0
  have HC := hide hc
  have HV := hide hv
  have CI := hide (fun e w h => ris_any e nv ns w h)
  obtain ⟨_, nq, nc, rfl, _⟩ := hv
  clear hb hc
  unfold ptr
  go_enter Try.func54, Try.ntmps54
  go_wp2
  go_loopw [5, 13] (fun a i wr => ∃ (k : Nat) (x : Int), k ≤ n ∧ i = .int .i64 k ∧ a = .int .i64 x ∧ Below w.heap.size w wr ∧ lastN ns L 0 (-1) = lastN ns (L.drop k) k x) (fun _ i _ => n - (intOf i).toNat)
  case atStart => exact ⟨0, -1, Nat.zero_le _, rfl, rfl, Below.refl _ _, by simp⟩
  case round =>
    obtain ⟨k, x, hk, rfl, rfl, hbw, hr⟩ := hrel
    have HR := hide hr
    have HB := hide hbw
    clear hr
    by_cases hlt : k < n
    · have hlti : (k : Int) < (n : Int) := by omega
      have hkl : k < L.length := by rw [unhide hn]; exact hlt
      obtain ⟨c1, c2, c3⟩ := (unhide HC).below hbw k hkl
      have HE := hide ((unhide HR).trans (lastN_step ns L k x hkl))
      rw [Nat.zero_add] at c1 c2 c3
      have CI1 := hide (fun w h => unhide CI (L.getD k e0) w h)
      generalize nmdB (L.getD k e0) ns = nb at *
      generalize L.getD k e0 = y at *
      obtain ⟨yi, ys, yn⟩ := y
      unfold entV at CI1
      dsimp only at *
      have BX := hide (hbw.alloc hbw.size (Obj.cells #[.int .i64 yi, .int .i64 ys, .string yn] 42))
      clear hkl hbw
      cases nb with
      | true =>
        have HX : Hid (lastN ns L 0 (-1) = lastN ns (L.drop (k + 1)) (k + 1) (k : Int)) := hide (by rw [unhide HE]; simp)
        go_wp2_with fail
        refine (unhide CI1 _ (view_below (unhide HV) (unhide BX))).mono ?_
        rintro r w2 ⟨rfl, hb2⟩
        have B2 := hide ((unhide BX).trans (hb2.mono (unhide BX).size))
        clear hb2
        go_wp2
        go_roundw
        case rel => exact ⟨k + 1, k, by omega, by go_num, rfl, unhide B2, unhide HX⟩
        case measure => simp [intOf]; omega
      | false =>
        have HX : Hid (lastN ns L 0 (-1) = lastN ns (L.drop (k + 1)) (k + 1) x) := hide (by rw [unhide HE]; simp)
        go_wp2_with fail
        refine (unhide CI1 _ (view_below (unhide HV) (unhide BX))).mono ?_
        rintro r w2 ⟨rfl, hb2⟩
        have B2 := hide ((unhide BX).trans (hb2.mono (unhide BX).size))
        clear hb2
        go_wp2
        go_roundw
        case rel => exact ⟨k + 1, x, by omega, by go_num, rfl, unhide B2, unhide HX⟩
        case measure => simp [intOf]; omega
    · have hlti : ¬ (k : Int) < (n : Int) := by omega
      have HX : Hid (lastN ns L 0 (-1) = x) := hide (by
        have := unhide HR
        rw [List.drop_eq_nil_of_le (by rw [unhide hn]; omega), lastN] at this
        exact this)
      clear hlt hbw
      go_wp2
      go_ret
      exact ⟨by rw [unhide HX]; rfl, unhide HB⟩
end Go.Proofs.Ytdkjdomacilagaa
