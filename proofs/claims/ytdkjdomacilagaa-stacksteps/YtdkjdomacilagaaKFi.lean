/-
  What a stack's To, Find, Remove and In do.
-/
import Derived.Test.YtdkjdomacilagaaKTw
namespace Go.Proofs.Ytdkjdomacilagaa
open Go.RowKit
set_option linter.unusedVariables false

theorem findR_app (id : Int) (a : List Ent) (x : Ent) : findE id (a ++ [x]) = if x.id = id then (a.length : Int) else findE id a := by
  unfold findE
  rw [List.reverse_append, List.reverse_singleton, List.singleton_append, findR, List.length_append, List.length_singleton]
  have e : (((a.length + 1 : Nat) : Int) - 1) = (a.length : Int) := by omega
  rw [e]
theorem findE_nil (id : Int) : findE id [] = -1 := rfl
theorem findE_lt (id : Int) (L : List Ent) : findE id L < L.length ∧ -1 ≤ findE id L := by
  induction h : L.length generalizing L with
  | zero => obtain rfl := List.eq_nil_of_length_eq_zero h; rw [findE_nil]; omega
  | succ n ih =>
    obtain ⟨a, x, rfl⟩ := snoc_of L (by omega)
    rw [findR_app]
    have hl : a.length = n := by simp at h; exact h
    have := ih a hl
    split <;> omega
theorem inS_snoc (scope : Int) (ns : List (List UInt8)) (a : List Ent) (x : Ent) : inS scope ns (a ++ [x]) = if nmdB x ns then true else if endsE scope x then false else inS scope ns a := by
  unfold inS
  rw [List.reverse_append, List.reverse_singleton, List.singleton_append, inR]
theorem take_snoc2 (L : List Ent) (k : Nat) (h : k < L.length) : L.take (L.length - k) = L.take (L.length - (k + 1)) ++ [L.getD (L.length - 1 - k) e0] := by
  have hl : L.length - (k + 1) < L.length := by omega
  rw [show L.length - k = (L.length - (k + 1)) + 1 by omega, List.take_add_one, List.getElem?_eq_getElem hl, show L.length - 1 - k = L.length - (k + 1) by omega, getD_get hl]
  rfl

set_option maxHeartbeats 2000000 in
theorem find_loop (g cap p : Nat) (id : Int) (L : List Ent) (n : Nat) (w : World) (hn : Hid (L.length = n)) (h0 : 0 < n) (hn2 : n ≤ 9223372036854775807) (hb : Blk w p #[.slice (some ⟨g, 0, none⟩) n cap] 85) (hc : Cells3 g 0 L w) :
    Calls Try.prog 14 #[ptr p, .int .i64 id] w fun e w' => e = .returned (.int .i64 (findE id L)) ∧ w' = w := by
  have C := hide (entries_at p _ w hb ⟨_, _, _, rfl⟩)
  have HC := hide hc
  clear hb hc
  unfold ptr at *
  go_enter Try.func14, Try.ntmps14
  go_wp2_with fail
  refine (unhide C).mono ?_
  rintro e w1 ⟨rfl, hw1⟩
  obtain rfl : w = w1 := hw1.symm
  go_wp2
  go_loopw [12] (fun i wr => ∃ k : Nat, k ≤ n ∧ i = .int .i64 k ∧ wr = w ∧ findE id L = findE id (L.take (L.length - k))) (fun i _ => n - (intOf i).toNat)
  case atStart => exact ⟨0, Nat.zero_le _, rfl, rfl, by simp⟩
  case round =>
    obtain ⟨k, hk, rfl, hw, hr⟩ := hrel
    obtain rfl : wr = w := hw
    have HR := hide hr
    clear hr
    by_cases hlt : k < n
    · have hlti : (k : Int) < (n : Int) := by omega
      have hkl : k < L.length := by rw [unhide hn]; exact hlt
      have ht := take_snoc2 L k hkl
      obtain ⟨c1, _, _⟩ := unhide HC (n - 1 - k) (by rw [unhide hn]; omega)
      rw [unhide hn] at ht
      generalize hx : L.getD (n - 1 - k) e0 = x at *
      have ha : (L.take (n - (k + 1))).length = n - (k + 1) := by rw [List.length_take, unhide hn]; omega
      have e3 := findR_app id (L.take (n - (k + 1))) x
      have HE : Hid (findE id L = if x.id = id then ((n - (k + 1) : Nat) : Int) else findE id (L.take (n - (k + 1)))) := hide (by
        have := unhide HR
        rw [unhide hn, ht, e3, ha] at this
        exact this)
      have hi1 : (0 : Int) ≤ (n : Int) - 1 - (k : Int) := by omega
      have hi2 : (n : Int) - 1 - (k : Int) < (n : Int) := by omega
      have hi3 : ((n : Int) - 1 - (k : Int)).toNat = n - 1 - k := by omega
      rw [Nat.zero_add] at c1
      generalize x.id = xid at *
      clear e3 ha ht hx hkl
      by_cases hxi : xid = id
      · have f1 : (xid == id) = true := by simp [hxi]
        have HX : Hid (findE id L = (n : Int) - 1 - (k : Int)) := hide (by rw [unhide HE, if_pos hxi]; omega)
        clear hxi
        go_wp2
        go_ret
        exact ⟨by rw [unhide HX]; rfl, rfl⟩
      · have f1 : (xid == id) = false := beq_eq_false_iff_ne.2 hxi
        have HX : Hid (findE id L = findE id (L.take (n - (k + 1)))) := hide (by rw [unhide HE, if_neg hxi])
        clear hxi
        go_wp2
        go_roundw
        case rel => exact ⟨k + 1, by omega, by go_num, by simp, by rw [unhide hn]; exact unhide HX⟩
        case measure => simp [intOf]; omega
    · have hlti : ¬ (k : Int) < (n : Int) := by omega
      have HX : Hid (findE id L = -1) := hide (by
        have := unhide HR
        rw [unhide hn, show n - k = 0 by omega, List.take_zero, findE_nil] at this
        exact this)
      clear hlt
      go_wp2
      go_ret
      exact ⟨by rw [unhide HX]; rfl, rfl⟩
theorem find_none (q : Value) (c : Option Addr) (cap : Nat) (id : Int) (w : World) (hq : Hid (Calls Try.prog 51 #[q] w fun e w' => e = .returned (.slice c 0 cap) ∧ w' = w)) :
    Calls Try.prog 14 #[q, .int .i64 id] w fun e w' => e = .returned (.int .i64 (-1)) ∧ w' = w := by
  go_enter Try.func14, Try.ntmps14
  go_wp2_with fail
  refine (unhide hq).mono ?_
  rintro e w1 ⟨rfl, hw1⟩
  obtain rfl : w = w1 := hw1.symm
  go_wp2
  refine wp_loop_rounds 1 ?_
  rw [rounds_succ]; go_wp2
  go_ret
  exact ⟨rfl, rfl⟩
theorem find_any (base p : Nat) (v : Value) (id : Int) (L : List Ent) (w : World) (h : Stk base p v L w) :
    Calls Try.prog 14 #[ptr p, .int .i64 id] w fun e w' => e = .returned (.int .i64 (findE id L)) ∧ w' = w := by
  obtain ⟨q, cap, rfl, hc, hm, hg⟩ := h.slice
  by_cases h0 : L.length = 0
  · obtain rfl := List.eq_nil_of_length_eq_zero h0
    rw [findE_nil]
    exact find_none (ptr p) q cap id w (hide (entries_at p _ w h.1 ⟨_, _, _, rfl⟩))
  · obtain ⟨g, rfl, _⟩ := hg (by omega)
    exact find_loop g cap p id L L.length w (hide rfl) (by omega) (by omega) h.1 h.cells
theorem find_nil (id : Int) (w : World) : Calls Try.prog 14 #[.pointer none, .int .i64 id] w fun e w' => e = .returned (.int .i64 (-1)) ∧ w' = w :=
  find_none _ none 0 id w (hide (entries_nil w))

set_option maxHeartbeats 1000000 in
theorem remove_any (base p : Nat) (v : Value) (id : Int) (L : List Ent) (w : World) (h : Stk base p v L w) :
    Calls Try.prog 48 #[ptr p, .int .i64 id] w fun e w' => e = .returned (.bool (decide (0 ≤ findE id L))) ∧ Upd base p v (if 0 ≤ findE id L then L.eraseIdx (findE id L).toNat else L) w w' := by
  have C := hide (find_any base p v id L w h)
  have hlt := findE_lt id L
  by_cases h0 : 0 ≤ findE id L
  · rw [if_pos h0, decide_eq_true h0]
    have D := hide (takeOut_any base p (findE id L).toNat v L w h (by omega))
    have e : ((findE id L).toNat : Int) = findE id L := by omega
    rw [e] at D
    generalize findE id L = k at *
    have h1 : ¬ k < 0 := by omega
    clear e h
    unfold ptr at *
    go_enter Try.func48, Try.ntmps48
    go_wp2_with fail
    refine (unhide C).mono ?_
    rintro e w1 ⟨rfl, hw1⟩
    obtain rfl : w = w1 := hw1.symm
    go_wp2_with fail
    refine (unhide D).mono ?_
    rintro e w1 ⟨rfl, hu⟩
    go_wp2
    go_ret
    exact ⟨rfl, hu⟩
  · rw [if_neg h0, decide_eq_false h0]
    have H := hide h
    generalize findE id L = k at *
    have h1 : k < 0 := by omega
    clear h
    unfold ptr at *
    go_enter Try.func48, Try.ntmps48
    go_wp2_with fail
    refine (unhide C).mono ?_
    rintro e w1 ⟨rfl, hw1⟩
    obtain rfl : w = w1 := hw1.symm
    go_wp2
    go_ret
    exact ⟨rfl, Upd.same (unhide H) (Below.refl _ _)⟩
theorem remove_nil (id : Int) (w : World) : Calls Try.prog 48 #[.pointer none, .int .i64 id] w fun e w' => e = .returned (.bool false) ∧ w' = w := by
  have C := hide (find_nil id w)
  go_enter Try.func48, Try.ntmps48
  go_wp2_with fail
  refine (unhide C).mono ?_
  rintro e w1 ⟨rfl, hw1⟩
  obtain rfl : w = w1 := hw1.symm
  go_wp2
  go_ret
  exact ⟨rfl, rfl⟩

/-! ### In -/
set_option maxHeartbeats 2000000 in
theorem in_loopS (g cap p : Nat) (scope : Int) (nv : Value) (ns : List (List UInt8)) (L : List Ent) (n : Nat) (w : World) (hn : Hid (L.length = n)) (h0 : 0 < n) (hn2 : n ≤ 9223372036854775807) (hb : Blk w p #[.slice (some ⟨g, 0, none⟩) n cap] 85) (hc : Cells3 g 0 L w) (hv : View w nv (Ls ns)) :
    Calls Try.prog 18 #[ptr p, .int .i64 scope, nv] w fun e w' => e = .returned (.bool (inS scope ns L)) ∧ Below w.heap.size w w' := by
  have C := hide (entries_at p _ w hb ⟨_, _, _, rfl⟩)
  have HC := hide hc
  have HV := hide hv
  have CN := hide (fun e w h => named_any e nv ns w h)
  have CE := hide (fun e w => ends_e scope e w)
  obtain ⟨_, nq, ncap, rfl, _⟩ := hv
  clear hb hc
  unfold ptr at *
  go_enter Try.func18, Try.ntmps18
  go_wp2_with fail
  refine (unhide C).mono ?_
  rintro e w1 ⟨rfl, hw1⟩
  obtain rfl : w = w1 := hw1.symm
  go_wp2
  go_loopw [14] (fun i wr => ∃ k : Nat, k ≤ n ∧ i = .int .i64 k ∧ Below w.heap.size w wr ∧ inS scope ns L = inS scope ns (L.take (L.length - k))) (fun i _ => n - (intOf i).toNat)
  case atStart => exact ⟨0, Nat.zero_le _, rfl, Below.refl _ _, by simp⟩
  case round =>
    obtain ⟨k, hk, rfl, hbw, hr⟩ := hrel
    have HR := hide hr
    have HB := hide hbw
    clear hr
    by_cases hlt : k < n
    · have hlti : (k : Int) < (n : Int) := by omega
      have hkl : k < L.length := by rw [unhide hn]; exact hlt
      have ht := take_snoc2 L k hkl
      obtain ⟨c1, c2, c3⟩ := (unhide HC).below hbw (n - 1 - k) (by rw [unhide hn]; omega)
      rw [unhide hn] at ht
      generalize hx : L.getD (n - 1 - k) e0 = x at *
      have HE : Hid (inS scope ns L = if nmdB x ns then true else if endsE scope x then false else inS scope ns (L.take (n - (k + 1)))) := hide (by
        have := unhide HR
        rw [unhide hn, ht, inS_snoc] at this
        exact this)
      have hi1 : (0 : Int) ≤ (n : Int) - 1 - (k : Int) := by omega
      have hi2 : (n : Int) - 1 - (k : Int) < (n : Int) := by omega
      have hi3 : ((n : Int) - 1 - (k : Int)).toNat = n - 1 - k := by omega
      rw [Nat.zero_add] at c1 c2 c3
      have CN1 := hide (fun w h => unhide CN x w h)
      have CE1 := hide (fun w => unhide CE x w)
      generalize nmdB x ns = bn at *
      generalize endsE scope x = be at *
      obtain ⟨xi, xs, xn⟩ := x
      unfold entV at CN1 CE1
      dsimp only at *
      have bx : Below wr.heap.size wr (wr.alloc (Obj.cells #[.int .i64 xi, .int .i64 xs, .string xn] 32)) := (Below.refl _ _).alloc (Nat.le_refl _) _
      have BX := hide (tr2 hbw bx)
      clear ht hx hkl bx hbw
      cases bn with
      | true =>
        have HX : Hid (inS scope ns L = true) := hide (by rw [unhide HE]; rfl)
        go_wp2_with fail
        refine (unhide CN1 _ (view_below (unhide HV) (unhide BX))).mono ?_
        rintro r w2 ⟨rfl, hb2⟩
        go_wp2
        go_ret
        exact ⟨by rw [unhide HX]; rfl, tr2 (unhide BX) hb2⟩
      | false =>
        go_wp2_with fail
        refine (unhide CN1 _ (view_below (unhide HV) (unhide BX))).mono ?_
        rintro r w2 ⟨rfl, hb2⟩
        have kB : Blk w2 wr.heap.size #[.int .i64 xi, .int .i64 xs, .string xn] 32 := (Blk.new wr _ _).later hb2
        have d0 : w2.cell? ⟨wr.heap.size, 0, none⟩ = some (.int .i64 xi) := kB.cell 0
        have d1 : w2.cell? ⟨wr.heap.size, 1, none⟩ = some (.int .i64 xs) := kB.cell 1
        have d2 : w2.cell? ⟨wr.heap.size, 2, none⟩ = some (.string xn) := kB.cell 2
        have B2 := hide (tr2 (unhide BX) hb2)
        clear kB hb2
        cases be with
        | true =>
          have HX : Hid (inS scope ns L = false) := hide (by rw [unhide HE]; rfl)
          go_wp2_with fail
          refine (unhide CE1 _).mono ?_
          rintro r w3 ⟨rfl, hb3⟩
          go_wp2
          go_ret
          exact ⟨by rw [unhide HX]; rfl, tr2 (unhide B2) hb3⟩
        | false =>
          have HX : Hid (inS scope ns L = inS scope ns (L.take (n - (k + 1)))) := hide (by rw [unhide HE]; rfl)
          go_wp2_with fail
          refine (unhide CE1 _).mono ?_
          rintro r w3 ⟨rfl, hb3⟩
          go_wp2
          go_roundw
          case rel => exact ⟨k + 1, by omega, by go_num, tr2 (unhide B2) hb3, by rw [unhide hn]; exact unhide HX⟩
          case measure => simp [intOf]; omega
    · have hlti : ¬ (k : Int) < (n : Int) := by omega
      have HX : Hid (inS scope ns L = false) := hide (by
        have := unhide HR
        rw [unhide hn, show n - k = 0 by omega, List.take_zero] at this
        exact this)
      clear hlt hbw
      go_wp2
      go_ret
      exact ⟨by rw [unhide HX]; rfl, unhide HB⟩
theorem inS_none (q nv : Value) (c : Option Addr) (cap : Nat) (scope : Int) (w : World) (hs : ∃ a n c, nv = .slice a n c) (hq : Hid (Calls Try.prog 51 #[q] w fun e w' => e = .returned (.slice c 0 cap) ∧ w' = w)) :
    Calls Try.prog 18 #[q, .int .i64 scope, nv] w fun e w' => e = .returned (.bool false) ∧ w' = w := by
  obtain ⟨a, n, c', rfl⟩ := hs
  go_enter Try.func18, Try.ntmps18
  go_wp2_with fail
  refine (unhide hq).mono ?_
  rintro e w1 ⟨rfl, hw1⟩
  obtain rfl : w = w1 := hw1.symm
  go_wp2
  refine wp_loop_rounds 1 ?_
  rw [rounds_succ]; go_wp2
  go_ret
  exact ⟨rfl, rfl⟩
theorem in_s (base p : Nat) (v nv : Value) (scope : Int) (ns : List (List UInt8)) (L : List Ent) (w : World) (h : Stk base p v L w) (hv : View w nv (Ls ns)) :
    Calls Try.prog 18 #[ptr p, .int .i64 scope, nv] w fun e w' => e = .returned (.bool (inS scope ns L)) ∧ Below w.heap.size w w' := by
  obtain ⟨q, cap, rfl, hc, hm, hg⟩ := h.slice
  by_cases h0 : L.length = 0
  · obtain rfl := List.eq_nil_of_length_eq_zero h0
    have : inS scope ns [] = false := rfl
    rw [this]
    obtain ⟨_, a, c, rfl, _⟩ := hv
    refine (inS_none (ptr p) _ q cap scope w ⟨_, _, _, rfl⟩ (hide (entries_at p _ w h.1 ⟨_, _, _, rfl⟩))).mono ?_
    rintro e w1 ⟨rfl, rfl⟩
    exact ⟨rfl, Below.refl _ _⟩
  · obtain ⟨g, rfl, _⟩ := hg (by omega)
    exact in_loopS g cap p scope nv ns L L.length w (hide rfl) (by omega) (by omega) h.1 h.cells hv
theorem inS_nil (nv : Value) (scope : Int) (w : World) (hs : ∃ a n c, nv = .slice a n c) : Calls Try.prog 18 #[.pointer none, .int .i64 scope, nv] w fun e w' => e = .returned (.bool false) ∧ w' = w :=
  inS_none _ nv none 0 scope w hs (hide (entries_nil w))
end Go.Proofs.Ytdkjdomacilagaa
