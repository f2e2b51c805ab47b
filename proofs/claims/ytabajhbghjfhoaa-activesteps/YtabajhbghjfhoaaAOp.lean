/-
  What a list's entries, New, takeOut, last, room and element do.
-/
import Derived.Test.YtabajhbghjfhoaaAPl
import Derived.Laws.EntriesVeiled
namespace Go.Proofs.Ytabajhbghjfhoaa
open Go.RowKit
set_option linter.unusedVariables false
set_option linter.unusedSimpArgs false

def ptr (p : Nat) : Value := .pointer (some ⟨p, 0, none⟩)

theorem entries_at (p : Nat) (v : Value) (w : World) (h : Blk w p #[v] 94) (hs : ∃ q n c, v = .slice q n c) :
    Calls Try.prog 67 #[ptr p] w fun e w' => e = .returned v ∧ w' = w := by
  have c0 : w.cell? ⟨p, 0, none⟩ = some v := h.cell 0
  obtain ⟨q, n, c, rfl⟩ := hs
  clear h
  unfold ptr
  go_enter Try.func67, Try.ntmps67
  go_wp2
  go_ret
  exact ⟨rfl, rfl⟩
theorem entries_nil (w : World) : Calls Try.prog 67 #[.pointer none] w fun e w' => e = .returned (.slice none 0 0) ∧ w' = w := by
  go_enter Try.func67, Try.ntmps67
  go_wp2
  go_ret
  exact ⟨rfl, rfl⟩
theorem new_any (base : Nat) (w : World) (hb : base ≤ w.heap.size) : Calls Try.prog 20 #[] w fun e w' => e = .returned (ptr w.heap.size) ∧ Stk base w.heap.size (.slice none 0 0) [] w' ∧ Below w.heap.size w w' := by
  go_enter Try.func20, Try.ntmps20
  go_wp2
  go_ret
  exact ⟨rfl, ⟨Blk.new w _ _, World.ownsRow_nil _ _ _ _, by simp [Value.ownBlock]⟩, (Below.refl _ _).alloc (Nat.le_refl _) _⟩

theorem ownsRow_away {w : World} {base p o : Nat} {e : TypeId} {size n : Nat} {v : Value} {xs : List Value} (h : w.ownsRow base e size v n xs) (hp : v.ownBlock ≠ some p) (u : Value) : (w.setCell ⟨p, o, none⟩ u).ownsRow base e size v n xs := by
  refine ⟨h.1, ?_⟩
  rcases h.2 with hn | ⟨g, cap, cur, rfl, hb, hgg, rest⟩
  · exact .inl hn
  · exact .inr ⟨g, cap, cur, rfl, hb, (Below.heap_setCell w ⟨p, o, none⟩ u g (by simpa [Value.ownBlock] using hp)).trans hgg, rest⟩
theorem Tch.of_grown {w w' : World} {p : Nat} {o : Option Nat} (h : w.grownBy w' o) : Tch p o w w' := ⟨h.os, h.tape, h.output, h.size, fun k hk _ ho => h.block k hk ho⟩
theorem Tch.set {w w' : World} {p : Nat} {o : Option Nat} (h : Tch p o w w') (j : Nat) (u : Value) : Tch p o w (w'.setCell ⟨p, j, none⟩ u) :=
  ⟨h.os, h.tape, h.output, by simp [World.setCell]; exact h.size, fun k hk h1 h2 => (Below.heap_setCell w' ⟨p, j, none⟩ u k h1).trans (h.block k hk h1 h2)⟩
theorem erase_at (L : List AEnt) (i : Nat) (h : i < L.length) : flatE (L.eraseIdx i) = (flatE L).take (i * 4) ++ (flatE L).drop ((i + 1) * 4) := by
  rw [List.eraseIdx_eq_take_drop_succ, flatE_app, flatE_take L i (by omega), flatE_drop L (i + 1) (by omega)]

set_option maxHeartbeats 1000000 in
theorem takeOut_any (base p i : Nat) (v : Value) (L : List AEnt) (w : World) (h : Stk base p v L w) (hi : i < L.length) :
    Calls Try.prog 77 #[ptr p, .int .i64 (i : Int)] w fun e w' => e = .returned (.tuple #[]) ∧ Upd base p v (L.eraseIdx i) w w' := by
  obtain ⟨q, cap, rfl, hc, hm, hg⟩ := h.slice
  obtain ⟨g, rfl, hgl⟩ := hg (by omega)
  have c0 : w.cell? ⟨p, 0, none⟩ = some (.slice (some ⟨g, 0, none⟩) L.length cap) := h.1.cell 0
  have hgp : g ≠ p := by have := h.2.2; simpa [Value.ownBlock] using this
  have C := hide (adel_any base g L.length cap i (flatE L) w h.2.1 (flatE_one L) hi)
  have H := hide h
  have hii : (i : Int) + 1 ≤ 9223372036854775807 := by omega
  have hil : (L.eraseIdx i).length = L.length - 1 := by rw [List.length_eraseIdx, if_pos hi]
  have HI := hide hil
  have HF := hide (erase_at L i hi)
  clear h hil
  unfold ptr
  go_enter Try.func77, Try.ntmps77
  go_wp2_with fail
  refine (unhide C).mono ?_
  rintro e w1 ⟨rfl, hown, hgr⟩
  have kb : Blk w1 p #[.slice (some ⟨g, 0, none⟩) L.length cap] 94 := (hgr.block p (unhide H).1.lt (by simpa using fun e => hgp e.symm)).trans (unhide H).1
  have d0 : w1.cell? ⟨p, 0, none⟩ = some (.slice (some ⟨g, 0, none⟩) L.length cap) := kb.cell 0
  have f0 : w1.frozen? ⟨p, 0, none⟩ = false := kb.frozen 0
  go_wp2
  refine bodyPost_end (v := .tuple #[]) (results_none Try.results77 _ _ _) rfl ?_
  refine ⟨rfl, .slice (some ⟨g, 0, none⟩) (L.length - 1) cap, ⟨kb.set 0 (by simp) _, ?_, by simpa [Value.ownBlock] using hgp⟩, ?_, fun k hk => Or.inl hk⟩
  · rw [unhide HI, unhide HF]
    refine ownsRow_away hown (by simpa [Value.ownBlock] using hgp) _
  · exact (Tch.of_grown hgr).set _ _

/-- What an operation leaves while blocks of its own, made on the way, are written. -/
def UpdW (base p : Nat) (v : Value) (L' : List AEnt) (z : Nat) (w w' : World) : Prop :=
  ∃ v', Stk base p v' L' w' ∧ Tch p v.ownBlock w w' ∧ (∀ k, v'.ownBlock = some k → v.ownBlock = some k ∨ z ≤ k)
theorem UpdW.out {base p z : Nat} {v : Value} {L : List AEnt} {w w' : World} (h : UpdW base p v L z w w') (hz : w.heap.size ≤ z) : Upd base p v L w w' := by
  obtain ⟨v', hs, ht, ho⟩ := h
  exact ⟨v', hs, ht, fun k hk => (ho k hk).imp id (fun h => Nat.le_trans hz h)⟩
theorem Upd.open {base p : Nat} {v : Value} {L : List AEnt} {w w' w'' : World} (hb : Below w.heap.size w w') (h : Upd base p v L w' w'') : UpdW base p v L w'.heap.size w w'' := by
  obtain ⟨v', hs, ht, ho⟩ := h
  exact ⟨v', hs, ⟨ht.os.trans hb.os, ht.tape.trans hb.tape, ht.output.trans hb.output, Nat.le_trans hb.size ht.size, fun k hk h1 h2 => (ht.block k (Nat.lt_of_lt_of_le hk hb.size) h1 h2).trans (hb.block k hk)⟩, ho⟩
theorem UpdW.put {base p z B : Nat} {v : Value} {L : List AEnt} {w w' : World} (h : UpdW base p v L z w w') (hB1 : w.heap.size ≤ B) (hB2 : B < z) (hp : p < w.heap.size) (hv : ∀ k, v.ownBlock = some k → k < w.heap.size) (j : Nat) (u : Value) : UpdW base p v L z w (w'.setCell ⟨B, j, none⟩ u) := by
  obtain ⟨v', hs, ht, ho⟩ := h
  refine ⟨v', ⟨hs.1.away (by omega) _, ownsRow_away hs.2.1 (fun e => ?_) _, hs.2.2⟩, ⟨ht.os, ht.tape, ht.output, by simp [World.setCell]; exact ht.size, fun k hk h1 h2 => (Below.heap_setCell w' ⟨B, j, none⟩ u k (by simp; omega)).trans (ht.block k hk h1 h2)⟩, ho⟩
  rcases ho _ e with h | h
  · have := hv _ h; omega
  · omega
theorem Stk.own {base p : Nat} {v : Value} {L : List AEnt} {w : World} (h : Stk base p v L w) : ∀ k, v.ownBlock = some k → k < w.heap.size := fun k hk => (h.2.1.lt k hk).2
theorem Tch.blk_new {p b : Nat} {o : Option Nat} {w w' : World} {vs : Array Value} {t : TypeId} (h : Tch p o w w') (hb : Blk w b vs t) (hp : p < b) (ho : ∀ k, o = some k → k < b) : Blk w' b vs t :=
  h.blk hb (by omega) (fun e => by have := ho b e.symm; omega)


set_option maxHeartbeats 2000000 in
theorem last_mark_loop (g cap p : Nat) (f : AEnt → Bool) (L : List AEnt) (n : Nat) (w : World) (hn : Hid (L.length = n)) (h0 : 0 < n) (hn2 : n ≤ 9223372036854775807) (hb : Blk w p #[.slice (some ⟨g, 0, none⟩) n cap] 94) (hc : Cells4 g 0 L w)
    (hf : Hid (∀ x W, Below w.heap.size w W → Calls Try.prog 93 #[entV x] W fun r w' => r = .returned (.bool (f x)) ∧ Below W.heap.size W w')) :
    Calls Try.prog 65 #[ptr p, .func (.func 93) #[] #[]] w fun e w' => e = .returned (.int .i64 (lastE f L)) ∧ Below w.heap.size w w' := by
  have C := hide (entries_at p _ w hb ⟨_, _, _, rfl⟩)
  have HC := hide hc
  clear hb hc
  unfold ptr at *
  go_enter Try.func65, Try.ntmps65
  go_wp2_with fail
  refine (unhide C).mono ?_
  rintro e w1 ⟨rfl, hw1⟩
  obtain rfl : w = w1 := hw1.symm
  go_wp2
  go_loopw [12] (fun i wr => ∃ k : Nat, k ≤ n ∧ i = .int .i64 k ∧ Below w.heap.size w wr ∧ lastE f L = lastE f (L.take (L.length - k))) (fun i _ => n - (intOf i).toNat)
  case atStart => exact ⟨0, Nat.zero_le _, rfl, Below.refl _ _, by simp⟩
  case round =>
    obtain ⟨k, hk, rfl, hbw, hr⟩ := hrel
    have HR := hide hr
    have HB := hide hbw
    clear hr
    by_cases hlt : k < n
    · have hlti : (k : Int) < (n : Int) := by omega
      have hkl : k < L.length := by rw [unhide hn]; exact hlt
      have ht := take_snoc2 L k hkl
      obtain ⟨c1, c2, c3, c4⟩ := (unhide HC).below hbw (n - 1 - k) (by rw [unhide hn]; omega)
      rw [unhide hn] at ht
      generalize hx : L.getD (n - 1 - k) e0 = x at *
      have ha : (L.take (n - (k + 1))).length = n - (k + 1) := by rw [List.length_take, unhide hn]; omega
      have HE : Hid (lastE f L = if f x then ((n - (k + 1) : Nat) : Int) else lastE f (L.take (n - (k + 1)))) := hide (by
        have := unhide HR
        rw [unhide hn, ht, lastE_app, ha] at this
        exact this)
      have hi1 : (0 : Int) ≤ (n : Int) - 1 - (k : Int) := by omega
      have hi2 : (n : Int) - 1 - (k : Int) < (n : Int) := by omega
      have hi3 : ((n : Int) - 1 - (k : Int)).toNat = n - 1 - k := by omega
      rw [Nat.zero_add] at c1 c2 c3 c4
      have CF := hide (unhide hf x wr hbw)
      generalize f x = fx at *
      obtain ⟨xm, xi, xn, xq, xl, xc⟩ := x
      unfold entV at CF
      dsimp only at *
      clear ht hx hkl ha hbw
      cases fx with
      | true =>
        have HX : Hid (lastE f L = (n : Int) - 1 - (k : Int)) := hide (by rw [unhide HE]; simp; omega)
        go_wp2_with fail
        refine (unhide CF).mono ?_
        rintro r w2 ⟨rfl, hb2⟩
        go_wp2
        go_ret
        exact ⟨by rw [unhide HX]; rfl, tr2 (unhide HB) hb2⟩
      | false =>
        have HX : Hid (lastE f L = lastE f (L.take (n - (k + 1)))) := hide (by rw [unhide HE]; simp)
        go_wp2_with fail
        refine (unhide CF).mono ?_
        rintro r w2 ⟨rfl, hb2⟩
        go_wp2
        go_roundw
        case rel => exact ⟨k + 1, by omega, by go_num, tr2 (unhide HB) hb2, by rw [unhide hn]; exact unhide HX⟩
        case measure => simp [intOf]; omega
    · have hlti : ¬ (k : Int) < (n : Int) := by omega
      have HX : Hid (lastE f L = -1) := hide (by
        have := unhide HR
        rw [unhide hn, show n - k = 0 by omega, List.take_zero, lastE_nil] at this
        exact this)
      clear hlt hbw
      go_wp2
      go_ret
      exact ⟨by rw [unhide HX]; rfl, unhide HB⟩
theorem last_mark_none (q : Value) (z : Option Addr) (cap : Nat) (w : World) (hq : Hid (Calls Try.prog 67 #[q] w fun e w' => e = .returned (.slice z 0 cap) ∧ w' = w)) :
    Calls Try.prog 65 #[q, .func (.func 93) #[] #[]] w fun e w' => e = .returned (.int .i64 (-1)) ∧ w' = w := by
  try unfold ptr at *
  go_enter Try.func65, Try.ntmps65
  go_wp2_with fail
  refine (unhide hq).mono ?_
  rintro e w1 ⟨rfl, hw1⟩
  obtain rfl : w = w1 := hw1.symm
  go_wp2
  refine wp_loop_rounds 1 ?_
  rw [rounds_succ]; go_wp2
  go_ret
  exact ⟨rfl, rfl⟩
theorem last_mark (base p : Nat) (v : Value) (f : AEnt → Bool) (L : List AEnt) (w : World) (h : Stk base p v L w)
    (hf : Hid (∀ x W, Below w.heap.size w W → Calls Try.prog 93 #[entV x] W fun r w' => r = .returned (.bool (f x)) ∧ Below W.heap.size W w')) :
    Calls Try.prog 65 #[ptr p, .func (.func 93) #[] #[]] w fun e w' => e = .returned (.int .i64 (lastE f L)) ∧ Below w.heap.size w w' := by
  obtain ⟨q, cap, rfl, hc, hm, hg⟩ := h.slice
  by_cases h0 : L.length = 0
  · obtain rfl := List.eq_nil_of_length_eq_zero h0
    rw [lastE_nil]
    refine (last_mark_none (ptr p) q cap w (hide (entries_at p _ w h.1 ⟨_, _, _, rfl⟩))).mono ?_
    rintro e w1 ⟨rfl, rfl⟩
    exact ⟨rfl, Below.refl _ _⟩
  · obtain ⟨g, rfl, _⟩ := hg (by omega)
    exact last_mark_loop g cap p f L L.length w (hide rfl) (by omega) (by omega) h.1 h.cells hf

set_option maxHeartbeats 2000000 in
theorem last_find_loop (g cap p : Nat) (c : Nat) (f : AEnt → Bool) (L : List AEnt) (n : Nat) (w : World) (hn : Hid (L.length = n)) (h0 : 0 < n) (hn2 : n ≤ 9223372036854775807) (hb : Blk w p #[.slice (some ⟨g, 0, none⟩) n cap] 94) (hc : Cells4 g 0 L w)
    (hf : Hid (∀ x W, Below w.heap.size w W → Calls Try.prog 66 #[entV x, ptr c] W fun r w' => r = .returned (.bool (f x)) ∧ Below W.heap.size W w')) :
    Calls Try.prog 65 #[ptr p, .func (.func 66) #[] #[ptr c]] w fun e w' => e = .returned (.int .i64 (lastE f L)) ∧ Below w.heap.size w w' := by
  have C := hide (entries_at p _ w hb ⟨_, _, _, rfl⟩)
  have HC := hide hc
  clear hb hc
  unfold ptr at *
  go_enter Try.func65, Try.ntmps65
  go_wp2_with fail
  refine (unhide C).mono ?_
  rintro e w1 ⟨rfl, hw1⟩
  obtain rfl : w = w1 := hw1.symm
  go_wp2
  go_loopw [12] (fun i wr => ∃ k : Nat, k ≤ n ∧ i = .int .i64 k ∧ Below w.heap.size w wr ∧ lastE f L = lastE f (L.take (L.length - k))) (fun i _ => n - (intOf i).toNat)
  case atStart => exact ⟨0, Nat.zero_le _, rfl, Below.refl _ _, by simp⟩
  case round =>
    obtain ⟨k, hk, rfl, hbw, hr⟩ := hrel
    have HR := hide hr
    have HB := hide hbw
    clear hr
    by_cases hlt : k < n
    · have hlti : (k : Int) < (n : Int) := by omega
      have hkl : k < L.length := by rw [unhide hn]; exact hlt
      have ht := take_snoc2 L k hkl
      obtain ⟨c1, c2, c3, c4⟩ := (unhide HC).below hbw (n - 1 - k) (by rw [unhide hn]; omega)
      rw [unhide hn] at ht
      generalize hx : L.getD (n - 1 - k) e0 = x at *
      have ha : (L.take (n - (k + 1))).length = n - (k + 1) := by rw [List.length_take, unhide hn]; omega
      have HE : Hid (lastE f L = if f x then ((n - (k + 1) : Nat) : Int) else lastE f (L.take (n - (k + 1)))) := hide (by
        have := unhide HR
        rw [unhide hn, ht, lastE_app, ha] at this
        exact this)
      have hi1 : (0 : Int) ≤ (n : Int) - 1 - (k : Int) := by omega
      have hi2 : (n : Int) - 1 - (k : Int) < (n : Int) := by omega
      have hi3 : ((n : Int) - 1 - (k : Int)).toNat = n - 1 - k := by omega
      rw [Nat.zero_add] at c1 c2 c3 c4
      have CF := hide (unhide hf x wr hbw)
      generalize f x = fx at *
      obtain ⟨xm, xi, xn, xq, xl, xc⟩ := x
      unfold entV at CF
      dsimp only at *
      clear ht hx hkl ha hbw
      cases fx with
      | true =>
        have HX : Hid (lastE f L = (n : Int) - 1 - (k : Int)) := hide (by rw [unhide HE]; simp; omega)
        go_wp2_with fail
        refine (unhide CF).mono ?_
        rintro r w2 ⟨rfl, hb2⟩
        go_wp2
        go_ret
        exact ⟨by rw [unhide HX]; rfl, tr2 (unhide HB) hb2⟩
      | false =>
        have HX : Hid (lastE f L = lastE f (L.take (n - (k + 1)))) := hide (by rw [unhide HE]; simp)
        go_wp2_with fail
        refine (unhide CF).mono ?_
        rintro r w2 ⟨rfl, hb2⟩
        go_wp2
        go_roundw
        case rel => exact ⟨k + 1, by omega, by go_num, tr2 (unhide HB) hb2, by rw [unhide hn]; exact unhide HX⟩
        case measure => simp [intOf]; omega
    · have hlti : ¬ (k : Int) < (n : Int) := by omega
      have HX : Hid (lastE f L = -1) := hide (by
        have := unhide HR
        rw [unhide hn, show n - k = 0 by omega, List.take_zero, lastE_nil] at this
        exact this)
      clear hlt hbw
      go_wp2
      go_ret
      exact ⟨by rw [unhide HX]; rfl, unhide HB⟩
theorem last_find_none (q : Value) (z : Option Addr) (cap : Nat) (c : Nat) (w : World) (hq : Hid (Calls Try.prog 67 #[q] w fun e w' => e = .returned (.slice z 0 cap) ∧ w' = w)) :
    Calls Try.prog 65 #[q, .func (.func 66) #[] #[ptr c]] w fun e w' => e = .returned (.int .i64 (-1)) ∧ w' = w := by
  try unfold ptr at *
  go_enter Try.func65, Try.ntmps65
  go_wp2_with fail
  refine (unhide hq).mono ?_
  rintro e w1 ⟨rfl, hw1⟩
  obtain rfl : w = w1 := hw1.symm
  go_wp2
  refine wp_loop_rounds 1 ?_
  rw [rounds_succ]; go_wp2
  go_ret
  exact ⟨rfl, rfl⟩
theorem last_find (base p : Nat) (v : Value) (c : Nat) (f : AEnt → Bool) (L : List AEnt) (w : World) (h : Stk base p v L w)
    (hf : Hid (∀ x W, Below w.heap.size w W → Calls Try.prog 66 #[entV x, ptr c] W fun r w' => r = .returned (.bool (f x)) ∧ Below W.heap.size W w')) :
    Calls Try.prog 65 #[ptr p, .func (.func 66) #[] #[ptr c]] w fun e w' => e = .returned (.int .i64 (lastE f L)) ∧ Below w.heap.size w w' := by
  obtain ⟨q, cap, rfl, hc, hm, hg⟩ := h.slice
  by_cases h0 : L.length = 0
  · obtain rfl := List.eq_nil_of_length_eq_zero h0
    rw [lastE_nil]
    refine (last_find_none (ptr p) q cap c w (hide (entries_at p _ w h.1 ⟨_, _, _, rfl⟩))).mono ?_
    rintro e w1 ⟨rfl, rfl⟩
    exact ⟨rfl, Below.refl _ _⟩
  · obtain ⟨g, rfl, _⟩ := hg (by omega)
    exact last_find_loop g cap p c f L L.length w (hide rfl) (by omega) (by omega) h.1 h.cells hf

set_option maxHeartbeats 2000000 in
theorem last_name_loop (g cap p : Nat) (c : Nat) (f : AEnt → Bool) (L : List AEnt) (n : Nat) (w : World) (hn : Hid (L.length = n)) (h0 : 0 < n) (hn2 : n ≤ 9223372036854775807) (hb : Blk w p #[.slice (some ⟨g, 0, none⟩) n cap] 94) (hc : Cells4 g 0 L w)
    (hf : Hid (∀ x W, Below w.heap.size w W → Calls Try.prog 70 #[entV x, ptr c] W fun r w' => r = .returned (.bool (f x)) ∧ Below W.heap.size W w')) :
    Calls Try.prog 65 #[ptr p, .func (.func 70) #[] #[ptr c]] w fun e w' => e = .returned (.int .i64 (lastE f L)) ∧ Below w.heap.size w w' := by
  have C := hide (entries_at p _ w hb ⟨_, _, _, rfl⟩)
  have HC := hide hc
  clear hb hc
  unfold ptr at *
  go_enter Try.func65, Try.ntmps65
  go_wp2_with fail
  refine (unhide C).mono ?_
  rintro e w1 ⟨rfl, hw1⟩
  obtain rfl : w = w1 := hw1.symm
  go_wp2
  go_loopw [12] (fun i wr => ∃ k : Nat, k ≤ n ∧ i = .int .i64 k ∧ Below w.heap.size w wr ∧ lastE f L = lastE f (L.take (L.length - k))) (fun i _ => n - (intOf i).toNat)
  case atStart => exact ⟨0, Nat.zero_le _, rfl, Below.refl _ _, by simp⟩
  case round =>
    obtain ⟨k, hk, rfl, hbw, hr⟩ := hrel
    have HR := hide hr
    have HB := hide hbw
    clear hr
    by_cases hlt : k < n
    · have hlti : (k : Int) < (n : Int) := by omega
      have hkl : k < L.length := by rw [unhide hn]; exact hlt
      have ht := take_snoc2 L k hkl
      obtain ⟨c1, c2, c3, c4⟩ := (unhide HC).below hbw (n - 1 - k) (by rw [unhide hn]; omega)
      rw [unhide hn] at ht
      generalize hx : L.getD (n - 1 - k) e0 = x at *
      have ha : (L.take (n - (k + 1))).length = n - (k + 1) := by rw [List.length_take, unhide hn]; omega
      have HE : Hid (lastE f L = if f x then ((n - (k + 1) : Nat) : Int) else lastE f (L.take (n - (k + 1)))) := hide (by
        have := unhide HR
        rw [unhide hn, ht, lastE_app, ha] at this
        exact this)
      have hi1 : (0 : Int) ≤ (n : Int) - 1 - (k : Int) := by omega
      have hi2 : (n : Int) - 1 - (k : Int) < (n : Int) := by omega
      have hi3 : ((n : Int) - 1 - (k : Int)).toNat = n - 1 - k := by omega
      rw [Nat.zero_add] at c1 c2 c3 c4
      have CF := hide (unhide hf x wr hbw)
      generalize f x = fx at *
      obtain ⟨xm, xi, xn, xq, xl, xc⟩ := x
      unfold entV at CF
      dsimp only at *
      clear ht hx hkl ha hbw
      cases fx with
      | true =>
        have HX : Hid (lastE f L = (n : Int) - 1 - (k : Int)) := hide (by rw [unhide HE]; simp; omega)
        go_wp2_with fail
        refine (unhide CF).mono ?_
        rintro r w2 ⟨rfl, hb2⟩
        go_wp2
        go_ret
        exact ⟨by rw [unhide HX]; rfl, tr2 (unhide HB) hb2⟩
      | false =>
        have HX : Hid (lastE f L = lastE f (L.take (n - (k + 1)))) := hide (by rw [unhide HE]; simp)
        go_wp2_with fail
        refine (unhide CF).mono ?_
        rintro r w2 ⟨rfl, hb2⟩
        go_wp2
        go_roundw
        case rel => exact ⟨k + 1, by omega, by go_num, tr2 (unhide HB) hb2, by rw [unhide hn]; exact unhide HX⟩
        case measure => simp [intOf]; omega
    · have hlti : ¬ (k : Int) < (n : Int) := by omega
      have HX : Hid (lastE f L = -1) := hide (by
        have := unhide HR
        rw [unhide hn, show n - k = 0 by omega, List.take_zero, lastE_nil] at this
        exact this)
      clear hlt hbw
      go_wp2
      go_ret
      exact ⟨by rw [unhide HX]; rfl, unhide HB⟩
theorem last_name_none (q : Value) (z : Option Addr) (cap : Nat) (c : Nat) (w : World) (hq : Hid (Calls Try.prog 67 #[q] w fun e w' => e = .returned (.slice z 0 cap) ∧ w' = w)) :
    Calls Try.prog 65 #[q, .func (.func 70) #[] #[ptr c]] w fun e w' => e = .returned (.int .i64 (-1)) ∧ w' = w := by
  try unfold ptr at *
  go_enter Try.func65, Try.ntmps65
  go_wp2_with fail
  refine (unhide hq).mono ?_
  rintro e w1 ⟨rfl, hw1⟩
  obtain rfl : w = w1 := hw1.symm
  go_wp2
  refine wp_loop_rounds 1 ?_
  rw [rounds_succ]; go_wp2
  go_ret
  exact ⟨rfl, rfl⟩
theorem last_name (base p : Nat) (v : Value) (c : Nat) (f : AEnt → Bool) (L : List AEnt) (w : World) (h : Stk base p v L w)
    (hf : Hid (∀ x W, Below w.heap.size w W → Calls Try.prog 70 #[entV x, ptr c] W fun r w' => r = .returned (.bool (f x)) ∧ Below W.heap.size W w')) :
    Calls Try.prog 65 #[ptr p, .func (.func 70) #[] #[ptr c]] w fun e w' => e = .returned (.int .i64 (lastE f L)) ∧ Below w.heap.size w w' := by
  obtain ⟨q, cap, rfl, hc, hm, hg⟩ := h.slice
  by_cases h0 : L.length = 0
  · obtain rfl := List.eq_nil_of_length_eq_zero h0
    rw [lastE_nil]
    refine (last_name_none (ptr p) q cap c w (hide (entries_at p _ w h.1 ⟨_, _, _, rfl⟩))).mono ?_
    rintro e w1 ⟨rfl, rfl⟩
    exact ⟨rfl, Below.refl _ _⟩
  · obtain ⟨g, rfl, _⟩ := hg (by omega)
    exact last_name_loop g cap p c f L L.length w (hide rfl) (by omega) (by omega) h.1 h.cells hf

set_option maxHeartbeats 2000000 in
theorem last_cut_loop (g cap p : Nat) (c : Nat) (f : AEnt → Bool) (L : List AEnt) (n : Nat) (w : World) (hn : Hid (L.length = n)) (h0 : 0 < n) (hn2 : n ≤ 9223372036854775807) (hb : Blk w p #[.slice (some ⟨g, 0, none⟩) n cap] 94) (hc : Cells4 g 0 L w)
    (hf : Hid (∀ x W, Below w.heap.size w W → Calls Try.prog 72 #[entV x, ptr c] W fun r w' => r = .returned (.bool (f x)) ∧ Below W.heap.size W w')) :
    Calls Try.prog 65 #[ptr p, .func (.func 72) #[] #[ptr c]] w fun e w' => e = .returned (.int .i64 (lastE f L)) ∧ Below w.heap.size w w' := by
  have C := hide (entries_at p _ w hb ⟨_, _, _, rfl⟩)
  have HC := hide hc
  clear hb hc
  unfold ptr at *
  go_enter Try.func65, Try.ntmps65
  go_wp2_with fail
  refine (unhide C).mono ?_
  rintro e w1 ⟨rfl, hw1⟩
  obtain rfl : w = w1 := hw1.symm
  go_wp2
  go_loopw [12] (fun i wr => ∃ k : Nat, k ≤ n ∧ i = .int .i64 k ∧ Below w.heap.size w wr ∧ lastE f L = lastE f (L.take (L.length - k))) (fun i _ => n - (intOf i).toNat)
  case atStart => exact ⟨0, Nat.zero_le _, rfl, Below.refl _ _, by simp⟩
  case round =>
    obtain ⟨k, hk, rfl, hbw, hr⟩ := hrel
    have HR := hide hr
    have HB := hide hbw
    clear hr
    by_cases hlt : k < n
    · have hlti : (k : Int) < (n : Int) := by omega
      have hkl : k < L.length := by rw [unhide hn]; exact hlt
      have ht := take_snoc2 L k hkl
      obtain ⟨c1, c2, c3, c4⟩ := (unhide HC).below hbw (n - 1 - k) (by rw [unhide hn]; omega)
      rw [unhide hn] at ht
      generalize hx : L.getD (n - 1 - k) e0 = x at *
      have ha : (L.take (n - (k + 1))).length = n - (k + 1) := by rw [List.length_take, unhide hn]; omega
      have HE : Hid (lastE f L = if f x then ((n - (k + 1) : Nat) : Int) else lastE f (L.take (n - (k + 1)))) := hide (by
        have := unhide HR
        rw [unhide hn, ht, lastE_app, ha] at this
        exact this)
      have hi1 : (0 : Int) ≤ (n : Int) - 1 - (k : Int) := by omega
      have hi2 : (n : Int) - 1 - (k : Int) < (n : Int) := by omega
      have hi3 : ((n : Int) - 1 - (k : Int)).toNat = n - 1 - k := by omega
      rw [Nat.zero_add] at c1 c2 c3 c4
      have CF := hide (unhide hf x wr hbw)
      generalize f x = fx at *
      obtain ⟨xm, xi, xn, xq, xl, xc⟩ := x
      unfold entV at CF
      dsimp only at *
      clear ht hx hkl ha hbw
      cases fx with
      | true =>
        have HX : Hid (lastE f L = (n : Int) - 1 - (k : Int)) := hide (by rw [unhide HE]; simp; omega)
        go_wp2_with fail
        refine (unhide CF).mono ?_
        rintro r w2 ⟨rfl, hb2⟩
        go_wp2
        go_ret
        exact ⟨by rw [unhide HX]; rfl, tr2 (unhide HB) hb2⟩
      | false =>
        have HX : Hid (lastE f L = lastE f (L.take (n - (k + 1)))) := hide (by rw [unhide HE]; simp)
        go_wp2_with fail
        refine (unhide CF).mono ?_
        rintro r w2 ⟨rfl, hb2⟩
        go_wp2
        go_roundw
        case rel => exact ⟨k + 1, by omega, by go_num, tr2 (unhide HB) hb2, by rw [unhide hn]; exact unhide HX⟩
        case measure => simp [intOf]; omega
    · have hlti : ¬ (k : Int) < (n : Int) := by omega
      have HX : Hid (lastE f L = -1) := hide (by
        have := unhide HR
        rw [unhide hn, show n - k = 0 by omega, List.take_zero, lastE_nil] at this
        exact this)
      clear hlt hbw
      go_wp2
      go_ret
      exact ⟨by rw [unhide HX]; rfl, unhide HB⟩
theorem last_cut_none (q : Value) (z : Option Addr) (cap : Nat) (c : Nat) (w : World) (hq : Hid (Calls Try.prog 67 #[q] w fun e w' => e = .returned (.slice z 0 cap) ∧ w' = w)) :
    Calls Try.prog 65 #[q, .func (.func 72) #[] #[ptr c]] w fun e w' => e = .returned (.int .i64 (-1)) ∧ w' = w := by
  try unfold ptr at *
  go_enter Try.func65, Try.ntmps65
  go_wp2_with fail
  refine (unhide hq).mono ?_
  rintro e w1 ⟨rfl, hw1⟩
  obtain rfl : w = w1 := hw1.symm
  go_wp2
  refine wp_loop_rounds 1 ?_
  rw [rounds_succ]; go_wp2
  go_ret
  exact ⟨rfl, rfl⟩
theorem last_cut (base p : Nat) (v : Value) (c : Nat) (f : AEnt → Bool) (L : List AEnt) (w : World) (h : Stk base p v L w)
    (hf : Hid (∀ x W, Below w.heap.size w W → Calls Try.prog 72 #[entV x, ptr c] W fun r w' => r = .returned (.bool (f x)) ∧ Below W.heap.size W w')) :
    Calls Try.prog 65 #[ptr p, .func (.func 72) #[] #[ptr c]] w fun e w' => e = .returned (.int .i64 (lastE f L)) ∧ Below w.heap.size w w' := by
  obtain ⟨q, cap, rfl, hc, hm, hg⟩ := h.slice
  by_cases h0 : L.length = 0
  · obtain rfl := List.eq_nil_of_length_eq_zero h0
    rw [lastE_nil]
    refine (last_cut_none (ptr p) q cap c w (hide (entries_at p _ w h.1 ⟨_, _, _, rfl⟩))).mono ?_
    rintro e w1 ⟨rfl, rfl⟩
    exact ⟨rfl, Below.refl _ _⟩
  · obtain ⟨g, rfl, _⟩ := hg (by omega)
    exact last_cut_loop g cap p c f L L.length w (hide rfl) (by omega) (by omega) h.1 h.cells hf

theorem isMark_any (x : AEnt) (w : World) : Calls Try.prog 93 #[entV x] w fun r w' => r = .returned (.bool x.mr) ∧ Below w.heap.size w w' := by
  obtain ⟨xm, xi, xn, xq, xl, xc⟩ := x
  unfold entV
  go_enter Try.func93, Try.ntmps93
  go_wp2
  go_ret
  exact ⟨rfl, (Below.refl _ _).alloc (Nat.le_refl _) _⟩
def isId (id : Int) (x : AEnt) : Bool := !x.mr && (x.id == id)
theorem find1_any (x : AEnt) (c : Nat) (id : Int) (w : World) (hc : Blk w c #[.int .i64 id] 3) : Calls Try.prog 66 #[entV x, ptr c] w fun r w' => r = .returned (.bool (isId id x)) ∧ Below w.heap.size w w' := by
  obtain ⟨xm, xi, xn, xq, xl, xc⟩ := x
  have c0 : (w.alloc (Obj.cells #[.bool xm, .int .i64 xi, .string xn, .slice xq xl xc] 58)).cell? ⟨c, 0, none⟩ = some (.int .i64 id) := (hc.alloc _).cell 0
  clear hc
  unfold entV ptr isId
  dsimp only
  cases xm with
  | true =>
    go_enter Try.func66, Try.ntmps66
    go_wp2
    go_ret
    exact ⟨rfl, (Below.refl _ _).alloc (Nat.le_refl _) _⟩
  | false =>
    go_enter Try.func66, Try.ntmps66
    go_wp2
    go_ret
    exact ⟨rfl, (Below.refl _ _).alloc (Nat.le_refl _) _⟩
def isElB (x : AEnt) : Bool := !x.mr && decide (0 ≤ x.id)
theorem element_any (x : AEnt) (w : World) : Calls Try.prog 75 #[entV x] w fun r w' => r = .returned (.bool (isElB x)) ∧ Below w.heap.size w w' := by
  obtain ⟨xm, xi, xn, xq, xl, xc⟩ := x
  unfold entV isElB
  dsimp only
  cases xm with
  | true =>
    go_enter Try.func75, Try.ntmps75
    go_wp2
    go_ret
    exact ⟨rfl, (Below.refl _ _).alloc (Nat.le_refl _) _⟩
  | false =>
    go_enter Try.func75, Try.ntmps75
    go_wp2
    go_ret
    exact ⟨rfl, (Below.refl _ _).alloc (Nat.le_refl _) _⟩
theorem room_any (base p : Nat) (v : Value) (L : List AEnt) (w : World) (h : Stk base p v L w) : Calls Try.prog 74 #[ptr p] w fun r w' => r = .returned (.int .i64 (if 100 ≤ L.length then 5 else 0)) ∧ w' = w := by
  obtain ⟨q, cap, rfl, hc, hm, _⟩ := h.slice
  have c0 : w.cell? ⟨p, 0, none⟩ = some (.slice q L.length cap) := h.1.cell 0
  clear h
  unfold ptr
  by_cases hl : 100 ≤ L.length
  · rw [if_pos hl]
    have hli : (100 : Int) ≤ (L.length : Int) := by omega
    go_enter Try.func74, Try.ntmps74
    go_wp2
    go_ret
    exact ⟨rfl, rfl⟩
  · rw [if_neg hl]
    have hli : ¬ (100 : Int) ≤ (L.length : Int) := by omega
    go_enter Try.func74, Try.ntmps74
    go_wp2
    go_ret
    exact ⟨rfl, rfl⟩
theorem room_nil (w : World) : Calls Try.prog 74 #[.pointer none] w fun r w' => r = .returned (.int .i64 7) ∧ w' = w := by
  go_enter Try.func74, Try.ntmps74
  go_wp2
  go_ret
  exact ⟨rfl, rfl⟩
set_option maxHeartbeats 1000000 in
theorem find_any (base p : Nat) (v : Value) (id : Int) (L : List AEnt) (w : World) (h : Stk base p v L w) :
    Calls Try.prog 23 #[ptr p, .int .i64 id] w fun e w' => e = .returned (.int .i64 (lastE (isId id) L)) ∧ Below w.heap.size w w' := by
  have C := hide (last_find base p v w.heap.size (isId id) L (w.alloc (Obj.cells #[.int .i64 id] 3)) (h.later ((Below.refl _ _).alloc (Nat.le_refl _) _)) (hide fun x W hW => find1_any x w.heap.size id W ((Blk.new w _ _).later hW)))
  generalize lastE (isId id) L = r at *
  clear h
  unfold ptr at *
  go_enter Try.func23, Try.ntmps23
  go_wp2_with fail
  refine (unhide C).mono ?_
  rintro e w1 ⟨rfl, hb⟩
  go_wp2
  go_ret
  exact ⟨rfl, bel_of hb⟩
theorem find_nil (id : Int) (w : World) :
    Calls Try.prog 23 #[.pointer none, .int .i64 id] w fun e w' => e = .returned (.int .i64 (-1)) ∧ Below w.heap.size w w' := by
  have C := hide (last_find_none (.pointer none) none 0 w.heap.size (w.alloc (Obj.cells #[.int .i64 id] 3)) (hide (entries_nil _)))
  unfold ptr at *
  go_enter Try.func23, Try.ntmps23
  go_wp2_with fail
  refine (unhide C).mono ?_
  rintro e w1 ⟨rfl, rfl⟩
  go_wp2
  go_ret
  exact ⟨rfl, (Below.refl _ _).alloc (Nat.le_refl _) _⟩
end Go.Proofs.Ytabajhbghjfhoaa
