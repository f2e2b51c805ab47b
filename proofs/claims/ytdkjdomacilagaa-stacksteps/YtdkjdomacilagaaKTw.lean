/-
  What a stack's takeWhile does, under its two closures; Back, Implied and To.
-/
import Derived.Test.YtdkjdomacilagaaKOp
import Derived.Laws.EntriesVeiled
namespace Go.Proofs.Ytdkjdomacilagaa
open Go.RowKit
set_option linter.unusedVariables false

theorem Tch.then_below {p : Nat} {o : Option Nat} {w w' w'' : World} (h : Tch p o w w') (hb : Below w'.heap.size w' w'') : Tch p o w w'' :=
  ⟨hb.os.trans h.os, hb.tape.trans h.tape, hb.output.trans h.output, Nat.le_trans h.size hb.size, fun k hk h1 h2 => (hb.block k (Nat.lt_of_lt_of_le hk h.size)).trans (h.block k hk h1 h2)⟩
def TwAt (base p : Nat) (v : Value) (L : List Ent) (f : Ent → Bool) (w : World) (n : Value) (wr : World) : Prop :=
  ∃ k : Nat, n = .int .i64 k ∧ k ≤ L.length ∧ offN f L = k + offN f (L.take (L.length - k)) ∧ Upd base p v (L.take (L.length - k)) w wr
theorem take_snoc (L : List Ent) (k : Nat) (h : k < L.length) : ∃ a x, L.take (L.length - k) = a ++ [x] ∧ a = L.take (L.length - (k + 1)) := by
  have hl : L.length - (k + 1) < L.length := by omega
  refine ⟨L.take (L.length - (k + 1)), L[L.length - (k + 1)], ?_, rfl⟩
  rw [show L.length - k = (L.length - (k + 1)) + 1 by omega, List.take_add_one, List.getElem?_eq_getElem hl]
  rfl

set_option maxHeartbeats 2000000 in
theorem tw_back (base p : Nat) (v : Value) (L : List Ent) (w : World) (c : Nat) (f : Ent → Bool) (h : Stk base p v L w) (hN : L.length ≤ 1000000)
    (hf : Hid (∀ x W, Tch p v.ownBlock w W → Calls Try.prog 85 #[entV x, ptr c] W fun r w' => r = .returned (.bool (f x)) ∧ Below W.heap.size W w')) :
    Calls Try.prog 81 #[ptr p, .func (.func 85) #[] #[ptr c]] w fun e w' => e = .returned (.int .i64 (offN f L : Nat)) ∧ Upd base p v (L.take (L.length - offN f L)) w w' := by
  have HAT : Hid (TwAt base p v L f w (.int .i64 0) w) := hide ⟨0, rfl, Nat.zero_le _, by simp, by simpa using Upd.same h (Below.refl _ _)⟩
  clear h
  have ep : ptr p = .pointer (some ⟨p, 0, none⟩) := rfl
  have ec : ptr c = .pointer (some ⟨c, 0, none⟩) := rfl
  rw [ep, ec]
  rw [ec] at hf
  clear ec
  go_enter Try.func81, Try.ntmps81
  go_wp2
  go_loopw [5] (fun n wr => TwAt base p v L f w n wr) (fun n _ => L.length - (intOf n).toNat)
  case atStart => exact unhide HAT
  case round =>
    clear HAT
    obtain ⟨k, rfl, hk, hoff, hupd⟩ := hrel
    have HO := hide hoff
    have HU := hide hupd
    obtain ⟨v', hs, ht, ho⟩ := hupd
    clear hoff
    by_cases hlt : k < L.length
    · obtain ⟨a, x, hM, ha⟩ := take_snoc L k hlt
      rw [hM] at hs
      have HS := hide hs
      have HT := hide (And.intro ht ho)
      have CT := hide (top_some base p v' a x wr hs)
      have CF := hide (fun W hW => unhide hf x W hW)
      have CP := hide (fun W hW => pop_some base p v' a x W hW)
      have hoN : Hid (offN f (L.take (L.length - k)) = if f x then offN f a + 1 else 0) := hide (by rw [hM]; exact offN_snoc f a x)
      rw [ep] at CT CP
      have HA := hide ha
      have hk1 : (k : Int) + 1 ≤ 1000000 := by omega
      obtain ⟨id, sp, nm⟩ := x
      unfold entV at CT CF CP
      dsimp only at CT CF CP
      generalize hfx : f ⟨id, sp, nm⟩ = fx at *
      clear hs ht ho hM ha hfx ep
      cases fx with
      | true =>
        go_wp2_with fail
        refine (unhide CT).mono ?_
        rintro e w1 ⟨rfl, hb1⟩
        go_wp2_with fail
        have bx : Below wr.heap.size wr (w1.alloc (Obj.cells #[.int .i64 id, .int .i64 sp, .string nm] 32)) := hb1.alloc hb1.size _
        refine (unhide CF _ ((unhide HT).1.then_below bx)).mono ?_
        rintro e w2 ⟨rfl, hb2⟩
        have by2 : Below wr.heap.size wr w2 := tr2 bx hb2
        go_wp2_with fail
        refine (unhide CP _ ((unhide HS).later by2)).mono ?_
        rintro e w3 ⟨rfl, hu3⟩
        go_wp2
        go_roundw
        case rel =>
          refine ⟨k + 1, by go_num, by omega, ?_, ?_⟩
          · rw [unhide HO, unhide hoN, ← unhide HA]; simp; omega
          · rw [← unhide HA]
            exact Upd.trans (L := a) (unhide HT).1 (unhide HT).2 (Upd.ahead by2 hu3)
        case measure => simp [intOf]; omega
      | false =>
        go_wp2_with fail
        refine (unhide CT).mono ?_
        rintro e w1 ⟨rfl, hb1⟩
        go_wp2_with fail
        have bx : Below wr.heap.size wr (w1.alloc (Obj.cells #[.int .i64 id, .int .i64 sp, .string nm] 32)) := hb1.alloc hb1.size _
        refine (unhide CF _ ((unhide HT).1.then_below bx)).mono ?_
        rintro e w2 ⟨rfl, hb2⟩
        have by2 : Below wr.heap.size wr w2 := tr2 bx hb2
        go_wp2
        go_ret
        have e1 : offN f L = k := by rw [unhide HO, unhide hoN]; simp
        rw [e1]
        exact ⟨rfl, (unhide HU).after by2⟩
    · have hkl : L.length - k = 0 := by omega
      rw [hkl, List.take_zero] at hs
      have HS := hide hs
      have e1 : offN f L = k := by
        have := unhide HO
        rw [hkl, List.take_zero] at this
        rw [this]; simp [offN]
      have HE := hide e1
      obtain ⟨q, cap, hv', _⟩ := hs.slice
      subst hv'
      have CT := hide (top_none (ptr p) q cap wr (hide fun w1 hb => entries_at p _ _ (hs.1.later hb) ⟨_, _, _, rfl⟩))
      unfold entV e0 at CT
      rw [ep] at CT
      dsimp only at CT
      clear hs ht ho hlt hkl e1 ep
      go_wp2_with fail
      refine (unhide CT).mono ?_
      rintro e w1 ⟨rfl, hb1⟩
      go_wp2
      go_ret
      rw [unhide HE]
      exact ⟨rfl, (unhide HU).after (hb1.alloc hb1.size _)⟩

set_option maxHeartbeats 1000000 in
theorem tw_back_nil (c : Nat) (w : World) :
    Calls Try.prog 81 #[.pointer none, .func (.func 85) #[] #[ptr c]] w fun e w' => e = .returned (.int .i64 0) ∧ Below w.heap.size w w' := by
  have CT := hide (fun w => top_none (.pointer none) none 0 w (hide fun w1 hb => entries_nil w1))
  unfold entV e0 at CT
  dsimp only at CT
  unfold ptr
  go_enter Try.func81, Try.ntmps81
  go_wp2
  refine wp_loop_rounds 1 ?_
  rw [rounds_succ]
  go_wp2_with fail
  refine (unhide CT _).mono ?_
  rintro e w1 ⟨rfl, hb1⟩
  go_wp2
  go_ret
  exact ⟨rfl, hb1.alloc hb1.size _⟩

set_option maxHeartbeats 2000000 in
theorem tw_imp (base p : Nat) (v : Value) (L : List Ent) (w : World) (c : Nat) (f : Ent → Bool) (h : Stk base p v L w) (hN : L.length ≤ 1000000)
    (hf : Hid (∀ x W, Tch p v.ownBlock w W → Calls Try.prog 82 #[entV x, ptr c] W fun r w' => r = .returned (.bool (f x)) ∧ Below W.heap.size W w')) :
    Calls Try.prog 81 #[ptr p, .func (.func 82) #[] #[ptr c]] w fun e w' => e = .returned (.int .i64 (offN f L : Nat)) ∧ Upd base p v (L.take (L.length - offN f L)) w w' := by
  have HAT : Hid (TwAt base p v L f w (.int .i64 0) w) := hide ⟨0, rfl, Nat.zero_le _, by simp, by simpa using Upd.same h (Below.refl _ _)⟩
  clear h
  have ep : ptr p = .pointer (some ⟨p, 0, none⟩) := rfl
  have ec : ptr c = .pointer (some ⟨c, 0, none⟩) := rfl
  rw [ep, ec]
  rw [ec] at hf
  clear ec
  go_enter Try.func81, Try.ntmps81
  go_wp2
  go_loopw [5] (fun n wr => TwAt base p v L f w n wr) (fun n _ => L.length - (intOf n).toNat)
  case atStart => exact unhide HAT
  case round =>
    clear HAT
    obtain ⟨k, rfl, hk, hoff, hupd⟩ := hrel
    have HO := hide hoff
    have HU := hide hupd
    obtain ⟨v', hs, ht, ho⟩ := hupd
    clear hoff
    by_cases hlt : k < L.length
    · obtain ⟨a, x, hM, ha⟩ := take_snoc L k hlt
      rw [hM] at hs
      have HS := hide hs
      have HT := hide (And.intro ht ho)
      have CT := hide (top_some base p v' a x wr hs)
      have CF := hide (fun W hW => unhide hf x W hW)
      have CP := hide (fun W hW => pop_some base p v' a x W hW)
      have hoN : Hid (offN f (L.take (L.length - k)) = if f x then offN f a + 1 else 0) := hide (by rw [hM]; exact offN_snoc f a x)
      rw [ep] at CT CP
      have HA := hide ha
      have hk1 : (k : Int) + 1 ≤ 1000000 := by omega
      obtain ⟨id, sp, nm⟩ := x
      unfold entV at CT CF CP
      dsimp only at CT CF CP
      generalize hfx : f ⟨id, sp, nm⟩ = fx at *
      clear hs ht ho hM ha hfx ep
      cases fx with
      | true =>
        go_wp2_with fail
        refine (unhide CT).mono ?_
        rintro e w1 ⟨rfl, hb1⟩
        go_wp2_with fail
        have bx : Below wr.heap.size wr (w1.alloc (Obj.cells #[.int .i64 id, .int .i64 sp, .string nm] 32)) := hb1.alloc hb1.size _
        refine (unhide CF _ ((unhide HT).1.then_below bx)).mono ?_
        rintro e w2 ⟨rfl, hb2⟩
        have by2 : Below wr.heap.size wr w2 := tr2 bx hb2
        go_wp2_with fail
        refine (unhide CP _ ((unhide HS).later by2)).mono ?_
        rintro e w3 ⟨rfl, hu3⟩
        go_wp2
        go_roundw
        case rel =>
          refine ⟨k + 1, by go_num, by omega, ?_, ?_⟩
          · rw [unhide HO, unhide hoN, ← unhide HA]; simp; omega
          · rw [← unhide HA]
            exact Upd.trans (L := a) (unhide HT).1 (unhide HT).2 (Upd.ahead by2 hu3)
        case measure => simp [intOf]; omega
      | false =>
        go_wp2_with fail
        refine (unhide CT).mono ?_
        rintro e w1 ⟨rfl, hb1⟩
        go_wp2_with fail
        have bx : Below wr.heap.size wr (w1.alloc (Obj.cells #[.int .i64 id, .int .i64 sp, .string nm] 32)) := hb1.alloc hb1.size _
        refine (unhide CF _ ((unhide HT).1.then_below bx)).mono ?_
        rintro e w2 ⟨rfl, hb2⟩
        have by2 : Below wr.heap.size wr w2 := tr2 bx hb2
        go_wp2
        go_ret
        have e1 : offN f L = k := by rw [unhide HO, unhide hoN]; simp
        rw [e1]
        exact ⟨rfl, (unhide HU).after by2⟩
    · have hkl : L.length - k = 0 := by omega
      rw [hkl, List.take_zero] at hs
      have HS := hide hs
      have e1 : offN f L = k := by
        have := unhide HO
        rw [hkl, List.take_zero] at this
        rw [this]; simp [offN]
      have HE := hide e1
      obtain ⟨q, cap, hv', _⟩ := hs.slice
      subst hv'
      have CT := hide (top_none (ptr p) q cap wr (hide fun w1 hb => entries_at p _ _ (hs.1.later hb) ⟨_, _, _, rfl⟩))
      unfold entV e0 at CT
      rw [ep] at CT
      dsimp only at CT
      clear hs ht ho hlt hkl e1 ep
      go_wp2_with fail
      refine (unhide CT).mono ?_
      rintro e w1 ⟨rfl, hb1⟩
      go_wp2
      go_ret
      rw [unhide HE]
      exact ⟨rfl, (unhide HU).after (hb1.alloc hb1.size _)⟩

set_option maxHeartbeats 1000000 in
theorem tw_imp_nil (c : Nat) (w : World) :
    Calls Try.prog 81 #[.pointer none, .func (.func 82) #[] #[ptr c]] w fun e w' => e = .returned (.int .i64 0) ∧ Below w.heap.size w w' := by
  have CT := hide (fun w => top_none (.pointer none) none 0 w (hide fun w1 hb => entries_nil w1))
  unfold entV e0 at CT
  dsimp only at CT
  unfold ptr
  go_enter Try.func81, Try.ntmps81
  go_wp2
  refine wp_loop_rounds 1 ?_
  rw [rounds_succ]
  go_wp2_with fail
  refine (unhide CT _).mono ?_
  rintro e w1 ⟨rfl, hb1⟩
  go_wp2
  go_ret
  exact ⟨rfl, hb1.alloc hb1.size _⟩

theorem view_tch {p : Nat} {o : Option Nat} {w w' : World} {v : Value} {ss : List ByteArray} (h : View w v ss) (ht : Tch p o w w') (h1 : ∀ b, v.ownBlock = some b → b ≠ p ∧ some b ≠ o) : View w' v ss := by
  obtain ⟨la, a, cap, rfl, hx⟩ := h
  refine ⟨la, a, cap, rfl, fun h0 => ?_⟩
  obtain ⟨b, off, rfl, hc⟩ := hx h0
  obtain ⟨n1, n2⟩ := h1 b rfl
  exact ⟨b, off, rfl, fun i hi => (World.cell?_of_block (ht.block b (World.block_lt_of_cell? w ⟨b, off + i, none⟩ (hc i hi)) n1 n2)).trans (hc i hi)⟩

set_option maxHeartbeats 1000000 in
theorem back1_any (x : Ent) (c : Nat) (nv : Value) (ns : List (List UInt8)) (w : World) (hc : Blk w c #[nv] 46) (hv : View w nv (Ls ns)) :
    Calls Try.prog 85 #[entV x, ptr c] w fun r w' => r = .returned (.bool (!nmdB x ns)) ∧ Below w.heap.size w w' := by
  have C := hide (named_any x nv ns (w.alloc (Obj.cells #[.int .i64 x.id, .int .i64 x.sp, .string x.nm] 32)) (view_alloc hv _))
  generalize nmdB x ns = b at *
  obtain ⟨id, sp, nm⟩ := x
  have c0 := (hc.alloc (Obj.cells #[.int .i64 id, .int .i64 sp, .string nm] 32)).cell 0
  unfold entV ptr at *
  dsimp only at *
  obtain ⟨_, q, cap, rfl, _⟩ := hv
  have c1 : (w.alloc (Obj.cells #[.int .i64 id, .int .i64 sp, .string nm] 32)).cell? ⟨c, 0, none⟩ = some (.slice q (Ls ns).length cap) := c0
  clear c0 hc
  go_enter Try.func85, Try.ntmps85
  go_wp2_with fail
  refine (unhide C).mono ?_
  rintro r w1 ⟨rfl, hb1⟩
  go_wp2
  go_ret
  exact ⟨rfl, bel_of hb1⟩

set_option maxHeartbeats 1000000 in
theorem imp1_any (x : Ent) (c : Nat) (but : ByteArray) (w : World) (hc : Blk w c #[.string but] 9) :
    Calls Try.prog 82 #[entV x, ptr c] w fun r w' => r = .returned (.bool (impB but x)) ∧ Below w.heap.size w w' := by
  have C := hide (fun v ns w hv => named_any x v ns w hv)
  unfold impB
  obtain ⟨id, sp, nm⟩ := x
  unfold entV ptr at *
  dsimp only at *
  generalize hq : nmdB ⟨id, sp, nm⟩ lpNs = b at *
  cases b with
  | true =>
    go_enter Try.func82, Try.ntmps82
    go_wp2_with fail
    refine (unhide C _ lpNs _ (view_litk (w.alloc (Obj.cells #[.int .i64 id, .int .i64 sp, .string nm] 32)) lpNs _ (by decide) _ rfl _ (by simp) _ rfl)).mono ?_
    rintro r w1 ⟨rfl, hb⟩
    rw [hq]
    have kB : Blk w1 w.heap.size #[.int .i64 id, .int .i64 sp, .string nm] 32 := ((Blk.new w _ _).alloc _).later hb
    have d2 : w1.cell? ⟨w.heap.size, 2, none⟩ = some (.string nm) := kB.cell 2
    have d3 : w1.cell? ⟨c, 0, none⟩ = some (.string but) := (((hc.alloc _).alloc _).later hb).cell 0
    go_wp2
    go_ret
    exact ⟨rfl, bel_of (bel_of hb)⟩
  | false =>
    go_enter Try.func82, Try.ntmps82
    go_wp2_with fail
    refine (unhide C _ lpNs _ (view_litk (w.alloc (Obj.cells #[.int .i64 id, .int .i64 sp, .string nm] 32)) lpNs _ (by decide) _ rfl _ (by simp) _ rfl)).mono ?_
    rintro r w1 ⟨rfl, hb⟩
    rw [hq]
    go_wp2
    go_ret
    exact ⟨rfl, bel_of (bel_of hb)⟩

def backF (ns : List (List UInt8)) (x : Ent) : Bool := !nmdB x ns

set_option maxHeartbeats 1000000 in
theorem back_any (base p : Nat) (v nv : Value) (ns : List (List UInt8)) (L : List Ent) (w : World) (h : Stk base p v L w) (hN : L.length ≤ 1000000) (hv : View w nv (Ls ns)) (hsf : ∀ b, nv.ownBlock = some b → b ≠ p ∧ some b ≠ v.ownBlock) :
    Calls Try.prog 45 #[ptr p, nv] w fun e w' => e = .returned (.int .i64 (offN (backF ns) L : Nat)) ∧ Upd base p v (L.take (L.length - offN (backF ns) L)) w w' := by
  have bx : Below w.heap.size w (w.alloc (Obj.cells #[nv] 46)) := (Below.refl _ _).alloc (Nat.le_refl _) _
  have C := hide (tw_back base p v L (w.alloc (Obj.cells #[nv] 46)) w.heap.size (backF ns) (h.later bx) hN (hide fun x W hW => back1_any x w.heap.size nv ns W
    (hW.blk_new (Blk.new w _ _) h.lt h.own)
    (view_tch (view_alloc hv _) hW hsf)))
  have HB := hide bx
  obtain ⟨_, q, cap, rfl, _⟩ := hv
  generalize hoo : offN (backF ns) L = m at *
  clear hoo h bx
  unfold ptr at *
  go_enter Try.func45, Try.ntmps45
  go_wp2_with fail
  refine (unhide C).mono ?_
  rintro e w1 ⟨rfl, hu⟩
  go_wp2
  go_ret
  exact ⟨rfl, Upd.ahead (unhide HB) hu⟩
set_option maxHeartbeats 1000000 in
theorem back_nil (nv : Value) (q : Option Addr) (n cap : Nat) (hv : nv = .slice q n cap) (w : World) :
    Calls Try.prog 45 #[.pointer none, nv] w fun e w' => e = .returned (.int .i64 0) ∧ Below w.heap.size w w' := by
  subst hv
  have C := hide (tw_back_nil w.heap.size (w.alloc (Obj.cells #[.slice q n cap] 46)))
  unfold ptr at *
  go_enter Try.func45, Try.ntmps45
  go_wp2_with fail
  refine (unhide C).mono ?_
  rintro e w1 ⟨rfl, hb⟩
  go_wp2
  go_ret
  exact ⟨rfl, bel_of hb⟩
set_option maxHeartbeats 1000000 in
theorem implied_any (base p : Nat) (v : Value) (but : ByteArray) (L : List Ent) (w : World) (h : Stk base p v L w) (hN : L.length ≤ 1000000) :
    Calls Try.prog 39 #[ptr p, .string but] w fun e w' => e = .returned (.int .i64 (offN (impB but) L : Nat)) ∧ Upd base p v (L.take (L.length - offN (impB but) L)) w w' := by
  have bx : Below w.heap.size w (w.alloc (Obj.cells #[.string but] 9)) := (Below.refl _ _).alloc (Nat.le_refl _) _
  have C := hide (tw_imp base p v L (w.alloc (Obj.cells #[.string but] 9)) w.heap.size (impB but) (h.later bx) hN (hide fun x W hW => imp1_any x w.heap.size but W
    (hW.blk_new (Blk.new w _ _) h.lt h.own)))
  have HB := hide bx
  generalize hoo : offN (impB but) L = m at *
  clear hoo h bx
  unfold ptr at *
  go_enter Try.func39, Try.ntmps39
  go_wp2_with fail
  refine (unhide C).mono ?_
  rintro e w1 ⟨rfl, hu⟩
  go_wp2
  go_ret
  exact ⟨rfl, Upd.ahead (unhide HB) hu⟩
set_option maxHeartbeats 1000000 in
theorem implied_nil (but : ByteArray) (w : World) :
    Calls Try.prog 39 #[.pointer none, .string but] w fun e w' => e = .returned (.int .i64 0) ∧ Below w.heap.size w w' := by
  have C := hide (tw_imp_nil w.heap.size (w.alloc (Obj.cells #[.string but] 9)))
  unfold ptr at *
  go_enter Try.func39, Try.ntmps39
  go_wp2_with fail
  refine (unhide C).mono ?_
  rintro e w1 ⟨rfl, hb⟩
  go_wp2
  go_ret
  exact ⟨rfl, bel_of hb⟩
end Go.Proofs.Ytdkjdomacilagaa
