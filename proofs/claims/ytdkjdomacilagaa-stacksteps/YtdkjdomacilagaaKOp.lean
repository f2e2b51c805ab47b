/-
  What a stack's entries, Top, takeOut and Pop do.
-/
import Derived.Test.YtdkjdomacilagaaKNm
namespace Go.Proofs.Ytdkjdomacilagaa
open Go.RowKit
set_option linter.unusedVariables false

def ptr (p : Nat) : Value := .pointer (some ⟨p, 0, none⟩)

theorem entries_at (p : Nat) (v : Value) (w : World) (h : Blk w p #[v] 85) (hs : ∃ q n c, v = .slice q n c) :
    Calls Try.prog 51 #[ptr p] w fun e w' => e = .returned v ∧ w' = w := by
  have c0 : w.cell? ⟨p, 0, none⟩ = some v := h.cell 0
  obtain ⟨q, n, c, rfl⟩ := hs
  clear h
  unfold ptr
  go_enter Try.func51, Try.ntmps51
  go_wp2
  go_ret
  exact ⟨rfl, rfl⟩
theorem entries_nil (w : World) : Calls Try.prog 51 #[.pointer none] w fun e w' => e = .returned (.slice none 0 0) ∧ w' = w := by
  go_enter Try.func51, Try.ntmps51
  go_wp2
  go_ret
  exact ⟨rfl, rfl⟩
theorem new_any (base : Nat) (w : World) (hb : base ≤ w.heap.size) : Calls Try.prog 9 #[] w fun e w' => e = .returned (ptr w.heap.size) ∧ Stk base w.heap.size (.slice none 0 0) [] w' ∧ Below w.heap.size w w' := by
  go_enter Try.func9, Try.ntmps9
  go_wp2
  go_ret
  exact ⟨rfl, ⟨Blk.new w _ _, World.ownsRow_nil _ _ _ _, by simp [Value.ownBlock]⟩, (Below.refl _ _).alloc (Nat.le_refl _) _⟩

set_option maxHeartbeats 1000000 in
theorem top_none (q : Value) (c : Option Addr) (cap : Nat) (w : World) (hq : Hid (∀ w1, Below w.heap.size w w1 → Calls Try.prog 51 #[q] w1 fun e w' => e = .returned (.slice c 0 cap) ∧ w' = w1)) :
    Calls Try.prog 16 #[q] w fun e w' => e = .returned (.tuple #[entV e0, .bool false]) ∧ Below w.heap.size w w' := by
  unfold entV e0
  dsimp only
  go_enter Try.func16, Try.ntmps16
  go_wp2_with fail
  refine (unhide hq _ ((Below.refl _ _).alloc (Nat.le_refl _) _)).mono ?_
  rintro e w1 ⟨rfl, rfl⟩
  go_wp2
  refine bodyPost_ret (v := .tuple #[.agg #[.int .i64 0, .int .i64 0, .string ⟨#[]⟩], .bool false]) (by simp [results, Try.results16, go_sem]) rfl ?_
  exact ⟨rfl, (Below.refl _ _).alloc (Nat.le_refl _) _⟩

set_option maxHeartbeats 1000000 in
theorem top_some (base p : Nat) (v : Value) (a : List Ent) (x : Ent) (w : World) (h : Stk base p v (a ++ [x]) w) :
    Calls Try.prog 16 #[ptr p] w fun e w' => e = .returned (.tuple #[entV x, .bool true]) ∧ Below w.heap.size w w' := by
  have hl : (a ++ [x]).length = a.length + 1 := by simp
  obtain ⟨q, cap, rfl, hc, hm, hg⟩ := h.slice
  rw [hl] at hc hg h
  obtain ⟨g, rfl, hgl⟩ := hg (by omega)
  obtain ⟨c1, c2, c3⟩ := (h.cells.below ((Below.refl w.heap.size w).alloc (Nat.le_refl _) (Obj.cells #[.int .i64 0, .int .i64 0, .string ⟨#[]⟩] 32))) a.length (by rw [hl]; omega)
  rw [getD_snoc, Nat.zero_add] at c1 c2 c3
  have C := hide (entries_at p _ _ (h.1.alloc (Obj.cells #[.int .i64 0, .int .i64 0, .string ⟨#[]⟩] 32)) ⟨_, _, _, rfl⟩)
  unfold entV
  obtain ⟨id, sp, nm⟩ := x
  dsimp only at *
  generalize a.length = n at *
  have hi : (0 : Int) ≤ (n : Int) := by omega
  clear h hl hg
  go_enter Try.func16, Try.ntmps16
  go_wp2_with fail
  refine (unhide C).mono ?_
  rintro e w1 ⟨rfl, rfl⟩
  go_wp2
  refine bodyPost_ret (v := .tuple #[.agg #[.int .i64 id, .int .i64 sp, .string nm], .bool true]) (by simp [results, Try.results16, go_sem]) rfl ?_
  exact ⟨rfl, (Below.refl _ _).alloc (Nat.le_refl _) _⟩

theorem ownsRow_away {w : World} {base p o : Nat} {e : TypeId} {size n : Nat} {v : Value} {xs : List Value} (h : w.ownsRow base e size v n xs) (hp : v.ownBlock ≠ some p) (u : Value) : (w.setCell ⟨p, o, none⟩ u).ownsRow base e size v n xs := by
  refine ⟨h.1, ?_⟩
  rcases h.2 with hn | ⟨g, cap, cur, rfl, hb, hgg, rest⟩
  · exact .inl hn
  · exact .inr ⟨g, cap, cur, rfl, hb, (Below.heap_setCell w ⟨p, o, none⟩ u g (by simpa [Value.ownBlock] using hp)).trans hgg, rest⟩
theorem Tch.of_grown {w w' : World} {p : Nat} {o : Option Nat} (h : w.grownBy w' o) : Tch p o w w' := ⟨h.os, h.tape, h.output, h.size, fun k hk _ ho => h.block k hk ho⟩
theorem Tch.set {w w' : World} {p : Nat} {o : Option Nat} (h : Tch p o w w') (j : Nat) (u : Value) : Tch p o w (w'.setCell ⟨p, j, none⟩ u) :=
  ⟨h.os, h.tape, h.output, by simp [World.setCell]; exact h.size, fun k hk h1 h2 => (Below.heap_setCell w' ⟨p, j, none⟩ u k h1).trans (h.block k hk h1 h2)⟩
theorem erase_at (L : List Ent) (i : Nat) (h : i < L.length) : flatE (L.eraseIdx i) = (flatE L).take (i * 3) ++ (flatE L).drop ((i + 1) * 3) := by
  rw [List.eraseIdx_eq_take_drop_succ, flatE_app, flatE_take L i (by omega), flatE_drop L (i + 1) (by omega)]

set_option maxHeartbeats 1000000 in
theorem takeOut_any (base p i : Nat) (v : Value) (L : List Ent) (w : World) (h : Stk base p v L w) (hi : i < L.length) :
    Calls Try.prog 83 #[ptr p, .int .i64 (i : Int)] w fun e w' => e = .returned (.tuple #[]) ∧ Upd base p v (L.eraseIdx i) w w' := by
  obtain ⟨q, cap, rfl, hc, hm, hg⟩ := h.slice
  obtain ⟨g, rfl, hgl⟩ := hg (by omega)
  have c0 : w.cell? ⟨p, 0, none⟩ = some (.slice (some ⟨g, 0, none⟩) L.length cap) := h.1.cell 0
  have hgp : g ≠ p := by have := h.2.2; simpa [Value.ownBlock] using this
  have C := hide (sdel_any base g L.length cap i (flatE L) w h.2.1 (flatE_one L) hi)
  have H := hide h
  have hii : (i : Int) + 1 ≤ 9223372036854775807 := by omega
  have hil : (L.eraseIdx i).length = L.length - 1 := by rw [List.length_eraseIdx, if_pos hi]
  have HI := hide hil
  have HF := hide (erase_at L i hi)
  clear h hil
  unfold ptr
  go_enter Try.func83, Try.ntmps83
  go_wp2_with fail
  refine (unhide C).mono ?_
  rintro e w1 ⟨rfl, hown, hgr⟩
  have kb : Blk w1 p #[.slice (some ⟨g, 0, none⟩) L.length cap] 85 := (hgr.block p (unhide H).1.lt (by simpa using fun e => hgp e.symm)).trans (unhide H).1
  have d0 : w1.cell? ⟨p, 0, none⟩ = some (.slice (some ⟨g, 0, none⟩) L.length cap) := kb.cell 0
  have f0 : w1.frozen? ⟨p, 0, none⟩ = false := kb.frozen 0
  go_wp2
  refine bodyPost_end (v := .tuple #[]) (results_none Try.results83 _ _ _) rfl ?_
  refine ⟨rfl, .slice (some ⟨g, 0, none⟩) (L.length - 1) cap, ⟨kb.set 0 (by simp) _, ?_, by simpa [Value.ownBlock] using hgp⟩, ?_, fun k hk => Or.inl hk⟩
  · rw [unhide HI, unhide HF]
    refine ownsRow_away hown (by simpa [Value.ownBlock] using hgp) _
  · exact (Tch.of_grown hgr).set _ _

/-- What an operation leaves while blocks of its own, made on the way, are written. -/
def UpdW (base p : Nat) (v : Value) (L' : List Ent) (z : Nat) (w w' : World) : Prop :=
  ∃ v', Stk base p v' L' w' ∧ Tch p v.ownBlock w w' ∧ (∀ k, v'.ownBlock = some k → v.ownBlock = some k ∨ z ≤ k)
theorem UpdW.out {base p z : Nat} {v : Value} {L : List Ent} {w w' : World} (h : UpdW base p v L z w w') (hz : w.heap.size ≤ z) : Upd base p v L w w' := by
  obtain ⟨v', hs, ht, ho⟩ := h
  exact ⟨v', hs, ht, fun k hk => (ho k hk).imp id (fun h => Nat.le_trans hz h)⟩
theorem Upd.open {base p : Nat} {v : Value} {L : List Ent} {w w' w'' : World} (hb : Below w.heap.size w w') (h : Upd base p v L w' w'') : UpdW base p v L w'.heap.size w w'' := by
  obtain ⟨v', hs, ht, ho⟩ := h
  exact ⟨v', hs, ⟨ht.os.trans hb.os, ht.tape.trans hb.tape, ht.output.trans hb.output, Nat.le_trans hb.size ht.size, fun k hk h1 h2 => (ht.block k (Nat.lt_of_lt_of_le hk hb.size) h1 h2).trans (hb.block k hk)⟩, ho⟩
theorem UpdW.put {base p z B : Nat} {v : Value} {L : List Ent} {w w' : World} (h : UpdW base p v L z w w') (hB1 : w.heap.size ≤ B) (hB2 : B < z) (hp : p < w.heap.size) (hv : ∀ k, v.ownBlock = some k → k < w.heap.size) (j : Nat) (u : Value) : UpdW base p v L z w (w'.setCell ⟨B, j, none⟩ u) := by
  obtain ⟨v', hs, ht, ho⟩ := h
  refine ⟨v', ⟨hs.1.away (by omega) _, ownsRow_away hs.2.1 (fun e => ?_) _, hs.2.2⟩, ⟨ht.os, ht.tape, ht.output, by simp [World.setCell]; exact ht.size, fun k hk h1 h2 => (Below.heap_setCell w' ⟨B, j, none⟩ u k (by simp; omega)).trans (ht.block k hk h1 h2)⟩, ho⟩
  rcases ho _ e with h | h
  · have := hv _ h; omega
  · omega
theorem Stk.own {base p : Nat} {v : Value} {L : List Ent} {w : World} (h : Stk base p v L w) : ∀ k, v.ownBlock = some k → k < w.heap.size := fun k hk => (h.2.1.lt k hk).2
theorem Tch.blk_new {p b : Nat} {o : Option Nat} {w w' : World} {vs : Array Value} {t : TypeId} (h : Tch p o w w') (hb : Blk w b vs t) (hp : p < b) (ho : ∀ k, o = some k → k < b) : Blk w' b vs t :=
  h.blk hb (by omega) (fun e => by have := ho b e.symm; omega)

set_option maxHeartbeats 1000000 in
theorem pop_some (base p : Nat) (v : Value) (a : List Ent) (x : Ent) (w : World) (h : Stk base p v (a ++ [x]) w) :
    Calls Try.prog 41 #[ptr p] w fun e w' => e = .returned (.tuple #[entV x, .bool true]) ∧ Upd base p v a w w' := by
  have hl : (a ++ [x]).length = a.length + 1 := by simp
  have b1 : Below w.heap.size w (w.alloc (Obj.cells #[.int .i64 0, .int .i64 0, .string ⟨#[]⟩] 32)) := (Below.refl _ _).alloc (Nat.le_refl _) _
  have C := hide (top_some base p v a x _ (h.later b1))
  have HB1 := hide b1
  have D := hide (fun W hW => takeOut_any base p a.length v (a ++ [x]) W hW (by simp))
  have hpl := h.lt
  have hol := hide h.own
  have H := hide h
  have hv : ∃ q cap, v = .slice q (a.length + 1) cap := by
    obtain ⟨q, cap, e, _⟩ := h.slice
    rw [hl] at e; exact ⟨q, cap, e⟩
  obtain ⟨q, cap, rfl⟩ := hv
  have hn : (a.length : Int) + 1 ≤ 9223372036854775807 := by
    obtain ⟨q', cap', e, hc, hm, _⟩ := h.slice
    rw [hl] at hc; omega
  have he : (a ++ [x]).eraseIdx a.length = a := by
    rw [List.eraseIdx_append_of_length_le (Nat.le_refl _), Nat.sub_self]; simp
  rw [he] at D
  unfold entV at *
  obtain ⟨id, sp, nm⟩ := x
  dsimp only at *
  generalize hgn : a.length = n at *
  clear h b1 hl he
  unfold ptr at *
  go_enter Try.func41, Try.ntmps41
  go_wp2_with fail
  refine (unhide C).mono ?_
  rintro e w1 ⟨rfl, hb1⟩
  have hz1 : w.heap.size < w1.heap.size := by have := hb1.size; simp at this; omega
  have bx : Below w.heap.size w (w1.alloc (Obj.cells #[.int .i64 id, .int .i64 sp, .string nm] 32)) := (tr2 (unhide HB1) hb1).alloc (by omega) _
  have sx := (unhide H).later bx
  have kR : Blk (w1.alloc (Obj.cells #[.int .i64 id, .int .i64 sp, .string nm] 32)) w.heap.size #[.int .i64 0, .int .i64 0, .string ⟨#[]⟩] 32 := ((Blk.new w _ _).later hb1).alloc _
  have kE : Blk (w1.alloc (Obj.cells #[.int .i64 id, .int .i64 sp, .string nm] 32)) w1.heap.size #[.int .i64 id, .int .i64 sp, .string nm] 32 := Blk.new w1 _ _
  have cp : (w1.alloc (Obj.cells #[.int .i64 id, .int .i64 sp, .string nm] 32)).cell? ⟨p, 0, none⟩ = some (.slice q (n + 1) cap) := sx.1.cell 0
  have BX := hide bx
  have SX := hide sx
  have KR := hide kR
  have KE := hide kE
  clear bx sx kR kE
  go_wp2_with fail
  refine (unhide D _ (unhide SX)).mono ?_
  rintro e w3 ⟨rfl, hu⟩
  have hu' := hu
  obtain ⟨v', hs3, ht3, ho3⟩ := hu'
  have hzp : p < w1.heap.size := by omega
  have kR3 : Blk w3 w.heap.size _ _ := ht3.blk_new (unhide KR) hpl (unhide hol)
  have kE3 : Blk w3 w1.heap.size _ _ := ht3.blk_new (unhide KE) hzp (fun k hk => by have := unhide hol k hk; omega)
  have d0 : w3.cell? ⟨w1.heap.size, 0, none⟩ = some (.int .i64 id) := kE3.cell 0
  have d1 : w3.cell? ⟨w1.heap.size, 1, none⟩ = some (.int .i64 sp) := kE3.cell 1
  have d2 : w3.cell? ⟨w1.heap.size, 2, none⟩ = some (.string nm) := kE3.cell 2
  have r0 : w3.cell? ⟨w.heap.size, 0, none⟩ = some (.int .i64 0) := kR3.cell 0
  have r1 : w3.cell? ⟨w.heap.size, 1, none⟩ = some (.int .i64 0) := kR3.cell 1
  have r2 : w3.cell? ⟨w.heap.size, 2, none⟩ = some (.string ⟨#[]⟩) := kR3.cell 2
  have f0 : w3.frozen? ⟨w.heap.size, 0, none⟩ = false := kR3.frozen 0
  have f1 : w3.frozen? ⟨w.heap.size, 1, none⟩ = false := kR3.frozen 1
  have f2 : w3.frozen? ⟨w.heap.size, 2, none⟩ = false := kR3.frozen 2
  have U3 := hide (Upd.open (unhide BX) hu)
  have hzB : w.heap.size < (w1.alloc (Obj.cells #[.int .i64 id, .int .i64 sp, .string nm] 32)).heap.size := by simp; omega
  have kF := hide ((((kR3.set 0 (by simp) (.int .i64 id)).set 1 (by simp) (.int .i64 sp)).set 2 (by simp) (.string nm)))
  clear hu hs3 ht3 ho3 kR3 kE3
  go_wp2
  have g0 := (unhide kF).cell 0
  have g1 := (unhide kF).cell 1
  have g2 := (unhide kF).cell 2
  refine bodyPost_ret (v := .tuple #[.agg #[.int .i64 id, .int .i64 sp, .string nm], .bool true]) (by simp [results, Try.results41, go_sem, g0, g1, g2]) rfl ?_
  refine ⟨rfl, UpdW.out ((((unhide U3).put (Nat.le_refl _) hzB hpl (unhide hol) _ _).put (Nat.le_refl _) hzB hpl (unhide hol) _ _).put (Nat.le_refl _) hzB hpl (unhide hol) _ _) (Nat.le_of_lt hzB)⟩

set_option maxHeartbeats 1000000 in
theorem pop_none (q : Value) (w : World) (hq : Hid (∀ w1, Below w.heap.size w w1 → Calls Try.prog 16 #[q] w1 fun e w' => e = .returned (.tuple #[entV e0, .bool false]) ∧ Below w1.heap.size w1 w')) :
    Calls Try.prog 41 #[q] w fun e w' => e = .returned (.tuple #[entV e0, .bool false]) ∧ Below w.heap.size w w' := by
  unfold entV e0 at *
  dsimp only at *
  go_enter Try.func41, Try.ntmps41
  go_wp2_with fail
  refine (unhide hq _ ((Below.refl _ _).alloc (Nat.le_refl _) _)).mono ?_
  rintro e w1 ⟨rfl, hb1⟩
  have hz1 : w.heap.size < w1.heap.size := by have := hb1.size; simp at this; omega
  have kR : Blk w1 w.heap.size #[.int .i64 0, .int .i64 0, .string ⟨#[]⟩] 32 := (Blk.new w _ _).later hb1
  have r0 : w1.cell? ⟨w.heap.size, 0, none⟩ = some (.int .i64 0) := kR.cell 0
  have r1 : w1.cell? ⟨w.heap.size, 1, none⟩ = some (.int .i64 0) := kR.cell 1
  have r2 : w1.cell? ⟨w.heap.size, 2, none⟩ = some (.string ⟨#[]⟩) := kR.cell 2
  have f0 : w1.frozen? ⟨w.heap.size, 0, none⟩ = false := kR.frozen 0
  have f1 : w1.frozen? ⟨w.heap.size, 1, none⟩ = false := kR.frozen 1
  have f2 : w1.frozen? ⟨w.heap.size, 2, none⟩ = false := kR.frozen 2
  have bx := hide (bel_of hb1)
  have kF := hide ((((kR.set 0 (by simp) (.int .i64 0)).set 1 (by simp) (.int .i64 0)).set 2 (by simp) (.string ⟨#[]⟩)))
  clear hb1 kR
  go_wp2
  have kG := (unhide kF).alloc (Obj.cells #[.int .i64 0, .int .i64 0, .string ⟨#[]⟩] 32)
  have g0 := kG.cell 0
  have g1 := kG.cell 1
  have g2 := kG.cell 2
  refine bodyPost_ret (v := .tuple #[.agg #[.int .i64 0, .int .i64 0, .string ⟨#[]⟩], .bool false]) (by simp [results, Try.results41, go_sem, g0, g1, g2]) rfl ?_
  exact ⟨rfl, ((((unhide bx).setCell (p := ⟨w.heap.size, 0, none⟩) (Nat.le_refl _) _).setCell (p := ⟨w.heap.size, 1, none⟩) (Nat.le_refl _) _).setCell (p := ⟨w.heap.size, 2, none⟩) (Nat.le_refl _) _).alloc (by simp [World.setCell]; omega) _⟩
end Go.Proofs.Ytdkjdomacilagaa
