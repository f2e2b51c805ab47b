/-
  What a list's Mark and Insert do, of entries without attributes.
-/
import Derived.Test.YtabajhbghjfhoaaAAd
namespace Go.Proofs.Ytabajhbghjfhoaa
open Go.RowKit
set_option linter.unusedVariables false
set_option linter.unusedSimpArgs false

def eMk : AEnt := ⟨true, 0, ⟨#[]⟩, none, 0, 0⟩
theorem flatE_one1 (x : AEnt) : flatE [x] = entL x := by simp [flatE]
theorem app_close {base p n : Nat} {v v' : Value} {L L' : List AEnt} {xs : List Value} {w W w3 : World} (hb : Below w.heap.size w W) (hs : Stk base p v L W) (hgr : W.grownBy w3 v.ownBlock) (hown : w3.ownsRow base 58 4 v' n xs) (hn : L'.length = n) (hx : flatE L' = xs) (hat : v'.ownBlock = v.ownBlock ∨ v'.ownBlock = some W.heap.size) (kb : Blk w3 p #[v] 94) :
    Upd base p v L' w (w3.setCell ⟨p, 0, none⟩ v') := by
  have hp := hs.lt
  have hne : v'.ownBlock ≠ some p := by
    rcases hat with h | h
    · rw [h]; exact hs.2.2
    · rw [h]; simp; omega
  refine Upd.ahead hb ⟨v', ⟨kb.set 0 (by simp) v', ?_, hne⟩, (Tch.of_grown hgr).set _ _, fun k hk => ?_⟩
  · rw [hn, hx]; exact ownsRow_away hown hne _
  · rcases hat with h | h
    · exact Or.inl (by rw [← h]; exact hk)
    · rw [h] at hk; cases hk; exact Or.inr (Nat.le_refl _)
set_option maxHeartbeats 2000000 in
set_option maxRecDepth 100000 in
theorem mark_any (base p : Nat) (v : Value) (L : List AEnt) (w : World) (h : Stk base p v L w) (hbase : base ≤ w.heap.size) (hN : L.length < 100) :
    Calls Try.prog 32 #[ptr p] w fun e w' => e = .returned (.int .i64 0) ∧ Upd base p v (L ++ [eMk]) w w' := by
  obtain ⟨i0, hi0, hi1, hi2, hi3⟩ := infoA
  have C := hide (room_any base p v L w h)
  rw [if_neg (by omega)] at C
  have hcp : w.cell? ⟨p, 0, none⟩ = some v := h.1.cell 0
  obtain ⟨q, cap, hv, hc, hm, hg⟩ := h.slice
  have b1 : Below w.heap.size w (w.alloc (Obj.cells #[.bool true, .int .i64 0, .string ⟨#[]⟩, .slice none 0 0] 58)) := (Below.refl _ _).alloc (Nat.le_refl _) _
  have S1 := hide (h.later b1)
  have HB := hide b1
  have hsz : Hid (p < (w.alloc (Obj.cells #[.bool true, .int .i64 0, .string ⟨#[]⟩, .slice none 0 0] 58)).heap.size) := (unhide S1).lt
  have hpo := hide (fun e => h.2.2 e.symm : some p ≠ v.ownBlock)
  have HLN : Hid ((L ++ [eMk]).length = L.length + 1) := hide (by simp)
  have HF : Hid (flatE (L ++ [eMk]) = flatE L ++ entL eMk) := hide (by rw [flatE_app, flatE_one1])
  have HS : Hid (∀ j u, (entL eMk)[j]? = some u → (w.alloc (Obj.cells #[.bool true, .int .i64 0, .string ⟨#[]⟩, .slice none 0 0] 58)).cell? ((⟨w.heap.size, 0, none⟩ : Addr).add j) = some u) := hide fun j u hj => by
    rw [Addr.add_lit, Nat.zero_add, (Blk.new w _ _).cell j]
    simpa [entL, eMk] using hj
  clear h b1 hg
  subst hv
  unfold ptr at *
  go_enter Try.func32, Try.ntmps32
  go_wp2_with fail
  refine (unhide C).mono ?_
  rintro e w1 ⟨rfl, hw1⟩
  obtain rfl : w = w1 := hw1.symm
  go_wp2_with (at_builtin; refine wpList_append_own_at _ rfl _ _ 62 rfl base 58 i0 (.agg #[.bool false, .int .i64 0, .string ⟨#[]⟩, .slice none 0 0]) 4 56 Try.underlying62 hi0 hi1 hi2 hi3 rfl (by decide) _ L.length (flatE L) rfl (unhide S1).2.1 ⟨w.heap.size, 0, none⟩ 1 1 (entL eMk) rfl rfl (unhide HS) ?c2 ?c3 ?c4 ?c5 ?_)
  case c2 => simp [entL, eMk, Value.oneCell']
  case c3 => simp only [maxLen]; omega
  case c4 => omega
  case c5 => simp; omega
  intro v' w3 hown hgr _ hat
  have kb : Blk w3 p _ _ := (hgr.block p (unhide hsz) (unhide hpo)).trans (unhide S1).1
  have d0 : w3.cell? ⟨p, 0, none⟩ = some (.slice q L.length cap) := kb.cell 0
  have f0 : w3.frozen? ⟨p, 0, none⟩ = false := kb.frozen 0
  have KB := hide kb
  clear kb
  obtain ⟨q', n', c', rfl⟩ := slice_of hown
  go_wp2
  go_ret
  exact ⟨rfl, app_close (unhide HB) (unhide S1) hgr hown (unhide HLN) (unhide HF) (by simpa using hat) (unhide KB)⟩
set_option maxHeartbeats 1000000 in
theorem mark_full (base p : Nat) (v : Value) (L : List AEnt) (w : World) (h : Stk base p v L w) (hN : 100 ≤ L.length) :
    Calls Try.prog 32 #[ptr p] w fun e w' => e = .returned (.int .i64 5) ∧ w' = w := by
  have C := hide (room_any base p v L w h)
  rw [if_pos hN] at C
  clear h
  unfold ptr at *
  go_enter Try.func32, Try.ntmps32
  go_wp2_with fail
  refine (unhide C).mono ?_
  rintro e w1 ⟨rfl, hw1⟩
  obtain rfl : w = w1 := hw1.symm
  go_wp2
  go_ret
  exact ⟨rfl, rfl⟩
theorem mark_nil (w : World) : Calls Try.prog 32 #[.pointer none] w fun e w' => e = .returned (.int .i64 7) ∧ w' = w := by
  have C := hide (room_nil w)
  go_enter Try.func32, Try.ntmps32
  go_wp2_with fail
  refine (unhide C).mono ?_
  rintro e w1 ⟨rfl, hw1⟩
  obtain rfl : w = w1 := hw1.symm
  go_wp2
  go_ret
  exact ⟨rfl, rfl⟩
end Go.Proofs.Ytabajhbghjfhoaa
