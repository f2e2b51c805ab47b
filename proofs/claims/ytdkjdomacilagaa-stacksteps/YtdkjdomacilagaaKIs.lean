/-
  What a stack's Insert, Push, To and All do.
-/
import Derived.Test.YtdkjdomacilagaaKFi
namespace Go.Proofs.Ytdkjdomacilagaa
open Go.RowKit
set_option linter.unusedVariables false

/-- What Insert answers: 1: no such place; 5: full; 0. -/
def insE (at' : Int) (n : Nat) : Int := if at' < 0 ∨ (n : Int) < at' then 1 else if 200 ≤ n then 5 else 0
def insL (at' : Int) (x : Ent) (L : List Ent) : List Ent := if at' < 0 ∨ (L.length : Int) < at' then L else if 200 ≤ L.length then L else L.take at'.toNat ++ [x] ++ L.drop at'.toNat

theorem flatE_ins (L : List Ent) (i : Nat) (x : Ent) (h : i ≤ L.length) : flatE (L.take i ++ [x] ++ L.drop i) = (flatE L).take (i * 3) ++ entL x ++ (flatE L).drop (i * 3) := by
  rw [flatE_app, flatE_app, flatE_take L i h, flatE_drop L i h]
  simp [flatE]

theorem ins_close {base p n : Nat} {v v' : Value} {L L' : List Ent} {xs : List Value} {w W w3 : World} (hb : Below w.heap.size w W) (hs : Stk base p v L W) (hgr : W.grownBy w3 v.ownBlock) (hown : w3.ownsRow base 32 3 v' n xs) (hn : L'.length = n) (hx : flatE L' = xs) (hat : v'.ownBlock = v.ownBlock ∨ v'.ownBlock = some W.heap.size) (kb : Blk w3 p #[v] 85) :
    Upd base p v L' w (w3.setCell ⟨p, 0, none⟩ v') := by
  have hp := hs.lt
  have hne : v'.ownBlock ≠ some p := by
    rcases hat with h | h
    · rw [h]; exact hs.2.2
    · rw [h]; simp; omega
  refine Upd.ahead hb ⟨v', ⟨kb.set 0 (by simp) v', ?_, hne⟩, (Tch.of_grown hgr).set _ _, fun k hk => ?_⟩
  · rw [hn, hx]; exact ownsRow_away hown hne _
  · rcases hat with h | h
    · exact Or.inl (by rw [← h]; exact hk)
    · rw [h] at hk; cases hk; exact Or.inr (Nat.le_refl _)

set_option maxHeartbeats 4000000 in
set_option maxRecDepth 100000 in
theorem insert_in (base p i : Nat) (v : Value) (x : Ent) (L : List Ent) (w : World) (h : Stk base p v L w) (hbase : base ≤ w.heap.size) (hi : i ≤ L.length) (hN : L.length < 200) :
    Calls Try.prog 37 #[ptr p, .int .i64 (i : Int), entV x] w fun e w' => e = .returned (.int .i64 0) ∧ Upd base p v (L.take i ++ [x] ++ L.drop i) w w' := by
  obtain ⟨q, cap, hv, hc, hm, hg⟩ := h.slice
  have C := hide (fun W (hW : Stk base p v L W) => entries_at p v W hW.1 ⟨_, _, _, hv⟩)
  have hne : v.ownBlock ≠ some (w.heap.size + 1) := fun e => by have := h.own _ e; omega
  have D := hide (fun W (hW : Stk base p v L W) (hB : Blk W (w.heap.size + 1) (entL x).toArray 32) (hb : base ≤ W.heap.size) =>
    sins_any base (w.heap.size + 1) L.length i v (flatE L) (entL x) W hW.2.1 (by omega) hi (flatE_one L) hB rfl (by simp [entL, Value.oneCell']) hb hne)
  have b1 := hide ((Below.refl w.heap.size w).alloc (Nat.le_refl _) (Obj.cells #[.int .i64 x.id, .int .i64 x.sp, .string x.nm] 32))
  have b2 := hide ((unhide b1).alloc (by simp) (Obj.cells #[.int .i64 x.id, .int .i64 x.sp, .string x.nm] 32))
  have s1 := hide (h.later (unhide b1))
  have s2 := hide (h.later (unhide b2))
  have k2 : Hid (Blk ((w.alloc (Obj.cells #[.int .i64 x.id, .int .i64 x.sp, .string x.nm] 32)).alloc (Obj.cells #[.int .i64 x.id, .int .i64 x.sp, .string x.nm] 32)) (w.heap.size + 1) #[.int .i64 x.id, .int .i64 x.sp, .string x.nm] 32) := by
    have h1 := Blk.new (w.alloc (Obj.cells #[.int .i64 x.id, .int .i64 x.sp, .string x.nm] 32)) #[.int .i64 x.id, .int .i64 x.sp, .string x.nm] 32
    rw [show (w.alloc (Obj.cells #[.int .i64 x.id, .int .i64 x.sp, .string x.nm] 32)).heap.size = w.heap.size + 1 by simp] at h1
    exact h1
  have DD : Hid (Calls Try.prog 79 #[v, .int .i64 (i : Int), .slice (some ⟨w.heap.size + 1, 0, none⟩) 1 1] ((w.alloc (Obj.cells #[.int .i64 x.id, .int .i64 x.sp, .string x.nm] 32)).alloc (Obj.cells #[.int .i64 x.id, .int .i64 x.sp, .string x.nm] 32)).drew (InsPost base v L.length i (flatE L) (entL x) ((w.alloc (Obj.cells #[.int .i64 x.id, .int .i64 x.sp, .string x.nm] 32)).alloc (Obj.cells #[.int .i64 x.id, .int .i64 x.sp, .string x.nm] 32)).drew)) := hide (unhide D _ (unhide s2) (unhide k2) (by simp; omega))
  have b2' : Hid (Hid (Below w.heap.size w ((w.alloc (Obj.cells #[.int .i64 x.id, .int .i64 x.sp, .string x.nm] 32)).alloc (Obj.cells #[.int .i64 x.id, .int .i64 x.sp, .string x.nm] 32)).drew)) := (unhide b2).drew
  have HLN : Hid ((L.take i ++ [x] ++ L.drop i).length = L.length + 1) := hide (by simp; omega)
  have s2' : Hid (Stk base p v L ((w.alloc (Obj.cells #[.int .i64 x.id, .int .i64 x.sp, .string x.nm] 32)).alloc (Obj.cells #[.int .i64 x.id, .int .i64 x.sp, .string x.nm] 32)).drew) := unhide s2
  have hsz : Hid (p < ((w.alloc (Obj.cells #[.int .i64 x.id, .int .i64 x.sp, .string x.nm] 32)).alloc (Obj.cells #[.int .i64 x.id, .int .i64 x.sp, .string x.nm] 32)).drew.heap.size) := (unhide s2).lt
  have H := hide h
  have HF := hide (flatE_ins L i x hi)
  have HI := hide hi
  have hnI : (i : Int) ≤ (L.length : Int) := by omega
  have hNI : (L.length : Int) < 200 := by omega
  have hcp : w.cell? ⟨p, 0, none⟩ = some v := h.1.cell 0
  have hpl := h.lt
  have hpo := hide (fun e => h.2.2 e.symm : some p ≠ v.ownBlock)
  clear h hg hne hi
  subst hv
  obtain ⟨xi, xs, xn⟩ := x
  unfold entV ptr at *
  dsimp only at *
  go_enter Try.func37, Try.ntmps37
  go_wp2_with fail
  refine (unhide C _ (unhide s1)).mono ?_
  rintro e w1 ⟨rfl, hw1⟩
  subst hw1
  go_wp2_with fail
  go_region_with (go_at_call 79; refine (unhide DD).mono ?_; rintro e w3 ⟨v', rfl, hown, hgr, hat⟩; have kb : Blk w3 p _ _ := (hgr.block p (unhide hsz) (unhide hpo)).trans (unhide s2').1; have d0 : w3.cell? ⟨p, 0, none⟩ = _ := kb.cell 0; have f0 : w3.frozen? ⟨p, 0, none⟩ = false := kb.frozen 0; have KB := hide kb; clear kb; obtain ⟨q', n', c', rfl⟩ := slice_of hown)
  all_goals (
    go_wp2
    go_ret
    refine ⟨rfl, ins_close (unhide b2').out (unhide s2') hgr hown (unhide HLN) (unhide HF) hat (unhide KB)⟩)
end Go.Proofs.Ytdkjdomacilagaa
