/-
  What a stack's Insert answers where it refuses; Push, To and All.
-/
import Derived.Test.YtdkjdomacilagaaKIs
import Derived.Lib.SliceRun
namespace Go.Proofs.Ytdkjdomacilagaa
open Go.RowKit
set_option linter.unusedVariables false

set_option maxHeartbeats 1000000 in
theorem insert_arg (q : Value) (c : Option Addr) (n cap : Nat) (at' : Int) (x : Ent) (w : World) (hq : Hid (∀ w1, Below w.heap.size w w1 → Calls Try.prog 51 #[q] w1 fun e w' => e = .returned (.slice c n cap) ∧ w' = w1)) (h : at' < 0 ∨ (n : Int) < at') :
    Calls Try.prog 37 #[q, .int .i64 at', entV x] w fun e w' => e = .returned (.int .i64 1) ∧ Below w.heap.size w w' := by
  unfold entV
  by_cases h0 : at' < 0
  · clear h
    go_enter Try.func37, Try.ntmps37
    go_wp2_with fail
    refine (unhide hq _ ((Below.refl _ _).alloc (Nat.le_refl _) _)).mono ?_
    rintro e w1 ⟨rfl, rfl⟩
    go_wp2
    go_ret
    exact ⟨rfl, (Below.refl _ _).alloc (Nat.le_refl _) _⟩
  · have h1 : (n : Int) < at' := by omega
    have hd : decide (at' < 0) = false := decide_eq_false h0
    clear h
    go_enter Try.func37, Try.ntmps37
    go_wp2_with fail
    refine (unhide hq _ ((Below.refl _ _).alloc (Nat.le_refl _) _)).mono ?_
    rintro e w1 ⟨rfl, rfl⟩
    go_wp2
    go_ret
    exact ⟨rfl, (Below.refl _ _).alloc (Nat.le_refl _) _⟩
set_option maxHeartbeats 1000000 in
theorem insert_full (p n cap : Nat) (c : Option Addr) (at' : Int) (x : Ent) (w : World) (hq : Hid (∀ w1, Below w.heap.size w w1 → Calls Try.prog 51 #[ptr p] w1 fun e w' => e = .returned (.slice c n cap) ∧ w' = w1)) (h0 : 0 ≤ at') (h1 : at' ≤ (n : Int)) (hn : 200 ≤ n) :
    Calls Try.prog 37 #[ptr p, .int .i64 at', entV x] w fun e w' => e = .returned (.int .i64 5) ∧ Below w.heap.size w w' := by
  unfold entV
  unfold ptr at *
  have hd : decide (at' < 0) = false := decide_eq_false (by omega)
  have hd2 : ¬ (n : Int) < at' := by omega
  have hd3 : (200 : Int) ≤ (n : Int) := by omega
  go_enter Try.func37, Try.ntmps37
  go_wp2_with fail
  refine (unhide hq _ ((Below.refl _ _).alloc (Nat.le_refl _) _)).mono ?_
  rintro e w1 ⟨rfl, rfl⟩
  go_wp2
  go_ret
  exact ⟨rfl, (Below.refl _ _).alloc (Nat.le_refl _) _⟩
set_option maxHeartbeats 1000000 in
theorem insert_nil (at' : Int) (x : Ent) (w : World) :
    Calls Try.prog 37 #[.pointer none, .int .i64 at', entV x] w fun e w' => e = .returned (.int .i64 (if at' = 0 then 7 else 1)) ∧ Below w.heap.size w w' := by
  by_cases h : at' = 0
  · subst h
    rw [if_pos rfl]
    unfold entV
    have C := hide (fun w1 => entries_nil w1)
    go_enter Try.func37, Try.ntmps37
    go_wp2_with fail
    refine (unhide C _).mono ?_
    rintro e w1 ⟨rfl, rfl⟩
    go_wp2
    go_ret
    exact ⟨rfl, (Below.refl _ _).alloc (Nat.le_refl _) _⟩
  · rw [if_neg h]
    exact insert_arg _ none 0 0 at' x w (hide fun w1 _ => entries_nil w1) (by omega)
theorem insert_any (base p : Nat) (v : Value) (at' : Int) (x : Ent) (L : List Ent) (w : World) (h : Stk base p v L w) (hbase : base ≤ w.heap.size) :
    Calls Try.prog 37 #[ptr p, .int .i64 at', entV x] w fun e w' => e = .returned (.int .i64 (insE at' L.length)) ∧ Upd base p v (insL at' x L) w w' := by
  obtain ⟨q, cap, hv, hc, hm, hg⟩ := h.slice
  unfold insE insL
  by_cases h1 : at' < 0 ∨ (L.length : Int) < at'
  · rw [if_pos h1, if_pos h1]
    refine (insert_arg (ptr p) q L.length cap at' x w (hide fun w1 hb => by rw [← hv]; exact entries_at p v w1 (h.later hb).1 ⟨_, _, _, hv⟩) h1).mono ?_
    rintro e w1 ⟨rfl, hb⟩
    exact ⟨rfl, Upd.same h hb⟩
  · rw [if_neg h1, if_neg h1]
    by_cases h2 : 200 ≤ L.length
    · rw [if_pos h2, if_pos h2]
      refine (insert_full p L.length cap q at' x w (hide fun w1 hb => by rw [← hv]; exact entries_at p v w1 (h.later hb).1 ⟨_, _, _, hv⟩) (by omega) (by omega) h2).mono ?_
      rintro e w1 ⟨rfl, hb⟩
      exact ⟨rfl, Upd.same h hb⟩
    · rw [if_neg h2, if_neg h2]
      have e : ((at'.toNat : Nat) : Int) = at' := by omega
      have := insert_in base p at'.toNat v x L w h hbase (by omega) (by omega)
      rw [e] at this
      exact this

set_option maxHeartbeats 1000000 in
theorem push_any (base p : Nat) (v : Value) (x : Ent) (L : List Ent) (w : World) (h : Stk base p v L w) (hbase : base ≤ w.heap.size) :
    Calls Try.prog 36 #[ptr p, entV x] w fun e w' => e = .returned (.int .i64 (if 200 ≤ L.length then 5 else 0)) ∧ Upd base p v (if 200 ≤ L.length then L else L ++ [x]) w w' := by
  obtain ⟨q, cap, hv, hc, hm, hg⟩ := h.slice
  have b1 : Below w.heap.size w (w.alloc (Obj.cells #[.int .i64 x.id, .int .i64 x.sp, .string x.nm] 32)) := (Below.refl _ _).alloc (Nat.le_refl _) _
  have hE : insE (L.length : Int) L.length = if 200 ≤ L.length then 5 else 0 := by unfold insE; rw [if_neg (by omega)]
  have hL : insL (L.length : Int) x L = if 200 ≤ L.length then L else L ++ [x] := by
    unfold insL; rw [if_neg (by omega)]; simp
  have C := hide (entries_at p v (w.alloc (Obj.cells #[.int .i64 x.id, .int .i64 x.sp, .string x.nm] 32)).drew (h.later b1).1 ⟨_, _, _, hv⟩)
  have D : Hid (∀ q, Calls Try.prog 37 #[ptr p, .int .i64 (L.length : Int), entV x] ((w.alloc (Obj.cells #[.int .i64 x.id, .int .i64 x.sp, .string x.nm] 32)).drewN q) fun e w' => e = .returned (.int .i64 (if 200 ≤ L.length then 5 else 0)) ∧ Upd base p v (if 200 ≤ L.length then L else L ++ [x]) w w') := hide fun q => by
    have bq := below_drewN b1 q
    refine (insert_any base p v (L.length : Int) x L _ (h.later bq) (Nat.le_trans hbase bq.size)).mono ?_
    rintro e w' ⟨rfl, hu⟩
    exact ⟨by rw [hE], by rw [← hL]; exact Upd.ahead bq hu⟩
  generalize (if 200 ≤ L.length then (5 : Int) else 0) = r at *
  generalize (if 200 ≤ L.length then L else L ++ [x]) = L2 at *
  have hn : L.length ≤ 9223372036854775807 := by omega
  clear h hg hE hL b1
  subst hv
  generalize L.length = n at *
  obtain ⟨xi, xs, xn⟩ := x
  unfold entV ptr at *
  dsimp only at *
  go_enter Try.func36, Try.ntmps36
  go_wp2_with fail
  go_region_with (first
    | (go_at_call 51; refine (unhide C).mono ?_; rintro e w1 ⟨rfl, rfl⟩)
    | (go_at_call 37; refine (unhide D 1).mono ?_; rintro e w1 ⟨rfl, hu⟩))
  all_goals (
    go_wp2
    go_ret
    exact ⟨rfl, hu⟩)
set_option maxHeartbeats 1000000 in
theorem push_nil (x : Ent) (w : World) : Calls Try.prog 36 #[.pointer none, entV x] w fun e w' => e = .returned (.int .i64 7) ∧ Below w.heap.size w w' := by
  have C := hide (fun w => entries_nil w)
  have D := hide (fun w => insert_nil 0 x w)
  rw [if_pos rfl] at D
  obtain ⟨xi, xs, xn⟩ := x
  unfold entV at *
  dsimp only at *
  go_enter Try.func36, Try.ntmps36
  go_wp2_with fail
  go_region_with (first
    | (go_at_call 51; refine (unhide C _).mono ?_; rintro e w1 ⟨rfl, rfl⟩)
    | (go_at_call 37; refine (unhide D _).mono ?_; rintro e w1 ⟨rfl, hu⟩))
  all_goals (
    go_wp2
    go_ret
    exact ⟨rfl, tr2 (((Below.refl _ _).alloc (Nat.le_refl _) _).drew) hu⟩)

/-! ### To -/
def toN (ns : List (List UInt8)) (L : List Ent) : Nat := if offN (backF ns) L < L.length then offN (backF ns) L + 1 else offN (backF ns) L
theorem toN_le (ns : List (List UInt8)) (L : List Ent) : toN ns L ≤ L.length := by
  have := offN_le (backF ns) L
  unfold toN; split <;> omega
set_option maxHeartbeats 1000000 in
theorem to_any (base p : Nat) (v nv : Value) (ns : List (List UInt8)) (L : List Ent) (w : World) (h : Stk base p v L w) (hN : L.length ≤ 1000000) (hv : View w nv (Ls ns)) (hsf : ∀ b, nv.ownBlock = some b → b ≠ p ∧ some b ≠ v.ownBlock) :
    Calls Try.prog 43 #[ptr p, nv] w fun e w' => e = .returned (.int .i64 (toN ns L : Nat)) ∧ Upd base p v (L.take (L.length - toN ns L)) w w' := by
  have C := hide (back_any base p v nv ns L w h hN hv hsf)
  have hle := offN_le (backF ns) L
  obtain ⟨_, nq, nc, rfl, _⟩ := hv
  unfold toN
  by_cases hlt : offN (backF ns) L < L.length
  · rw [if_pos hlt]
    obtain ⟨a, x, hM, ha⟩ := take_snoc L (offN (backF ns) L) hlt
    rw [hM] at C
    rw [← ha]
    have hm : ((offN (backF ns) L : Nat) : Int) + 1 ≤ 1000000 := by omega
    generalize offN (backF ns) L = m at *
    have hcast : ((m + 1 : Nat) : Int) = (m : Int) + 1 := by omega
    rw [hcast]
    have CP := hide (fun v' W hW => pop_some base p v' a x W hW)
    obtain ⟨id, sp, nm⟩ := x
    unfold entV ptr at *
    dsimp only at *
    clear h hsf hM ha hcast
    go_enter Try.func43, Try.ntmps43
    go_wp2_with fail
    refine (unhide C).mono ?_
    rintro e w1 ⟨rfl, v', hs, ht, ho⟩
    have HS := hide hs
    have HT := hide (And.intro ht ho)
    clear hs ht ho
    go_wp2_with fail
    refine (unhide CP v' _ (unhide HS)).mono ?_
    rintro e w2 ⟨rfl, hu⟩
    go_wp2
    go_ret
    exact ⟨rfl, (Upd.trans (L := a) (unhide HT).1 (unhide HT).2 hu).after ((Below.refl _ _).alloc (Nat.le_refl _) _)⟩
  · rw [if_neg hlt]
    have e0' : L.length - offN (backF ns) L = 0 := by omega
    rw [e0', List.take_zero] at C
    rw [e0', List.take_zero]
    generalize offN (backF ns) L = m at *
    have CP := hide (fun (v' : Value) W (hW : Stk base p v' [] W) => pop_none (ptr p) W (hide fun w1 hb => by
      obtain ⟨q, cap, e, _⟩ := hW.slice
      refine top_none (ptr p) q cap w1 (hide fun w2 hb2 => ?_)
      have hl := (hW.later hb).later hb2
      rw [e] at hl
      exact entries_at p _ w2 hl.1 ⟨_, _, _, rfl⟩))
    unfold entV e0 ptr at *
    dsimp only at *
    clear h hsf e0'
    go_enter Try.func43, Try.ntmps43
    go_wp2_with fail
    refine (unhide C).mono ?_
    rintro e w1 ⟨rfl, v', hs, ht, ho⟩
    have HS := hide hs
    have HT := hide (And.intro ht ho)
    clear hs ht ho
    go_wp2_with fail
    refine (unhide CP v' _ (unhide HS)).mono ?_
    rintro e w2 ⟨rfl, hb⟩
    go_wp2
    go_ret
    exact ⟨rfl, v', (unhide HS).later (hb.alloc hb.size _), (unhide HT).1.then_below (hb.alloc hb.size _), (unhide HT).2⟩
theorem top_nil (w : World) : Calls Try.prog 16 #[.pointer none] w fun e w' => e = .returned (.tuple #[entV e0, .bool false]) ∧ Below w.heap.size w w' :=
  top_none _ none 0 w (hide fun w1 _ => entries_nil w1)
theorem pop_nil (w : World) : Calls Try.prog 41 #[.pointer none] w fun e w' => e = .returned (.tuple #[entV e0, .bool false]) ∧ Below w.heap.size w w' :=
  pop_none _ w (hide fun w1 _ => top_nil w1)
set_option maxHeartbeats 1000000 in
theorem to_nil (nv : Value) (q : Option Addr) (n cap : Nat) (hv : nv = .slice q n cap) (w : World) :
    Calls Try.prog 43 #[.pointer none, nv] w fun e w' => e = .returned (.int .i64 0) ∧ Below w.heap.size w w' := by
  have C := hide (back_nil nv q n cap hv w)
  have CP := hide (fun w => pop_nil w)
  subst hv
  unfold entV e0 at *
  dsimp only at *
  go_enter Try.func43, Try.ntmps43
  go_wp2_with fail
  refine (unhide C).mono ?_
  rintro e w1 ⟨rfl, hb1⟩
  go_wp2_with fail
  refine (unhide CP _).mono ?_
  rintro e w2 ⟨rfl, hb2⟩
  go_wp2
  go_ret
  have h12 := tr2 hb1 hb2
  exact ⟨rfl, h12.alloc h12.size _⟩

/-! ### All -/
set_option maxHeartbeats 1000000 in
set_option maxRecDepth 100000 in
theorem clone_some (g n cap : Nat) (xs : List Value) (w : World) (hn : n ≤ 1000000) (hl : xs.length = n * 3) (hc : ∀ j u, xs[j]? = some u → w.cell? ((⟨g, 0, none⟩ : Addr).add j) = some u) (h1 : ∀ u ∈ xs, u.oneCell' = true) (hg : g < w.heap.size) :
    Calls Try.prog 50 #[.slice (some ⟨g, 0, none⟩) n cap] w fun e w' => ∃ u, e = .returned u ∧ w'.ownsRow w.heap.size 32 3 u n xs ∧ Below w.heap.size w w' := by
  obtain ⟨i0, hi0, hi1, hi2, hi3⟩ := infoK
  have hrow : (w.alloc (Obj.cells #[] 32)).ownsRow w.heap.size 32 3 (.slice (some ⟨w.heap.size, 0, none⟩) 0 0) 0 [] := World.ownsRow_made w #[] 0 (Nat.le_refl _) (by simp [maxLen]) rfl
  have HC : Hid (∀ j u, xs[j]? = some u → (w.alloc (Obj.cells #[] 32)).cell? ((⟨g, 0, none⟩ : Addr).add j) = some u) := hide fun j u hj => by
    have := hc j u hj
    rw [Addr.add_lit] at this ⊢
    exact (((Below.refl w.heap.size w).alloc (Nat.le_refl _) _).cell (p := ⟨g, 0 + j, none⟩) hg).trans this
  have HR := hide hrow
  have H1 := hide h1
  have HL := hide hl
  clear hrow hc h1 hl
  have q22 : ∀ (w : World) (a : Option Addr) (n c n' c' : Nat), (binOp .eql 37 (.slice a n c) (.slice none n' c')).run Try.prog w = .ok (.bool a.isNone) w := fun w a n c n' c' => Lib.run_eql_slice_nil w _ _ a n c n' c' Try.underlying37
  go_enter Try.func50, Try.ntmps50
  go_wp2_with (at_builtin; refine wpList_append_own_at _ rfl _ _ 37 rfl w.heap.size 32 i0 (.agg #[.int .i64 0, .int .i64 0, .string ⟨#[]⟩]) 3 32 Try.underlying37 hi0 hi1 hi2 hi3 rfl (by decide) _ 0 [] rfl (unhide HR) ⟨g, 0, none⟩ n cap xs rfl ?c1 (unhide HC) ?c2 ?c3 ?c4 ?c5 ?_)
  case c1 => exact unhide HL
  case c2 => exact unhide H1
  case c3 => simp only [maxLen]; omega
  case c4 => omega
  case c5 => simp
  intro v' w1 hown' hgrow _ hat
  go_wp2
  go_ret
  exact ⟨v', rfl, hown', ((Below.refl w.heap.size w).alloc (Nat.le_refl _) _).grown hgrow (by simp) (fun k hk => by simp [Value.ownBlock] at hk; omega)⟩
set_option maxHeartbeats 1000000 in
set_option maxRecDepth 100000 in
theorem clone_none (w : World) : Calls Try.prog 50 #[.slice none 0 0] w fun e w' => e = .returned (.slice none 0 0) ∧ w' = w := by
  have q22 : ∀ (w : World) (a : Option Addr) (n c n' c' : Nat), (binOp .eql 37 (.slice a n c) (.slice none n' c')).run Try.prog w = .ok (.bool a.isNone) w := fun w a n c n' c' => Lib.run_eql_slice_nil w _ _ a n c n' c' Try.underlying37
  go_enter Try.func50, Try.ntmps50
  go_wp2
  go_ret
  exact ⟨rfl, rfl⟩
def AllPost (L : List Ent) (w : World) (e : Ending) (w' : World) : Prop := ∃ u, e = .returned u ∧ w'.ownsRow w.heap.size 32 3 u L.length (flatE L) ∧ Below w.heap.size w w'
set_option maxHeartbeats 1000000 in
theorem all_any (base p : Nat) (v : Value) (L : List Ent) (w : World) (h : Stk base p v L w) (hN : L.length ≤ 1000000) :
    Calls Try.prog 13 #[ptr p] w (AllPost L w) := by
  have C := hide (entries_at p v w h.1 (by obtain ⟨q, cap, e, _⟩ := h.slice; exact ⟨_, _, _, e⟩))
  have D : Hid (Calls Try.prog 50 #[v] w (AllPost L w)) := hide (by
    rcases h.2.1.2 with ⟨rfl, h0⟩ | ⟨g, cap, cur, rfl, hb, hg, hc, hm, hcs, htk⟩
    · refine (clone_none w).mono ?_
      rintro e w' ⟨rfl, rfl⟩
      obtain rfl := List.eq_nil_of_length_eq_zero h0
      exact ⟨_, rfl, World.ownsRow_nil _ _ _ _, Below.refl _ _⟩
    · exact clone_some g L.length cap (flatE L) w hN (flatE_len L) (h.2.1.cells rfl) (flatE_one L) (Array.getElem?_eq_some_iff.1 hg).1)
  obtain ⟨q, cap, hv, _⟩ := h.slice
  subst hv
  clear h
  unfold ptr at *
  go_enter Try.func13, Try.ntmps13
  go_wp2_with fail
  refine (unhide C).mono ?_
  rintro e w1 ⟨rfl, hw1⟩
  obtain rfl : w = w1 := hw1.symm
  go_wp2_with fail
  refine (unhide D).mono ?_
  rintro e w1 ⟨u, rfl, hu⟩
  go_wp2
  go_ret
  exact ⟨u, rfl, hu⟩
theorem all_nil (w : World) : Calls Try.prog 13 #[.pointer none] w fun e w' => e = .returned (.slice none 0 0) ∧ w' = w := by
  have C := hide (entries_nil w)
  have D := hide (clone_none w)
  go_enter Try.func13, Try.ntmps13
  go_wp2_with fail
  refine (unhide C).mono ?_
  rintro e w1 ⟨rfl, hw1⟩
  obtain rfl : w = w1 := hw1.symm
  go_wp2_with fail
  refine (unhide D).mono ?_
  rintro e w1 ⟨rfl, hw1⟩
  obtain rfl : w = w1 := hw1.symm
  go_wp2
  go_ret
  exact ⟨rfl, rfl⟩
end Go.Proofs.Ytdkjdomacilagaa
