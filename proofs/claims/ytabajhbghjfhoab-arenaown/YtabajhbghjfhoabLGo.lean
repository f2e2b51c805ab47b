/-
  The walk of ArenaOwn.
-/
import Derived.Test.YtabajhbghjfhoabGWd
namespace Go.Proofs.Ytabajhbghjfhoab
open Go.RowKit
set_option linter.unusedVariables false
set_option linter.unusedSimpArgs false

set_option maxHeartbeats 2000000 in
set_option maxRecDepth 100000 in
theorem ints_one (g c k d : Nat) (y : Int) (w : World) (h1 : w.cell? ⟨g, 0, none⟩ = some (.int .i64 y)) (h2 : w.cell? ⟨k, 0, none⟩ = some (.int .i64 y)) :
    Calls Try.prog 17 #[.slice (some ⟨g, 0, none⟩) 1 c, .slice (some ⟨k, 0, none⟩) 1 d] w fun e w' => e = .returned (.bool true) ∧ Below w.heap.size w w' := by
  have e1 : (y == y) = true := by simp
  go_enter Try.func17, Try.ntmps17
  go_wp2
  refine wp_loop_rounds 2 ?_
  rw [rounds_succ]; go_wp2
  go_quiet (fail)
  go_wp2
  rw [rounds_succ]; go_wp2
  go_ret
  exact ⟨rfl, _root_.Go.below_drewN (Below.refl _ _) _⟩
def oneX : List Value := [.string ⟨#[120]⟩, .string ⟨#[49]⟩]
/-- The arena of a p with one attribute. -/
structure O3 (base p : Nat) (v : Value) (s a : Sli) (w : World) : Prop where
  arn : Arn base p v [rN s, pN a 0 s0] w
  rs : w.ownsRow base 3 1 (sV s) 1 [.int .i64 1]
  ra : w.ownsRow base 59 2 (sV a) 1 oneX
  ran : a.n = 1
theorem O3.later {base p : Nat} {v : Value} {s a : Sli} {w w' : World} (h : O3 base p v s a w) (hb : Below w.heap.size w w') : O3 base p v s a w' :=
  ⟨h.arn.later hb, ownsRow_below h.rs hb, ownsRow_below h.ra hb, h.ran⟩
theorem row_first {base size n : Nat} {t : TypeId} {v : Value} {xs : List Value} {w : World} (h : w.ownsRow base t size v n xs) (hn : 0 < n) : ∃ g c cur, v = .slice (some ⟨g, 0, none⟩) n c ∧ base ≤ g ∧ Blk w g cur t ∧ (∀ (j : Nat) (u : Value), xs[j]? = some u → w.cell? ⟨g, j, none⟩ = some u) := by
  rcases h.2 with ⟨h1, h2⟩ | ⟨g, cap, cur, h1, h2, h3, _⟩
  · omega
  · refine ⟨g, cap, cur, h1, h2, h3, fun j u hu => ?_⟩
    have := h.cells (g := g) (by rw [h1]; rfl) j u hu
    rw [Addr.add_lit, Nat.zero_add] at this
    exact this
def OwnTree (z : Nat) (e : Ending) (w' : World) : Prop :=
  ∃ g c ga ca cur, e = .returned (.slice (some ⟨g, 0, none⟩) 1 c) ∧ w'.cell? ⟨g, 3, none⟩ = some (.slice (some ⟨ga, 0, none⟩) 1 ca) ∧ z ≤ ga ∧ w'.cell? ⟨ga, 0, none⟩ = some (.string ⟨#[120]⟩) ∧ w'.cell? ⟨ga, 1, none⟩ = some (.string ⟨#[49]⟩) ∧ Blk w' ga cur 59
theorem o3_tree (base p : Nat) (v : Value) (s a : Sli) (w : World) (h : O3 base p v s a w) :
    Calls Try.prog 21 #[ptr p] w fun e w' => OwnTree w.heap.size e w' ∧ Below w.heap.size w w' := by
  have hsn := sV_n h.rs
  refine tree_by (ptr p) w _ (hide ?_)
  have c1 := below_one base p 0 1 v _ oneX [] (fun _ _ => True) w h.arn (by simp) (by simp) (by simp) (by show w.ownsRow base _ 1 (sV s) s.n _; rw [hsn]; exact h.rs) (by show w.ownsRow base _ 2 (sV a) a.n _; rw [h.ran]; exact h.ra) (by simp [oneX, Value.oneCell']) (by show a.n ≤ 100000; rw [h.ran]; omega) (TxtR.nil base w) (hide fun _ _ _ _ _ => trivial) (hide fun W hW => (below_end base p 1 v _ W (h.arn.later hW) (by simp) (row_nil _ _ _ _) rfl).mono (by
    rintro e w' ⟨rfl, hb⟩
    exact ⟨⟨_, _, _, rfl, trivial⟩, hb⟩))
  refine c1.mono ?_
  rintro e w' ⟨⟨q, n, c, rfl, h1⟩, hb⟩
  obtain ⟨g, cap, a', kv, hv, hd, hra, han, _, _⟩ := h1
  refine ⟨⟨_, _, _, rfl⟩, ?_, hb⟩
  have han1 : (([rN s, pN a 0 s0] : List NEnt).getD 1 n0).a.n = 1 := h.ran
  rw [han1] at hra han
  obtain ⟨ga, ca, cur, hva, hga, hbk, hcl⟩ := row_first hra (by omega)
  refine ⟨g, cap, ga, ca, cur, by rw [hv], ?_, hga, hcl 0 _ rfl, hcl 1 _ rfl, hbk⟩
  rw [hd.a]
  exact congrArg some hva
set_option maxHeartbeats 1000000 in
theorem own_long (s : ByteArray) (w : World) (h : 1000 < s.size) :
    Calls Try.prog 7 #[.string s] w fun e w' => e = .returned (.bool true) ∧ Below w.heap.size w w' := by
  have CN := hide (anew_any w.heap.size w (Nat.le_refl _))
  have CC := hide (fun w => words_true w)
  have h1 : (1000 : Int) < (s.size : Int) := by omega
  unfold ptr at *
  go_enter Try.func7, Try.ntmps7
  go_wp2_with fail
  refine (unhide CN).mono ?_
  rintro e w1 ⟨v0, rfl, _, hb1⟩
  have HB := hide hb1
  clear hb1
  go_wp2_with fail
  refine (unhide CC _).mono ?_
  rintro e w2 ⟨rfl, hb2⟩
  go_wp2
  go_ret
  exact ⟨rfl, tr2 (unhide HB) hb2⟩
set_option maxHeartbeats 20000000 in
set_option maxRecDepth 100000 in
theorem own_main (s : ByteArray) (w : World) (h : s.size ≤ 1000) :
    Calls Try.prog 7 #[.string s] w fun e w' => e = .returned (.bool true) ∧ Below w.heap.size w w' := by
  have CN := hide (anew_any w.heap.size w (Nat.le_refl _))
  have CC := hide (fun w => words_true w)
  have h1 : ¬ (1000 : Int) < (s.size : Int) := by omega
  unfold ptr at CN
  go_enter Try.func7, Try.ntmps7
  go_wp2_with fail
  refine (unhide CN).mono ?_
  rintro r w1 ⟨v0, rfl, hA1, hb1⟩
  have hz1 := hb1.size
  have al : Below w1.heap.size w1 (w1.alloc (Obj.cells #[.string ⟨#[120]⟩, .string ⟨#[49]⟩] 59)) := (Below.refl _ _).alloc (Nat.le_refl _) _
  have hA1b := hA1.later al
  have hb1b := tr2 hb1 al
  have kX : Blk (w1.alloc (Obj.cells #[.string ⟨#[120]⟩, .string ⟨#[49]⟩] 59)) w1.heap.size #[.string ⟨#[120]⟩, .string ⟨#[49]⟩] 59 := Blk.new w1 _ _
  have CE := hide (element_mk w.heap.size (w.heap.size + 1) v0 [rootN] 0 ⟨#[112]⟩ (some ⟨w1.heap.size, 0, none⟩) 1 1 oneX (w1.alloc (Obj.cells #[.string ⟨#[120]⟩, .string ⟨#[49]⟩] 59)) hA1b (Nat.le_trans hz1 al.size) (by simp) (by simp) (hide (cloneT_some ⟨w1.heap.size, 0, none⟩ 1 1 oneX (w1.alloc (Obj.cells #[.string ⟨#[120]⟩, .string ⟨#[49]⟩] 59)) (hide rfl) (hide (fun j u hj => by
    rw [Addr.add_lit, Nat.zero_add, kX.cell j]
    simpa [oneX] using hj)) (hide (by simp [oneX, Value.oneCell'])) (by omega))))
  have HA1 := hide hA1b
  have HB1 := hide hb1b
  have HX := hide kX
  clear hA1 hb1 al hA1b hb1b kX
  unfold ptr at CE
  go_wp2_with fail
  refine (unhide CE).mono ?_
  rintro r w2 ⟨v1, a, rfl, hA2, ha2, han, hc2, hv1, hak⟩
  have hza : w.heap.size ≤ (w1.alloc (Obj.cells #[.string ⟨#[120]⟩, .string ⟨#[49]⟩] 59)).heap.size := (unhide HB1).size
  have hb2 : Below w.heap.size w w2 := (unhide HB1).trans (hc2.below hza (fun k hk => by
    rcases hk with e | e
    · omega
    · exact ((unhide HA1).row.lt k e).1))
  have hz2 := hb2.size
  have kX2 := hc2.blk (unhide HX) (by
    rintro (e | e)
    · exact ty_ne (unhide HX) (unhide HA1).blk (by decide) e
    · exact own_ne (unhide HA1).row (unhide HX) (by decide) e)
  have hax : (sV a).ownBlock ≠ some w1.heap.size := fun e => by have := hak _ e; simp at this; omega
  have hA2' : Arn w.heap.size (w.heap.size + 1) v1 [rN s0, pN a (-1) s0] w2 := hA2
  have CP := hide (append_ok w.heap.size (w.heap.size + 1) 0 1 2 v1 [rN s0, pN a (-1) s0] [] w2 hA2' hz2 (by simp) (by simp) (by simp) (row_nil _ _ _ _) (by show (0 : Nat) ≤ 100000; omega) rfl (by omega) rfl rfl)
  have HA2 := hide hA2'
  have HAT2 := hide ha2
  have HB2 := hide hb2
  have HX2 := hide kX2
  have HAX := hide hax
  clear hA2 hA2' ha2 hc2 hb2 hak hv1 CE HA1 HB1 CN hza HX kX2 hax
  unfold ptr at CP
  rw [show ((0 : Nat) : Int) = 0 from rfl, show ((1 : Nat) : Int) = 1 from rfl] at CP
  go_wp2_with fail
  refine (unhide CP).mono ?_
  rintro r w3 ⟨rfl, k, _, hA3, hs3, hc3, hs4⟩
  have hb3 : Below w.heap.size w w3 := (unhide HB2).trans (hc3.below hz2 (fun k hk => by
    rcases hk with e | e
    · exact ((unhide HA2).row.lt k e).1
    · cases e))
  have hz3 := hb3.size
  have kX3 := hc3.blk (unhide HX2) (by
    rintro (e | e)
    · exact own_ne (unhide HA2).row (unhide HX2) (by decide) e
    · cases e)
  have hA3' : Arn w.heap.size (w.heap.size + 1) v1 [rN k, pN a 0 s0] w3 := hA3
  have ha3 := row_chg (unhide HAT2) (unhide HA2) (by decide) (by decide) hc3 (fun j hj => by
    rcases hj with e | e
    · exact Or.inr (Or.inl e)
    · cases e)
  have hs3' : w3.ownsRow w.heap.size 3 1 (sV k) 1 [.int .i64 1] := hs3
  have f1 : w3.frozen? ⟨w1.heap.size, 1, none⟩ = false := kX3.frozen 1
  have x1 : w3.cell? ⟨w1.heap.size, 1, none⟩ = some (.string ⟨#[49]⟩) := kX3.cell 1
  have H4 : Hid (O3 w.heap.size (w.heap.size + 1) v1 k a (w3.setCell ⟨w1.heap.size, 1, none⟩ (.string s))) := hide ⟨⟨hA3'.blk.away (fun e => ty_ne kX3 hA3'.blk (by decide) e.symm) _, ownsRow_away hA3'.row (own_ne hA3'.row kX3 (by decide)) _, hA3'.ne⟩, ownsRow_away hs3' (own_ne hs3' kX3 (by decide)) _, ownsRow_away ha3 (unhide HAX) _, han⟩
  have HB4 : Hid (Below w.heap.size w (w3.setCell ⟨w1.heap.size, 1, none⟩ (.string s))) := hide (hb3.setCell (show w.heap.size ≤ w1.heap.size from hz1) _)
  clear hA3 hA3' ha3 hs3 hs3' hc3 hb3 hs4 kX3 CP HA2 HAT2 HB2 HX2 HAX
  have CT := hide (fun W (hW : O3 w.heap.size (w.heap.size + 1) v1 k a W) => o3_tree w.heap.size (w.heap.size + 1) v1 k a W hW)
  have CK := hide (fun W (hW : O3 w.heap.size (w.heap.size + 1) v1 k a W) => kids_any w.heap.size (w.heap.size + 1) 0 v1 [rN k, pN a 0 s0] [.int .i64 1] W hW.arn (by simp) (by show W.ownsRow _ _ 1 (sV k) k.n _; rw [sV_n hW.rs]; exact hW.rs) (by simp [Value.oneCell']) (by show k.n ≤ 100000; rw [sV_n hW.rs]; omega))
  unfold ptr at CT CK
  rw [show ((0 : Nat) : Int) = 0 from rfl] at CK
  go_wp2_with fail
  generalize (w3.setCell ⟨w1.heap.size, 1, none⟩ (.string s)) = W4 at *
  refine (unhide CT _ (unhide H4)).mono ?_
  rintro r w5 ⟨⟨g, c, ga, ca, cur, rfl, d3, hga, da0, da1, kA⟩, hb5⟩
  have fa : w5.frozen? ⟨ga, 1, none⟩ = false := kA.frozen 1
  have HB5 : Hid (Below W4.heap.size W4 (w5.setCell ⟨ga, 1, none⟩ (.string s))) := hide (hb5.setCell hga _)
  have H5 := hide ((unhide H4).later (unhide HB5))
  clear hb5 f1 x1 kA
  go_wp2_with fail
  generalize (w5.setCell ⟨ga, 1, none⟩ (.string s)) = W5 at *
  have hkn : ([rN k, pN a 0 s0] : List NEnt).getD 0 n0 = rN k := rfl
  refine (unhide CK _ (unhide H5)).mono ?_
  rintro r w6 ⟨v6, rfl, hr6, hb6⟩
  rw [hkn, show (rN k).k.n = 1 from sV_n (unhide H5).rs] at hr6
  obtain ⟨g6, c6, cur6, rfl, hg6, k6, cl6⟩ := row_first hr6 (by omega)
  have f6 : w6.frozen? ⟨g6, 0, none⟩ = false := k6.frozen 0
  have x6 : w6.cell? ⟨g6, 0, none⟩ = some (.int .i64 1) := cl6 0 _ rfl
  have HB6 : Hid (Below W5.heap.size W5 (w6.setCell ⟨g6, 0, none⟩ (.int .i64 7))) := hide (hb6.setCell hg6 _)
  have H6 := hide ((unhide H5).later (unhide HB6))
  clear hr6 hb6 k6 cl6 d3 da0 da1 fa
  go_wp2_with fail
  generalize (w6.setCell ⟨g6, 0, none⟩ (.int .i64 7)) = W6 at *
  refine (unhide CT _ (unhide H6)).mono ?_
  rintro r w7 ⟨⟨g7, c7, ga7, ca7, cur7, rfl, d3, _, da0, da1, _⟩, hb7⟩
  have H7 := hide ((unhide H6).later hb7)
  have HB7 := hide (tr2 (unhide HB6) hb7)
  clear hb7 f6 x6
  go_wp2_with fail
  refine (unhide CK _ (unhide H7)).mono ?_
  rintro r w8 ⟨v8, rfl, hr8, hb8⟩
  rw [hkn, show (rN k).k.n = 1 from sV_n (unhide H7).rs] at hr8
  obtain ⟨g8, c8, cur8, rfl, hg8, k8, cl8⟩ := row_first hr8 (by omega)
  have x8 : w8.cell? ⟨g8, 0, none⟩ = some (.int .i64 1) := cl8 0 _ rfl
  have al8 : Below w8.heap.size w8 (w8.alloc (Obj.cells #[.int .i64 1] 3)) := (Below.refl _ _).alloc (Nat.le_refl _) _
  have CI := hide (ints_one g8 c8 w8.heap.size 1 1 (w8.alloc (Obj.cells #[.int .i64 1] 3)) (cell_later al8 x8) ((Blk.new w8 _ _).cell 0))
  have HB8 := hide (tr2 (unhide HB4) (tr2 (unhide HB5) (tr2 (tr2 (unhide HB7) hb8) al8)))
  clear hr8 hb8 k8 cl8 al8
  go_wp2_with fail
  refine (unhide CI).mono ?_
  rintro r w9 ⟨rfl, hb9⟩
  have HB9 := hide (tr2 (unhide HB8) hb9)
  clear hb9
  go_wp2_with fail
  refine (unhide CC _).mono ?_
  rintro r w10 ⟨rfl, hb10⟩
  have HB10 := hide (tr2 (unhide HB9) hb10)
  clear hb10
  go_wp2
  go_ret
  exact ⟨rfl, unhide HB10⟩
theorem arenaOwn_walk (s : ByteArray) (w : World) :
    Calls Try.prog 7 #[.string s] w fun e w' => e = .returned (.bool true) ∧ Below w.heap.size w w' := by
  by_cases h : 1000 < s.size
  · exact own_long s w h
  · exact own_main s w (by omega)
end Go.Proofs.Ytabajhbghjfhoab
