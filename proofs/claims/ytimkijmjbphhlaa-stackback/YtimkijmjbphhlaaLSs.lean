/-
  The walk of StackScopes.
-/
import Derived.Test.YtimkijmjbphhlaaKCe
import Derived.Test.YtimkijmjbphhlaaOEn
namespace Go.Proofs.Ytimkijmjbphhlaa
open Go.RowKit
set_option linter.unusedVariables false
set_option linter.unusedSimpArgs false

theorem inR_less {s s' : Int} (ns : List (List UInt8)) (h : ∀ e, endsE s' e = true → endsE s e = true) (L : List Ent) : inR s ns L = true → inR s' ns L = true := by
  induction L with
  | nil => exact fun h => h
  | cons e r ih =>
    unfold inR
    cases nmdB e ns with
    | true => exact fun h => h
    | false =>
      simp only [Bool.false_eq_true, if_false]
      cases h1 : endsE s' e with
      | true => rw [h e h1]; exact fun h => h
      | false =>
        cases h2 : endsE s e with
        | true => simp
        | false => simpa using ih
theorem inR_same {s s' : Int} (ns : List (List UInt8)) (h : ∀ e, endsE s' e = endsE s e) (L : List Ent) : inR s' ns L = inR s ns L := by
  induction L with
  | nil => rfl
  | cons e r ih => unfold inR; rw [h e, ih]
theorem inR_none (s : Int) (L : List Ent) : inR s [] L = false := by
  induction L with
  | nil => rfl
  | cons e r ih =>
    unfold inR
    have : nmdB e [] = false := by simp [nmdB, inB]
    rw [this, ih]; simp
theorem ends_01 (e : Ent) (h : endsE 0 e = true) : endsE 1 e = true := by
  unfold endsE at *
  simp at *
  exact Or.inr h
theorem ends_20 (e : Ent) (h : endsE 2 e = true) : endsE 0 e = true := by
  unfold endsE at *
  simp [nmdB, inB, htNs] at h ⊢
  obtain ⟨h1, h2⟩ := h
  rcases h2 with h2 | h2 <;> (unfold endB; rw [h1, h2]; decide)
theorem ends_7 (e : Ent) : endsE 7 e = endsE 0 e := by unfold endsE; simp
theorem inS_10 (ns : List (List UInt8)) (L : List Ent) (h : inS 1 ns L = true) : inS 0 ns L = true := inR_less ns ends_01 _ h
theorem inS_02 (ns : List (List UInt8)) (L : List Ent) (h : inS 0 ns L = true) : inS 2 ns L = true := inR_less ns ends_20 _ h
theorem inS_7 (ns : List (List UInt8)) (L : List Ent) : inS 7 ns L = inS 0 ns L := inR_same ns ends_7 _
theorem inS_no (s : Int) (L : List Ent) : inS s [] L = false := inR_none _ _
theorem view_none0 (w : World) (c : Nat) : View w (.slice none 0 c) (Ls []) := ⟨by decide, none, c, rfl, fun h => absurd h (by decide)⟩

/-- What the loop that pushes all of a list keeps. -/
def PushAt (L : List Ent) (p : Nat) (w : World) (i : Value) (wr : World) : Prop :=
  ∃ (k : Nat) (v : Value), k ≤ L.length ∧ i = .int .i64 k ∧ Stk w.heap.size p v (L.take k) wr ∧ Below w.heap.size w wr
theorem take_push (L : List Ent) (k : Nat) (h : k < L.length) : L.take (k + 1) = L.take k ++ [L.getD k e0] := by
  rw [List.take_add_one, List.getElem?_eq_getElem h, getD_get h]; rfl

theorem scopes_small (q : Option Addr) (len cap : Nat) (name : ByteArray) (w : World) (h : 100 < len) :
    Calls Try.prog 5 #[.slice q len cap, .string name] w fun e w' => e = .returned (.bool true) ∧ Below w.heap.size w w' := by
  have CN := hide (new_any w.heap.size w (Nat.le_refl _))
  have CC := hide (fun w => cell_any w)
  have h1 : (100 : Int) < (len : Int) := by omega
  unfold ptr at *
  go_enter Try.func5, Try.ntmps5
  go_wp2_with fail
  refine (unhide CN).mono ?_
  rintro e w1 ⟨rfl, _, hb1⟩
  have HB := hide hb1
  clear hb1
  go_wp2_with fail
  refine (unhide CC _).mono ?_
  rintro e w2 ⟨rfl, hb2⟩
  go_wp2
  go_ret
  exact ⟨rfl, tr2 (unhide HB) hb2⟩

set_option maxHeartbeats 4000000 in
set_option maxRecDepth 100000 in
theorem scopes_big (q : Option Addr) (n cap : Nat) (L : List Ent) (name : ByteArray) (w : World) (hn : Hid (L.length = n)) (h100 : n ≤ 100) (hL : L = [] ∨ ∃ g o, q = some ⟨g, o, none⟩ ∧ Cells3 g o L w) :
    Calls Try.prog 5 #[.slice q n cap, .string name] w fun e w' => e = .returned (.bool true) ∧ Below w.heap.size w w' := by
  have CN := hide (new_any w.heap.size w (Nat.le_refl _))
  have CC := hide (fun w => cell_any w)
  have CP := hide (fun v x M W h hb => push_any w.heap.size w.heap.size v x M W h hb)
  have I0 := hide (fun v nv W h hv => in_s w.heap.size w.heap.size v nv 0 [name.data.toList] L W h hv)
  have I1 := hide (fun v nv W h hv => in_s w.heap.size w.heap.size v nv 1 [name.data.toList] L W h hv)
  have I2 := hide (fun v nv W h hv => in_s w.heap.size w.heap.size v nv 2 [name.data.toList] L W h hv)
  have I7 := hide (fun v nv W h hv => in_s w.heap.size w.heap.size v nv 7 [name.data.toList] L W h hv)
  have IN := hide (fun v nv W h hv => in_s w.heap.size w.heap.size v nv 0 [] L W h hv)
  rw [inS_no] at IN
  rw [inS_7] at I7
  have i10 := inS_10 [name.data.toList] L
  have i02 := inS_02 [name.data.toList] L
  generalize inS 0 [name.data.toList] L = ba at *
  generalize inS 1 [name.data.toList] L = bb at *
  generalize inS 2 [name.data.toList] L = bc at *
  have HV : Hid (∀ (W : World) (k : Nat), k = W.heap.size → View (W.alloc (Obj.cells #[.string name] 9)) (.slice (some ⟨k, 0, none⟩) 1 1) (Ls [name.data.toList])) := hide fun W k hk =>
    view_litk W [name.data.toList] _ (by simp) 1 rfl k hk #[.string name] (by simp [bs_self])
  have HI := hide (And.intro i10 i02)
  have HC := hide hL
  have hni : (n : Int) ≤ 100 := by omega
  have hn1 : ¬ 100 < (n : Int) := by omega
  clear i10 i02 hL
  unfold ptr at *
  go_enter Try.func5, Try.ntmps5
  go_wp2_with fail
  refine (unhide CN).mono ?_
  rintro e w1 ⟨rfl, hs1, hb1⟩
  have HAT : Hid (PushAt L w.heap.size w (.int .i64 0) w1) := hide ⟨0, _, Nat.zero_le _, rfl, hs1, hb1⟩
  clear hs1 hb1
  go_wp2
  go_loopw [26] (fun i wr => PushAt L w.heap.size w i wr) (fun i _ => n - (intOf i).toNat)
  case atStart => exact unhide HAT
  case round =>
    clear HAT
    obtain ⟨k, v, hk, rfl, hs, hb⟩ := hrel
    rw [unhide hn] at hk
    have HS := hide hs
    have HB := hide hb
    have hsz := hb.size
    by_cases hlt : k < n
    · have hlti : (k : Int) < (n : Int) := by omega
      rcases unhide HC with hnil | ⟨g, o, hq, hcs⟩
      · have := unhide hn; rw [hnil] at this; simp at this; omega
      subst hq
      have hkl : k < L.length := by rw [unhide hn]; exact hlt
      obtain ⟨c0, c1, c2⟩ := hcs.below hb k hkl
      have HT := hide (take_push L k hkl)
      have hl2 : ¬ 200 ≤ (L.take k).length := by rw [List.length_take]; omega
      have CP1 := hide (fun W h hb => unhide CP v (L.getD k e0) (L.take k) W h hb)
      simp only [if_neg hl2] at CP1
      generalize hx : L.getD k e0 = x at *
      obtain ⟨xi, xs, xn⟩ := x
      unfold entV at CP1
      dsimp only at *
      have hbx : Below wr.heap.size wr (wr.alloc (Obj.cells #[.int .i64 xi, .int .i64 xs, .string xn] 32)) := (Below.refl _ _).alloc (Nat.le_refl _) _
      have BX := hide hbx
      clear hs hb hcs hkl hl2 hx hbx
      go_wp2_with fail
      refine (unhide CP1 _ ((unhide HS).later (unhide BX)) (by simp; omega)).mono ?_
      rintro e w2 ⟨rfl, v', hs2, ht2, ho2⟩
      have B2 := hide (cellB (cellB2 (unhide HB) (unhide BX)) ((unhide HS).later (unhide BX)) ht2)
      have S2 := hide hs2
      clear hs2 ht2 ho2
      go_wp2
      go_roundw
      case rel => exact ⟨k + 1, v', by rw [unhide hn]; omega, by go_num, by rw [unhide HT]; exact unhide S2, unhide B2⟩
      case measure => simp [intOf]; omega
    · have hkn : n = k := by omega
      subst hkn
      have hnl : ¬ (n : Int) < (n : Int) := by omega
      rw [← unhide hn, List.take_length] at hs
      replace HS := hide hs
      clear hs hb hlt
      go_wp2_with fail
      refine (unhide I0 v _ _ ((unhide HS).later ((Below.refl _ _).alloc (Nat.le_refl _) _)) (unhide HV wr _ rfl)).mono ?_
      rintro e w3 ⟨rfl, hb⟩
      have b3 := tr2 ((Below.refl wr.heap.size wr).alloc (Nat.le_refl _) (Obj.cells #[.string name] 9)) hb
      have S3 := hide ((unhide HS).later b3)
      have B3 := hide (cellB2 (unhide HB) b3)
      clear hb b3
      go_wp2_with fail
      refine (unhide I1 v _ _ ((unhide S3).later ((Below.refl _ _).alloc (Nat.le_refl _) _)) (unhide HV w3 _ rfl)).mono ?_
      rintro e w4 ⟨rfl, hb⟩
      have b4 := tr2 ((Below.refl w3.heap.size w3).alloc (Nat.le_refl _) (Obj.cells #[.string name] 9)) hb
      have S4 := hide ((unhide S3).later b4)
      have B4 := hide (cellB2 (unhide B3) b4)
      clear hb b4
      go_wp2_with fail
      refine (unhide I2 v _ _ ((unhide S4).later ((Below.refl _ _).alloc (Nat.le_refl _) _)) (unhide HV w4 _ rfl)).mono ?_
      rintro e w5 ⟨rfl, hb⟩
      have b5 := tr2 ((Below.refl w4.heap.size w4).alloc (Nat.le_refl _) (Obj.cells #[.string name] 9)) hb
      have S5 := hide ((unhide S4).later b5)
      have B5 := hide (cellB2 (unhide B4) b5)
      have a6 := (Below.refl w5.heap.size w5).alloc (Nat.le_refl _) (Obj.cells #[.string name] 9)
      have A6 := hide a6
      clear hb b5 S3 S4 B3 B4 HS HB a6
      obtain ⟨i10, i02⟩ := unhide HI
      cases bb <;> cases ba <;> cases bc <;> first
        | exact absurd (i10 rfl) (by decide)
        | exact absurd (i02 rfl) (by decide)
        | (clear i10 i02
           go_wp2_with fail
           refine (unhide I7 v _ _ ((unhide S5).later (unhide A6)) (unhide HV w5 _ rfl)).mono ?_
           rintro e w6 ⟨rfl, hb⟩
           have b6 := tr2 (unhide A6) hb
           have S6 := hide ((unhide S5).later b6)
           have B6 := hide (cellB2 (unhide B5) b6)
           clear hb b6
           go_wp2_with fail
           refine (unhide IN v _ _ (unhide S6) (view_none0 _ _)).mono ?_
           rintro e w7 ⟨rfl, hb⟩
           have B7 := hide (cellB2 (unhide B6) hb)
           clear hb
           go_wp2_with fail
           refine (unhide CC _).mono ?_
           rintro e w8 ⟨rfl, hb⟩
           have B8 := hide (cellB2 (unhide B7) hb)
           clear hb
           go_wp2
           go_ret
           exact ⟨rfl, unhide B8⟩)
theorem stackScopes_walk (q : Option Addr) (len cap : Nat) (L : List Ent) (name : ByteArray) (w : World) (hn : L.length = len) (hL : L = [] ∨ ∃ g o, q = some ⟨g, o, none⟩ ∧ Cells3 g o L w) :
    Calls Try.prog 5 #[.slice q len cap, .string name] w fun e w' => e = .returned (.bool true) ∧ Below w.heap.size w w' := by
  by_cases h : 100 < len
  · exact scopes_small q len cap name w h
  · exact scopes_big q len cap L name w (hide hn) (by omega) hL
end Go.Proofs.Ytimkijmjbphhlaa
