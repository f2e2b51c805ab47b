/-
  Several texts in one: what the functions of the program and of the document's answer do.
-/
import Derived.Test.YtfdhmhdemfbfeaaGreatDoorMgBM

/-
  What the reference of layer 7 does: of every name and space.
-/
namespace Go.Proofs.YtfdhmhdemfbfeaaGreatDoor
open Go.RowKit
set_option linter.unusedVariables false

def GroupIs (g : Nat) : Prop := ∀ (w : World), Calls Tryz.prog 58 #[.int .i64 (g : Int)] w fun e w' => ∃ v, e = .returned v ∧ View w' v (Ls (gN g)) ∧ Below w.heap.size w w'
theorem rgroup_1 : GroupIs 1 := by
  intro w
  go_enter Tryz.func58, Tryz.ntmps58
  go_wp2
  go_ret
  exact ⟨_, rfl, view_lit w (gN 1) _ (by decide) _ rfl, (Below.refl _ _).alloc (Nat.le_refl _) _⟩
theorem rgroup_2 : GroupIs 2 := by
  intro w
  go_enter Tryz.func58, Tryz.ntmps58
  go_wp2
  go_ret
  exact ⟨_, rfl, view_lit w (gN 2) _ (by decide) _ rfl, (Below.refl _ _).alloc (Nat.le_refl _) _⟩
theorem rgroup_3 : GroupIs 3 := by
  intro w
  go_enter Tryz.func58, Tryz.ntmps58
  go_wp2
  go_ret
  exact ⟨_, rfl, view_lit w (gN 3) _ (by decide) _ rfl, (Below.refl _ _).alloc (Nat.le_refl _) _⟩
theorem rgroup_4 : GroupIs 4 := by
  intro w
  go_enter Tryz.func58, Tryz.ntmps58
  go_wp2
  go_ret
  exact ⟨_, rfl, view_lit w (gN 4) _ (by decide) _ rfl, (Below.refl _ _).alloc (Nat.le_refl _) _⟩
theorem rgroup_5 : GroupIs 5 := by
  intro w
  go_enter Tryz.func58, Tryz.ntmps58
  go_wp2
  go_ret
  exact ⟨_, rfl, view_lit w (gN 5) _ (by decide) _ rfl, (Below.refl _ _).alloc (Nat.le_refl _) _⟩
theorem rgroup_6 : GroupIs 6 := by
  intro w
  go_enter Tryz.func58, Tryz.ntmps58
  go_wp2
  go_ret
  exact ⟨_, rfl, view_lit w (gN 6) _ (by decide) _ rfl, (Below.refl _ _).alloc (Nat.le_refl _) _⟩
theorem rgroup_7 : GroupIs 7 := by
  intro w
  go_enter Tryz.func58, Tryz.ntmps58
  go_wp2
  go_ret
  exact ⟨_, rfl, view_lit w (gN 7) _ (by decide) _ rfl, (Below.refl _ _).alloc (Nat.le_refl _) _⟩
theorem rgroup_8 : GroupIs 8 := by
  intro w
  go_enter Tryz.func58, Tryz.ntmps58
  go_wp2
  go_ret
  exact ⟨_, rfl, view_lit w (gN 8) _ (by decide) _ rfl, (Below.refl _ _).alloc (Nat.le_refl _) _⟩
theorem rgroup_9 : GroupIs 9 := by
  intro w
  go_enter Tryz.func58, Tryz.ntmps58
  go_wp2
  go_ret
  exact ⟨_, rfl, view_lit w (gN 9) _ (by decide) _ rfl, (Below.refl _ _).alloc (Nat.le_refl _) _⟩
theorem rgroup_10 : GroupIs 10 := by
  intro w
  go_enter Tryz.func58, Tryz.ntmps58
  go_wp2
  go_ret
  exact ⟨_, rfl, view_lit w (gN 10) _ (by decide) _ rfl, (Below.refl _ _).alloc (Nat.le_refl _) _⟩
theorem rgroup_11 : GroupIs 11 := by
  intro w
  go_enter Tryz.func58, Tryz.ntmps58
  go_wp2
  go_ret
  exact ⟨_, rfl, view_lit w (gN 11) _ (by decide) _ rfl, (Below.refl _ _).alloc (Nat.le_refl _) _⟩
theorem rgroup_12 : GroupIs 12 := by
  intro w
  go_enter Tryz.func58, Tryz.ntmps58
  go_wp2
  go_ret
  exact ⟨_, rfl, view_lit w (gN 12) _ (by decide) _ rfl, (Below.refl _ _).alloc (Nat.le_refl _) _⟩
theorem rgroup_13 : GroupIs 13 := by
  intro w
  go_enter Tryz.func58, Tryz.ntmps58
  go_wp2
  go_ret
  exact ⟨_, rfl, view_lit w (gN 13) _ (by decide) _ rfl, (Below.refl _ _).alloc (Nat.le_refl _) _⟩
theorem rgroup_14 : GroupIs 14 := by
  intro w
  go_enter Tryz.func58, Tryz.ntmps58
  go_wp2
  go_ret
  exact ⟨_, rfl, view_lit w (gN 14) _ (by decide) _ rfl, (Below.refl _ _).alloc (Nat.le_refl _) _⟩
theorem rgroup_15 : GroupIs 15 := by
  intro w
  go_enter Tryz.func58, Tryz.ntmps58
  go_wp2
  go_ret
  exact ⟨_, rfl, view_lit w (gN 15) _ (by decide) _ rfl, (Below.refl _ _).alloc (Nat.le_refl _) _⟩
theorem rgroup_16 : GroupIs 16 := by
  intro w
  go_enter Tryz.func58, Tryz.ntmps58
  go_wp2
  go_ret
  exact ⟨_, rfl, view_lit w (gN 16) _ (by decide) _ rfl, (Below.refl _ _).alloc (Nat.le_refl _) _⟩
theorem rgroup_17 : GroupIs 17 := by
  intro w
  go_enter Tryz.func58, Tryz.ntmps58
  go_wp2
  go_ret
  exact ⟨_, rfl, view_lit w (gN 17) _ (by decide) _ rfl, (Below.refl _ _).alloc (Nat.le_refl _) _⟩
theorem rgroup_any (g : Nat) (h1 : 1 ≤ g) (h2 : g < 18) : GroupIs g := by
  rcases (by omega : g = 1 ∨ g = 2 ∨ g = 3 ∨ g = 4 ∨ g = 5 ∨ g = 6 ∨ g = 7 ∨ g = 8 ∨ g = 9 ∨ g = 10 ∨ g = 11 ∨ g = 12 ∨ g = 13 ∨ g = 14 ∨ g = 15 ∨ g = 16 ∨ g = 17) with rfl | rfl | rfl | rfl | rfl | rfl | rfl | rfl | rfl | rfl | rfl | rfl | rfl | rfl | rfl | rfl | rfl
  · exact rgroup_1
  · exact rgroup_2
  · exact rgroup_3
  · exact rgroup_4
  · exact rgroup_5
  · exact rgroup_6
  · exact rgroup_7
  · exact rgroup_8
  · exact rgroup_9
  · exact rgroup_10
  · exact rgroup_11
  · exact rgroup_12
  · exact rgroup_13
  · exact rgroup_14
  · exact rgroup_15
  · exact rgroup_16
  · exact rgroup_17

theorem ofN_hit {l : List UInt8} {k : Nat} (h1 : 1 ≤ k) (h2 : k < 18) (hn : ∀ j, 1 ≤ j → j < k → inB l (gN j) = false) (hy : inB l (gN k) = true) : ofN l = k := by
  rcases (by omega : k = 1 ∨ k = 2 ∨ k = 3 ∨ k = 4 ∨ k = 5 ∨ k = 6 ∨ k = 7 ∨ k = 8 ∨ k = 9 ∨ k = 10 ∨ k = 11 ∨ k = 12 ∨ k = 13 ∨ k = 14 ∨ k = 15 ∨ k = 16 ∨ k = 17) with rfl | rfl | rfl | rfl | rfl | rfl | rfl | rfl | rfl | rfl | rfl | rfl | rfl | rfl | rfl | rfl | rfl
  · unfold ofN; rw [hy]; rfl
  · unfold ofN; rw [hn 1 (by omega) (by omega), hy]; rfl
  · unfold ofN; rw [hn 1 (by omega) (by omega), hn 2 (by omega) (by omega), hy]; rfl
  · unfold ofN; rw [hn 1 (by omega) (by omega), hn 2 (by omega) (by omega), hn 3 (by omega) (by omega), hy]; rfl
  · unfold ofN; rw [hn 1 (by omega) (by omega), hn 2 (by omega) (by omega), hn 3 (by omega) (by omega), hn 4 (by omega) (by omega), hy]; rfl
  · unfold ofN; rw [hn 1 (by omega) (by omega), hn 2 (by omega) (by omega), hn 3 (by omega) (by omega), hn 4 (by omega) (by omega), hn 5 (by omega) (by omega), hy]; rfl
  · unfold ofN; rw [hn 1 (by omega) (by omega), hn 2 (by omega) (by omega), hn 3 (by omega) (by omega), hn 4 (by omega) (by omega), hn 5 (by omega) (by omega), hn 6 (by omega) (by omega), hy]; rfl
  · unfold ofN; rw [hn 1 (by omega) (by omega), hn 2 (by omega) (by omega), hn 3 (by omega) (by omega), hn 4 (by omega) (by omega), hn 5 (by omega) (by omega), hn 6 (by omega) (by omega), hn 7 (by omega) (by omega), hy]; rfl
  · unfold ofN; rw [hn 1 (by omega) (by omega), hn 2 (by omega) (by omega), hn 3 (by omega) (by omega), hn 4 (by omega) (by omega), hn 5 (by omega) (by omega), hn 6 (by omega) (by omega), hn 7 (by omega) (by omega), hn 8 (by omega) (by omega), hy]; rfl
  · unfold ofN; rw [hn 1 (by omega) (by omega), hn 2 (by omega) (by omega), hn 3 (by omega) (by omega), hn 4 (by omega) (by omega), hn 5 (by omega) (by omega), hn 6 (by omega) (by omega), hn 7 (by omega) (by omega), hn 8 (by omega) (by omega), hn 9 (by omega) (by omega), hy]; rfl
  · unfold ofN; rw [hn 1 (by omega) (by omega), hn 2 (by omega) (by omega), hn 3 (by omega) (by omega), hn 4 (by omega) (by omega), hn 5 (by omega) (by omega), hn 6 (by omega) (by omega), hn 7 (by omega) (by omega), hn 8 (by omega) (by omega), hn 9 (by omega) (by omega), hn 10 (by omega) (by omega), hy]; rfl
  · unfold ofN; rw [hn 1 (by omega) (by omega), hn 2 (by omega) (by omega), hn 3 (by omega) (by omega), hn 4 (by omega) (by omega), hn 5 (by omega) (by omega), hn 6 (by omega) (by omega), hn 7 (by omega) (by omega), hn 8 (by omega) (by omega), hn 9 (by omega) (by omega), hn 10 (by omega) (by omega), hn 11 (by omega) (by omega), hy]; rfl
  · unfold ofN; rw [hn 1 (by omega) (by omega), hn 2 (by omega) (by omega), hn 3 (by omega) (by omega), hn 4 (by omega) (by omega), hn 5 (by omega) (by omega), hn 6 (by omega) (by omega), hn 7 (by omega) (by omega), hn 8 (by omega) (by omega), hn 9 (by omega) (by omega), hn 10 (by omega) (by omega), hn 11 (by omega) (by omega), hn 12 (by omega) (by omega), hy]; rfl
  · unfold ofN; rw [hn 1 (by omega) (by omega), hn 2 (by omega) (by omega), hn 3 (by omega) (by omega), hn 4 (by omega) (by omega), hn 5 (by omega) (by omega), hn 6 (by omega) (by omega), hn 7 (by omega) (by omega), hn 8 (by omega) (by omega), hn 9 (by omega) (by omega), hn 10 (by omega) (by omega), hn 11 (by omega) (by omega), hn 12 (by omega) (by omega), hn 13 (by omega) (by omega), hy]; rfl
  · unfold ofN; rw [hn 1 (by omega) (by omega), hn 2 (by omega) (by omega), hn 3 (by omega) (by omega), hn 4 (by omega) (by omega), hn 5 (by omega) (by omega), hn 6 (by omega) (by omega), hn 7 (by omega) (by omega), hn 8 (by omega) (by omega), hn 9 (by omega) (by omega), hn 10 (by omega) (by omega), hn 11 (by omega) (by omega), hn 12 (by omega) (by omega), hn 13 (by omega) (by omega), hn 14 (by omega) (by omega), hy]; rfl
  · unfold ofN; rw [hn 1 (by omega) (by omega), hn 2 (by omega) (by omega), hn 3 (by omega) (by omega), hn 4 (by omega) (by omega), hn 5 (by omega) (by omega), hn 6 (by omega) (by omega), hn 7 (by omega) (by omega), hn 8 (by omega) (by omega), hn 9 (by omega) (by omega), hn 10 (by omega) (by omega), hn 11 (by omega) (by omega), hn 12 (by omega) (by omega), hn 13 (by omega) (by omega), hn 14 (by omega) (by omega), hn 15 (by omega) (by omega), hy]; rfl
  · unfold ofN; rw [hn 1 (by omega) (by omega), hn 2 (by omega) (by omega), hn 3 (by omega) (by omega), hn 4 (by omega) (by omega), hn 5 (by omega) (by omega), hn 6 (by omega) (by omega), hn 7 (by omega) (by omega), hn 8 (by omega) (by omega), hn 9 (by omega) (by omega), hn 10 (by omega) (by omega), hn 11 (by omega) (by omega), hn 12 (by omega) (by omega), hn 13 (by omega) (by omega), hn 14 (by omega) (by omega), hn 15 (by omega) (by omega), hn 16 (by omega) (by omega), hy]; rfl
theorem ofN_miss {l : List UInt8} (hn : ∀ j, 1 ≤ j → j < 18 → inB l (gN j) = false) : ofN l = 0 := by
  unfold ofN; rw [hn 1 (by omega) (by omega), hn 2 (by omega) (by omega), hn 3 (by omega) (by omega), hn 4 (by omega) (by omega), hn 5 (by omega) (by omega), hn 6 (by omega) (by omega), hn 7 (by omega) (by omega), hn 8 (by omega) (by omega), hn 9 (by omega) (by omega), hn 10 (by omega) (by omega), hn 11 (by omega) (by omega), hn 12 (by omega) (by omega), hn 13 (by omega) (by omega), hn 14 (by omega) (by omega), hn 15 (by omega) (by omega), hn 16 (by omega) (by omega), hn 17 (by omega) (by omega)]; rfl

set_option maxHeartbeats 1000000 in
theorem gof_any (s : ByteArray) (w : World) :
    Calls Tryz.prog 37 #[.string s] w fun e w' => e = .returned (.int .i64 (ofN s.toList : Nat)) ∧ Below w.heap.size w w' := by
  go_enter Tryz.func37, Tryz.ntmps37
  go_wp2
  go_loopw [3] (fun i wr => ∃ k : Nat, 1 ≤ k ∧ k ≤ 18 ∧ i = .int .i64 k ∧ Below w.heap.size w wr ∧ ∀ j, 1 ≤ j → j < k → inB s.toList (gN j) = false) (fun i _ => 18 - (intOf i).toNat)
  case atStart => exact ⟨1, by omega, by omega, rfl, Below.refl _ _, fun j h1 h2 => by omega⟩
  case round =>
    obtain ⟨k, hk1, hk, rfl, hbw, hn⟩ := hrel
    have HN := hide hn
    clear hn
    by_cases hlt : k < 18
    · have hlti : (k : Int) < 18 := by omega
      have CG := hide (rgroup_any k hk1 hlt)
      cases hb : inB s.toList (gN k) with
      | true =>
        have HV := hide (ofN_hit hk1 hlt (unhide HN) hb)
        have CI := hide (fun v w h => hb ▸ in_any s v (gN k) w h)
        clear hb
        go_wp2_with fail
        refine (unhide CG _).mono ?_
        rintro e w1 ⟨v, rfl, hv, hb1⟩
        have HW := hide hv
        clear hv
        go_wp2_with fail
        refine (unhide CI _ _ (unhide HW)).mono ?_
        rintro e w2 ⟨rfl, hb2⟩
        go_wp2
        go_ret
        exact ⟨by rw [unhide HV]; rfl, tr3 hbw hb1 hb2⟩
      | false =>
        have HV := hide hb
        have CI := hide (fun v w h => hb ▸ in_any s v (gN k) w h)
        clear hb
        go_wp2_with fail
        refine (unhide CG _).mono ?_
        rintro e w1 ⟨v, rfl, hv, hb1⟩
        have HW := hide hv
        clear hv
        go_wp2_with fail
        refine (unhide CI _ _ (unhide HW)).mono ?_
        rintro e w2 ⟨rfl, hb2⟩
        go_wp2
        go_roundw
        case rel => exact ⟨k + 1, by omega, by omega, by go_num, tr3 hbw hb1 hb2, fun j h1 h2 => by
          by_cases hjk : j = k
          · subst hjk; exact unhide HV
          · exact unhide HN j h1 (by omega)⟩
        case measure => simp [intOf]; omega
    · have hk18 : k = 18 := by omega
      subst hk18
      have HV := hide (ofN_miss (unhide HN))
      clear hlt
      go_wp2
      go_ret
      exact ⟨by rw [unhide HV]; rfl, hbw⟩

end Go.Proofs.YtfdhmhdemfbfeaaGreatDoor

/-
  What the reference's Open of layer 13, and the program's isVoid, hasRaw and ahead do (made by mk_jah.py).
-/
namespace Go.Proofs.YtfdhmhdemfbfeaaGreatDoor
open Go.RowKit
set_option linter.unusedVariables false
set_option linter.unusedSimpArgs false

set_option maxHeartbeats 8000000 in
set_option maxRecDepth 100000 in
theorem jropen_yes (sp : Int) (n : ByteArray) (ats : List (ByteArray × ByteArray)) (tx : ByteArray) (q qk : Option Addr) (cap kl ck : Nat) (w : World) (hc : Sl q ats w) (hf : Fits ats) (hn : n.size ≤ 10000) :
    Calls Tryz.prog 24 #[.agg #[.int .i64 1, .int .i64 sp, .string n, .slice q ats.length cap, .string tx, .slice qk kl ck]] w fun e w' => e = .returned (.string (bs (openL n.data.toList ats))) ∧ Below w.heap.size w w' := by
  have HC := hide hc
  have HF := hide hf
  have hlen : ats.length ≤ 1000 := hf.1
  have h60 : (⟨#[60]⟩ : ByteArray) ++ n = bs ([60] ++ n.data.toList) := by
    have : (⟨#[60]⟩ : ByteArray) = bs [60] := rfl
    rw [this, bs_add]
  have hbN := (Below.refl w.heap.size w).alloc (Nat.le_refl _) (Obj.cells #[.int .i64 1, .int .i64 sp, .string n, .slice q ats.length cap, .string tx, .slice qk kl ck] 61)
  have HBN := hide hbN
  have hn' : ¬ 9223372036854775807 < 1 + n.size := by omega
  clear hc hf hbN
  go_enter Tryz.func24, Tryz.ntmps24
  go_wp2
  go_loopw [3, 15] (fun x i wr => ∃ k : Nat, k ≤ ats.length ∧ i = .int .i64 k ∧ x = .string (bs ([60] ++ n.data.toList ++ attL ats k)) ∧ (attL ats k).length ≤ 80000 * k ∧ Below w.heap.size w wr) (fun _ i _ => ats.length - (intOf i).toNat)
  case atStart => exact ⟨0, Nat.zero_le _, rfl, by rw [attL, List.append_nil]; rfl, by simp [attL], unhide HBN⟩
  case round =>
    obtain ⟨k, hk, rfl, rfl, hal, hbw⟩ := hrel
    have hzw := hbw.size
    have hxz : (bs ([60] ++ n.data.toList ++ attL ats k)).size ≤ 80010001 := by
      rw [bs_size, List.length_append, List.length_append, data_len]; simp; omega
    by_cases hp : k < ats.length
    · have hpi : (k : Int) < (ats.length : Int) := by omega
      rcases (unhide HC).below hbw with h0 | ⟨g, o, rfl, hc2⟩
      · rw [h0] at hp; simp at hp
      obtain ⟨c1, c2⟩ := hc2 k hp
      clear hc2
      have hki : (k : Int) ≤ 1000 := by omega
      have hft := (unhide HF).2 k hp
      have CE := hide (fun w => rescape_any (av ats k) true w (by omega))
      have hel := esc_len true (av ats k).data.toList false
      rw [data_len] at hel
      have hab : ∀ X : ByteArray, X ++ ⟨#[32]⟩ ++ an ats k ++ ⟨#[61, 34]⟩ ++ bs (escL true (av ats k).data.toList) ++ ⟨#[34]⟩ = X ++ bs (attB (an ats k).data.toList (av ats k).data.toList) := fun X => by
        have := att_bs (an ats k) (bs (escL true (av ats k).data.toList))
        rw [bs_toList] at this
        unfold attB
        rw [← this]
        simp only [ByteArray.append_assoc]
      have habz : (attB (an ats k).data.toList (av ats k).data.toList).length ≤ 80000 := by
        unfold attB
        have : (escL true (av ats k).data.toList).length ≤ 6 * (av ats k).size := hel
        simp; omega
      have esz : (bs (escL true (av ats k).data.toList)).size ≤ 60000 := by
        rw [bs_size]
        have : (escL true (av ats k).data.toList).length ≤ 6 * (av ats k).size := hel
        omega
      have hatt : bs ([60] ++ n.data.toList ++ attL ats (k + 1)) = bs ([60] ++ n.data.toList ++ attL ats k) ++ bs (attB (an ats k).data.toList (av ats k).data.toList) := by
        rw [bs_bs, attL, List.append_assoc, List.append_assoc, List.append_assoc]
      have hatl : (attL ats (k + 1)).length ≤ 80000 * (k + 1) := by rw [attL, List.length_append]; omega
      have HAB := hide (hab (bs ([60] ++ n.data.toList ++ attL ats k)))
      have HATT := hide hatt
      have HATL := hide hatl
      clear hab hatt hatl hel
      generalize attB (an ats k).data.toList (av ats k).data.toList = ab at *
      generalize bs (escL true (av ats k).data.toList) = E at *
      generalize an ats k = a1 at *
      generalize av ats k = a2 at *
      generalize hX : bs ([60] ++ n.data.toList ++ attL ats k) = X at *
      clear hX
      have hbA : Below wr.heap.size wr (wr.alloc (.cells #[.string a1, .string a2] 48)) := (Below.refl _ _).alloc (Nat.le_refl _) _
      have hbA' := tr2 hbw hbA
      go_wp2_with fail
      go_quiet ((go_at_call 39; exact Calls.quiet_of_same (unhide CE _)))
      go_wp2
      go_roundw
      case rel => exact ⟨k + 1, by omega, by go_num, by rw [unhide HATT, ← unhide HAB], unhide HATL, _root_.Go.below_drewN hbA' _⟩
      case measure => simp [intOf]; omega
    · have hke : k = ats.length := by omega
      subst hke
      have hol : bs ([60] ++ n.data.toList ++ attL ats ats.length) ++ ⟨#[62]⟩ = bs (openL n.data.toList ats) := by
        have : (⟨#[62]⟩ : ByteArray) = bs [62] := rfl
        rw [this, bs_bs]; unfold openL; simp
      have HOL := hide hol
      clear hol
      generalize hX : bs ([60] ++ n.data.toList ++ attL ats ats.length) = X at *
      clear hX
      go_wp2
      go_ret
      exact ⟨by rw [← unhide HOL]; rfl, hbw⟩


set_option maxHeartbeats 1000000 in
set_option maxRecDepth 100000 in
theorem jropen_no (k sp : Int) (n tx : ByteArray) (q qk : Option Addr) (al c kl ck : Nat) (w : World) (hk : ¬ k = 1) :
    Calls Tryz.prog 24 #[.agg #[.int .i64 k, .int .i64 sp, .string n, .slice q al c, .string tx, .slice qk kl ck]] w fun e w' => e = .returned (.string ⟨#[]⟩) ∧ Below w.heap.size w w' := by
  have e1 : (k != 1) = true := by simpa using hk
  have hbA := (Below.refl w.heap.size w).alloc (Nat.le_refl _) (Obj.cells #[.int .i64 k, .int .i64 sp, .string n, .slice q al c, .string tx, .slice qk kl ck] 61)
  have HB := hide hbA
  clear hbA hk
  go_enter Tryz.func24, Tryz.ntmps24
  go_wp2
  go_ret
  exact ⟨rfl, unhide HB⟩
theorem jropen_any (k sp : Int) (n : ByteArray) (ats : List (ByteArray × ByteArray)) (tx : ByteArray) (q qk : Option Addr) (c kl ck : Nat) (w : World) (hs : Sl q ats w) (hf : Fits ats) (hn : n.size ≤ 10000) :
    Calls Tryz.prog 24 #[.agg #[.int .i64 k, .int .i64 sp, .string n, .slice q ats.length c, .string tx, .slice qk kl ck]] w fun e w' => e = .returned (.string (bs (opL k n.data.toList ats))) ∧ Below w.heap.size w w' := by
  unfold opL
  by_cases h : k = 1
  · subst h
    rw [if_pos rfl]
    exact jropen_yes sp n ats tx q qk c kl ck w hs hf hn
  · rw [if_neg h]
    exact jropen_no k sp n tx q qk ats.length c kl ck w h

/-! ### what a node's text begins with -/
def rwNs : List (List UInt8) := [[115, 99, 114, 105, 112, 116], [115, 116, 121, 108, 101], [120, 109, 112]]
theorem raw_of (l : List UInt8) : (ofN l == 15 || ofN l == 16) = inB l rwNs := by
  by_cases h : l ∈ allNs
  · exact (show ∀ l ∈ allNs, (ofN l == 15 || ofN l == 16) = inB l rwNs by decide +kernel) l h
  · rw [ofN_no h, inB_no h (by decide +kernel)]; rfl
def vdB (sp : Int) (n : ByteArray) : Bool := (sp == 0) && inB n.toList voidNs
def rwB (k sp : Int) (n : ByteArray) : Bool := (k == 1) && ((sp == 0) && inB n.toList rwNs)
def noteL (t : List UInt8) : List UInt8 := [60, 33, 45, 45] ++ (t ++ [45, 45, 62])
def ahL (k : Int) (n : List UInt8) (ats : List (ByteArray × ByteArray)) (tx : List UInt8) (raw : Bool) : List UInt8 :=
  if k = 1 then openL n ats else if k = 3 then noteL tx else if k = 2 then (if raw = true then tx else escL false tx) else []
theorem note_bs (x : ByteArray) : (⟨#[60, 33, 45, 45]⟩ : ByteArray) ++ x ++ ⟨#[45, 45, 62]⟩ = bs (noteL x.data.toList) := by
  have h1 : (⟨#[60, 33, 45, 45]⟩ : ByteArray) = bs [60, 33, 45, 45] := rfl
  have h2 : (⟨#[45, 45, 62]⟩ : ByteArray) = bs [45, 45, 62] := rfl
  rw [h1, h2, bs_add, bs_bs]; unfold noteL; simp
end Go.Proofs.YtfdhmhdemfbfeaaGreatDoor
