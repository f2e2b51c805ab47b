/-
  The law WordsTold, where no text is longer than 1048576.
-/
import Derived.Test.YtfbgpodcdgmpjaaXAb
import Derived.Test.YtfbgpodcdgmpjaaRXt
namespace Go.Proofs.Ytfbgpodcdgmpjaa
open Go.RowKit
set_option linter.unusedVariables false
set_option linter.unusedSimpArgs false

theorem toldF_B (f : Pc → List UInt8) (B : Nat) : ∀ L : List Pc, (∀ p ∈ L, (f p).length ≤ B) → (toldF f L).length ≤ L.length * B
  | [], _ => by simp [toldF]
  | x :: r, h => by
    have h1 := toldF_B f B r (fun p hp => h p (List.mem_cons_of_mem _ hp))
    have h2 := h x (List.mem_cons_self ..)
    rw [toldF_cons, List.length_append, List.length_cons, Nat.add_mul]
    omega
theorem cell_two_next (w : World) (o : Obj) (x y : Value) (t : TypeId) : ∀ j u, [x, y][j]? = some u → ((w.alloc o).alloc (Obj.cells #[x, y] t)).cell? ((⟨w.heap.size + 1, 0, none⟩ : Addr).add j) = some u := by
  have h := cell_two_new (w.alloc o) x y t
  have e : (w.alloc o).heap.size = w.heap.size + 1 := by simp
  rw [e] at h
  exact h
set_option maxHeartbeats 2000000 in
theorem ref24_any (q : Option Addr) (c : Nat) (L : List Pc) (w : World) (hL : PcA w q L) (hl : L.length ≤ 1000000) :
    Calls Try.prog 18 #[.slice q L.length c] w fun e w' => ∃ v, e = .returned v ∧ RcsV w' w.heap.size v L ∧ Below w.heap.size w w' := by
  obtain ⟨i0, hi0, hi1, hi2, hi3⟩ := info_parts infoRPiece0
  have HL := hide hL
  have HA : Hid (L.take L.length = L) := hide (List.take_length ..)
  clear hL
  go_enter Try.func18, Try.ntmps18
  go_wp2
  go_loopw [8, 3] (fun i u wr => ∃ j : Nat, j ≤ L.length ∧ i = .int .i64 (j : Int) ∧ RcsV wr w.heap.size u (L.take j) ∧ Below w.heap.size w wr) (fun i _ _ => L.length - (intOf i).toNat)
  case atStart => exact ⟨0, Nat.zero_le _, rfl, World.ownsRow_nil _ _ _ _, Below.refl _ _⟩
  case round =>
    obtain ⟨j, hj, rfl, hrow, hbw⟩ := hrel
    obtain ⟨uq, un, uc, hu⟩ := slice_of hrow
    subst hu
    have HB := hide hbw
    have hz := hbw.size
    by_cases hp : j < L.length
    · have hpi : (j : Int) < (L.length : Int) := by omega
      obtain ⟨g, o, rfl, hc⟩ := (unhide HL).below hbw (by omega)
      obtain ⟨x0, x1⟩ := hc j hp
      have HT : Hid (L.take (j + 1) = L.take j ++ [L.getD j (0, ByteArray.empty)]) := hide (by
        rw [List.take_add_one, List.getElem?_eq_getElem hp, List.getD, List.getElem?_eq_getElem hp]; rfl)
      have hlt : (L.take j).length ≤ 1000000 := by rw [List.length_take]; omega
      obtain ⟨pc, hpc⟩ : ∃ pc, L.getD j (0, ByteArray.empty) = pc := ⟨_, rfl⟩
      rw [hpc] at x0 x1 HT
      obtain ⟨k, t⟩ := pc
      dsimp only at x0 x1
      obtain ⟨M, hM⟩ : ∃ M, L.take j = M := ⟨_, rfl⟩
      rw [hM] at HT hrow hlt
      have hba : Below wr.heap.size wr (wr.alloc (Obj.cells #[.int .i64 k, .string t] 41)) := (Below.refl _ _).alloc (Nat.le_refl _) _
      have HR : Hid ((wr.alloc (Obj.cells #[.int .i64 k, .string t] 41)).ownsRow w.heap.size 45 2 (.slice uq un uc) M.length (flatQ M)) := hide (ownsRow_below hrow hba)
      have HB2 := hide (tr2 hbw hba)
      have hz2 := (unhide HB2).size
      clear hc hpc hM hrow hbw hba
      go_wp2_with (at_builtin; refine wpList_append_own_at _ rfl _ _ 29 rfl w.heap.size 45 i0 (.agg #[.int .i64 0, .string ⟨#[]⟩]) 2 24 Try.underlying29 hi0 hi1 hi2 hi3 rfl (by decide) (.slice uq un uc) _ _ rfl ((unhide HR).alloc _) ⟨wr.heap.size + 1, 0, none⟩ 1 1 [.int .i64 k, .string t] rfl rfl (cell_two_next _ _ _ _ _) (by simp [Value.oneCell']) (by simp only [maxLen]; omega) (by omega) (by simp; omega) ?_)
      intro u' w3 hown hgr _ _
      have HO := hide (rcs_snoc hown)
      have HB3 : Hid (Below w.heap.size w w3) := hide (((unhide HB2).alloc hz2 _).grown hgr (by simp; omega) (fun q hq => ((unhide HR).lt q hq).1))
      clear hown hgr
      go_wp2
      go_roundw
      case rel => exact ⟨j + 1, by omega, by go_num, by rw [unhide HT]; exact unhide HO, unhide HB3⟩
      case measure => simp [intOf]; omega
    · have hje : j = L.length := by omega
      have hpi : ¬ (j : Int) < (L.length : Int) := by omega
      have HR : Hid (RcsV wr w.heap.size (.slice uq un uc) L) := hide (by rw [hje, unhide HA] at hrow; exact hrow)
      clear hje hrow hbw
      go_wp2
      go_ret
      exact ⟨_, rfl, unhide HR, unhide HB⟩
set_option maxHeartbeats 2000000 in
theorem rtold_any (q : Option Addr) (c : Nat) (L : List Pc) (kd : Int) (w : World) (hL : PcA w q L) (hl : L.length ≤ 1000000) (hs : (toldF (ifK (inK [1, kd])) L).length ≤ 100000000000000) (hk1 : kd ≠ 1) :
    Calls Try.prog 20 #[.slice q L.length c, .int .i64 kd] w fun e w' => e = .returned (.string (bs (toldF (ifK (inK [1, kd])) L))) ∧ Below w.heap.size w w' := by
  have HL := hide hL
  have HT := hide (toldF_take (ifK (inK [1, kd])) L)
  have HE := hide (toldF_le (ifK (inK [1, kd])) L)
  have HA : Hid (toldF (ifK (inK [1, kd])) (L.take L.length) = toldF (ifK (inK [1, kd])) L) := hide (by rw [List.take_length])
  obtain ⟨z, hz⟩ : ∃ z, toldF (ifK (inK [1, kd])) L = z := ⟨_, rfl⟩
  rw [hz] at hs HA ⊢
  have HZ := hide hz
  clear hL hz
  go_enter Try.func20, Try.ntmps20
  go_wp2
  go_loopw [10, 5] (fun i u wr => ∃ j : Nat, j ≤ L.length ∧ i = .int .i64 (j : Int) ∧ u = .string (bs (toldF (ifK (inK [1, kd])) (L.take j))) ∧ Below w.heap.size w wr) (fun i _ _ => L.length - (intOf i).toNat)
  case atStart => exact ⟨0, Nat.zero_le _, rfl, rfl, Below.refl _ _⟩
  case round =>
    obtain ⟨j, hj, rfl, rfl, hbw⟩ := hrel
    have HB := hide hbw
    by_cases hp : j < L.length
    · have hpi : (j : Int) < (L.length : Int) := by omega
      obtain ⟨g, o, rfl, hc⟩ := (unhide HL).below hbw (by omega)
      obtain ⟨x0, x1⟩ := hc j hp
      have HT2 := hide (unhide HT j hp)
      have hle := unhide HE (j + 1)
      rw [unhide HT2, List.length_append, unhide HZ] at hle
      obtain ⟨pc, hpc⟩ : ∃ pc, L.getD j (0, ByteArray.empty) = pc := ⟨_, rfl⟩
      rw [hpc] at x0 x1 HT2 hle
      obtain ⟨k, t⟩ := pc
      dsimp only at x0 x1
      have hba : Below wr.heap.size wr (wr.alloc (Obj.cells #[.int .i64 k, .string t] 45)) := (Below.refl _ _).alloc (Nat.le_refl _) _
      have HB2 := hide (tr2 hbw hba)
      obtain ⟨A, hA⟩ : ∃ A, toldF (ifK (inK [1, kd])) (L.take j) = A := ⟨_, rfl⟩
      rw [hA] at HT2 hle ⊢
      have HIK : Hid (ifK (inK [1, kd]) (k, t) = if (k == 1 || k == kd) = true then t.data.toList else []) := hide (by
        unfold ifK inK
        simp only [List.contains_cons, List.contains_nil, Bool.or_false])
      rw [unhide HIK] at HT2 hle
      have hAs : (bs A).size = A.length := bs_size _
      by_cases k1 : k = 1
      · subst k1
        have HR : Hid (bs A ++ t = bs (toldF (ifK (inK [1, kd])) (L.take (j + 1)))) := hide (by
          rw [unhide HT2, bs_add]; rfl)
        have hcat : ¬ 9223372036854775807 < (bs A).size + t.size := by
          rw [hAs]
          have : (if ((1 : Int) == 1 || (1 : Int) == kd) = true then t.data.toList else []) = t.data.toList := rfl
          rw [this, data_len] at hle
          omega
        clear hc hpc hA hle hba hbw hAs
        go_wp2
        go_roundw
        case rel => exact ⟨j + 1, by omega, by go_num, by rw [unhide HR], unhide HB2⟩
        case measure => simp [intOf]; omega
      · have n1 : (k == 1) = false := beq_eq_false_iff_ne.2 k1
        by_cases k2 : k = kd
        · have n2 : (k == kd) = true := by rw [k2]; exact beq_self_eq_true _
          rw [n1, n2] at HT2 hle
          have HR : Hid (bs A ++ t = bs (toldF (ifK (inK [1, kd])) (L.take (j + 1)))) := hide (by
            rw [unhide HT2, bs_add]; rfl)
          have hcat : ¬ 9223372036854775807 < (bs A).size + t.size := by
            rw [hAs]
            have : (if ((false || true) = true) then t.data.toList else []) = t.data.toList := rfl
            rw [this, data_len] at hle
            omega
          clear hc hpc hA hle hba hbw hAs k1 k2
          go_wp2
          go_roundw
          case rel => exact ⟨j + 1, by omega, by go_num, by rw [unhide HR], unhide HB2⟩
          case measure => simp [intOf]; omega
        · have n2 : (k == kd) = false := beq_eq_false_iff_ne.2 k2
          rw [n1, n2] at HT2 hle
          have HR : Hid (A = toldF (ifK (inK [1, kd])) (L.take (j + 1))) := hide (by
            rw [unhide HT2]; show A = A ++ []; rw [List.append_nil])
          clear hc hpc hA hle hba hbw hAs k1 k2
          go_wp2
          go_roundw
          case rel => exact ⟨j + 1, by omega, by go_num, by rw [← unhide HR], unhide HB2⟩
          case measure => simp [intOf]; omega
    · have hje : j = L.length := by omega
      have hpi : ¬ (j : Int) < (L.length : Int) := by omega
      have HR : Hid (toldF (ifK (inK [1, kd])) (L.take j) = z) := hide (by rw [hje, unhide HA])
      clear hje hbw
      go_wp2
      go_ret
      exact ⟨by rw [unhide HR]; rfl, unhide HB⟩
set_option maxHeartbeats 2000000 in
theorem rmarked_any (q : Option Addr) (c : Nat) (L : List Pc) (w : World) (hL : PcA w q L) (hl : L.length ≤ 1000000) (hs : (toldF mkF L).length ≤ 100000000000000) :
    Calls Try.prog 23 #[.slice q L.length c] w fun e w' => e = .returned (.string (bs (toldF mkF L))) ∧ Below w.heap.size w w' := by
  have HL := hide hL
  have HT := hide (toldF_take mkF L)
  have HE := hide (toldF_le mkF L)
  have HA : Hid (toldF mkF (L.take L.length) = toldF mkF L) := hide (by rw [List.take_length])
  obtain ⟨z, hz⟩ : ∃ z, toldF mkF L = z := ⟨_, rfl⟩
  rw [hz] at hs HA ⊢
  have HZ := hide hz
  clear hL hz
  go_enter Try.func23, Try.ntmps23
  go_wp2
  go_loopw [8, 3] (fun i u wr => ∃ j : Nat, j ≤ L.length ∧ i = .int .i64 (j : Int) ∧ u = .string (bs (toldF mkF (L.take j))) ∧ Below w.heap.size w wr) (fun i _ _ => L.length - (intOf i).toNat)
  case atStart => exact ⟨0, Nat.zero_le _, rfl, rfl, Below.refl _ _⟩
  case round =>
    obtain ⟨j, hj, rfl, rfl, hbw⟩ := hrel
    have HB := hide hbw
    by_cases hp : j < L.length
    · have hpi : (j : Int) < (L.length : Int) := by omega
      obtain ⟨g, o, rfl, hc⟩ := (unhide HL).below hbw (by omega)
      obtain ⟨x0, x1⟩ := hc j hp
      have HT2 := hide (unhide HT j hp)
      have hle := unhide HE (j + 1)
      rw [unhide HT2, List.length_append, unhide HZ] at hle
      obtain ⟨pc, hpc⟩ : ∃ pc, L.getD j (0, ByteArray.empty) = pc := ⟨_, rfl⟩
      rw [hpc] at x0 x1 HT2 hle
      obtain ⟨k, t⟩ := pc
      dsimp only at x0 x1
      have hba : Below wr.heap.size wr (wr.alloc (Obj.cells #[.int .i64 k, .string t] 45)) := (Below.refl _ _).alloc (Nat.le_refl _) _
      have HB2 := hide (tr2 hbw hba)
      obtain ⟨A, hA⟩ : ∃ A, toldF mkF (L.take j) = A := ⟨_, rfl⟩
      rw [hA] at HT2 hle ⊢
      have hAs : (bs A).size = A.length := bs_size _
      by_cases k1 : k = 1
      · subst k1
        have e : mkF (1, t) = t.data.toList := rfl
        rw [e] at HT2 hle
        rw [data_len] at hle
        have HR : Hid (bs A ++ t = bs (toldF mkF (L.take (j + 1)))) := hide (by rw [unhide HT2, bs_add])
        have hcat : ¬ 9223372036854775807 < (bs A).size + t.size := by rw [hAs]; omega
        clear hc hpc hA hle hba hbw hAs e
        go_wp2
        go_roundw
        case rel => exact ⟨j + 1, by omega, by go_num, by rw [unhide HR], unhide HB2⟩
        case measure => simp [intOf]; omega
      have n1 : (k == 1) = false := beq_eq_false_iff_ne.2 k1
      by_cases k2 : k = 2
      · subst k2
        have e : mkF (2, t) = [91, 45] ++ t.data.toList ++ [45, 93] := rfl
        rw [e] at HT2 hle
        rw [List.length_append, List.length_append, data_len] at hle
        simp only [List.length_cons, List.length_nil] at hle
        have HR : Hid (bs A ++ ⟨#[91, 45]⟩ ++ t ++ ⟨#[45, 93]⟩ = bs (toldF mkF (L.take (j + 1)))) := hide (by
          rw [unhide HT2, bs_add, bs_add, bs_add]; simp)
        have hcat : ¬ 9223372036854775807 < (bs A).size + 2 := by rw [hAs]; omega
        have hcat2 : ¬ 9223372036854775807 < (bs A).size + 2 + t.size := by rw [hAs]; omega
        have hcat3 : ¬ 9223372036854775807 < (bs A).size + 2 + t.size + 2 := by rw [hAs]; omega
        clear hc hpc hA hle hba hbw hAs e
        go_wp2
        go_roundw
        case rel => exact ⟨j + 1, by omega, by go_num, by rw [unhide HR], unhide HB2⟩
        case measure => simp [intOf]; omega
      have n2 : (k == 2) = false := beq_eq_false_iff_ne.2 k2
      by_cases k3 : k = 3
      · subst k3
        have e : mkF (3, t) = [91, 43] ++ t.data.toList ++ [43, 93] := rfl
        rw [e] at HT2 hle
        rw [List.length_append, List.length_append, data_len] at hle
        simp only [List.length_cons, List.length_nil] at hle
        have HR : Hid (bs A ++ ⟨#[91, 43]⟩ ++ t ++ ⟨#[43, 93]⟩ = bs (toldF mkF (L.take (j + 1)))) := hide (by
          rw [unhide HT2, bs_add, bs_add, bs_add]; simp)
        have hcat : ¬ 9223372036854775807 < (bs A).size + 2 := by rw [hAs]; omega
        have hcat2 : ¬ 9223372036854775807 < (bs A).size + 2 + t.size := by rw [hAs]; omega
        have hcat3 : ¬ 9223372036854775807 < (bs A).size + 2 + t.size + 2 := by rw [hAs]; omega
        clear hc hpc hA hle hba hbw hAs e
        go_wp2
        go_roundw
        case rel => exact ⟨j + 1, by omega, by go_num, by rw [unhide HR], unhide HB2⟩
        case measure => simp [intOf]; omega
      have n3 : (k == 3) = false := beq_eq_false_iff_ne.2 k3
      have e : mkF (k, t) = [] := by unfold mkF; dsimp only; rw [if_neg k1, if_neg k2, if_neg k3]
      rw [e, List.append_nil] at HT2
      have HR : Hid (A = toldF mkF (L.take (j + 1))) := hide (unhide HT2).symm
      clear hc hpc hA hle hba hbw hAs e k1 k2 k3
      go_wp2
      go_roundw
      case rel => exact ⟨j + 1, by omega, by go_num, by rw [← unhide HR], unhide HB2⟩
      case measure => simp [intOf]; omega
    · have hje : j = L.length := by omega
      have hpi : ¬ (j : Int) < (L.length : Int) := by omega
      have HR : Hid (toldF mkF (L.take j) = z) := hide (by rw [hje, unhide HA])
      clear hje hbw
      go_wp2
      go_ret
      exact ⟨by rw [unhide HR]; rfl, unhide HB⟩
set_option maxHeartbeats 1000000 in
theorem wordsTold_great (q : Option Addr) (n c : Nat) (w : World) (h : 100 < n) :
    Calls Try.prog 5 #[.slice q n c] w fun e w' => e = .returned (.bool true) ∧ Below w.heap.size w w' := by
  have CA := hide abc_any
  have hi : (100 : Int) < (n : Int) := by omega
  go_enter Try.func5, Try.ntmps5
  go_wp2_with fail
  refine Calls.mono (unhide CA _) ?_
  rintro e w1 ⟨rfl, hb⟩
  go_wp2
  go_ret
  exact ⟨rfl, hb⟩
set_option maxHeartbeats 4000000 in
theorem wordsTold_small (q : Option Addr) (c : Nat) (L : List Pc) (w : World) (hL : PcA w q L) (hl : L.length ≤ 100) (hz : ∀ p ∈ L, p.2.size ≤ 1048576) :
    Calls Try.prog 5 #[.slice q L.length c] w fun e w' => e = .returned (.bool true) ∧ Below w.heap.size w w' := by
  have CA := hide abc_any
  have hli : ¬ (100 : Int) < (L.length : Int) := by omega
  have hif : ∀ p, (toldF (ifK p) L).length ≤ 200000000 := fun p => by
    have := toldF_B (ifK p) 1048576 L (fun x hx => by
      unfold ifK
      split
      · rw [data_len]; exact hz x hx
      · simp)
    have h2 := Nat.mul_le_mul_right 1048576 hl
    omega
  have hmk : (toldF mkF L).length ≤ 200000000 := by
    have := toldF_B mkF 1048580 L (fun x hx => by
      have h := hz x hx
      unfold mkF
      split
      · rw [data_len]; omega
      · split
        · rw [List.length_append, List.length_append, data_len]; simp only [List.length_cons, List.length_nil]; omega
        · split
          · rw [List.length_append, List.length_append, data_len]; simp only [List.length_cons, List.length_nil]; omega
          · simp)
    have h2 := Nat.mul_le_mul_right 1048580 hl
    omega
  have CR := hide (ref24_any q c L w hL (by omega))
  have CO := hide (fun (W : World) hW => old_any q c L W (hL.below hW) (by omega) (by have := hif (inK [1, 2]); omega))
  have CN := hide (fun (W : World) hW => new_any q c L W (hL.below hW) (by omega) (by have := hif (inK [1, 3]); omega))
  have CM := hide (fun (W : World) hW => marked_all q c L W (hL.below hW) (fun p hp => by have := hz p hp; omega) (by omega) (by omega))
  have RO := hide (fun (q' : Option Addr) (c' : Nat) (W : World) h => rtold_any q' c' L 2 W h (by omega) (by have := hif (inK [1, 2]); omega) (by decide))
  have RN := hide (fun (q' : Option Addr) (c' : Nat) (W : World) h => rtold_any q' c' L 3 W h (by omega) (by have := hif (inK [1, 3]); omega) (by decide))
  have RM := hide (fun (q' : Option Addr) (c' : Nat) (W : World) h => rmarked_any q' c' L W h (by omega) (by omega))
  have e1 : ∀ x : ByteArray, (x.toList == x.toList) = true := fun x => beq_self_eq_true _
  generalize bs (toldF (ifK (inK [1, 2])) L) = to at *
  generalize bs (toldF (ifK (inK [1, 3])) L) = tn at *
  generalize bs (toldF mkF L) = tm at *
  have e2 := e1 to
  have e3 := e1 tn
  have e4 := e1 tm
  clear hL hl hz hif hmk e1
  go_enter Try.func5, Try.ntmps5
  go_wp2_with fail
  refine Calls.mono (unhide CR) ?_
  rintro e w1 ⟨v, rfl, hv, hb1⟩
  obtain ⟨q', c', hq, _, hp⟩ := hv.read
  subst hq
  have HB1 := hide hb1
  have HP := hide hp
  clear hv hp hb1 CR
  go_wp2_with fail
  refine Calls.mono (unhide CO w1 (unhide HB1)) ?_
  rintro e w2 ⟨rfl, hb2⟩
  have HB2 := hide (tr2 (unhide HB1) hb2)
  have HP2 := hide ((unhide HP).below hb2)
  clear hb2
  go_wp2_with fail
  refine Calls.mono (unhide RO q' c' w2 (unhide HP2)) ?_
  rintro e w3 ⟨rfl, hb3⟩
  have HB3 := hide (tr2 (unhide HB2) hb3)
  have HP3 := hide ((unhide HP2).below hb3)
  clear hb3
  go_wp2_with fail
  refine Calls.mono (unhide CN w3 (unhide HB3)) ?_
  rintro e w4 ⟨rfl, hb4⟩
  have HB4 := hide (tr2 (unhide HB3) hb4)
  have HP4 := hide ((unhide HP3).below hb4)
  clear hb4
  go_wp2_with fail
  refine Calls.mono (unhide RN q' c' w4 (unhide HP4)) ?_
  rintro e w5 ⟨rfl, hb5⟩
  have HB5 := hide (tr2 (unhide HB4) hb5)
  have HP5 := hide ((unhide HP4).below hb5)
  clear hb5
  go_wp2_with fail
  refine Calls.mono (unhide CM w5 (unhide HB5)) ?_
  rintro e w6 ⟨rfl, hb6⟩
  have HB6 := hide (tr2 (unhide HB5) hb6)
  have HP6 := hide ((unhide HP5).below hb6)
  clear hb6
  go_wp2_with fail
  refine Calls.mono (unhide RM q' c' w6 (unhide HP6)) ?_
  rintro e w7 ⟨rfl, hb7⟩
  have HB7 := hide (tr2 (unhide HB6) hb7)
  clear hb7
  go_wp2_with fail
  refine Calls.mono (unhide CA _) ?_
  rintro e w8 ⟨rfl, hb8⟩
  go_wp2
  go_ret
  exact ⟨rfl, tr2 (unhide HB7) hb8⟩
theorem wordsTold_walk (q : Option Addr) (n c : Nat) (L : List Pc) (w : World) (hn : L.length = n) (hL : PcA w q L) (hz : ∀ p ∈ L, p.2.size ≤ 1048576) :
    Calls Try.prog 5 #[.slice q n c] w fun e w' => e = .returned (.bool true) ∧ Below w.heap.size w w' := by
  subst hn
  by_cases h : 100 < L.length
  · exact wordsTold_great q _ c w h
  · exact wordsTold_small q c L w hL (by omega) hz
end Go.Proofs.Ytfbgpodcdgmpjaa
