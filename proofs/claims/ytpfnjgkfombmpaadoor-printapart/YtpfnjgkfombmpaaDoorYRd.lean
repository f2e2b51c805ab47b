/-
  The reference's Depth.
-/
import Derived.Test.YtpfnjgkfombmpaaDoorMgS
namespace Go.Proofs.YtpfnjgkfombmpaaDoor
open Go.RowKit
set_option linter.unusedVariables false

def leafB (k : Int) : Bool := k == 2 || k == 3
def Forest.depth : Forest → Nat
  | .nil => 0
  | .cons k _ _ _ _ kids r => max (if 0 < kids.depth ∨ leafB k = false then kids.depth + 1 else kids.depth) r.depth
theorem leaf_any (k sp : Int) (n tx : ByteArray) (va vk : Value) (w : World) :
    Calls Tryd.prog 78 #[.agg #[.int .i64 k, .int .i64 sp, .string n, va, .string tx, vk]] w fun e w' => e = .returned (.bool (leafB k)) ∧ Below w.heap.size w w' := by
  unfold leafB
  by_cases h2 : k = 2
  · subst h2
    go_enter Tryd.func78, Tryd.ntmps78
    go_wp2
    go_ret
    exact ⟨rfl, by first | exact Below.refl _ _ | exact (Below.refl _ _).alloc (Nat.le_refl _) _⟩
  go_enter Tryd.func78, Tryd.ntmps78
  go_wp2
  go_ret
  exact ⟨rfl, by first | exact Below.refl _ _ | exact (Below.refl _ _).alloc (Nat.le_refl _) _⟩
set_option maxHeartbeats 2000000 in
theorem rdepth_none (q : Option Addr) (cap : Nat) (w : World) : Calls Tryd.prog 51 #[.slice q 0 cap] w fun e w' => e = .returned (.int .i64 0) ∧ Below w.heap.size w w' := by
  go_enter Tryd.func51, Tryd.ntmps51
  go_wp2
  refine wp_loop_rounds 1 ?_
  rw [rounds_succ]; go_wp2
  go_ret
  exact ⟨rfl, Below.refl _ _⟩
theorem Forest.depth_count : ∀ f : Forest, f.depth ≤ f.count
  | .nil => Nat.le_refl _
  | .cons k _ _ _ _ kids r => by
    have h1 := Forest.depth_count kids
    have h2 := Forest.depth_count r
    show max (if 0 < kids.depth ∨ leafB k = false then kids.depth + 1 else kids.depth) r.depth ≤ 1 + kids.count + r.count
    split <;> omega
set_option maxRecDepth 100000 in
set_option maxHeartbeats 4000000 in
theorem rdepth_some (f : Forest) (g o cap : Nat) (w : World) (hl : Lies f g o w) (hc : f.count ≤ 1000000)
    (ih : ∀ j k sp n ats tx kids, f.drop j = .cons k sp n ats tx kids (f.drop (j + 1)) → ∀ q cap w, Fo q kids w → Calls Tryd.prog 51 #[.slice q kids.len cap] w fun e w' => e = .returned (.int .i64 (kids.depth : Nat)) ∧ Below w.heap.size w w') :
    Calls Tryd.prog 51 #[.slice (some ⟨g, o, none⟩) f.len cap] w fun e w' => e = .returned (.int .i64 (f.depth : Nat)) ∧ Below w.heap.size w w' := by
  have HL := hide hl
  have IH := hide ih
  have hlc := f.len_count
  clear hl ih
  go_enter Tryd.func51, Tryd.ntmps51
  go_wp2
  go_loopw [3, 9] (fun a b wr => ∃ j m : Nat, j ≤ f.len ∧ b = .int .i64 j ∧ a = .int .i64 m ∧ max m (f.drop j).depth = f.depth ∧ Below w.heap.size w wr) (fun _ b _ => f.len - (intOf b).toNat)
  case atStart => exact ⟨0, 0, Nat.zero_le _, rfl, rfl, by rw [Forest.drop_zero]; omega, Below.refl _ _⟩
  case round =>
    obtain ⟨j, m, hj, rfl, rfl, hsum, hbw⟩ := hrel
    by_cases hp : j < f.len
    · have hpi : (j : Int) < (f.len : Int) := by omega
      obtain ⟨k, sp, n, ats, tx, kids, hd⟩ := f.drop_cons j hp
      have hlj := (unhide HL).drop j
      have hlw := hlj.below hbw
      have hkc : kids.depth ≤ 1000000 := by
        have h1 := f.count_drop j
        rw [hd] at h1
        have h2 : 1 + kids.count + (f.drop (j + 1)).count ≤ f.count := h1
        have := kids.depth_count
        omega
      rw [hd] at hlw hsum
      obtain ⟨⟨c0, c1, c2, ⟨qa, ca, c3, hsl⟩, c4, ⟨qk, ck, c5, hck, hfo⟩⟩, _⟩ := hlw
      have hsum' : max m (max (if 0 < kids.depth ∨ leafB k = false then kids.depth + 1 else kids.depth) (f.drop (j + 1)).depth) = f.depth := hsum
      have CK := hide (fun w h => unhide IH j k sp n ats tx kids hd qk ck w h)
      have hbA := (Below.refl wr.heap.size wr).alloc (Nat.le_refl _) (Obj.cells #[.int .i64 k, .int .i64 sp, .string n, .slice qa ats.length ca, .string tx, .slice qk kids.len ck] 31)
      have HF := hide ((show Fo qk kids wr from hfo).below hbA)
      have HB := hide (tr2 hbw hbA)
      have hblk := Blk.new wr #[.int .i64 k, .int .i64 sp, .string n, .slice qa ats.length ca, .string tx, .slice qk kids.len ck] 31
      have HK := hide hblk
      generalize kids.len = kl at *
      generalize kids.depth = kd at *
      have hkd : (kd : Int) + 1 ≤ 1000001 := by omega
      clear hlj hsl hfo hd hsum hbA hbw hkc hblk
      go_wp2_with fail
      refine (unhide CK _ (unhide HF)).mono ?_
      rintro e w1 ⟨rfl, hb1⟩
      have HB1 := hide (tr2 (unhide HB) hb1)
      have hk1 := (unhide HK).later hb1
      have d0 : w1.cell? ⟨wr.heap.size, 0, none⟩ = some (.int .i64 k) := hk1.cell 0
      have d1 : w1.cell? ⟨wr.heap.size, 1, none⟩ = some (.int .i64 sp) := hk1.cell 1
      have d2 : w1.cell? ⟨wr.heap.size, 2, none⟩ = some (.string n) := hk1.cell 2
      have d3 : w1.cell? ⟨wr.heap.size, 3, none⟩ = some (.slice qa ats.length ca) := hk1.cell 3
      have d4 : w1.cell? ⟨wr.heap.size, 4, none⟩ = some (.string tx) := hk1.cell 4
      have d5 : w1.cell? ⟨wr.heap.size, 5, none⟩ = some (.slice qk kl ck) := hk1.cell 5
      clear hk1 HF HK CK c0 c1 c2 c3 c4 c5
      by_cases hk0 : 0 < kd
      · rw [if_pos (Or.inl hk0)] at hsum'
        have HS := hide hsum'
        have hki : (0 : Int) < (kd : Int) := by omega
        have HB2 := HB1
        clear hb1 hsum'
        rcases Nat.lt_or_ge m (kd + 1) with h | h
        · have hmd : (m : Int) < (kd : Int) + 1 := by omega
          clear h
          go_wp2
          go_roundw
          case rel => exact ⟨j + 1, kd + 1, by omega, by go_num, by first | rfl | go_num, by have := unhide HS; omega, unhide HB2⟩
          case measure => simp [intOf]; omega
        · have hmd : ¬ (m : Int) < (kd : Int) + 1 := by omega
          clear h
          have hm2 : (kd : Int) + 1 < (m : Int) + 1 := by omega
          have hm3 : ¬ (m : Int) ≤ (kd : Int) := by omega
          have hm4 : decide ((m : Int) < (kd : Int) + 1) = false := decide_eq_false hmd
          clear hmd hm2
          go_wp2
          go_roundw
          case rel => exact ⟨j + 1, m, by omega, by go_num, by first | rfl | go_num, by have := unhide HS; omega, unhide HB2⟩
          case measure => simp [intOf]; omega
      · obtain rfl : kd = 0 := by omega
        cases hlf : leafB k with
        | true =>
          rw [if_neg (by rw [hlf]; simp)] at hsum'
          have HS := hide hsum'
          have HLF := hide (leaf_any k sp n tx (.slice qa ats.length ca) (.slice qk kl ck) w1)
          rw [hlf] at HLF
          clear hsum' hk0 hlf hb1
          go_wp2_with fail
          refine (unhide HLF).mono ?_
          rintro e w2 ⟨rfl, hb2⟩
          have HB2 := hide (tr2 (unhide HB1) hb2)
          clear hb2 HLF
          go_wp2
          go_roundw
          case rel => exact ⟨j + 1, m, by omega, by go_num, rfl, by have := unhide HS; omega, unhide HB2⟩
          case measure => simp [intOf]; omega
        | false =>
          rw [if_pos (Or.inr hlf)] at hsum'
          have HS := hide hsum'
          have HLF := hide (leaf_any k sp n tx (.slice qa ats.length ca) (.slice qk kl ck) w1)
          rw [hlf] at HLF
          clear hsum' hk0 hlf hb1
          go_wp2_with fail
          refine (unhide HLF).mono ?_
          rintro e w2 ⟨rfl, hb2⟩
          have HB2 := hide (tr2 (unhide HB1) hb2)
          clear hb2 HLF
          rcases Nat.lt_or_ge m 1 with h | h
          · have hmd : (m : Int) < 1 := by omega
            clear h
            go_wp2
            go_roundw
            case rel => exact ⟨j + 1, 1, by omega, by go_num, by first | rfl | go_num, by have := unhide HS; omega, unhide HB2⟩
            case measure => simp [intOf]; omega
          · have hmd : ¬ (m : Int) < 1 := by omega
            clear h
            go_wp2
            go_roundw
            case rel => exact ⟨j + 1, m, by omega, by go_num, by first | rfl | go_num, by have := unhide HS; omega, unhide HB2⟩
            case measure => simp [intOf]; omega
    · have hpi : ¬ (j : Int) < (f.len : Int) := by omega
      rw [f.drop_out j (by omega)] at hsum
      have HS : Hid (m = f.depth) := hide (by rw [← hsum]; show m = max m 0; omega)
      clear hp hsum
      go_wp2
      go_ret
      exact ⟨by rw [← unhide HS]; rfl, hbw⟩
theorem rdepth_any : ∀ (m : Nat) (f : Forest), f.count ≤ m → m ≤ 1000000 → ∀ (q : Option Addr) (cap : Nat) (w : World), Fo q f w → Calls Tryd.prog 51 #[.slice q f.len cap] w fun e w' => e = .returned (.int .i64 (f.depth : Nat)) ∧ Below w.heap.size w w'
  | m, f, hm, hM, q, cap, w, h => by
    rcases h with rfl | ⟨g, o, rfl, hl⟩
    · exact rdepth_none q cap w
    · refine rdepth_some f g o cap w hl (by omega) (fun j k sp n ats tx kids hd q cap w hf => ?_)
      have h1 : (f.drop j).count ≤ f.count := f.count_drop j
      rw [hd] at h1
      have h2 : 1 + kids.count + (f.drop (j + 1)).count ≤ f.count := h1
      match m, hm with
      | 0, hm => omega
      | m + 1, hm => exact rdepth_any m kids (by omega) (by omega) q cap w hf
end Go.Proofs.YtpfnjgkfombmpaaDoor
