/-
  What 'rectoref01.List' and 'rectolaw01.long' do: the bytes of each list, and whether texts are more than are gone through, as the plain functions say it.
-/
import Derived.Test.YtekkgmgdihlefaaRp
namespace Go.Proofs.Ytekkgmgdihlefaa
open Go.RowKit
set_option linter.unusedVariables false

theorem getD_mem (ss : List ByteArray) (k : Nat) (h : k < ss.length) : ss.getD k ByteArray.empty ∈ ss := by
  have e : ss.getD k ByteArray.empty = ss[k] := by rw [List.getD, List.getElem?_eq_getElem h]; rfl
  rw [e]; exact List.getElem_mem h

set_option maxHeartbeats 1000000 in
theorem rlistW_no (a : Option Addr) (n cap : Nat) (w : World) (h1 : 1000 < n) (h2 : n ≤ 9223372036854775807) :
    Calls Try.prog 16 #[.slice a n cap] w fun e w' => e = .returned (.tuple #[.string ⟨#[]⟩, .int .i64 2]) ∧ Below w.heap.size w w' := by
  go_enter Try.func16, Try.ntmps16
  go_wp2
  go_ret2
  exact ⟨rfl, Below.refl _ _⟩

set_option maxHeartbeats 1000000 in
theorem rlistW_0 (a : Option Addr) (cap : Nat) (w : World) :
    Calls Try.prog 16 #[.slice a 0 cap] w fun e w' => e = .returned (.tuple #[.string (bs (lb 0 [])), .int .i64 0]) ∧ Below w.heap.size w w' := by
  have H := hide (plain_any 0)
  go_enter Try.func16, Try.ntmps16
  go_wp2_with fail
  refine (unhide H _ (by omega) (by omega)).mono ?_
  rintro e w1 ⟨rfl, hb1⟩
  go_wp2
  refine wp_loop_rounds 1 ?_
  rw [rounds_succ]; go_wp2
  go_ret2
  exact ⟨rfl, hb1⟩

theorem lb_prefix (n : Nat) (ss : List ByteArray) (k : Nat) (hk : k ≤ ss.length) (h : ∀ j, j < k → (ss.getD j ByteArray.empty).size ≤ 65536) : (lb n (ss.take k)).length ≤ 7 + k * 65543 := by
  have := lb_len n (ss.take k) (by
    intro s hs
    obtain ⟨i, hi, rfl⟩ := List.mem_iff_getElem.1 hs
    simp at hi
    have := h i (by omega)
    rw [List.getD, List.getElem?_eq_getElem (by omega)] at this
    simpa using this) k (by simp; omega)
  rwa [List.take_take, Nat.min_self] at this

set_option maxHeartbeats 1000000 in
theorem rlistW_loop (x xo cap n : Nat) (ss : List ByteArray) (w : World) (hn : Hid (ss.length = n)) (h0 : 0 < n) (h1 : n ≤ 1000) (hbig : ∀ s ∈ ss, s.size ≤ 9223372036854775807)
    (hx : ∀ i, i < n → w.cell? ⟨x, xo + i, none⟩ = some (.string (ss.getD i ByteArray.empty))) :
    Calls Try.prog 16 #[.slice (some ⟨x, xo, none⟩) n cap] w fun e w' => e = .returned (listV n ss) ∧ Below w.heap.size w w' := by
  have hxB : x < w.heap.size := World.block_lt_of_cell? w ⟨x, xo + 0, none⟩ (hx 0 h0)
  have HX := hide hx
  have HB := hide hbig
  clear hx hbig
  go_enter Try.func16, Try.ntmps16
  go_wp2_with fail
  refine (plain_any _ _ (by omega) (by omega)).mono ?_
  rintro e w1 ⟨rfl, hb1⟩
  go_wp2
  go_loopw [4, 17] (fun o i wr => ∃ k : Nat, k ≤ n ∧ i = .int .i64 k ∧ o = .string (bs (lb n (ss.take k))) ∧ Below w.heap.size w wr ∧ ∀ j, j < k → (ss.getD j ByteArray.empty).size ≤ 65536) (fun _ i _ => n - (intOf i).toNat)
  case atStart => exact ⟨0, Nat.zero_le _, rfl, by rw [List.take_zero, lb_zero], hb1, fun j hj => by omega⟩
  case round =>
    obtain ⟨k, hk, rfl, rfl, hbw, hall⟩ := hrel
    have hsz := lb_prefix n ss k (by rw [unhide hn]; exact hk) hall
    rw [← bs_size] at hsz
    have HA := hide hall
    clear hall
    by_cases hlt : k < n
    · have hlti : (k : Int) < (n : Int) := by omega
      obtain ⟨p, hp⟩ : ∃ p, p = ss.getD k ByteArray.empty := ⟨_, rfl⟩
      have c1 : wr.cell? ⟨x, xo + k, none⟩ = some (.string p) := by rw [hbw.cell (p := ⟨x, xo + k, none⟩) hxB, hp]; exact unhide HX k hlt
      have hmem : p ∈ ss := by rw [hp]; exact getD_mem ss k (by rw [unhide hn]; exact hlt)
      have hpb := unhide HB p hmem
      have HM := hide hmem
      have HP := hide hp
      clear hp hmem
      by_cases hps : p.size ≤ 65536
      · have htl := tb_len p
        rw [← bs_size] at htl
        have htk := lb_take n ss k (by rw [unhide hn]; exact hlt)
        rw [← unhide HP] at htk
        have HT := hide htk
        clear htk
        go_wp2_with fail
        refine (rText_ok _ _ hps).mono ?_
        rintro e w2 ⟨rfl, hb2⟩
        rw [bs_tb]
        go_wp2
        go_roundw
        case rel => exact ⟨k + 1, by omega, by go_num, by rw [unhide HT, bs_add, bs_toList], hbw.trans (hb2.mono hbw.size), by
          intro j hj
          by_cases hjk : j = k
          · subst hjk; rw [← unhide HP]; exact hps
          · exact unhide HA j (by omega)⟩
        case measure => simp [intOf]; omega
      · have hps' : 65536 < p.size := by omega
        have hf : fits ss = false := by
          rw [Bool.eq_false_iff]; intro h; exact hps ((fits_iff ss).1 h p (unhide HM))
        have HF := hide hf
        clear hf hps
        go_wp2_with fail
        refine (rText_no _ _ hpb hps').mono ?_
        rintro e w2 ⟨rfl, hb2⟩
        go_wp2
        go_ret2
        exact ⟨by rw [listV, unhide HF]; rfl, hbw.trans (hb2.mono hbw.size)⟩
    · have hkn : k = n := by omega
      have e : ss.take k = ss := by rw [hkn, ← unhide hn, List.take_length]
      have hall : ∀ s ∈ ss, s.size ≤ 65536 := by
        intro s hs
        obtain ⟨i, hi, rfl⟩ := List.mem_iff_getElem.1 hs
        have := unhide HA i (by rw [unhide hn] at hi; omega)
        rw [List.getD, List.getElem?_eq_getElem hi] at this
        exact this
      have HF := hide ((fits_iff ss).2 hall)
      have E := hide e
      clear hkn e hall
      go_wp2
      go_ret2
      exact ⟨by rw [listV, unhide HF, unhide E]; rfl, hbw⟩

theorem rlistW_any (v : Value) (ss : List ByteArray) (w : World) (hv : View w v ss) (h1 : ss.length ≤ 1000) (hbig : ∀ s ∈ ss, s.size ≤ 9223372036854775807) :
    Calls Try.prog 16 #[v] w fun e w' => e = .returned (listV ss.length ss) ∧ Below w.heap.size w w' := by
  obtain ⟨la, a, cap, rfl, hx⟩ := hv
  by_cases h0 : ss.length = 0
  · have e0 := List.eq_nil_of_length_eq_zero h0
    subst e0
    exact rlistW_0 a cap w
  · obtain ⟨x, xo, rfl, hx'⟩ := hx (by omega)
    exact rlistW_loop x xo cap _ ss w (hide rfl) (by omega) h1 hbig hx'
theorem rlistW_long (v : Value) (ss : List ByteArray) (w : World) (hv : View w v ss) (h1 : 1000 < ss.length) :
    Calls Try.prog 16 #[v] w fun e w' => e = .returned (.tuple #[.string ⟨#[]⟩, .int .i64 2]) ∧ Below w.heap.size w w' := by
  obtain ⟨la, a, cap, rfl, hx⟩ := hv
  exact rlistW_no a _ cap w h1 la

/-! ### long -/

def longF : Nat → Nat → List ByteArray → Bool
  | _, _, [] => false
  | i, n, s :: r => if 1100 < i ∨ 100000 < s.size then true else if 200000 < n + s.size then true else longF (i + 1) (n + s.size) r
def longB (ss : List ByteArray) : Bool := longF 0 0 ss

theorem longF_false : ∀ (ss : List ByteArray) (i n : Nat), longF i n ss = false → (ss ≠ [] → i + ss.length ≤ 1101) ∧ (∀ s ∈ ss, s.size ≤ 100000)
  | [], i, n, _ => by simp
  | s :: r, i, n, h => by
    unfold longF at h
    by_cases h1 : 1100 < i ∨ 100000 < s.size
    · rw [if_pos h1] at h; cases h
    rw [if_neg h1] at h
    by_cases h2 : 200000 < n + s.size
    · rw [if_pos h2] at h; cases h
    rw [if_neg h2] at h
    have ih := longF_false r (i + 1) (n + s.size) h
    refine ⟨fun _ => ?_, ?_⟩
    · by_cases hr : r = []
      · subst hr; simp; omega
      · have := ih.1 hr; simp; omega
    · intro t ht
      rcases List.mem_cons.1 ht with rfl | ht
      · omega
      · exact ih.2 t ht

theorem long_0 (a : Option Addr) (cap : Nat) (w : World) :
    Calls Try.prog 9 #[.slice a 0 cap] w fun e w' => e = .returned (.bool false) ∧ Below w.heap.size w w' := by
  go_enter Try.func9, Try.ntmps9
  go_wp2
  refine wp_loop_rounds 1 ?_
  rw [rounds_succ]; go_wp2
  go_ret
  exact ⟨rfl, Below.refl _ _⟩

set_option maxHeartbeats 1000000 in
theorem long_loop (x xo cap n : Nat) (ss : List ByteArray) (w : World) (hn : Hid (ss.length = n)) (h0 : 0 < n) (h1 : n ≤ 9223372036854775807) (hbig : ∀ s ∈ ss, s.size ≤ 9223372036854775807)
    (hx : ∀ i, i < n → w.cell? ⟨x, xo + i, none⟩ = some (.string (ss.getD i ByteArray.empty))) :
    Calls Try.prog 9 #[.slice (some ⟨x, xo, none⟩) n cap] w fun e w' => e = .returned (.bool (longB ss)) ∧ Below w.heap.size w w' := by
  have HX := hide hx
  have HB := hide hbig
  clear hx hbig
  go_enter Try.func9, Try.ntmps9
  go_wp2
  go_loopw [3, 8] (fun t i wr => ∃ k m : Nat, k ≤ n ∧ i = .int .i64 k ∧ t = .int .i64 m ∧ m ≤ 200000 ∧ wr = w ∧ longB ss = longF k m (ss.drop k)) (fun _ i _ => n - (intOf i).toNat)
  case atStart => exact ⟨0, 0, Nat.zero_le _, rfl, rfl, by omega, rfl, rfl⟩
  case round =>
    obtain ⟨k, m, hk, rfl, rfl, hm, rfl, hl⟩ := hrel
    have HL := hide hl
    clear hl
    by_cases hlt : k < n
    · have hlti : (k : Int) < (n : Int) := by omega
      have hks : k < ss.length := by rw [unhide hn]; exact hlt
      obtain ⟨p, hp⟩ : ∃ p, p = ss.getD k ByteArray.empty := ⟨_, rfl⟩
      have c1 := unhide HX k hlt
      rw [← hp] at c1
      have hmem : p ∈ ss := by rw [hp]; exact getD_mem ss k hks
      have hpb := unhide HB p hmem
      have hd : ss.drop k = p :: ss.drop (k + 1) := by
        have e : ss.getD k ByteArray.empty = ss[k] := by rw [List.getD, List.getElem?_eq_getElem hks]; rfl
        rw [hp, e, List.drop_eq_getElem_cons hks]
      have hu : longB ss = if 1100 < k ∨ 100000 < p.size then true else if 200000 < m + p.size then true else longF (k + 1) (m + p.size) (ss.drop (k + 1)) := by
        rw [unhide HL, hd]; rfl
      have HU := hide hu
      clear hp hmem hd hu hks
      by_cases g1 : 1100 < k
      · have g1i : (1100 : Int) < (k : Int) := by omega
        go_wp2
        go_ret
        exact ⟨by rw [unhide HU, if_pos (.inl g1)]; rfl, Below.refl _ _⟩
      have g1i : (k : Int) ≤ 1100 := by omega
      by_cases g2 : 100000 < p.size
      · go_wp2
        go_ret
        exact ⟨by rw [unhide HU, if_pos (.inr g2)]; rfl, Below.refl _ _⟩
      have g2i : p.size ≤ 100000 := by omega
      have g2j : (p.size : Int) ≤ 100000 := by omega
      by_cases g3 : 200000 < m + p.size
      · have g3i : (200000 : Int) < (m : Int) + (p.size : Int) := by omega
        clear g2
        go_wp2
        go_ret
        exact ⟨by rw [unhide HU, if_neg (by omega), if_pos g3]; rfl, Below.refl _ _⟩
      · have g3i : (m : Int) + (p.size : Int) ≤ 200000 := by omega
        clear g2 g3
        go_wp2
        go_roundw
        case rel => exact ⟨k + 1, m + p.size, by omega, by go_num, by go_num, by omega, trivial, by rw [unhide HU, if_neg (by omega), if_neg (by omega)]⟩
        case measure => simp [intOf]; omega
    · have hkn : k = n := by omega
      have hf : longB ss = false := by rw [unhide HL, hkn, ← unhide hn, List.drop_length]; rfl
      have HF := hide hf
      clear hkn hf
      go_wp2
      go_ret
      exact ⟨by rw [unhide HF]; rfl, Below.refl _ _⟩

theorem long_any (v : Value) (ss : List ByteArray) (w : World) (hv : View w v ss) (hbig : ∀ s ∈ ss, s.size ≤ 9223372036854775807) :
    Calls Try.prog 9 #[v] w fun e w' => e = .returned (.bool (longB ss)) ∧ Below w.heap.size w w' := by
  obtain ⟨la, a, cap, rfl, hx⟩ := hv
  by_cases h0 : ss.length = 0
  · have e0 := List.eq_nil_of_length_eq_zero h0
    subst e0
    exact long_0 a cap w
  · obtain ⟨x, xo, rfl, hx'⟩ := hx (by omega)
    exact long_loop x xo cap _ ss w (hide rfl) (by omega) la hbig hx'
theorem view_below {w w1 : World} {v : Value} {ss : List ByteArray} (h : View w v ss) (hb : Below w.heap.size w w1) : View w1 v ss := by
  obtain ⟨la, a, cap, rfl, hx⟩ := h
  refine ⟨la, a, cap, rfl, fun h0 => ?_⟩
  obtain ⟨b, off, rfl, hc⟩ := hx h0
  exact ⟨b, off, rfl, fun i hi => (hb.cell (p := ⟨b, off + i, none⟩) (World.block_lt_of_cell? w ⟨b, off + i, none⟩ (hc i hi))).trans (hc i hi)⟩
theorem view_alloc {w : World} {v : Value} {ss : List ByteArray} (h : View w v ss) (o : Obj) : View (w.alloc o) v ss := view_below h ((Below.refl _ _).alloc (Nat.le_refl _) _)
end Go.Proofs.Ytekkgmgdihlefaa
