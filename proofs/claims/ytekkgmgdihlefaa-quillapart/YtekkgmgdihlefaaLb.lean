/-
  What 'quill.listBytes' and 'quill.List' do: of every list of texts its bytes, or the error, as the plain functions say it, in new memory alone.
-/
import Derived.Test.YtekkgmgdihlefaaTx
import Derived.Test.YtekkgmgdihlefaaBd
namespace Go.Proofs.Ytekkgmgdihlefaa
open Go.RowKit
set_option linter.unusedVariables false

def tb (s : ByteArray) : List UInt8 := nb s.size ++ s.data.toList
def lb (n : Nat) (ss : List ByteArray) : List UInt8 := nb n ++ (ss.map tb).flatten
theorem tb_len (s : ByteArray) : (tb s).length ≤ 7 + s.size := by
  have := nb_size s.size
  rw [bs_size] at this
  simp [tb]; omega
theorem lb_zero (n : Nat) : lb n [] = nb n := by simp [lb]
theorem lb_take (n : Nat) (ss : List ByteArray) (k : Nat) (h : k < ss.length) : lb n (ss.take (k + 1)) = lb n (ss.take k) ++ tb (ss.getD k ByteArray.empty) := by
  have e : ss.getD k ByteArray.empty = ss[k] := by rw [List.getD, List.getElem?_eq_getElem h]; rfl
  rw [e, lb, lb, List.take_succ_eq_append_getElem h, List.map_append, List.flatten_append]
  simp only [List.map_cons, List.map_nil, List.flatten_cons, List.flatten_nil, List.append_nil, List.append_assoc]
theorem lb_len (n : Nat) (ss : List ByteArray) (h : ∀ s ∈ ss, s.size ≤ 65536) : ∀ k, k ≤ ss.length → (lb n (ss.take k)).length ≤ 7 + k * 65543
  | 0, _ => by
    have := nb_size n
    rw [bs_size] at this
    simp [lb]; omega
  | k + 1, hk => by
    have ih := lb_len n ss h k (by omega)
    rw [lb_take n ss k (by omega), List.length_append]
    have h1 := tb_len (ss.getD k ByteArray.empty)
    have h2 : (ss.getD k ByteArray.empty).size ≤ 65536 := by
      have hlt : k < ss.length := by omega
      have e : ss.getD k ByteArray.empty = ss[k] := by rw [List.getD, List.getElem?_eq_getElem hlt]; rfl
      rw [e]; exact h _ (List.getElem_mem hlt)
    omega
theorem lb_ne (n : Nat) (ss : List ByteArray) : lb n ss ≠ [] := by simp [lb, nb, numL]
theorem bs_tb (s : ByteArray) : bs (nb s.size ++ s.data.toList) = bs (tb s) := rfl

theorem fin_eq (l : List UInt8) : (⟨l.toArray⟩ : ByteArray) = bs l := rfl

set_option maxHeartbeats 1000000 in
theorem listBytes_0 (a : Option Addr) (cap : Nat) (w : World) :
    Calls Try.prog 29 #[.slice a 0 cap] w fun e w' => e = .returned (.string (bs (lb 0 []))) ∧ Below w.heap.size w w' := by
  have hn := numBytes_any 0
  have H0 := hide hn
  clear hn
  go_enter Try.func29, Try.ntmps29
  go_wp2_with fail
  refine (unhide H0 _ (by omega) (by omega)).mono ?_
  rintro e w1 ⟨rfl, hb1⟩
  have hz := hb1.size
  rw [World.size_alloc] at hz
  have B1 : Bld w.heap.size w.heap.size [] w1 := bld_below (bld_new w) hb1
  go_wp2_with fail
  refine (writeString_any w.heap.size w.heap.size [] _ _ B1 (by have := nb_size 0; simp at this ⊢; omega) (by omega)).mono ?_
  rintro e w2 ⟨rfl, B2, hb2⟩
  rw [List.nil_append, bs_toList] at B2
  go_wp2
  refine wp_loop_rounds 1 ?_
  rw [rounds_succ]; go_wp2_with fail
  refine (string_any w.heap.size w.heap.size _ _ B2 (by simp [nb, numL])).mono ?_
  rintro e w3 ⟨rfl, hb3⟩
  go_wp2
  go_ret
  exact ⟨rfl, ((bel_of hb1).trans hb2).trans hb3⟩

set_option maxHeartbeats 1000000 in
theorem listBytes_loop (x xo cap n : Nat) (ss : List ByteArray) (w : World) (hn : Hid (ss.length = n)) (h0 : 0 < n) (h1 : n ≤ 1000) (hsz : ∀ s ∈ ss, s.size ≤ 65536)
    (hx : ∀ i, i < n → w.cell? ⟨x, xo + i, none⟩ = some (.string (ss.getD i ByteArray.empty))) :
    Calls Try.prog 29 #[.slice (some ⟨x, xo, none⟩) n cap] w fun e w' => e = .returned (.string (bs (lb n ss))) ∧ Below w.heap.size w w' := by
  have hxB : x < w.heap.size := World.block_lt_of_cell? w ⟨x, xo + 0, none⟩ (hx 0 h0)
  have HX := hide hx
  have HZ := hide hsz
  clear hx hsz
  go_enter Try.func29, Try.ntmps29
  go_wp2_with fail
  refine (numBytes_any _ _ (by omega) (by omega)).mono ?_
  rintro e w1 ⟨rfl, hb1⟩
  have hz := hb1.size
  rw [World.size_alloc] at hz
  have B1 : Bld w.heap.size w.heap.size [] w1 := bld_below (bld_new w) hb1
  go_wp2_with fail
  refine (writeString_any w.heap.size w.heap.size [] _ _ B1 (by have := nb_size n; simp at this ⊢; omega) (by omega)).mono ?_
  rintro e w2 ⟨rfl, B2, hb2⟩
  rw [List.nil_append, bs_toList] at B2
  have hb02 := (bel_of hb1).trans hb2
  have hz2 := hb2.size
  clear B1 hb1 hb2
  go_wp2
  go_loopw [12] (fun i wr => ∃ k : Nat, k ≤ n ∧ i = .int .i64 k ∧ Bld w.heap.size w.heap.size (lb n (ss.take k)) wr ∧ Below w.heap.size w wr) (fun i _ => n - (intOf i).toNat)
  case atStart => exact ⟨0, Nat.zero_le _, rfl, by rw [List.take_zero, lb_zero]; exact B2, hb02⟩
  case round =>
    obtain ⟨k, hk, rfl, hB, hbw⟩ := hrel
    by_cases hlt : k < n
    · have hlti : (k : Int) < (n : Int) := by omega
      obtain ⟨p, hp⟩ : ∃ p, p = ss.getD k ByteArray.empty := ⟨_, rfl⟩
      have c1 : wr.cell? ⟨x, xo + k, none⟩ = some (.string p) := by rw [hbw.cell (p := ⟨x, xo + k, none⟩) hxB, hp]; exact unhide HX k hlt
      have hps : p.size ≤ 65536 := by
        have hl : k < ss.length := by rw [unhide hn]; exact hlt
        have e : ss.getD k ByteArray.empty = ss[k] := by rw [List.getD, List.getElem?_eq_getElem hl]; rfl
        rw [hp, e]; exact unhide HZ _ (List.getElem_mem hl)
      have hlen := lb_len n ss (unhide HZ) k (by rw [unhide hn]; exact hk)
      have htk := lb_take n ss k (by rw [unhide hn]; exact hlt)
      rw [← hp] at htk
      have HT := hide htk
      have HL := hide hlen
      have htl := tb_len p
      have HTL := hide htl
      clear hp htk hlen htl
      go_wp2_with fail
      refine (textBytes_any _ _ (by omega)).mono ?_
      rintro e w3 ⟨rfl, hb3⟩
      have hz3 := hb3.size
      have hzw := hbw.size
      have B3 := bld_below hB hb3
      rw [bs_tb]
      go_wp2_with fail
      refine (writeString_any w.heap.size w.heap.size _ _ _ B3 (by have := unhide HL; have := unhide HTL; rw [bs_size]; omega) (by omega)).mono ?_
      rintro e w4 ⟨rfl, B4, hb4⟩
      rw [bs_toList] at B4
      go_wp2
      go_roundw
      case rel => exact ⟨k + 1, by omega, by go_num, by rw [unhide HT]; exact B4, (hbw.trans (hb3.mono hzw)).trans hb4⟩
      case measure => simp [intOf]; omega
    · have hkn : k = n := by omega
      have e : ss.take k = ss := by rw [hkn, ← unhide hn, List.take_length]
      have E := hide e
      clear hkn e
      go_wp2_with fail
      refine (string_any w.heap.size w.heap.size _ _ hB (lb_ne _ _)).mono ?_
      rintro e w3 ⟨rfl, hb3⟩
      go_wp2
      go_ret
      exact ⟨by rw [unhide E]; rfl, hbw.trans hb3⟩

theorem listBytes_any (v : Value) (ss : List ByteArray) (w : World) (hv : View w v ss) (h1 : ss.length ≤ 1000) (hsz : ∀ s ∈ ss, s.size ≤ 65536) :
    Calls Try.prog 29 #[v] w fun e w' => e = .returned (.string (bs (lb ss.length ss))) ∧ Below w.heap.size w w' := by
  obtain ⟨la, a, cap, rfl, hx⟩ := hv
  by_cases h0 : ss.length = 0
  · have e0 := List.eq_nil_of_length_eq_zero h0
    subst e0
    exact listBytes_0 a cap w
  · obtain ⟨x, xo, rfl, hx'⟩ := hx (by omega)
    exact listBytes_loop x xo cap _ ss w (hide rfl) (by omega) h1 hsz hx'

/-- Whether each text may be written. -/
def fits (ss : List ByteArray) : Bool := ss.all fun s => decide (s.size ≤ 65536)
theorem fits_iff (ss : List ByteArray) : fits ss = true ↔ ∀ s ∈ ss, s.size ≤ 65536 := by simp [fits]

set_option maxHeartbeats 1000000 in
theorem list_no (a : Option Addr) (n cap : Nat) (w : World) (h1 : 1000 < n) (h2 : n ≤ 9223372036854775807) :
    Calls Try.prog 15 #[.slice a n cap] w fun e w' => e = .returned (.tuple #[.string ⟨#[]⟩, .int .i64 2]) ∧ Below w.heap.size w w' := by
  go_enter Try.func15, Try.ntmps15
  go_wp2
  go_ret2
  exact ⟨rfl, Below.refl _ _⟩

set_option maxHeartbeats 1000000 in
theorem list_0 (a : Option Addr) (cap : Nat) (w : World) :
    Calls Try.prog 15 #[.slice a 0 cap] w fun e w' => e = .returned (.tuple #[.string (bs (lb 0 [])), .int .i64 0]) ∧ Below w.heap.size w w' := by
  have H := hide (listBytes_0 a cap)
  go_enter Try.func15, Try.ntmps15
  go_wp2
  refine wp_loop_rounds 1 ?_
  rw [rounds_succ]; go_wp2_with fail
  refine (unhide H _).mono ?_
  rintro e w1 ⟨rfl, hb1⟩
  go_wp2
  go_ret2
  exact ⟨rfl, hb1⟩

/-- What List answers of texts that are not too many. -/
def listV (n : Nat) (ss : List ByteArray) : Value := if fits ss = true then .tuple #[.string (bs (lb n ss)), .int .i64 0] else .tuple #[.string ⟨#[]⟩, .int .i64 2]

set_option maxHeartbeats 1000000 in
theorem list_loop (x xo cap n : Nat) (ss : List ByteArray) (w : World) (hn : Hid (ss.length = n)) (h0 : 0 < n) (h1 : n ≤ 1000) (hbig : ∀ s ∈ ss, s.size ≤ 9223372036854775807)
    (hx : ∀ i, i < n → w.cell? ⟨x, xo + i, none⟩ = some (.string (ss.getD i ByteArray.empty))) :
    Calls Try.prog 15 #[.slice (some ⟨x, xo, none⟩) n cap] w fun e w' => e = .returned (listV n ss) ∧ Below w.heap.size w w' := by
  have HX := hide hx
  have HB := hide hbig
  clear hx hbig
  go_enter Try.func15, Try.ntmps15
  go_wp2
  go_loopw [11] (fun i wr => ∃ k : Nat, k ≤ n ∧ i = .int .i64 k ∧ wr = w ∧ ∀ j, j < k → (ss.getD j ByteArray.empty).size ≤ 65536) (fun i _ => n - (intOf i).toNat)
  case atStart => exact ⟨0, Nat.zero_le _, rfl, rfl, fun j hj => by omega⟩
  case round =>
    obtain ⟨k, hk, rfl, rfl, hall⟩ := hrel
    have HA := hide hall
    clear hall
    by_cases hlt : k < n
    · have hlti : (k : Int) < (n : Int) := by omega
      obtain ⟨p, hp⟩ : ∃ p, p = ss.getD k ByteArray.empty := ⟨_, rfl⟩
      have c1 := unhide HX k hlt
      rw [← hp] at c1
      have hmem : p ∈ ss := by
        have hl : k < ss.length := by rw [unhide hn]; exact hlt
        have e : ss.getD k ByteArray.empty = ss[k] := by rw [List.getD, List.getElem?_eq_getElem hl]; rfl
        rw [hp, e]; exact List.getElem_mem hl
      have hpb := unhide HB p hmem
      have HM := hide hmem
      have HP := hide hp
      clear hp hmem
      by_cases hps : p.size ≤ 65536
      · go_wp2
        go_roundw
        case rel => exact ⟨k + 1, by omega, by go_num, trivial, by
          intro j hj
          by_cases hjk : j = k
          · subst hjk; rw [← unhide HP]; exact hps
          · exact unhide HA j (by omega)⟩
        case measure => simp [intOf]; omega
      · have hps' : 65536 < p.size := by omega
        have hf : fits ss = false := by
          rw [Bool.eq_false_iff]; intro h; exact hps ((fits_iff ss).1 h p (unhide HM))
        have HF := hide hf
        clear hf hps
        go_wp2
        go_ret2
        exact ⟨by rw [listV, unhide HF]; rfl, Below.refl _ _⟩
    · have hall : ∀ s ∈ ss, s.size ≤ 65536 := by
        intro s hs
        obtain ⟨i, hi, rfl⟩ := List.mem_iff_getElem.1 hs
        have := unhide HA i (by rw [unhide hn] at hi; omega)
        rw [List.getD, List.getElem?_eq_getElem hi] at this
        exact this
      have hf := (fits_iff ss).2 hall
      have HF := hide hf
      have C := hide (fun w (h : Hid (∀ i, i < n → w.cell? ⟨x, xo + i, none⟩ = some (.string (ss.getD i ByteArray.empty)))) => listBytes_loop x xo cap n ss w hn h0 h1 hall (unhide h))
      clear hf hall
      go_wp2_with fail
      refine (unhide C _ HX).mono ?_
      rintro e w1 ⟨rfl, hb1⟩
      go_wp2
      go_ret2
      exact ⟨by rw [listV, unhide HF]; rfl, hb1⟩

theorem list_any (v : Value) (ss : List ByteArray) (w : World) (hv : View w v ss) (h1 : ss.length ≤ 1000) (hbig : ∀ s ∈ ss, s.size ≤ 9223372036854775807) :
    Calls Try.prog 15 #[v] w fun e w' => e = .returned (listV ss.length ss) ∧ Below w.heap.size w w' := by
  obtain ⟨la, a, cap, rfl, hx⟩ := hv
  by_cases h0 : ss.length = 0
  · have e0 := List.eq_nil_of_length_eq_zero h0
    subst e0
    exact list_0 a cap w
  · obtain ⟨x, xo, rfl, hx'⟩ := hx (by omega)
    exact list_loop x xo cap _ ss w (hide rfl) (by omega) h1 hbig hx'
theorem list_long (v : Value) (ss : List ByteArray) (w : World) (hv : View w v ss) (h1 : 1000 < ss.length) :
    Calls Try.prog 15 #[v] w fun e w' => e = .returned (.tuple #[.string ⟨#[]⟩, .int .i64 2]) ∧ Below w.heap.size w w' := by
  obtain ⟨la, a, cap, rfl, hx⟩ := hv
  exact list_no a _ cap w h1 la
end Go.Proofs.Ytekkgmgdihlefaa
