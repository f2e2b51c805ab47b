/-
  Several texts in one: what the functions of the program and of the document's answer do.
-/
import Derived.Test.YtmlmpongcpojjaaDoorMgD

/-
  What 'rectoref01.num' does.
-/
namespace Go.Proofs.YtmlmpongcpojjaaDoor
open Go.RowKit
set_option linter.unusedVariables false

def gotV (v e : Int) : Value := .agg #[.int .i64 v, .int .i64 e]

set_option maxHeartbeats 400000 in
theorem rnum_empty (s : ByteArray) (w : World) (h : s.size = 0) :
    Calls Tryd.prog 87 #[.string s, .int .i64 0] w fun e w' => e = .returned (gotV 0 (-1)) ∧ Below w.heap.size w w' := by
  have h2 : (s.size : Int) ≤ 0 := by omega
  go_enter Tryd.func87, Tryd.ntmps87
  go_wp2
  exact bodyPost_ret (v := .agg #[.int .i64 0, .int .i64 (-1)]) (by simp [results, Tryd.results87, go_sem]) rfl ⟨rfl, (Below.refl _ _).alloc (Nat.le_refl _) _⟩

set_option maxHeartbeats 400000 in
theorem rnum_big (s : ByteArray) (w : World) (c : Nat) (hs : s.size ≤ 9223372036854775807) (h : 0 < s.size) (hc : (s[0]).toNat = c) (h1 : c < 256) (h2 : 6 < c) :
    Calls Tryd.prog 87 #[.string s, .int .i64 0] w fun e w' => e = .returned (gotV 0 (-1)) ∧ Below w.heap.size w w' := by
  have hp : (0 : Int) < (s.size : Int) := by omega
  have hse := not_bare s h
  have hg : (6 : Int) < (c : Int) := by omega
  go_enter Tryd.func87, Tryd.ntmps87
  go_wp2
  exact bodyPost_ret (v := .agg #[.int .i64 0, .int .i64 (-1)]) (by simp [results, Tryd.results87, go_sem]) rfl ⟨rfl, (Below.refl _ _).alloc (Nat.le_refl _) _⟩

set_option maxHeartbeats 400000 in
theorem rnum_short (s : ByteArray) (w : World) (c : Nat) (hs : s.size ≤ 9223372036854775807) (h : 0 < s.size) (hc : (s[0]).toNat = c) (h1 : c ≤ 6) (h2 : s.size - 1 < c) :
    Calls Tryd.prog 87 #[.string s, .int .i64 0] w fun e w' => e = .returned (gotV 0 (-1)) ∧ Below w.heap.size w w' := by
  have hp : (0 : Int) < (s.size : Int) := by omega
  have hse := not_bare s h
  have hg : (c : Int) ≤ 6 := by omega
  have hg2 : (s.size : Int) - 1 < (c : Int) := by omega
  go_enter Tryd.func87, Tryd.ntmps87
  go_wp2
  exact bodyPost_ret (v := .agg #[.int .i64 0, .int .i64 (-1)]) (by simp [results, Tryd.results87, go_sem]) rfl ⟨rfl, (Below.refl _ _).alloc (Nat.le_refl _) _⟩

set_option maxHeartbeats 400000 in
theorem rnum_nought (s : ByteArray) (w : World) (c : Nat) (hs : s.size ≤ 9223372036854775807) (h : 0 < s.size) (hc : (s[0]).toNat = c) (h1 : c ≤ 6) (h2 : c ≤ s.size - 1) (h3 : 0 < c)
    (hd : ∀ k (hk : k < s.size), (s[k]).toNat = dgt s.data.toList k) (h5 : dgt s.data.toList 0 = c) (h4 : dgt s.data.toList 1 = 0) :
    Calls Tryd.prog 87 #[.string s, .int .i64 0] w fun e w' => e = .returned (gotV 0 (-1)) ∧ Below w.heap.size w w' := by
  have hp : (0 : Int) < (s.size : Int) := by omega
  have hse := not_bare s h
  have hp1 : (1 : Int) < (s.size : Int) := by omega
  have hg : (c : Int) ≤ 6 := by omega
  have hg2 : (c : Int) ≤ (s.size : Int) - 1 := by omega
  have hg3 : (0 : Int) < (c : Int) := by omega
  go_enter Tryd.func87, Tryd.ntmps87
  go_wp2
  exact bodyPost_ret (v := .agg #[.int .i64 0, .int .i64 (-1)]) (by simp [results, Tryd.results87, go_sem]) rfl ⟨rfl, (Below.refl _ _).alloc (Nat.le_refl _) _⟩

set_option maxHeartbeats 400000 in
theorem rnum_loop (s : ByteArray) (w : World) (c : Nat) (d : List UInt8) (x y : Int) (hs : s.size ≤ 9223372036854775807) (h : 0 < s.size) (h1 : c ≤ 6) (h2 : c ≤ s.size - 1)
    (hlen : Hid (d.length = s.size - 1)) (hd : ∀ k (hk : k < s.size), (s[k]).toNat = dgt s.data.toList k) (hdd : ∀ k, dgt s.data.toList (1 + k) = dgt d k) (h5 : dgt s.data.toList 0 = c)
    (h4 : 0 < c → 0 < dgt s.data.toList 1)
    (hr1 : Hid (1099511627776 < vl (d.take c) → x = 0 ∧ y = -1)) (hr2 : Hid (vl (d.take c) ≤ 1099511627776 → x = vl (d.take c) ∧ y = 1 + (c : Int))) :
    Calls Tryd.prog 87 #[.string s, .int .i64 0] w fun e w' => e = .returned (gotV x y) ∧ Below w.heap.size w w' := by
  have hp : (0 : Int) < (s.size : Int) := by omega
  have hse := not_bare s h
  have hg : (c : Int) ≤ 6 := by omega
  have hg2 : (c : Int) ≤ (s.size : Int) - 1 := by omega
  have hbd := dgt_lt s.data.toList 1
  have HD := hide hdd
  clear hdd
  by_cases hc0 : 0 < c
  · have hp1 : (1 : Int) < (s.size : Int) := by omega
    have hg3 : (0 : Int) < (c : Int) := by omega
    have hg4 : ((dgt s.data.toList 1 : Int) == 0) = false := by have := h4 hc0; simp; omega
    clear h4
    go_enter Tryd.func87, Tryd.ntmps87
    go_wp2
    go_loop [6, 7] (fun n i => ∃ k : Nat, k ≤ c ∧ i = .int .i64 k ∧ n = .int .i64 (vl (d.take k))) (fun _ i => c - (intOf i).toNat)
    case atStart => exact ⟨0, Nat.zero_le _, rfl, rfl⟩
    case round =>
      obtain ⟨k, hk, rfl, rfl⟩ := hrel
      have hp := vl_pos (d.take k)
      by_cases hlt : k < c
      · have hb := vl_bd5 d k (by rw [unhide hlen]; omega) (by omega)
        have HS := hide (vl_take d k (by rw [unhide hlen]; omega))
        have hdk := dgt_lt s.data.toList (1 + k)
        have hkk : 1 + (k : Int) < (s.size : Int) := by omega
        go_wp2
        go_round
        case rel => exact ⟨k + 1, by omega, by go_num, by rw [unhide HS, unhide HD]⟩
        case measure => simp [intOf]; omega
      · have hkc : k = c := by omega
        have hb := vl_bd6 d k (by rw [unhide hlen]; omega) (by omega)
        have e1 := fun h => unhide hr1 (by rw [← hkc]; exact h)
        have e2 := fun h => unhide hr2 (by rw [← hkc]; exact h)
        have E1 := hide e1
        have E2 := hide e2
        have HK := hide hkc
        clear e1 e2 hkc
        by_cases hv : 1099511627776 < vl (d.take k)
        · go_wp2
          refine bodyPost_ret (v := .agg #[.int .i64 0, .int .i64 (-1)]) (by simp [results, Tryd.results87, go_sem]) rfl ⟨?_, (Below.refl _ _).alloc (Nat.le_refl _) _⟩
          rw [(unhide E1 hv).1, (unhide E1 hv).2]; rfl
        · have hv' : vl (d.take k) ≤ 1099511627776 := by omega
          go_wp2
          refine bodyPost_ret (v := .agg #[.int .i64 (vl (d.take k)), .int .i64 (1 + (c : Int))]) (by simp [results, Tryd.results87, go_sem]) rfl ⟨?_, (Below.refl _ _).alloc (Nat.le_refl _) _⟩
          rw [(unhide E2 hv').1, (unhide E2 hv').2, unhide HK]; rfl
  · have hg3 : (c : Int) ≤ 0 := by omega
    clear h4
    go_enter Tryd.func87, Tryd.ntmps87
    go_wp2
    go_loop [6, 7] (fun n i => ∃ k : Nat, k ≤ c ∧ i = .int .i64 k ∧ n = .int .i64 (vl (d.take k))) (fun _ i => c - (intOf i).toNat)
    case atStart => exact ⟨0, Nat.zero_le _, rfl, rfl⟩
    case round =>
      obtain ⟨k, hk, rfl, rfl⟩ := hrel
      have hp := vl_pos (d.take k)
      by_cases hlt : k < c
      · have hb := vl_bd5 d k (by rw [unhide hlen]; omega) (by omega)
        have HS := hide (vl_take d k (by rw [unhide hlen]; omega))
        have hdk := dgt_lt s.data.toList (1 + k)
        have hkk : 1 + (k : Int) < (s.size : Int) := by omega
        go_wp2
        go_round
        case rel => exact ⟨k + 1, by omega, by go_num, by rw [unhide HS, unhide HD]⟩
        case measure => simp [intOf]; omega
      · have hkc : k = c := by omega
        have hb := vl_bd6 d k (by rw [unhide hlen]; omega) (by omega)
        have e1 := fun h => unhide hr1 (by rw [← hkc]; exact h)
        have e2 := fun h => unhide hr2 (by rw [← hkc]; exact h)
        have E1 := hide e1
        have E2 := hide e2
        have HK := hide hkc
        clear e1 e2 hkc
        by_cases hv : 1099511627776 < vl (d.take k)
        · go_wp2
          refine bodyPost_ret (v := .agg #[.int .i64 0, .int .i64 (-1)]) (by simp [results, Tryd.results87, go_sem]) rfl ⟨?_, (Below.refl _ _).alloc (Nat.le_refl _) _⟩
          rw [(unhide E1 hv).1, (unhide E1 hv).2]; rfl
        · have hv' : vl (d.take k) ≤ 1099511627776 := by omega
          go_wp2
          refine bodyPost_ret (v := .agg #[.int .i64 (vl (d.take k)), .int .i64 (1 + (c : Int))]) (by simp [results, Tryd.results87, go_sem]) rfl ⟨?_, (Below.refl _ _).alloc (Nat.le_refl _) _⟩
          rw [(unhide E2 hv').1, (unhide E2 hv').2, unhide HK]; rfl

def gotOf (l : List UInt8) : Value :=
  match takeN l with
  | none => gotV 0 (-1)
  | some (v, k) => gotV v k

theorem rnum_any (s : ByteArray) (w : World) (hs : s.size ≤ 9223372036854775807) :
    Calls Tryd.prog 87 #[.string s, .int .i64 0] w fun e w' => e = .returned (gotOf s.data.toList) ∧ Below w.heap.size w w' := by
  have hl : s.data.toList.length = s.size := by simp
  by_cases h0 : s.size = 0
  · have : gotOf s.data.toList = gotV 0 (-1) := by simp [gotOf, takeN, hl, h0]
    rw [this]; exact rnum_empty s w h0
  have hp : 0 < s.size := by omega
  have hc := dgt_at s 0 hp
  have hlt := dgt_lt s.data.toList 0
  by_cases h1 : 6 < dgt s.data.toList 0
  · have : gotOf s.data.toList = gotV 0 (-1) := by simp [gotOf, takeN, hl, h0, h1]
    rw [this]; exact rnum_big s w _ hs hp hc hlt h1
  by_cases h2 : s.size - 1 < dgt s.data.toList 0
  · have : gotOf s.data.toList = gotV 0 (-1) := by simp [gotOf, takeN, hl, h0, h1, h2]
    rw [this]; exact rnum_short s w _ hs hp hc (by omega) h2
  have hd := dgt_at s
  by_cases h4 : 0 < dgt s.data.toList 0 ∧ dgt s.data.toList 1 = 0
  · have : gotOf s.data.toList = gotV 0 (-1) := by simp [gotOf, takeN, hl, h0, h1, h2, h4]
    rw [this]; exact rnum_nought s w _ hs hp hc (by omega) (by omega) h4.1 hd rfl h4.2
  have e1 : ∀ k, dgt s.data.toList (1 + k) = dgt (s.data.toList.drop 1) k := by
    intro k; simp [dgt, List.getD, Nat.add_comm]
  by_cases h5 : 1099511627776 < vl ((s.data.toList.drop 1).take (dgt s.data.toList 0))
  · have : gotOf s.data.toList = gotV 0 (-1) := by simp only [gotOf, takeN, hl, h0, h1, h2, h4, h5, if_false, if_true]
    rw [this]
    exact rnum_loop s w (dgt s.data.toList 0) (s.data.toList.drop 1) 0 (-1) hs hp (by omega) (by omega) (by show (s.data.toList.drop 1).length = _; simp) hd e1 rfl (by omega) (hide fun _ => ⟨rfl, rfl⟩) (hide fun h => absurd h5 (by omega))
  · have : gotOf s.data.toList = gotV (vl ((s.data.toList.drop 1).take (dgt s.data.toList 0))) (1 + (dgt s.data.toList 0 : Int)) := by
      simp only [gotOf, takeN, hl, h0, h1, h2, h4, h5, if_false]
      rfl
    rw [this]
    exact rnum_loop s w (dgt s.data.toList 0) (s.data.toList.drop 1) _ _ hs hp (by omega) (by omega) (by show (s.data.toList.drop 1).length = _; simp) hd e1 rfl (by omega) (hide fun h => absurd h h5) (hide fun _ => ⟨rfl, rfl⟩)


/-- What 'Taken' holds. -/
def takenV (n : Int) (s : ByteArray) (rest : ByteArray) (e : Int) : Value := .agg #[.int .i64 n, .string s, .slice none 0 0, .string rest, .int .i64 e]
end Go.Proofs.YtmlmpongcpojjaaDoor

/-
  What 'rectoref01.TakeNum' does.
-/
namespace Go.Proofs.YtmlmpongcpojjaaDoor
open Go.RowKit
set_option linter.unusedVariables false

theorem rtake_none (s : ByteArray) (w : World)
    (hcall : Hid (∀ w, Calls Tryd.prog 87 #[.string s, .int .i64 0] w fun e w' => e = .returned (.agg #[.int .i64 0, .int .i64 (-1)]) ∧ Below w.heap.size w w')) :
    Calls Tryd.prog 68 #[.string s] w fun e w' => e = .returned (takenV 0 ⟨#[]⟩ ⟨#[]⟩ 4) ∧ Below w.heap.size w w' := by
  go_enter Tryd.func68, Tryd.ntmps68
  go_wp2_with fail
  refine (unhide hcall _).mono ?_
  rintro e w1 ⟨rfl, hb1⟩
  have hz : w.heap.size < w1.heap.size := by have := hb1.size; simp at this; omega
  obtain ⟨hc, hf⟩ := bcell hb1
  go_wp2
  exact bodyPost_ret (v := .agg #[.int .i64 0, .string ⟨#[]⟩, .slice none 0 0, .string ⟨#[]⟩, .int .i64 4]) (by simp [results, Tryd.results68, go_sem, hc, hz]) rfl
    ⟨rfl, ((((((bel_of hb1).setCell (by simp) _).setCell (by simp) _).setCell (by simp) _).setCell (by simp) _).setCell (by simp) _).alloc (by simp; omega) _⟩

theorem rtake_some (s : ByteArray) (w : World) (v : Int) (k : Nat) (hs : s.size ≤ 9223372036854775807) (hk : k ≤ s.size)
    (hcall : Hid (∀ w, Calls Tryd.prog 87 #[.string s, .int .i64 0] w fun e w' => e = .returned (.agg #[.int .i64 v, .int .i64 k]) ∧ Below w.heap.size w w')) :
    Calls Tryd.prog 68 #[.string s] w fun e w' => e = .returned (takenV v ⟨#[]⟩ (s.extract k s.size) 0) ∧ Below w.heap.size w w' := by
  have hk1 : (0 : Int) ≤ (k : Int) := by omega
  have hk2 : (k : Int) ≤ (s.size : Int) := by omega
  go_enter Tryd.func68, Tryd.ntmps68
  go_wp2_with fail
  refine (unhide hcall _).mono ?_
  rintro e w1 ⟨rfl, hb1⟩
  have hz : w.heap.size < w1.heap.size := by have := hb1.size; simp at this; omega
  obtain ⟨hc, hf⟩ := bcell hb1
  go_wp2
  go_region
  go_wp2
  exact bodyPost_ret (v := .agg #[.int .i64 v, .string ⟨#[]⟩, .slice none 0 0, .string (s.extract k s.size), .int .i64 0]) (by simp [results, Tryd.results68, go_sem, hc, hz]) rfl
    ⟨rfl, (((((((bel_of hb1).setCell (by simp) _).setCell (by simp) _).setCell (by simp) _).setCell (by simp) _).setCell (by simp) _).alloc (by simp; omega) _).drew⟩
end Go.Proofs.YtmlmpongcpojjaaDoor

/-
  What 'rectoref01.TakeText' does.
-/
namespace Go.Proofs.YtmlmpongcpojjaaDoor
open Go.RowKit
set_option linter.unusedVariables false

theorem rtext_none (s : ByteArray) (w : World)
    (hcall : Hid (∀ w, Calls Tryd.prog 87 #[.string s, .int .i64 0] w fun e w' => e = .returned (.agg #[.int .i64 0, .int .i64 (-1)]) ∧ Below w.heap.size w w')) :
    Calls Tryd.prog 88 #[.string s] w fun e w' => e = .returned (takenV 0 ⟨#[]⟩ ⟨#[]⟩ 4) ∧ Below w.heap.size w w' := by
  go_enter Tryd.func88, Tryd.ntmps88
  go_wp2_with fail
  refine (unhide hcall _).mono ?_
  rintro e w1 ⟨rfl, hb1⟩
  have hz : w.heap.size < w1.heap.size := by have := hb1.size; simp at this; omega
  obtain ⟨hc, hf⟩ := bcell hb1
  go_wp2
  exact bodyPost_ret (v := .agg #[.int .i64 0, .string ⟨#[]⟩, .slice none 0 0, .string ⟨#[]⟩, .int .i64 4]) (by simp [results, Tryd.results88, go_sem, hc, hz]) rfl
    ⟨rfl, ((((((bel_of hb1).setCell (by simp) _).setCell (by simp) _).setCell (by simp) _).setCell (by simp) _).setCell (by simp) _).alloc (by simp; omega) _⟩

theorem rtext_long (s : ByteArray) (w : World) (v : Int) (k : Nat) (h1 : 65536 < v)
    (hcall : Hid (∀ w, Calls Tryd.prog 87 #[.string s, .int .i64 0] w fun e w' => e = .returned (.agg #[.int .i64 v, .int .i64 k]) ∧ Below w.heap.size w w')) :
    Calls Tryd.prog 88 #[.string s] w fun e w' => e = .returned (takenV 0 ⟨#[]⟩ ⟨#[]⟩ 4) ∧ Below w.heap.size w w' := by
  have hk1 : (0 : Int) ≤ (k : Int) := by omega
  go_enter Tryd.func88, Tryd.ntmps88
  go_wp2_with fail
  refine (unhide hcall _).mono ?_
  rintro e w1 ⟨rfl, hb1⟩
  have hz : w.heap.size < w1.heap.size := by have := hb1.size; simp at this; omega
  obtain ⟨hc, hf⟩ := bcell hb1
  go_wp2
  exact bodyPost_ret (v := .agg #[.int .i64 0, .string ⟨#[]⟩, .slice none 0 0, .string ⟨#[]⟩, .int .i64 4]) (by simp [results, Tryd.results88, go_sem, hc, hz]) rfl
    ⟨rfl, ((((((bel_of hb1).setCell (by simp) _).setCell (by simp) _).setCell (by simp) _).setCell (by simp) _).setCell (by simp) _).alloc (by simp; omega) _⟩

theorem rtext_short (s : ByteArray) (w : World) (v : Int) (k : Nat) (hs : s.size ≤ 9223372036854775807) (hk : k ≤ s.size) (h1 : v ≤ 65536) (h2 : (s.size : Int) - (k : Int) < v)
    (hcall : Hid (∀ w, Calls Tryd.prog 87 #[.string s, .int .i64 0] w fun e w' => e = .returned (.agg #[.int .i64 v, .int .i64 k]) ∧ Below w.heap.size w w')) :
    Calls Tryd.prog 88 #[.string s] w fun e w' => e = .returned (takenV 0 ⟨#[]⟩ ⟨#[]⟩ 4) ∧ Below w.heap.size w w' := by
  have hk1 : (0 : Int) ≤ (k : Int) := by omega
  go_enter Tryd.func88, Tryd.ntmps88
  go_wp2_with fail
  refine (unhide hcall _).mono ?_
  rintro e w1 ⟨rfl, hb1⟩
  have hz : w.heap.size < w1.heap.size := by have := hb1.size; simp at this; omega
  obtain ⟨hc, hf⟩ := bcell hb1
  go_wp2
  exact bodyPost_ret (v := .agg #[.int .i64 0, .string ⟨#[]⟩, .slice none 0 0, .string ⟨#[]⟩, .int .i64 4]) (by simp [results, Tryd.results88, go_sem, hc, hz]) rfl
    ⟨rfl, ((((((bel_of hb1).setCell (by simp) _).setCell (by simp) _).setCell (by simp) _).setCell (by simp) _).setCell (by simp) _).alloc (by simp; omega) _⟩

theorem rtext_some (s : ByteArray) (w : World) (n k : Nat) (hs : s.size ≤ 9223372036854775807) (hk : k + n ≤ s.size) (h1 : n ≤ 65536)
    (hcall : Hid (∀ w, Calls Tryd.prog 87 #[.string s, .int .i64 0] w fun e w' => e = .returned (.agg #[.int .i64 n, .int .i64 k]) ∧ Below w.heap.size w w')) :
    Calls Tryd.prog 88 #[.string s] w fun e w' => e = .returned (takenV 0 (s.extract k (k + n)) (s.extract (k + n) s.size) 0) ∧ Below w.heap.size w w' := by
  have hk1 : (0 : Int) ≤ (k : Int) := by omega
  have hk2 : (k : Int) ≤ (s.size : Int) := by omega
  have hk3 : (k : Int) + (n : Int) ≤ (s.size : Int) := by omega
  have hk4 : (n : Int) ≤ 65536 := by omega
  have hk5 : (n : Int) ≤ (s.size : Int) - (k : Int) := by omega
  have hk6 : (k : Int) ≤ (k : Int) + (n : Int) := by omega
  go_enter Tryd.func88, Tryd.ntmps88
  go_wp2_with fail
  refine (unhide hcall _).mono ?_
  rintro e w1 ⟨rfl, hb1⟩
  have hz : w.heap.size < w1.heap.size := by have := hb1.size; simp at this; omega
  obtain ⟨hc, hf⟩ := bcell hb1
  go_wp2
  go_region
  go_wp2
  exact bodyPost_ret (v := .agg #[.int .i64 0, .string (s.extract k (k + n)), .slice none 0 0, .string (s.extract (k + n) s.size), .int .i64 0]) (by simp [results, Tryd.results88, go_sem, hc, hz]) rfl
    ⟨rfl, (((((((bel_of hb1).setCell (by simp) _).setCell (by simp) _).setCell (by simp) _).setCell (by simp) _).setCell (by simp) _).alloc (by simp; omega) _).drew⟩

def rtextV (l : List UInt8) : Value :=
  match takeT l with
  | none => takenV 0 ⟨#[]⟩ ⟨#[]⟩ 4
  | some (k, n) => takenV 0 (bs ((l.drop k).take n)) (bs ((l.drop k).drop n)) 0

theorem rtext_any (s : ByteArray) (w : World) (hs : s.size ≤ 9223372036854775807) :
    Calls Tryd.prog 88 #[.string s] w fun e w' => e = .returned (rtextV s.data.toList) ∧ Below w.heap.size w w' := by
  have hc := fun w => rnum_any s w hs
  have hl : s.data.toList.length = s.size := by simp
  cases ht : takeN s.data.toList with
  | none =>
    have e1 : rtextV s.data.toList = takenV 0 ⟨#[]⟩ ⟨#[]⟩ 4 := by simp only [rtextV, takeT, ht]
    rw [e1]
    exact rtext_none s w (hide (by simpa only [gotOf, ht, gotV] using hc))
  | some x =>
    obtain ⟨v, k⟩ := x
    have hb := takeN_some ht
    obtain ⟨n, rfl⟩ := Int.eq_ofNat_of_zero_le hb.1
    have hc2 : ∀ w, Calls Tryd.prog 87 #[.string s, .int .i64 0] w fun e w' => e = .returned (.agg #[.int .i64 n, .int .i64 k]) ∧ Below w.heap.size w w' := by
      simpa only [gotOf, ht, gotV] using hc
    by_cases h1 : (65536 : Int) < (n : Int)
    · have e1 : rtextV s.data.toList = takenV 0 ⟨#[]⟩ ⟨#[]⟩ 4 := by simp only [rtextV, takeT, ht, h1, true_or, if_true]
      rw [e1]
      exact rtext_long s w _ k h1 (hide hc2)
    by_cases h2 : ((s.size - k : Nat) : Int) < (n : Int)
    · have e1 : rtextV s.data.toList = takenV 0 ⟨#[]⟩ ⟨#[]⟩ 4 := by simp only [rtextV, takeT, ht, hl, h2, or_true, if_true]
      rw [e1]
      exact rtext_short s w _ k hs (by omega) (by omega) (by omega) (hide hc2)
    · have e1 : rtextV s.data.toList = takenV 0 (bs ((s.data.toList.drop k).take n)) (bs ((s.data.toList.drop k).drop n)) 0 := by
        simp only [rtextV, takeT, ht, hl, h1, h2, or_self, if_false, Int.toNat_natCast]
      rw [e1]
      have := rtext_some s w n k hs (by omega) (by omega) (hide hc2)
      rw [Lib.extract_eq, Lib.Pa.extract_from, Nat.add_sub_cancel_left] at this
      rw [List.drop_drop]
      exact this
end Go.Proofs.YtmlmpongcpojjaaDoor
