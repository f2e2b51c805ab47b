/-
  What 'chars.Lower' and the reference's do: of every text, its small form.
-/
import Derived.Test.YtfdhmhdemfbfeaaGreatDoorMgAC
import Derived.Laws.IdiomStrings
namespace Go.Proofs.YtfdhmhdemfbfeaaGreatDoor
open Go.RowKit
set_option linter.unusedVariables false

theorem bytes_conv (s : ByteArray) (w : World) : ∃ (cap : Nat) (C : Array Value), (convert 9 79 (.string s)).run Tryz.prog w = .ok (.slice (some ⟨w.heap.size, 0, none⟩) s.size cap) (w.drew.alloc (.cells C 5 (C.size, C.size + 1))) ∧
    s.size ≤ C.size ∧ ∀ j, j < s.size → C[j]? = some (.int .u8 (dgt s.data.toList j : Int)) := by
  refine ⟨_, _, run_bytes_of_string (P := Tryz.prog) w 9 79 5 s Tryz.underlying9 Tryz.underlying79 Tryz.underlying5, ?_, ?_⟩
  · simp [bytesRow]
  · intro j hj
    rw [bytesRow_at s _ j hj, ← dgt_at s j hj]; rfl

def lowN (b : Nat) : Nat := if upN b = true then b + 32 else b
theorem lowN_up {b : Nat} (h : upN b = true) : lowN b = b + 32 := if_pos h
theorem lowN_no {b : Nat} (h : upN b = false) : lowN b = b := if_neg (by rw [h]; decide)

/-- The bytes in the new block behind the first k rounds. -/
def LowRow (g : Nat) (l : List UInt8) (k : Nat) (w : World) : Prop :=
  ∀ j, j < l.length → w.cell? ⟨g, j, none⟩ = some (.int .u8 ((if j < k then lowN (dgt l j) else dgt l j : Nat) : Int)) ∧ w.frozen? ⟨g, j, none⟩ = false

theorem lowRow_start (s : ByteArray) (w : World) (C : Array Value) (h1 : s.size ≤ C.size) (h2 : ∀ j, j < s.size → C[j]? = some (.int .u8 (dgt s.data.toList j : Int))) :
    LowRow w.heap.size s.data.toList 0 (w.alloc (.cells C 5 (C.size, C.size + 1))) := by
  intro j hj
  rw [data_len] at hj
  constructor
  · rw [World.cell?_alloc_mark, h2 j hj, if_neg (by omega)]
  · rw [World.frozen?_alloc_mark]; simp; omega

theorem lowL_dgt (l : List UInt8) (j : Nat) (h : j < l.length) : (lowL l)[j]'(by rw [lowL_len]; exact h) = UInt8.ofNat (lowN (dgt l j)) := by
  apply UInt8.toNat.inj
  simp only [lowL, List.getElem_map, lowB_nat]
  have e : (l[j]).toNat = dgt l j := by unfold dgt; rw [List.getD, List.getElem?_eq_getElem h]; rfl
  have hl := dgt_lt l j
  rw [e]
  cases hu : upN (dgt l j) with
  | true =>
    have := upN_true hu
    rw [if_pos rfl, lowN_up hu, UInt8.toNat_ofNat']; omega
  | false =>
    rw [if_neg (by decide), lowN_no hu, UInt8.toNat_ofNat']; omega
theorem lowN_lt (l : List UInt8) (j : Nat) : lowN (dgt l j) < 256 := by
  have := dgt_lt l j
  unfold lowN
  split
  · rename_i h; have := upN_true h; omega
  · exact this

theorem lowRow_back (g cap : Nat) (l : List UInt8) (n : Nat) (hn : l.length = n) (w : World) (h : LowRow g l n w) :
    (convert 79 9 (.slice (some ⟨g, 0, none⟩) n cap)).run Tryz.prog w = .ok (.string (bs (lowL l))) w := by
  have := run_convert_bytes_back (P := Tryz.prog) w 79 9 5 ⟨g, 0, none⟩ cap (lowL l) Tryz.underlying79 Tryz.underlying5 Tryz.underlying9 (by
    intro j hj
    rw [lowL_len] at hj
    have hplain : (⟨g, 0, none⟩ : Addr).add j = ⟨g, j, none⟩ := by unfold Addr.add; split <;> simp_all
    rw [hplain, (h j hj).1, if_pos (by omega), lowL_dgt l j hj, UInt8.toNat_ofNat', Nat.mod_eq_of_lt (lowN_lt l j)])
  rw [lowL_len, hn] at this
  exact this

theorem lowRow_set {g : Nat} {l : List UInt8} {k : Nat} {w : World} (h : LowRow g l k w) (hk : k < l.length) :
    LowRow g l (k + 1) (w.setCell ⟨g, k, none⟩ (.int .u8 (lowN (dgt l k) : Int))) := by
  intro j hj
  obtain ⟨h1, h2⟩ := h j hj
  by_cases e : j = k
  · subst e
    constructor
    · rw [if_pos (by omega)]; exact World.cell?_setCell_same _ _ _ h1
    · simpa using h2
  · constructor
    · rw [World.cell?_setCell_other _ _ _ _ (by intro x; cases x; exact e rfl), h1]
      by_cases hjk : j < k
      · rw [if_pos hjk, if_pos (by omega)]
      · rw [if_neg hjk, if_neg (by omega)]
    · simpa using h2
theorem lowRow_keep {g : Nat} {l : List UInt8} {k : Nat} {w : World} (h : LowRow g l k w) (hk : upN (dgt l k) = false) : LowRow g l (k + 1) w := by
  intro j hj
  obtain ⟨h1, h2⟩ := h j hj
  refine ⟨?_, h2⟩
  rw [h1]
  by_cases e : j = k
  · subst e; rw [if_neg (by omega), if_pos (by omega), lowN_no hk]
  · by_cases hjk : j < k
    · rw [if_pos hjk, if_pos (by omega)]
    · rw [if_neg hjk, if_neg (by omega)]

theorem lowRow_drew {g : Nat} {l : List UInt8} {k : Nat} {w : World} (h : LowRow g l k w) : LowRow g l k w.drew := h

set_option maxHeartbeats 400000 in
theorem lower_any (s : ByteArray) (w : World) (hs : s.size ≤ 9223372036854775807) :
    Calls Tryz.prog 70 #[.string s] w fun e w' => e = .returned (.string (bs (lowL s.data.toList))) ∧ Below w.heap.size w w' := by
  have CC := hide capital_any
  obtain ⟨cap, C, hcv, hC1, hC2⟩ := bytes_conv s w
  have hrow := hide (lowRow_start s w C hC1 hC2)
  clear hC1 hC2
  go_enter Tryz.func70, Tryz.ntmps70
  go_wp2
  go_loopw [9] (fun i wr => ∃ k : Nat, k ≤ s.size ∧ i = .int .i64 k ∧ Below w.heap.size w wr ∧ LowRow w.heap.size s.data.toList k wr) (fun i _ => s.size - (intOf i).toNat)
  case atStart => exact ⟨0, Nat.zero_le _, rfl, ((Below.refl _ _).alloc (Nat.le_refl _) _).drew, lowRow_drew (unhide hrow)⟩
  case round =>
    obtain ⟨k, hk, rfl, hbw, hr⟩ := hrel
    by_cases hp : k < s.size
    · have hpi : (k : Int) < (s.size : Int) := by omega
      have hkl : k < s.data.toList.length := by rw [data_len]; exact hp
      obtain ⟨c1, c2⟩ := hr k hkl
      rw [if_neg (by omega)] at c1
      have CB := hide (unhide CC (dgt s.data.toList k))
      have hset := lowRow_set hr hkl
      have hkeep := lowRow_keep hr
      have hblt := dgt_lt s.data.toList k
      have hlN := @lowN_up (dgt s.data.toList k)
      have HR := hide hr
      clear hr
      generalize dgt s.data.toList k = b at *
      cases hb : upN b with
      | true =>
        have hup := upN_true hb
        rw [hb] at CB
        rw [hlN hb] at hset
        have HS := hide hset
        clear hset hkeep hlN hb
        go_wp2_with fail
        refine (unhide CB _).mono ?_
        rintro e1 w1 ⟨rfl, rfl⟩
        go_wp2
        go_roundw
        case rel => exact ⟨k + 1, by omega, by go_num, hbw.setCell (Nat.le_refl _) _, by have h := unhide HS; rw [Int.natCast_add] at h; exact h⟩
        case measure => simp [intOf]; omega
      | false =>
        have HS := hide (hkeep hb)
        rw [hb] at CB
        clear hset hkeep hlN hb
        go_wp2_with fail
        refine (unhide CB _).mono ?_
        rintro e1 w1 ⟨rfl, rfl⟩
        go_wp2
        go_roundw
        case rel => exact ⟨k + 1, by omega, by go_num, hbw, unhide HS⟩
        case measure => simp [intOf]; omega
    · have hkn : k = s.size := by omega
      subst hkn
      have hback := lowRow_back w.heap.size cap s.data.toList s.size (data_len s) wr hr
      have HR := hide hr
      clear hr
      go_wp2
      go_ret
      exact ⟨rfl, hbw⟩

/-- What the reference has behind the first k rounds. -/
def lowK (l : List UInt8) (k : Nat) : List UInt8 := lowL (l.take k)
theorem lowK_len (l : List UInt8) (k : Nat) (h : k ≤ l.length) : (lowK l k).length = k := by rw [lowK, lowL_len, List.length_take]; omega
theorem take_at (l : List UInt8) (k : Nat) (h : k < l.length) : l.take (k + 1) = l.take k ++ [byt (dgt l k)] := by
  rw [List.take_add_one, List.getElem?_eq_getElem h]
  have e : dgt l k = (l[k]).toNat := by unfold dgt; rw [List.getD, List.getElem?_eq_getElem h]; rfl
  rw [e, byt_self]; rfl
theorem lowB_byt {b : Nat} (h : b < 256) : lowB (byt b) = byt (lowN b : Nat) := by
  apply UInt8.toNat.inj
  rw [lowB_nat, byt_nat b h]
  cases hu : upN b with
  | true => have := upN_true hu; rw [if_pos rfl, lowN_up hu, byt_nat _ (by omega)]
  | false => rw [if_neg (by decide), lowN_no hu, byt_nat _ h]
theorem lowK_step (l : List UInt8) (k : Nat) (h : k < l.length) : lowK l (k + 1) = lowK l k ++ [byt (lowN (dgt l k) : Nat)] := by
  rw [lowK, take_at l k h, lowL, List.map_append, List.map_singleton, lowB_byt (dgt_lt l k)]; rfl
theorem one_at (s : ByteArray) (k : Nat) (h : k < s.size) : s.extract k (k + 1) = bs [byt (dgt s.data.toList k)] := by
  obtain ⟨c, hc, hn⟩ := drop_at s.data.toList k (by rw [data_len]; exact h)
  rw [extract_take, hc, ← hn, byt_self]; rfl

set_option maxHeartbeats 400000 in
theorem rlower_any (s : ByteArray) (w : World) (hs : s.size ≤ 100000) :
    Calls Tryz.prog 22 #[.string s] w fun e w' => e = .returned (.string (bs (lowL s.data.toList))) ∧ Below w.heap.size w w' := by
  go_enter Tryz.func22, Tryz.ntmps22
  go_wp2
  go_loopw [3, 4] (fun o i wr => ∃ k : Nat, k ≤ s.size ∧ i = .int .i64 k ∧ o = .string (bs (lowK s.data.toList k)) ∧ Below w.heap.size w wr) (fun _ i _ => s.size - (intOf i).toNat)
  case atStart => exact ⟨0, Nat.zero_le _, rfl, rfl, Below.refl _ _⟩
  case round =>
    obtain ⟨k, hk, rfl, rfl, hbw⟩ := hrel
    have hsz := lowK_len s.data.toList k (by rw [data_len]; exact hk)
    rw [← bs_size] at hsz
    by_cases hp : k < s.size
    · have hpi : (k : Int) < (s.size : Int) := by omega
      have hkl : k < s.data.toList.length := by rw [data_len]; exact hp
      have e := dgt_at s k hp
      have hst := lowK_step s.data.toList k hkl
      have hone := one_at s k hp
      have hone' := congrArg ByteArray.size hone
      rw [bs_size] at hone'
      have hblt := dgt_lt s.data.toList k
      have hlN := @lowN_up (dgt s.data.toList k)
      have hlO := @lowN_no (dgt s.data.toList k)
      generalize dgt s.data.toList k = b at *
      generalize hx : bs (lowK s.data.toList k) = x at *
      cases hb : upN b with
      | true =>
        have hup := upN_true hb
        have i0 : (65 : Int) ≤ (b : Int) := by omega
        have i1 : (b : Int) ≤ 90 := by omega
        rw [hlN hb] at hst
        have HS := hide hst
        have HX := hide hx
        have hcv : Sem.run Tryz.prog (convert 79 9 (Value.slice (some { block := wr.heap.size, off := 0 }) 1 1)) (wr.alloc (Obj.cells #[.int .u8 ((b : Int) + 32)] 5)) = .ok (.string (str [(b : Int) + 32])) (wr.alloc (Obj.cells #[.int .u8 ((b : Int) + 32)] 5)) := convL wr wr.heap.size [(b : Int) + 32] rfl
        have hq : (str [(b : Int) + 32]).size = 1 := str_size _
        clear hst hlN hlO hb hone hone' hx
        go_wp2
        go_roundw
        case rel => exact ⟨k + 1, by omega, by go_num, by rw [unhide HS, ← unhide HX, str_bs, bs_bs]; rfl, by first | exact hbw | exact hbw.alloc hbw.size _ | exact (hbw.alloc hbw.size _).drew | exact below_drewN hbw _⟩
        case measure => simp [intOf]; omega
      | false =>
        have hup := upN_false hb
        rw [hlO hb] at hst
        have HS := hide hst
        have HX := hide hx
        have HO := hide hone
        clear hst hlN hlO hone hx
        by_cases h65 : 65 ≤ b
        · have i0 : (65 : Int) ≤ (b : Int) := by omega
          have i1 : decide ((b : Int) ≤ 90) = false := by simp; omega
          clear hup hb
          go_wp2
          go_roundw
          case rel => exact ⟨k + 1, by omega, by go_num, by rw [unhide HS, ← unhide HX, unhide HO, bs_bs], by first | exact hbw | exact hbw.alloc hbw.size _ | exact (hbw.alloc hbw.size _).drew | exact below_drewN hbw _⟩
          case measure => simp [intOf]; omega
        · have i0 : decide ((65 : Int) ≤ (b : Int)) = false := by simp; omega
          clear hup hb h65
          go_wp2
          go_roundw
          case rel => exact ⟨k + 1, by omega, by go_num, by rw [unhide HS, ← unhide HX, unhide HO, bs_bs], by first | exact hbw | exact hbw.alloc hbw.size _ | exact (hbw.alloc hbw.size _).drew | exact below_drewN hbw _⟩
          case measure => simp [intOf]; omega
    · have he : lowK s.data.toList k = lowL s.data.toList := by rw [lowK, List.take_of_length_le (by rw [data_len]; omega)]
      have HE := hide he
      clear he
      go_wp2
      go_ret
      exact ⟨by rw [unhide HE]; rfl, hbw⟩
end Go.Proofs.YtfdhmhdemfbfeaaGreatDoor
