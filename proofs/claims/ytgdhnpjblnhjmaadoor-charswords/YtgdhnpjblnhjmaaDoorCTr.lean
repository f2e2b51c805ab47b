/-
  What 'chars.Trim' and the reference's do: of every text, it without the spaces at its ends.
-/
import Derived.Test.YtgdhnpjblnhjmaaDoorCLo
namespace Go.Proofs.YtgdhnpjblnhjmaaDoor
open Go.RowKit
set_option linter.unusedVariables false

theorem ltrim_at (l : List UInt8) (h : 0 < l.length) (hs : spN (dgt l 0) = true) : ltrim l = ltrim (l.drop 1) := by
  obtain ⟨c, hc, hn⟩ := drop_at l 0 h
  rw [List.drop_zero] at hc
  rw [hc, ltrim_sp (by rw [sp, hn]; exact hs)]; rfl
theorem ltrim_stop (l : List UInt8) (h : 0 < l.length) (hs : spN (dgt l 0) = false) : ltrim l = l := by
  obtain ⟨c, hc, hn⟩ := drop_at l 0 h
  rw [List.drop_zero] at hc
  rw [hc, ltrim_no (by rw [sp, hn]; exact hs)]
theorem last_at (l : List UInt8) (h : 0 < l.length) : ∃ c, l = l.take (l.length - 1) ++ [c] ∧ c.toNat = dgt l (l.length - 1) := by
  have e := take_at l (l.length - 1) (by omega)
  rw [show l.length - 1 + 1 = l.length from by omega, List.take_length] at e
  exact ⟨_, e, byt_nat _ (dgt_lt _ _)⟩
theorem rtrim_at (l : List UInt8) (h : 0 < l.length) (hs : spN (dgt l (l.length - 1)) = true) : rtrim l = rtrim (l.take (l.length - 1)) := by
  obtain ⟨c, hc, hn⟩ := last_at l h
  have := rtrim_sp (l := l.take (l.length - 1)) (c := c) (by rw [sp, hn]; exact hs)
  rw [← hc] at this
  exact this
theorem rtrim_stop (l : List UInt8) (h : 0 < l.length) (hs : spN (dgt l (l.length - 1)) = false) : rtrim l = l := by
  obtain ⟨c, hc, hn⟩ := last_at l h
  have := rtrim_no (l := l.take (l.length - 1)) (c := c) (by rw [sp, hn]; exact hs)
  rw [← hc] at this
  exact this
theorem upto_of (s : ByteArray) (n : Nat) : s.extract 0 n = bs (s.data.toList.take n) := by
  have := extract_take s 0 n
  rw [Nat.zero_add, List.drop_zero] at this
  exact this

set_option maxHeartbeats 1000000 in
theorem trim_any (s : ByteArray) (w : World) (hs : s.size ≤ 9223372036854775807) :
    Calls Tryd.prog 22 #[.string s] w fun e w' => e = .returned (.string (bs (trimL s.data.toList))) ∧ w' = w := by
  have C := hide space_any
  go_enter Tryd.func22, Tryd.ntmps22
  go_wp2
  go_loopw [0] (fun t wr => ∃ x : ByteArray, t = .string x ∧ wr = w ∧ x.size ≤ s.size ∧ ltrim s.data.toList = ltrim x.data.toList) (fun t _ => match t with | .string x => x.size | _ => 0)
  case atStart => exact ⟨s, rfl, rfl, Nat.le_refl _, rfl⟩
  case round =>
    obtain ⟨x, rfl, rfl, hx, hr⟩ := hrel
    have HR := hide hr
    clear hr
    by_cases h0 : x.size = 0
    · have he := is_empty x h0
      have hf : bs (trimL s.data.toList) = x := by
        have : x.data.toList = [] := List.eq_nil_of_length_eq_zero (by rw [data_len]; exact h0)
        rw [trimL, unhide HR, this, ltrim_nil, rtrim_nil, ← this, bs_self]
      have HF := hide hf
      clear hf
      go_wp2
      refine wp_loop_rounds 1 ?_
      rw [rounds_succ]; go_wp2
      go_ret
      exact ⟨by rw [unhide HF]; rfl, rfl⟩
    · have hp : 0 < x.size := by omega
      have hpi : (0 : Int) < (x.size : Int) := by omega
      have he := not_empty x hp
      have hl : 0 < x.data.toList.length := by rw [data_len]; exact hp
      have e := dgt_at x 0 hp
      have h1 := ltrim_at x.data.toList hl
      have h2 := ltrim_stop x.data.toList hl
      have CB := hide (unhide C (dgt x.data.toList 0))
      have HX := hide (rest_of x 1)
      generalize dgt x.data.toList 0 = b at *
      cases hb : spN b with
      | true =>
        have H1 := hide (h1 hb)
        rw [hb] at CB
        clear h1 h2 hb
        go_wp2_with fail
        refine (unhide CB _).mono ?_
        rintro e1 w1 ⟨rfl, rfl⟩
        go_wp2
        go_roundw
        case rel => exact ⟨x.extract 1 x.size, rfl, by first | exact rfl | trivial, by simp; omega, by rw [unhide HR, unhide H1, unhide HX, bs_toList]⟩
        case measure => simp; omega
      | false =>
        have hT : trimL s.data.toList = rtrim x.data.toList := by rw [trimL, unhide HR, h2 hb]
        have HT := hide hT
        rw [hb] at CB
        clear h1 h2 hb hT
        go_wp2_with fail
        refine (unhide CB _).mono ?_
        rintro e1 w1 ⟨rfl, rfl⟩
        go_wp2
        clear CB HX e he hl hp hpi h0
        go_loopw [0] (fun t wr => ∃ y : ByteArray, t = .string y ∧ wr = w1 ∧ y.size ≤ s.size ∧ rtrim x.data.toList = rtrim y.data.toList) (fun t _ => match t with | .string y => y.size | _ => 0)
        case atStart => exact ⟨x, rfl, rfl, hx, rfl⟩
        case round =>
          obtain ⟨y, rfl, rfl, hy, hr⟩ := hrel
          have HR2 := hide hr
          clear hr
          by_cases h0 : y.size = 0
          · have he := is_empty y h0
            have hf : bs (trimL s.data.toList) = y := by
              have : y.data.toList = [] := List.eq_nil_of_length_eq_zero (by rw [data_len]; exact h0)
              rw [unhide HT, unhide HR2, this, rtrim_nil, ← this, bs_self]
            have HF := hide hf
            clear hf
            go_wp2
            go_ret
            exact ⟨by rw [unhide HF]; rfl, rfl⟩
          · have hp : 0 < y.size := by omega
            have he := not_empty y hp
            have hl : 0 < y.data.toList.length := by rw [data_len]; exact hp
            have e := dgt_at y (y.size - 1) (by omega)
            have h1 := rtrim_at y.data.toList hl
            have h2 := rtrim_stop y.data.toList hl
            rw [data_len] at h1 h2
            have CB := hide (unhide C (dgt y.data.toList (y.size - 1)))
            have HX := hide (upto_of y (y.size - 1))
            have hi0 : (0 : Int) ≤ (y.size : Int) - 1 := by omega
            have hi1 : (y.size : Int) - 1 < (y.size : Int) := by omega
            have hi2 : ((y.size : Int) - 1).toNat = y.size - 1 := by omega
            have hi3 : (y.size : Int) - 1 ≤ (y.size : Int) := by omega
            generalize dgt y.data.toList (y.size - 1) = b at *
            cases hb : spN b with
            | true =>
              have H1 := hide (h1 hb)
              rw [hb] at CB
              clear h1 h2 hb
              go_wp2_with fail
              refine (unhide CB _).mono ?_
              rintro e1 w2 ⟨rfl, rfl⟩
              go_wp2
              go_roundw
              case rel => exact ⟨y.extract 0 (y.size - 1), rfl, by first | exact rfl | trivial, by simp; omega, by rw [unhide HR2, unhide H1, unhide HX, bs_toList]⟩
              case measure => simp; omega
            | false =>
              have hf : bs (trimL s.data.toList) = y := by rw [unhide HT, unhide HR2, h2 hb, bs_self]
              have HF := hide hf
              rw [hb] at CB
              clear h1 h2 hb hf
              go_wp2_with fail
              refine (unhide CB _).mono ?_
              rintro e1 w2 ⟨rfl, rfl⟩
              go_wp2
              go_ret
              exact ⟨by rw [unhide HF]; rfl, rfl⟩

/-! ### the reference -/
theorem ltrim_drop : ∀ (F : Nat) (l : List UInt8), F < l.length → (∀ j, j < F → spN (dgt l j) = true) → spN (dgt l F) = false → ltrim l = l.drop F
  | 0, l, h, _, h2 => by rw [ltrim_stop l h h2]; rfl
  | F + 1, l, h, h1, h2 => by
    rw [ltrim_at l (by omega) (h1 0 (by omega)), ltrim_drop F (l.drop 1) (by simp; omega) (fun j hj => by rw [dgt_drop]; rw [Nat.add_comm]; exact h1 (j + 1) (by omega)) (by rw [dgt_drop, Nat.add_comm]; exact h2), List.drop_drop, Nat.add_comm]
theorem ltrim_all : ∀ (l : List UInt8), (∀ j, j < l.length → spN (dgt l j) = true) → ltrim l = []
  | [], _ => rfl
  | c :: l, h => by
    rw [ltrim_at (c :: l) (by simp) (h 0 (by simp))]
    exact ltrim_all l (fun j hj => h (j + 1) (by simpa using hj))
theorem rtrim_take : ∀ (f : Nat) (l : List UInt8) (L : Nat), l.length = L + 1 + f → spN (dgt l L) = false → (∀ j, L < j → j < l.length → spN (dgt l j) = true) → rtrim l = l.take (L + 1)
  | 0, l, L, h, h1, _ => by
    rw [rtrim_stop l (by omega) (by rw [h]; exact h1), List.take_of_length_le (by omega)]
  | f + 1, l, L, h, h1, h2 => by
    have hd : ∀ j, j < l.length - 1 → dgt (l.take (l.length - 1)) j = dgt l j := by
      intro j hj; unfold dgt; rw [List.getD, List.getD, List.getElem?_take, if_pos hj]
    have hlen : (l.take (l.length - 1)).length = l.length - 1 := by simp
    rw [rtrim_at l (by omega) (h2 _ (by omega) (by omega)), rtrim_take f _ L (by rw [hlen]; omega) (by rw [hd L (by omega)]; exact h1) (fun j hj hj2 => by rw [hlen] at hj2; rw [hd j hj2]; exact h2 j hj (by omega)), List.take_take]
    congr 1
    omega

/-- What the reference's Trim has behind k rounds. -/
def TrimAt (l : List UInt8) (k : Nat) (f z : Int) : Prop :=
  (f = -1 ∧ z = -1 ∧ ∀ j, j < k → spN (dgt l j) = true) ∨
  ∃ F L : Nat, f = F ∧ z = L ∧ F ≤ L ∧ L < k ∧ (∀ j, j < F → spN (dgt l j) = true) ∧ spN (dgt l F) = false ∧ spN (dgt l L) = false ∧ ∀ j, L < j → j < k → spN (dgt l j) = true
theorem trimAt_sp {l : List UInt8} {k : Nat} {f z : Int} (h : TrimAt l k f z) (hs : spN (dgt l k) = true) : TrimAt l (k + 1) f z := by
  rcases h with ⟨h1, h2, h3⟩ | ⟨F, L, h1, h2, h3, h4, h5, h6, h7, h8⟩
  · refine .inl ⟨h1, h2, fun j hj => ?_⟩
    by_cases e : j = k
    · rw [e]; exact hs
    · exact h3 j (by omega)
  · refine .inr ⟨F, L, h1, h2, h3, by omega, h5, h6, h7, fun j hj hj2 => ?_⟩
    by_cases e : j = k
    · rw [e]; exact hs
    · exact h8 j hj (by omega)
theorem trimAt_first {l : List UInt8} {k : Nat} {f z : Int} (h : TrimAt l k f z) (hs : spN (dgt l k) = false) (hf : f < 0) : TrimAt l (k + 1) k k := by
  rcases h with ⟨h1, h2, h3⟩ | ⟨F, L, h1, _⟩
  · exact .inr ⟨k, k, rfl, rfl, Nat.le_refl _, by omega, h3, hs, hs, fun j hj hj2 => by omega⟩
  · omega
theorem trimAt_next {l : List UInt8} {k : Nat} {f z : Int} (h : TrimAt l k f z) (hs : spN (dgt l k) = false) (hf : ¬ f < 0) : TrimAt l (k + 1) f k := by
  rcases h with ⟨h1, h2, h3⟩ | ⟨F, L, h1, h2, h3, h4, h5, h6, h7, h8⟩
  · omega
  · exact .inr ⟨F, k, h1, rfl, by omega, by omega, h5, h6, hs, fun j hj hj2 => by omega⟩
theorem trimAt_none {l : List UInt8} {f z : Int} (h : TrimAt l l.length f z) (hf : f < 0) : trimL l = [] := by
  rcases h with ⟨h1, h2, h3⟩ | ⟨F, L, h1, _⟩
  · rw [trimL, ltrim_all l h3, rtrim_nil]
  · omega
theorem trimAt_some {l : List UInt8} {f z : Int} (h : TrimAt l l.length f z) (hf : ¬ f < 0) : ∃ F n : Nat, f = F ∧ z + 1 = (F + n : Nat) ∧ F + n ≤ l.length ∧ trimL l = (l.drop F).take n := by
  rcases h with ⟨h1, h2, h3⟩ | ⟨F, L, h1, h2, h3, h4, h5, h6, h7, h8⟩
  · omega
  · refine ⟨F, L + 1 - F, h1, by omega, by omega, ?_⟩
    rw [trimL, ltrim_drop F l (by omega) h5 h6, rtrim_take (l.length - (L + 1)) (l.drop F) (L - F) (by simp; omega) (by rw [dgt_drop, show F + (L - F) = L from by omega]; exact h7) (fun j hj hj2 => by
      rw [dgt_drop]; simp at hj2; exact h8 (F + j) (by omega) (by omega)), show L - F + 1 = L + 1 - F from by omega]
theorem trimAt_bd {l : List UInt8} {k : Nat} {f z : Int} (h : TrimAt l k f z) : f ≤ k ∧ z ≤ k := by
  rcases h with ⟨h1, h2, h3⟩ | ⟨F, L, h1, h2, h3, h4, _⟩ <;> omega

set_option maxHeartbeats 1000000 in
theorem rtrim_any (s : ByteArray) (w : World) (hs : s.size ≤ 100000) :
    Calls Tryd.prog 23 #[.string s] w fun e w' => e = .returned (.string (bs (trimL s.data.toList))) ∧ Below w.heap.size w w' := by
  have CC := hide rspace_any
  obtain ⟨cap, C, hcv, hC1, hC2⟩ := bytes_conv s w
  clear hC1 hC2
  go_enter Tryd.func23, Tryd.ntmps23
  go_wp2
  go_loopw [3, 4, 9] (fun vf vz i wr => ∃ (k : Nat) (f z : Int), k ≤ s.size ∧ vf = .int .i64 f ∧ vz = .int .i64 z ∧ i = .int .i64 k ∧ Below w.heap.size w wr ∧ TrimAt s.data.toList k f z) (fun _ _ i _ => s.size - (intOf i).toNat)
  case atStart => exact ⟨0, -1, -1, Nat.zero_le _, rfl, rfl, rfl, ((Below.refl _ _).alloc (Nat.le_refl _) _).drew, .inl ⟨rfl, rfl, fun j hj => by omega⟩⟩
  case round =>
    obtain ⟨k, f, z, hk, rfl, rfl, rfl, hbw, hr⟩ := hrel
    have HR := hide hr
    have hbd := trimAt_bd hr
    clear hr
    by_cases hp : k < s.size
    · have hpi : (k : Int) < (s.size : Int) := by omega
      have e := dgt_at s k hp
      have CB := hide (unhide CC (dgt s.data.toList k))
      have t1 := trimAt_sp (unhide HR)
      have t2 := trimAt_first (unhide HR)
      have t3 := trimAt_next (unhide HR)
      generalize dgt s.data.toList k = b at *
      cases hb : spN b with
      | true =>
        have T := hide (t1 hb)
        rw [hb] at CB
        clear t1 t2 t3 hb
        go_wp2_with fail
        refine (unhide CB _).mono ?_
        rintro e1 w1 ⟨rfl, rfl⟩
        go_wp2
        go_roundw
        case rel => exact ⟨k + 1, f, z, by omega, rfl, rfl, by go_num, hbw, unhide T⟩
        case measure => simp [intOf]; omega
      | false =>
        rw [hb] at CB
        by_cases hf : f < 0
        · have T := hide (t2 hb hf)
          clear t1 t2 t3 hb
          go_wp2_with fail
          refine (unhide CB _).mono ?_
          rintro e1 w1 ⟨rfl, rfl⟩
          go_wp2
          go_roundw
          case rel => exact ⟨k + 1, k, k, by omega, rfl, rfl, by go_num, hbw, unhide T⟩
          case measure => simp [intOf]; omega
        · have T := hide (t3 hb hf)
          clear t1 t2 t3 hb
          go_wp2_with fail
          refine (unhide CB _).mono ?_
          rintro e1 w1 ⟨rfl, rfl⟩
          go_wp2
          go_roundw
          case rel => exact ⟨k + 1, f, k, by omega, rfl, rfl, by go_num, hbw, unhide T⟩
          case measure => simp [intOf]; omega
    · have hkn : k = s.data.toList.length := by rw [data_len]; omega
      have hr := unhide HR
      rw [hkn] at hr
      by_cases hf : f < 0
      · have E := hide (trimAt_none hr hf)
        clear hr hkn HR
        go_wp2
        go_ret
        exact ⟨by rw [unhide E]; rfl, hbw⟩
      · obtain ⟨F, n, rfl, hz, hle, ht⟩ := trimAt_some hr hf
        rw [data_len] at hle
        have E := hide ht
        have X := hide (extract_take s F n)
        clear ht hr hkn HR
        obtain rfl : z = (F : Int) + (n : Int) - 1 := by omega
        go_wp2
        go_ret
        exact ⟨by rw [unhide E, ← unhide X]; rfl, hbw⟩
end Go.Proofs.YtgdhnpjblnhjmaaDoor
