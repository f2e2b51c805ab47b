/-
  The law CharsWords walked: words have no spaces, and are the same of a text with spaces at its ends.
-/
import Derived.Test.YtgdhnpjblnhjmaaDoorLEn
import Derived.Test.YtgdhnpjblnhjmaaDoorCWo
import Derived.Test.YtgdhnpjblnhjmaaDoorPTx
namespace Go.Proofs.YtgdhnpjblnhjmaaDoor
open Go.RowKit
set_option linter.unusedVariables false

def solid (x : List UInt8) : Prop := x ≠ [] ∧ ∀ c ∈ x, sp c = false
theorem words_solid : ∀ (l cur : List UInt8), (∀ c ∈ cur, sp c = false) → ∀ x ∈ wordsG cur l, solid x
  | [], cur, h, x, hx => by
    by_cases e : cur = []
    · subst e; rw [wordsG_nil0] at hx; cases hx
    · rw [wordsG_nil1 e] at hx
      simp at hx; subst hx; exact ⟨e, h⟩
  | c :: l, cur, h, x, hx => by
    cases hs : sp c with
    | true =>
      by_cases e : cur = []
      · subst e; rw [wordsG_sp0 hs] at hx; exact words_solid l [] (by simp) x hx
      · rw [wordsG_sp1 hs e] at hx
        rcases List.mem_cons.1 hx with rfl | hx
        · exact ⟨e, h⟩
        · exact words_solid l [] (by simp) x hx
    | false =>
      rw [wordsG_no hs] at hx
      exact words_solid l (cur ++ [c]) (by intro d hd; rcases List.mem_append.1 hd with hd | hd; exact h d hd; simp at hd; subst hd; exact hs) x hx
theorem tw_all : ∀ (x : List UInt8), (∀ c ∈ x, nsp c = true) → x.takeWhile nsp = x ∧ x.dropWhile nsp = []
  | [], _ => ⟨rfl, rfl⟩
  | c :: l, h => by
    have hc := h c (by simp)
    have ih := tw_all l (fun d hd => h d (by simp [hd]))
    rw [List.takeWhile_cons, List.dropWhile_cons, hc, if_pos rfl, if_pos rfl, ih.1, ih.2]
    exact ⟨rfl, rfl⟩
theorem words_len : ∀ (l cur : List UInt8), ∀ x ∈ wordsG cur l, x.length ≤ cur.length + l.length
  | [], cur, x, hx => by
    by_cases e : cur = []
    · subst e; rw [wordsG_nil0] at hx; cases hx
    · rw [wordsG_nil1 e] at hx
      simp at hx; subst hx; simp
  | c :: l, cur, x, hx => by
    cases hs : sp c with
    | true =>
      have ih := words_len l [] x
      by_cases e : cur = []
      · subst e; rw [wordsG_sp0 hs] at hx; have := ih hx; simp at this ⊢; omega
      · rw [wordsG_sp1 hs e] at hx
        rcases List.mem_cons.1 hx with rfl | hx
        · simp
        · have := ih hx; simp at this ⊢; omega
    | false =>
      rw [wordsG_no hs] at hx
      have := words_len l (cur ++ [c]) x hx
      simp at this ⊢; omega
theorem words_one {x : List UInt8} (h : solid x) : wordsL x = [x] := by
  have h1 : ∀ c ∈ x, nsp c = true := fun c hc => by simp [nsp, h.2 c hc]
  have h2 := (tw_all x h1).1
  have h3 := (tw_all x h1).2
  rw [wordsL, wordsG_run x [] (by rw [h2]; exact h.1), h2, h3]; rfl
theorem ltrim_solid {x : List UInt8} (h : solid x) : ltrim x = x := by
  obtain ⟨h0, h⟩ := h
  cases x with
  | nil => rfl
  | cons c l => exact ltrim_no (h c (by simp))
theorem trim_one {x : List UInt8} (h : solid x) : trimL x = x := by
  rw [trimL, ltrim_solid h]
  have hr : solid x.reverse := ⟨by simpa using h.1, fun c hc => h.2 c (by simpa using hc)⟩
  have := ltrim_solid hr
  rw [ltrim] at this
  rw [rtrim, this, List.reverse_reverse]
theorem words_back : ∀ (l cur : List UInt8) (c : UInt8), sp c = true → wordsG cur (l ++ [c]) = wordsG cur l
  | [], cur, c, h => by
    by_cases e : cur = []
    · subst e; rw [List.nil_append, wordsG_sp0 h]
    · rw [List.nil_append, wordsG_sp1 h e, wordsG_nil1 e, wordsG_nil0]
  | d :: l, cur, c, h => by
    rw [List.cons_append]
    cases hs : sp d with
    | true =>
      by_cases e : cur = []
      · subst e; rw [wordsG_sp0 hs, wordsG_sp0 hs, words_back l [] c h]
      · rw [wordsG_sp1 hs e, wordsG_sp1 hs e, words_back l [] c h]
    | false => rw [wordsG_no hs, wordsG_no hs, words_back l _ c h]
theorem words_pad (l : List UInt8) : wordsL (32 :: (l ++ [10])) = wordsL l := by
  rw [wordsL, wordsG_sp0 (by decide), words_back l [] 10 (by decide)]; rfl
theorem words_none : ∀ (l : List UInt8), blankL l = decide ((wordsL l).length = 0)
  | [] => rfl
  | c :: l => by
    rw [blankL_cons]
    cases hs : sp c with
    | true => rw [wordsL, wordsG_sp0 hs, words_none l]; rfl
    | false =>
      rw [wordsL, wordsG_no hs, wordsG_run l ([] ++ [c]) (by simp)]; simp
theorem txt_len (ls : List (List UInt8)) : (txt ls).length = ls.length := by simp [txt]
theorem txt_at (ls : List (List UInt8)) (k : Nat) (h : k < ls.length) : ∃ x ∈ ls, (txt ls).getD k ByteArray.empty = bs x := by
  refine ⟨ls[k], List.getElem_mem h, ?_⟩
  rw [List.getD, txt, List.getElem?_map, List.getElem?_eq_getElem h]; rfl

theorem words_view {w w' : World} {l : List UInt8} {e : Ending} (h : WordsPost w l e w') : ∃ v, e = .returned v ∧ View w' v (txt (wordsL l)) ∧ Below w.heap.size w w' := by
  obtain ⟨v, h1, h2, h3⟩ := h
  exact ⟨v, h1, view_of_owns h2, h3⟩

set_option maxHeartbeats 4000000 in
theorem charsWords_walk (s : ByteArray) (w : World) (ht : Tabs w) (hs : s.size ≤ 9223372036854775807) :
    Calls Tryd.prog 8 #[.string s] w fun e w' => e = .returned (.bool true) ∧ Below w.heap.size w w' := by
  have HT := hide ht
  have E := hide ends_any
  clear ht
  by_cases h : 2000 < s.size
  · have hi : (2000 : Int) < (s.size : Int) := by omega
    go_enter Tryd.func8, Tryd.ntmps8
    go_wp2_with fail
    refine (unhide E _ (unhide HT)).mono ?_
    rintro e w2 ⟨rfl, hb2⟩
    go_wp2
    go_ret
    exact ⟨rfl, hb2⟩
  have hi : ¬ (2000 : Int) < (s.size : Int) := by omega
  have C1 := hide (fun w => (words_any s w (by omega)).mono (fun e w' h => words_view h))
  have C2 := hide (fun w => blank_any s w hs)
  obtain ⟨p, hp⟩ : ∃ p, p = bs (32 :: (s.data.toList ++ [10])) := ⟨_, rfl⟩
  have hps : p.size = s.size + 2 := by rw [hp, bs_size]; simp
  have C3 := hide (fun w => (words_any p w (by omega)).mono (fun e w' h => words_view h))
  have hpd : p.data.toList = 32 :: (s.data.toList ++ [10]) := by rw [hp, bs_toList]
  rw [hpd, words_pad] at C3
  have hcat : (⟨#[32]⟩ : ByteArray) ++ s ++ ⟨#[10]⟩ = p := by
    rw [hp, add_bs, add_bs, bs_toList]; rfl
  have C9 := hide (fun va vb w h1 h2 => texts_any va vb (txt (wordsL s.data.toList)) (txt (wordsL s.data.toList)) w h1 h2)
  rw [sameT_refl] at C9
  have hso := words_solid s.data.toList [] (by simp)
  have hbl := words_none s.data.toList
  have HSO : Hid (∀ k, k < (txt (wordsL s.data.toList)).length → ∃ x, solid x ∧ (txt (wordsL s.data.toList)).getD k ByteArray.empty = bs x ∧ (bs x).size ≤ 100000) := by
    intro k hk
    rw [txt_len] at hk
    obtain ⟨x, hx, he⟩ := txt_at _ k hk
    have hl := words_len s.data.toList [] x hx
    rw [data_len] at hl
    exact ⟨x, hso x hx, he, by rw [bs_size]; simp at hl; omega⟩
  have hbe : (blankL s.data.toList == (((txt (wordsL s.data.toList)).length : Int) == 0)) = true := by
    rw [hbl, txt_len]
    by_cases e : (wordsL s.data.toList).length = 0
    · simp [e]
    · have : (((wordsL s.data.toList).length : Int) == 0) = false := bneI (by omega)
      rw [this]; simp [e]
  generalize txt (wordsL s.data.toList) = tx at *
  generalize blankL s.data.toList = bk at *
  clear hbl hso hpd hp
  go_enter Tryd.func8, Tryd.ntmps8
  go_wp2_with fail
  refine (unhide C1 _).mono ?_
  rintro e w1 ⟨v, rfl, hv, hb1⟩
  have HV := hide hv
  obtain ⟨hle, a, cap, rfl, hx⟩ := hv
  have HX := hide hx
  clear hx
  go_wp2
  go_loopw [14] (fun i wr => ∃ k : Nat, k ≤ tx.length ∧ i = .int .i64 k ∧ Below w1.heap.size w1 wr) (fun i _ => tx.length - (intOf i).toNat)
  case atStart => exact ⟨0, Nat.zero_le _, rfl, Below.refl _ _⟩
  case round =>
    obtain ⟨k, hk, rfl, hbw⟩ := hrel
    by_cases hlt : k < tx.length
    · have hlti : (k : Int) < (tx.length : Int) := by omega
      obtain ⟨b, off, hab, hc⟩ := unhide HX (by omega)
      subst hab
      obtain ⟨x, hsx, hgx, hxs⟩ := unhide HSO k hlt
      have hlt1 : b < w1.heap.size := World.block_lt_of_cell? w1 ⟨b, off + k, none⟩ (hc k hlt)
      have c1 : wr.cell? ⟨b, off + k, none⟩ = some (.string (bs x)) := by rw [hbw.cell (p := ⟨b, off + k, none⟩) hlt1, ← hgx]; exact hc k hlt
      have W1 := hide (fun w => (words_any (bs x) w hxs).mono (fun e w' h => words_view h))
      rw [bs_toList, words_one hsx] at W1
      have T1 := hide (fun w => trim_any (bs x) w (by omega))
      rw [bs_toList, trim_one hsx] at T1
      have hne : 0 < (bs x).size := by
        rw [bs_size]
        exact List.length_pos_iff.2 hsx.1
      have hem := not_empty _ hne
      have hyy := ssame (bs x)
      have HCC := hide hc
      clear hc hgx hsx hne
      generalize bs x = y at *
      go_wp2_with fail
      refine (unhide W1 _).mono ?_
      rintro e w2 ⟨v2, rfl, hv2, hb2⟩
      obtain ⟨_, a2, cap2, rfl, _⟩ := hv2
      rw [txt_len]
      go_wp2_with fail
      refine (unhide T1 _).mono ?_
      rintro e w3 ⟨rfl, rfl⟩
      go_wp2
      go_roundw
      case rel => exact ⟨k + 1, by omega, by go_num, by first | exact hbw.trans (hb2.mono hbw.size) | exact below_drewN (hbw.trans (hb2.mono hbw.size)) _⟩
      case measure => simp [intOf]; omega
    · have hlti : ¬ (k : Int) < (tx.length : Int) := by omega
      have HV2 := hide (view_below (unhide HV) hbw)
      have hb01 := tr2 hb1 hbw
      go_wp2_with fail
      refine (unhide C3 _).mono ?_
      rintro e w2 ⟨v2, rfl, hv2, hb2⟩
      have VA := hide hv2
      have VB := hide (view_below (unhide HV2) hb2)
      clear hv2
      go_wp2_with fail
      refine (unhide C9 _ _ _ (unhide VA) (unhide VB)).mono ?_
      rintro e w3 ⟨rfl, hb3⟩
      have hb03 := tr3 hb01 hb2 hb3
      go_wp2_with fail
      refine (unhide C2 _).mono ?_
      rintro e w4 ⟨rfl, hb4⟩
      go_wp2_with fail
      refine (unhide E _ (((unhide HT).below hb03).below hb4)).mono ?_
      rintro e w5 ⟨rfl, hb5⟩
      go_wp2
      go_ret
      exact ⟨rfl, tr3 hb03 hb4 hb5⟩
end Go.Proofs.YtgdhnpjblnhjmaaDoor
