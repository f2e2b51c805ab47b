/-
  What 'chars.Words' and the reference's do: of every text, its words, in new memory.
-/
import Derived.Test.YtfdhmhdemfbfeaaDLo
import Derived.Test.YtfdhmhdemfbfeaaMgQ
namespace Go.Proofs.Ytfdhmhdemfbfeaa
open Go.RowKit
set_option linter.unusedVariables false

def cur (l : List UInt8) (f k : Nat) : List UInt8 := (l.drop f).take (k - f)
theorem cur_nil (l : List UInt8) (k : Nat) : cur l k k = [] := by simp [cur]
theorem cur_ne {l : List UInt8} {f k : Nat} (h : f < k) (hk : k ≤ l.length) : cur l f k ≠ [] := by
  intro e
  have := congrArg List.length e
  rw [cur, List.length_take, List.length_drop] at this
  simp at this; omega
theorem cur_next {l : List UInt8} {f k : Nat} (h : f ≤ k) (hk : k < l.length) : ∃ c, cur l f (k + 1) = cur l f k ++ [c] ∧ l.drop k = c :: l.drop (k + 1) ∧ c.toNat = dgt l k := by
  obtain ⟨c, hc, hn⟩ := drop_at l k hk
  refine ⟨c, ?_, hc, hn⟩
  have h1 := take_at (l.drop f) (k - f) (by simp; omega)
  rw [cur, show k + 1 - f = k - f + 1 from by omega, h1, cur, dgt_drop, show f + (k - f) = k from by omega, ← hn, byt_self]
theorem words_no {l : List UInt8} {f k : Nat} (h : f ≤ k) (hk : k < l.length) (hs : spN (dgt l k) = false) : wordsG (cur l f k) (l.drop k) = wordsG (cur l f (k + 1)) (l.drop (k + 1)) := by
  obtain ⟨c, h1, h2, h3⟩ := cur_next h hk
  rw [h1, h2, wordsG_no (by rw [sp, h3]; exact hs)]
theorem words_end {l : List UInt8} {f k : Nat} (h : f < k) (hk : k ≤ l.length) (hs : k = l.length ∨ spN (dgt l k) = true) : wordsG (cur l f k) (l.drop k) = cur l f k :: wordsG (cur l (k + 1) (k + 1)) (l.drop (k + 1)) := by
  rw [cur_nil]
  by_cases e : k = l.length
  · rw [List.drop_eq_nil_of_le (by omega), List.drop_eq_nil_of_le (by omega), wordsG_nil1 (cur_ne h hk), wordsG_nil0]
  · obtain ⟨c, hc, hn⟩ := drop_at l k (by omega)
    rw [hc, wordsG_sp1 (by rw [sp, hn]; rcases hs with hs | hs; exact absurd hs e; exact hs) (cur_ne h hk)]
theorem words_skip {l : List UInt8} {k : Nat} (hk : k ≤ l.length) (hs : k = l.length ∨ spN (dgt l k) = true) : wordsG (cur l k k) (l.drop k) = wordsG (cur l (k + 1) (k + 1)) (l.drop (k + 1)) := by
  rw [cur_nil, cur_nil]
  by_cases e : k = l.length
  · rw [List.drop_eq_nil_of_le (by omega), List.drop_eq_nil_of_le (by omega)]
  · obtain ⟨c, hc, hn⟩ := drop_at l k (by omega)
    rw [hc, wordsG_sp0 (by rw [sp, hn]; rcases hs with hs | hs; exact absurd hs e; exact hs)]
theorem cur_extract (s : ByteArray) (f k : Nat) (h : f ≤ k) : s.extract f k = bs (cur s.data.toList f k) := by
  rw [cur, ← extract_take, show f + (k - f) = k from by omega]

/-- The texts of a list of lists of bytes. -/
def txt (ls : List (List UInt8)) : List ByteArray := ls.map bs
theorem txt_cons (a : List UInt8) (ls : List (List UInt8)) : txt (a :: ls) = bs a :: txt ls := rfl
theorem txt_nil : txt [] = [] := rfl

def WordsPost (w : World) (l : List UInt8) (e : Ending) (w' : World) : Prop :=
  ∃ v, e = .returned v ∧ w'.ownsRow w.heap.size 9 1 v (txt (wordsL l)).length ((txt (wordsL l)).map Value.string) ∧ Below w.heap.size w w'

set_option maxHeartbeats 2000000 in
theorem words_any (s : ByteArray) (w : World) (hs : s.size ≤ 100000) :
    Calls Try.prog 23 #[.string s] w fun e w' => WordsPost w s.data.toList e w' := by
  have C := hide space_any
  obtain ⟨i0, hi, hz0, hz1, hz2⟩ := info_parts Try.infoStr
  go_enter Try.func23, Try.ntmps23
  go_wp2
  go_loopw [3, 4, 9] (fun v vf i wr => ∃ (k f : Nat) (ws : List ByteArray), k ≤ s.size + 1 ∧ f ≤ k ∧ (k = s.size + 1 → f = k) ∧ vf = .int .i64 f ∧ i = .int .i64 k ∧ ws.length ≤ k ∧
      txt (wordsL s.data.toList) = ws ++ txt (wordsG (cur s.data.toList f k) (s.data.toList.drop k)) ∧ wr.ownsRow w.heap.size 9 1 v ws.length (ws.map Value.string) ∧ Below w.heap.size w wr) (fun _ _ i _ => s.size + 1 - (intOf i).toNat)
  case atStart => exact ⟨0, 0, [], Nat.zero_le _, Nat.le_refl _, fun h => by omega, rfl, rfl, Nat.le_refl _, rfl, World.ownsRow_nil _ _ _ _, Below.refl _ _⟩
  case round =>
    obtain ⟨k, f, ws, hk, hf, hfe, rfl, rfl, hwl, hr, hown, hbw⟩ := hrel
    have HFE := hide hfe
    clear hfe
    have HR := hide hr
    have HL := hide hwl
    clear hr hwl
    by_cases hp : k < s.size
    · have hpi : (k : Int) < (s.size : Int) := by omega
      have hpi2 : (k : Int) < (s.size : Int) + 1 := by omega
      have hkl : k < s.data.toList.length := by rw [data_len]; exact hp
      have e := dgt_at s k hp
      have n1 := words_no hf hkl
      have n2 := fun h h2 => words_end (l := s.data.toList) (f := f) (k := k) h (by omega) (.inr h2)
      have n3 := fun h2 => words_skip (l := s.data.toList) (k := k) (by omega) (.inr h2)
      have CB := hide (unhide C (dgt s.data.toList k))
      generalize dgt s.data.toList k = b at *
      cases hb : spN b with
      | false =>
        have N := hide (n1 hb)
        rw [hb] at CB
        clear n1 n2 n3 hb
        go_wp2_with fail
        refine (unhide CB _).mono ?_
        rintro e1 w1 ⟨rfl, rfl⟩
        go_wp2
        go_roundw
        case rel => exact ⟨k + 1, f, ws, by omega, by omega, fun h => by omega, rfl, by go_num, by have := unhide HL; omega, by rw [unhide HR, unhide N], hown, hbw⟩
        case measure => simp [intOf]; omega
      | true =>
        rw [hb] at CB
        by_cases hfk : f < k
        · have hfi : (f : Int) < (k : Int) := by omega
          have N := hide (n2 hfk hb)
          have X := hide (cur_extract s f k hf)
          obtain ⟨x, hx⟩ : ∃ x, x = s.extract f k := ⟨_, rfl⟩
          have HX := hide hx
          clear n1 n2 n3 hb
          go_wp2_with fail
          refine (unhide CB _).mono ?_
          rintro e1 w1 ⟨rfl, rfl⟩
          go_wp2_with (at_builtin; refine wpList_append_own _ rfl _ _ 23 rfl w.heap.size 9 i0 (.string ⟨#[]⟩) 1 16 Try.underlying23 hi hz0 hz1 hz2 rfl (by decide) _ _ _ rfl (hown.alloc _) ⟨w1.heap.size, 0, none⟩ 1 1 [.string (s.extract f k)] rfl rfl ?c1 ?c2 ?c3 ?c4 ?c5 ?_)
          case c1 => exact cell_one_new _ _ _
          case c2 => first | rfl | (intro u hu; simp at hu; subst hu; rfl)
          case c3 => have := unhide HL; first | (unfold maxLen; omega) | (simp; unfold maxLen; omega) | (simp [maxLen]; omega)
          case c4 => have := unhide HL; first | omega | (simp; omega)
          case c5 => have := hbw.size; simp; omega
          intro v' w2 hown' hgrow _
          have hbig : Below w.heap.size w w2 := (hbw.alloc (by have := hbw.size; omega) _).grown hgrow (by have := hbw.size; simp; omega) (fun j hj => (hown.lt j hj).1)
          clear hgrow
          go_wp2
          go_roundw
          case rel => exact ⟨k + 1, k + 1, ws ++ [s.extract f k], by omega, by omega, fun _ => rfl, by go_num, by go_num, by have := unhide HL; simp; omega, by rw [unhide HR, unhide N, txt_cons, unhide X, List.append_assoc]; rfl, by simpa using hown', hbig⟩
          case measure => simp [intOf]; omega
        · obtain rfl : f = k := by omega
          have N := hide (n3 hb)
          have hfi : ¬ (f : Int) < (f : Int) := by omega
          clear n1 n2 n3 hb hfk
          go_wp2_with fail
          refine (unhide CB _).mono ?_
          rintro e1 w1 ⟨rfl, rfl⟩
          go_wp2
          go_roundw
          case rel => exact ⟨f + 1, f + 1, ws, by omega, by omega, fun _ => rfl, by go_num, by go_num, by have := unhide HL; omega, by rw [unhide HR, unhide N], hown, hbw⟩
          case measure => simp [intOf]; omega
    · by_cases hke : k = s.size
      · have hpi : ¬ (k : Int) < (s.size : Int) := by omega
        have hpi2 : (k : Int) < (s.size : Int) + 1 := by omega
        have hd : decide ((k : Int) < (s.size : Int)) = false := by simp; omega
        have hkl : k = s.data.toList.length := by rw [data_len]; exact hke
        by_cases hfk : f < k
        · have hfi : (f : Int) < (k : Int) := by omega
          have N := hide (words_end hfk (by omega) (.inl hkl))
          have X := hide (cur_extract s f k hf)
          have hkp : k ≤ s.size := by omega
          clear hkl hke
          go_wp2_with (at_builtin; refine wpList_append_own _ rfl _ _ 23 rfl w.heap.size 9 i0 (.string ⟨#[]⟩) 1 16 Try.underlying23 hi hz0 hz1 hz2 rfl (by decide) _ _ _ rfl (hown.alloc _) ⟨wr.heap.size, 0, none⟩ 1 1 [.string (s.extract f k)] rfl rfl ?c1 ?c2 ?c3 ?c4 ?c5 ?_)
          case c2 => first | rfl | (intro u hu; simp at hu; subst hu; rfl)
          case c3 => have := unhide HL; first | (unfold maxLen; omega) | (simp; unfold maxLen; omega) | (simp [maxLen]; omega)
          case c4 => have := unhide HL; first | omega | (simp; omega)
          case c5 => have := hbw.size; simp; omega
          intro v' w2 hown' hgrow _
          have hbig : Below w.heap.size w w2 := (hbw.alloc (by have := hbw.size; omega) _).grown hgrow (by have := hbw.size; simp; omega) (fun j hj => (hown.lt j hj).1)
          clear hgrow
          go_wp2
          go_roundw
          case rel => exact ⟨k + 1, k + 1, ws ++ [s.extract f k], by omega, by omega, fun _ => rfl, by go_num, by go_num, by have := unhide HL; simp; omega, by rw [unhide HR, unhide N, txt_cons, unhide X, List.append_assoc]; rfl, by simpa using hown', hbig⟩
          case measure => simp [intOf]; omega
        · obtain rfl : f = k := by omega
          have N := hide (words_skip (l := s.data.toList) (k := f) (by omega) (.inl hkl))
          have hfi : ¬ (f : Int) < (f : Int) := by omega
          have hkp : f ≤ s.size := by omega
          clear hkl hfk hke
          go_wp2
          go_roundw
          case rel => exact ⟨f + 1, f + 1, ws, by omega, by omega, fun _ => rfl, by go_num, by go_num, by have := unhide HL; omega, by rw [unhide HR, unhide N], hown, hbw⟩
          case measure => simp [intOf]; omega
      · have hk1 : k = s.size + 1 := by omega
        have hpi2 : ¬ (k : Int) < (s.size : Int) + 1 := by omega
        have hw : txt (wordsL s.data.toList) = ws := by
          rw [unhide HR, unhide HFE hk1, cur_nil, List.drop_eq_nil_of_le (by rw [data_len]; omega), wordsG_nil0, txt_nil, List.append_nil]
        have W := hide hw
        clear hw
        go_wp2
        go_ret
        exact ⟨_, rfl, by rw [unhide W]; exact hown, hbw⟩
end Go.Proofs.Ytfdhmhdemfbfeaa
