/-
  Several texts in one: what the functions of the program and of the document's answer do.
-/
import Derived.Test.YtfbgpodcdgmpjaaDoorMgAY
import Derived.Test.YtfbgpodcdgmpjaaDoorMgAZ
import Derived.Test.YtfbgpodcdgmpjaaDoorMgAW
import Derived.Test.YtfbgpodcdgmpjaaDoorMgAX
import Derived.Test.YtfbgpodcdgmpjaaDoorBase
import Derived.Maps.OwnSet
import Derived.Maps.Views
import Derived.Test.YtfbgpodcdgmpjaaDoorMgAO

/-
  What 'refs.Escape' does: any text with references.
-/
namespace Go.Proofs.YtfbgpodcdgmpjaaDoor
open Go.RowKit
set_option linter.unusedVariables false

theorem cut_cut (l : List UInt8) (a b n : Nat) (h : a ≤ b) : (l.drop a).take (b - a) ++ (l.drop b).take n = (l.drop a).take (b + n - a) := by
  have e : l.drop b = (l.drop a).drop (b - a) := by rw [List.drop_drop]; congr 1; omega
  rw [e, show b + n - a = (b - a) + n by omega, List.take_add]
theorem bs_ne {l : List UInt8} (h : l ≠ []) : ¬ bs l = ByteArray.empty := by
  intro e; apply h; have := congrArg (fun x : ByteArray => x.data.toList) e; simpa [bs_toList] using this
theorem amp_bs : (⟨#[38]⟩ : ByteArray) = bs [38] := rfl
theorem semi_bs : (⟨#[59]⟩ : ByteArray) = bs [59] := rfl

set_option maxHeartbeats 4000000 in
theorem escape_any (s : ByteArray) (v : Bool) (w : World) (ht : Tabs w) (hs : s.size ≤ 100000) :
    Calls Tryd.prog 59 #[.string s, .bool v] w fun e w' => e = .returned (.string (bs (escL v s.data.toList))) ∧ Below w.heap.size w w' := by
  have HT := hide ht
  have hI0 : BldF w.heap.size w.heap.size [] ((w.alloc (.cells #[.pointer none, .slice none 0 0] 75)).iter s 0) := bldF_alloc (bldF_new w) _
  have hk0 : ((w.alloc (.cells #[.pointer none, .slice none 0 0] 75)).iter s 0).heap[w.heap.size + 1]? = some (.stringIter s 0) := by
    have h5 := World.iter_heap (w.alloc (.cells #[.pointer none, .slice none 0 0] 75)) s 0
    simpa using h5
  have hb0 : Below w.heap.size w ((w.alloc (.cells #[.pointer none, .slice none 0 0] 75)).iter s 0) := ((Below.refl _ w).alloc (Nat.le_refl _) _).alloc (by simp) _
  clear ht
  go_enter Tryd.func59, Tryd.ntmps59
  go_wp2
  go_loopw [6] (fun i wr => ∃ (frm pos : Nat) (acc : List UInt8), frm ≤ pos ∧ pos ≤ s.size ∧ i = .int .i64 (frm : Int) ∧ acc.length ≤ 6 * frm ∧ escL v s.data.toList = acc ++ ((s.data.toList.drop frm).take (pos - frm) ++ escL v (s.data.toList.drop pos)) ∧ wr.heap[w.heap.size + 1]? = some (.stringIter s pos) ∧ BldF w.heap.size w.heap.size acc wr ∧ Below w.heap.size w wr) (fun _ wr => s.size - wr.iterPos (w.heap.size + 1))
  case atStart => exact ⟨0, 0, [], Nat.le_refl _, Nat.zero_le _, rfl, by simp, by simp, hk0, hI0, hb0⟩
  case round =>
    obtain ⟨frm, pos, acc, hfp, hps, rfl, hal, hr, hk, hB, hbw⟩ := hrel
    have HR := hide hr
    have hzw := hbw.size
    clear hr hI0 hk0 hb0
    have hmu : wr.iterPos (w.heap.size + 1) = pos := by simp [World.iterPos, hk]
    have HMU := hide hmu
    clear hmu
    by_cases hp : pos < s.size
    · have hat := esc_at v s pos hp
      have hnx := fun ty => Lib.run_next_any_at (P := Tryd.prog) wr (w.heap.size + 1) s pos ty hk hp
      have hB1 := bldF_iter hB hk (pos + (Utf8.decode s pos).2)
      have hk1 := Lib.iterAt_heap wr (w.heap.size + 1) s pos (pos + (Utf8.decode s pos).2) hk
      have hb1 : Below w.heap.size w (wr.iterAt (w.heap.size + 1) s (pos + (Utf8.decode s pos).2)) := Lib.below_iterAt hbw (by omega) s _
      have CN := hide (fun w => nameFor_any ((Utf8.decode s pos).1 : Int) v w)
      have CB := hide (fun w h hc => bytesC ((Utf8.decode s pos).1 : Int) w h hc)
      have hdl := decode_le s pos
      generalize wr.iterAt (w.heap.size + 1) s (pos + (Utf8.decode s pos).2) = w1 at *
      generalize (Utf8.decode s pos).1 = c at *
      generalize (Utf8.decode s pos).2 = n at *
      generalize forN (c : Int) v = nm at *
      have hz1 := hb1.size
      have hcu := cut_cut s.data.toList frm pos n hfp
      have HCU := hide hcu
      clear hcu
      rcases hat with ⟨hnm, hn1, hn2, he⟩ | ⟨hnm, hn4, hc, hul, hn1, hn2, he⟩
      · subst hnm
        have hem : (bs []).toList.isEmpty = true := is_empty _ rfl
        have HE := hide he
        clear he CB
        go_wp2_with fail
        refine (unhide CN _).mono ?_
        rintro e1 w2 ⟨rfl, rfl⟩
        go_wp2
        go_roundw
        case rel => exact ⟨frm, pos + n, acc, by omega, by omega, rfl, hal, by rw [unhide HR, unhide HE, ← List.append_assoc ((s.data.toList.drop frm).take _), unhide HCU], hk1, hB1, hb1⟩
        case measure =>
          rw [unhide HMU]
          simp [World.iterPos, hk1]; omega
      · have hem : (bs nm).toList.isEmpty = false := not_empty _ (by rw [bs_size]; exact List.length_pos_iff.2 hnm)
        have hns : (bs nm).size ≤ 4 := by rw [bs_size]; exact hn4
        have hcb := cut_ex s frm pos
        have hcz : (s.extract frm pos).size = pos - frm := by simp; omega
        have hx : (s.extract frm pos ++ ⟨#[38]⟩ ++ bs nm ++ ⟨#[59]⟩ : ByteArray).data.toList = (s.data.toList.drop frm).take (pos - frm) ++ ([38] ++ nm ++ [59]) := by
          rw [hcb, amp_bs, semi_bs, bs_bs, bs_bs, bs_bs, bs_toList]; simp
        have hxz : (s.extract frm pos ++ ⟨#[38]⟩ ++ bs nm ++ ⟨#[59]⟩ : ByteArray).size ≤ pos - frm + 6 := by
          rw [ByteArray.size_append, ByteArray.size_append, ByteArray.size_append, hcz]
          show _ + 1 + _ + 1 ≤ _
          omega
        have HX := hide hx
        have HXZ := hide hxz
        have HE := hide he
        have HC := hide (fun w h => unhide CB w h hc)
        have hus : (bs (ub (c : Int))).size = n := by rw [bs_size]; exact hul
        clear he hx hxz hcb CB hul
        go_wp2_with fail
        refine (unhide CN _).mono ?_
        rintro e1 w2 ⟨rfl, rfl⟩
        go_wp2_with fail
        refine (writeStringK _ _ _ _ _ hB1 (by have := unhide HXZ; omega) (by omega)).mono ?_
        rintro e1 w3 ⟨rfl, hB3, hb3, ho3⟩
        rw [unhide HX] at hB3
        have hk3 := oth_iter ho3 hk1 (by omega)
        have hb13 := hb1.trans hb3
        have hz3 := hb13.size
        go_wp2_with fail
        refine (unhide HC _ ((unhide HT).below hb13)).mono ?_
        rintro e1 w4 ⟨rfl, hb4⟩
        have hB4 := bldF_below hB3 hb4
        have hk4 := iter_keeps hb4 hk3
        go_wp2
        go_roundw
        case rel => exact ⟨pos + n, pos + n, _, Nat.le_refl _, by omega, by first | rfl | go_num, by simp; omega, by rw [unhide HR, unhide HE]; simp, hk4, hB4, hb13.trans (hb4.mono hz3)⟩
        case measure =>
          rw [unhide HMU]
          simp [World.iterPos, hk4]; omega
    · have hnx := fun ty => Lib.run_next_end_at (P := Tryd.prog) wr (w.heap.size + 1) s pos ty hk hp
      have hf : escL v s.data.toList = acc ++ (s.extract frm s.size).data.toList := by
        have hdn : s.data.toList.drop pos = [] := List.drop_eq_nil_of_le (by rw [data_len]; omega)
        rw [unhide HR, cut_ex, bs_toList, hdn]
        have : escL v [] = [] := by simp [escL, escS]
        rw [this, List.append_nil, show pos - frm = s.size - frm by omega]
      have hxz : (s.extract frm s.size).size ≤ s.size := by simp
      have HF := hide hf
      clear hf
      go_wp2_with fail
      refine (writeStringK _ _ _ _ _ hB (by omega) (by omega)).mono ?_
      rintro e1 w3 ⟨rfl, hB3, hb3, ho3⟩
      have hb13 := hbw.trans hb3
      have hz3 := hb13.size
      rw [← unhide HF] at hB3
      go_wp2_with fail
      refine (stringK _ _ _ _ hB3 (by omega)).mono ?_
      rintro e1 w4 ⟨rfl, hb4⟩
      go_wp2
      go_ret
      exact ⟨rfl, hb13.trans hb4⟩
end Go.Proofs.YtfbgpodcdgmpjaaDoor

/-
  What 'pen.Close' and 'pen.Chars' do, and the reference's.
-/
namespace Go.Proofs.YtfbgpodcdgmpjaaDoor
open Go.RowKit
set_option linter.unusedVariables false

/-- What is told: a text, or that its form is wrong. -/
def toldV (b : Bool) (x : ByteArray) : Value := .tuple #[.string (if b = true then x else ⟨#[]⟩), .int .i64 (if b = true then 0 else 4)]
def closeL (l : List UInt8) : List UInt8 := [60, 47] ++ (l ++ [62])
theorem close_bs (s : ByteArray) : (⟨#[60, 47]⟩ : ByteArray) ++ s ++ ⟨#[62]⟩ = bs (closeL s.data.toList) := by
  have h1 : (⟨#[60, 47]⟩ : ByteArray) = bs [60, 47] := rfl
  have h2 : (⟨#[62]⟩ : ByteArray) = bs [62] := rfl
  rw [h1, h2, bs_add, bs_bs]; unfold closeL; simp

def charsB (l : List UInt8) : Bool := decide (l ≠ []) && goodB l
theorem charsB_no {l : List UInt8} (h : l = []) : charsB l = false := by subst h; rfl
theorem charsB_ok {l : List UInt8} (h : l ≠ []) : charsB l = goodB l := by unfold charsB; rw [decide_eq_true h]; rfl
theorem ne_size {s : ByteArray} (h : 0 < s.size) : s.data.toList ≠ [] := by
  intro e; have := congrArg List.length e; rw [data_len] at this; simp only [List.length_nil] at this; omega
theorem nil_size {s : ByteArray} (h : s.size = 0) : s.data.toList = [] := List.eq_nil_of_length_eq_zero (by rw [data_len]; exact h)

end Go.Proofs.YtfbgpodcdgmpjaaDoor

/-
  Attributes as they lie in memory.
-/
namespace Go.Proofs.YtfbgpodcdgmpjaaDoor
open Go.RowKit Go.Maps Go.WideMaps
set_option linter.unusedVariables false

/-- Attributes that lie in memory, one behind the other. -/
def an (ats : List (ByteArray × ByteArray)) (k : Nat) : ByteArray := (ats.getD k (ByteArray.empty, ByteArray.empty)).1
def av (ats : List (ByteArray × ByteArray)) (k : Nat) : ByteArray := (ats.getD k (ByteArray.empty, ByteArray.empty)).2
def Cells2 (g o : Nat) (ats : List (ByteArray × ByteArray)) (w : World) : Prop :=
  ∀ k, k < ats.length → w.cell? ⟨g, o + k * 2, none⟩ = some (.string (an ats k)) ∧ w.cell? ⟨g, o + k * 2 + 1, none⟩ = some (.string (av ats k))
theorem Cells2.below {g o : Nat} {ats : List (ByteArray × ByteArray)} {w w' : World} (h : Cells2 g o ats w) (hb : Below w.heap.size w w') : Cells2 g o ats w' :=
  fun k hk => ⟨cell_later hb (h k hk).1, cell_later hb (h k hk).2⟩
/-- Attributes behind a slice, or none at all. -/
def Sl (q : Option Addr) (ats : List (ByteArray × ByteArray)) (w : World) : Prop := ats = [] ∨ ∃ g o, q = some ⟨g, o, none⟩ ∧ Cells2 g o ats w
theorem Sl.below {q : Option Addr} {ats : List (ByteArray × ByteArray)} {w w' : World} (h : Sl q ats w) (hb : Below w.heap.size w w') : Sl q ats w' :=
  h.imp id fun ⟨g, o, h1, h2⟩ => ⟨g, o, h1, h2.below hb⟩
theorem law9 : Keyed Tryd.prog 9 := string_keyed Tryd.underlying9
theorem isKey (b : ByteArray) : WideAt.IsKeyLit (.string b.data.toList) := by simp [WideAt.IsKeyLit]
end Go.Proofs.YtfbgpodcdgmpjaaDoor

/-
  What 'pen.allRight' and 'pen.hasTwice' do.
-/
namespace Go.Proofs.YtfbgpodcdgmpjaaDoor
open Go.RowKit Go.Maps Go.WideMaps
set_option linter.unusedVariables false

/-- How long they may be. -/
def Fits (ats : List (ByteArray × ByteArray)) : Prop := ats.length ≤ 1000 ∧ ∀ k, k < ats.length → (an ats k).size ≤ 10000 ∧ (av ats k).size ≤ 10000
def rightAt (ats : List (ByteArray × ByteArray)) (k : Nat) : Bool := nameB (an ats k).data.toList && goodB (av ats k).data.toList
def rightF (ats : List (ByteArray × ByteArray)) : Nat → Bool
  | 0 => true
  | k + 1 => rightF ats k && rightAt ats k
def rightAs (ats : List (ByteArray × ByteArray)) : Bool := rightF ats ats.length
theorem rightF_no (ats : List (ByteArray × ByteArray)) {k : Nat} (h : rightAt ats k = false) : ∀ n, k < n → rightF ats n = false
  | 0, hn => by omega
  | n + 1, hn => by
    rw [rightF]
    by_cases e : k = n
    · subst e; rw [h]; simp
    · rw [rightF_no ats h n (by omega)]; rfl

/-! ### whether two have one name -/
def keyA (ats : List (ByteArray × ByteArray)) (k : Nat) : Lit := .string (an ats k).data.toList
def putA {H : Type} (ats : List (ByteArray × ByteArray)) : Nat → DataW H
  | 0 => .map []
  | k + 1 => (putA ats k).put (keyA ats k) (.lit (.int .i64 k))
def diffN (ats : List (ByteArray × ByteArray)) : Nat := Maps.size (putA (H := Unit) ats ats.length)
theorem keyA_ok {ats : List (ByteArray × ByteArray)} (hf : Fits ats) {k : Nat} (hk : k < ats.length) : keyOf Tryd.prog 9 (.string (an ats k)) = some (keyA ats k) := by
  refine keyOf_string_mk Tryd.underlying9 ?_
  have := (hf.2 k hk).1
  unfold maxLen; omega

end Go.Proofs.YtfbgpodcdgmpjaaDoor

/-
  Two attributes have one name just where the map of names has fewer entries than there are attributes.
-/
namespace Go.Proofs.YtfbgpodcdgmpjaaDoor
open Go.RowKit Go.Maps Go.WideMaps
set_option linter.unusedVariables false

/-- Is the name at a place one of the first k ones? -/
def seenF (ats : List (ByteArray × ByteArray)) (i : Nat) : Nat → Bool
  | 0 => false
  | k + 1 => seenF ats i k || decide (an ats k = an ats i)
/-- Of the first n names, are two the same? -/
def dupF (ats : List (ByteArray × ByteArray)) : Nat → Bool
  | 0 => false
  | n + 1 => dupF ats n || seenF ats n n
theorem keyA_lit (ats : List (ByteArray × ByteArray)) (k : Nat) : WideAt.IsKeyLit (keyA ats k) := isKey _
theorem keyA_eq {ats : List (ByteArray × ByteArray)} {k i : Nat} : keyA ats k = keyA ats i ↔ an ats k = an ats i := by
  unfold keyA
  constructor
  · intro h
    have : (an ats k).data.toList = (an ats i).data.toList := by simpa using h
    rw [← bs_self (an ats k), this, bs_self]
  · intro h; rw [h]
theorem put_tidy {H : Type} (ats : List (ByteArray × ByteArray)) : ∀ k, Tidy (putA (H := H) ats k)
  | 0 => tidy_empty
  | k + 1 => (put_tidy ats k).put (isKey _) _
theorem put_has {H : Type} (ats : List (ByteArray × ByteArray)) (i : Nat) : ∀ k, has (putA (H := H) ats k) (keyA ats i) = seenF ats i k
  | 0 => rfl
  | k + 1 => by
    rw [putA, seenF]
    by_cases e : an ats k = an ats i
    · rw [← keyA_eq.2 e, has_put_same (put_tidy ats k).isMap (keyA_lit ats k), decide_eq_true e]; simp
    · rw [has_put_other (fun h => e (keyA_eq.1 h.symm)), put_has ats i k, decide_eq_false e]; simp
theorem put_size (ats : List (ByteArray × ByteArray)) : ∀ k, Maps.size (putA (H := Unit) ats k) ≤ k ∧ (dupF ats k = true ↔ Maps.size (putA (H := Unit) ats k) < k)
  | 0 => ⟨Nat.le_refl _, by constructor
                            · intro h; cases h
                            · intro h; omega⟩
  | k + 1 => by
    have ih := put_size ats k
    rw [putA, size_put (put_tidy ats k), put_has, dupF]
    cases hs : seenF ats k k with
    | true => simp; omega
    | false =>
      simp only [Bool.or_false]
      refine ⟨by simp; omega, ?_⟩
      rw [ih.2]; simp
theorem diff_dup (ats : List (ByteArray × ByteArray)) : dupF ats ats.length = decide (diffN ats < ats.length) := by
  have := (put_size ats ats.length).2
  unfold diffN
  rw [Bool.eq_iff_iff, this, decide_eq_true_eq]
theorem dup_more {ats : List (ByteArray × ByteArray)} {i : Nat} (h : seenF ats i i = true) : ∀ n, i < n → dupF ats n = true
  | 0, hn => by omega
  | n + 1, hn => by
    rw [dupF]
    by_cases e : i = n
    · subst e; rw [h]; simp
    · rw [dup_more h n (by omega)]; rfl
theorem seen_more {ats : List (ByteArray × ByteArray)} {i k : Nat} (h : an ats k = an ats i) : ∀ n, k < n → seenF ats i n = true
  | 0, hn => by omega
  | n + 1, hn => by
    rw [seenF]
    by_cases e : k = n
    · subst e; rw [decide_eq_true h]; simp
    · rw [seen_more h n (by omega)]; rfl
end Go.Proofs.YtfbgpodcdgmpjaaDoor

/-
  What 'refs.All' does: all of a text.
-/
namespace Go.Proofs.YtfbgpodcdgmpjaaDoor
open Go.RowKit
set_option linter.unusedVariables false

end Go.Proofs.YtfbgpodcdgmpjaaDoor

/-
  What 'utf.Clean' does: of every text that isn't too long, it cleaned.
-/
namespace Go.Proofs.YtfbgpodcdgmpjaaDoor
open Go.RowKit
set_option linter.unusedVariables false

end Go.Proofs.YtfbgpodcdgmpjaaDoor

/-
  The law RefsPlain walked: a text without & is itself, cleaned; and what stands ahead of a text stays ahead of it.
-/
namespace Go.Proofs.YtfbgpodcdgmpjaaDoor
open Go.RowKit
set_option linter.unusedVariables false

theorem ssame (x : ByteArray) : (x.toList == x.toList) = true := by simp
theorem at_plain {l : List UInt8} (v : Bool) (h : ¬ dgt l 0 = 38) : atL l v = (ub (step l).1, ((step l).2.1 : Int)) := by
  rw [atL]; unfold atWith; rw [if_pos h]
def noAmp (l : List UInt8) : Prop := ∀ k, k < l.length → ¬ dgt l k = 38
theorem noAmp_drop {l : List UInt8} (h : noAmp l) (n : Nat) : noAmp (l.drop n) := by
  intro k hk
  rw [List.length_drop] at hk
  rw [dgt_drop]; exact h (n + k) (by omega)
theorem all_plain (v : Bool) : ∀ (f : Nat) (l : List UInt8), l.length ≤ f → noAmp l → allL v l = cleanL l
  | 0, l, h, _ => by
    have : l = [] := List.eq_nil_of_length_eq_zero (by omega)
    subst this; rfl
  | f + 1, l, h, hn => by
    by_cases e : l = []
    · subst e; rfl
    · have hl : 0 < l.length := List.length_pos_iff.2 e
      have hok := step_ok e
      rw [allL_cons v e, cleanL_cons e, at_plain v (hn 0 hl)]
      simp only [Int.toNat_natCast]
      rw [all_plain v f _ (by rw [List.length_drop]; omega) (noAmp_drop hn _)]
theorem dgt_app (a b : List UInt8) (k : Nat) (h : k < a.length) : dgt (a ++ b) k = dgt a k := by
  unfold dgt; rw [List.getD, List.getD, List.getElem?_append_left h]
theorem all_ahead (v : Bool) (t : List UInt8) : ∀ (f : Nat) (l : List UInt8), l.length ≤ f → noAmp l → rightB l = true → allL v (l ++ t) = l ++ allL v t
  | 0, l, h, _, _ => by
    have : l = [] := List.eq_nil_of_length_eq_zero (by omega)
    subst this; rfl
  | f + 1, l, h, hn, hr => by
    by_cases e : l = []
    · subst e; rfl
    · have hl : 0 < l.length := List.length_pos_iff.2 e
      have hok := step_ok e
      rw [rightB_cons e, Bool.and_eq_true] at hr
      have htk := step_take e hr.1
      have hst : step (l ++ t) = ((step l).1, (step l).2.1, true) := by
        have : l ++ t = ub (step l).1 ++ (l.drop (step l).2.1 ++ t) := by
          rw [← htk.1, ← List.append_assoc, List.take_append_drop]
        rw [this, step_ub _ _ hok.2.2.2, htk.2]
      have hne : l ++ t ≠ [] := by simp [e]
      have hdrop : (l ++ t).drop (step l).2.1 = l.drop (step l).2.1 ++ t := by
        rw [List.drop_append_of_le_length (by omega)]
      rw [allL_cons v hne, at_plain v (by rw [dgt_app _ _ _ hl]; exact hn 0 hl), hst]
      simp only [Int.toNat_natCast]
      rw [hdrop, all_ahead v t f _ (by rw [List.length_drop]; omega) (noAmp_drop hn _) hr.2, ← List.append_assoc, ← htk.1, List.take_append_drop]
theorem allL_len (v : Bool) : ∀ (f : Nat) (l : List UInt8), l.length ≤ f → (allL v l).length ≤ 4 * l.length
  | 0, l, h => by
    have : l = [] := List.eq_nil_of_length_eq_zero (by omega)
    subst this; simp [allL_nil]
  | f + 1, l, h => by
    by_cases e : l = []
    · subst e; simp [allL_nil]
    · have hb := at_bd v e
      have hl : 0 < l.length := List.length_pos_iff.2 e
      have ih := allL_len v f (l.drop (atL l v).2.toNat) (by rw [List.length_drop]; omega)
      rw [allL_cons v e, List.length_append]
      rw [List.length_drop] at ih
      omega
theorem amp_cases (l : List UInt8) : (∃ k, k < l.length ∧ dgt l k = 38 ∧ ∀ j, j < k → ¬ dgt l j = 38) ∨ noAmp l := by
  have : ∀ n, n ≤ l.length → (∃ k, k < n ∧ dgt l k = 38 ∧ ∀ j, j < k → ¬ dgt l j = 38) ∨ ∀ k, k < n → ¬ dgt l k = 38 := by
    intro n
    induction n with
    | zero => intro _; exact .inr (fun k hk => by omega)
    | succ n ih =>
      intro hn
      rcases ih (by omega) with ⟨k, h1, h2⟩ | h
      · exact .inl ⟨k, by omega, h2⟩
      · by_cases e : dgt l n = 38
        · exact .inl ⟨n, by omega, e, h⟩
        · refine .inr (fun k hk => ?_)
          by_cases hkn : k = n
          · rw [hkn]; exact e
          · exact h k (by omega)
  exact this l.length (Nat.le_refl _)

end Go.Proofs.YtfbgpodcdgmpjaaDoor
