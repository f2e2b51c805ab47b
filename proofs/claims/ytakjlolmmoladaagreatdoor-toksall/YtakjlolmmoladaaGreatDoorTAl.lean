/-
  What 'toks.All' does.
-/
import Derived.Test.YtakjlolmmoladaaGreatDoorTNx
import Derived.Maps.AppendAt
namespace Go.Proofs.YtakjlolmmoladaaGreatDoor
open Go.RowKit
set_option linter.unusedVariables false

theorem dataF_le (s : ByteArray) (cd : Bool) : ∀ (k i : Nat), s.size < i + k → i < s.size → (dataF s cd k i).2 ≤ s.size ∧ i < (dataF s cd k i).2
  | 0, i, h, hi => by omega
  | k + 1, i, h, hi => by
    cases hb : begP s i with
    | false =>
      rw [dataF_chars hi hb]
      have h1 := seek_next (begP s) hi hb
      have h2 := seekN_le (begP s) (n := s.size) (k := i + 1) (by omega)
      show seekN (begP s) s.size i ≤ s.size ∧ i < seekN (begP s) s.size i
      omega
    | true =>
      obtain ⟨b1, b2⟩ := beg_bounds hb
      have hm := markE_le s i cd b1 b2
      by_cases hk : (markT s i cd).1 = 0
      · rw [dataF_on hi hb hk]
        by_cases hl : markE s i cd < s.size
        · have := dataF_le s cd k (markE s i cd) (by omega) hl
          omega
        · rw [dataF_end (by omega)]
          exact ⟨Nat.le_refl _, hi⟩
      · rw [dataF_mark hi hb hk]; exact hm

/-- The next token in Data, and all of them. -/
def oneT (s : ByteArray) (i : Nat) : PTok × Nat := dataF s false (s.size - i + 1) i
theorem oneT_le (s : ByteArray) (i : Nat) (hi : i < s.size) : (oneT s i).2 ≤ s.size ∧ i < (oneT s i).2 := dataF_le s false (s.size - i + 1) i (by omega) hi
theorem next_is (s : ByteArray) (i : Nat) (hi : i < s.size) : nextT s ⟨#[]⟩ 0 false (i : Int) = oneT s i := by
  unfold nextT oneT
  rw [if_neg (by omega), if_neg (by decide), Int.toNat_natCast]
def allTF (s : ByteArray) : Nat → Nat → List PTok → List PTok
  | 0, _, acc => acc
  | k + 1, i, acc => if i < s.size then allTF s k (oneT s i).2 (if (oneT s i).1.1 = 0 then acc else acc ++ [(oneT s i).1]) else acc
def allT (s : ByteArray) : List PTok := allTF s (s.size + 1) 0 []
theorem allTF_end {s : ByteArray} {k i : Nat} {acc : List PTok} (h : s.size ≤ i) : allTF s k i acc = acc := by
  cases k with
  | zero => rfl
  | succ k => rw [allTF, if_neg (by omega)]
theorem allTF_skip {s : ByteArray} {k i : Nat} {acc : List PTok} (h : i < s.size) (hk : (oneT s i).1.1 = 0) : allTF s (k + 1) i acc = allTF s k (oneT s i).2 acc := by
  rw [allTF, if_pos h, if_pos hk]
theorem allTF_more {s : ByteArray} {k i : Nat} {acc : List PTok} (h : i < s.size) (hk : ¬ (oneT s i).1.1 = 0) : allTF s (k + 1) i acc = allTF s k (oneT s i).2 (acc ++ [(oneT s i).1]) := by
  rw [allTF, if_pos h, if_neg hk]

/-! ### a list of tokens in memory -/
abbrev ETok := PTok × Option Addr × Nat
def cellsE (e : ETok) : List Value := [.int .i64 e.1.1, .string e.1.2.1, .slice e.2.1 e.1.2.2.1.length e.2.2, .bool e.1.2.2.2.1, .string e.1.2.2.2.2]
def flatE (es : List ETok) : List Value := es.flatMap cellsE
theorem flatE_snoc (es : List ETok) (e : ETok) : flatE (es ++ [e]) = flatE es ++ cellsE e := by simp [flatE]
theorem flatE_len (es : List ETok) : (flatE es).length = es.length * 5 := by
  induction es with
  | nil => rfl
  | cons a l ih => rw [flatE, List.flatMap_cons, List.length_append]; unfold flatE at ih; rw [ih]; simp [cellsE]; omega
/-- A token's attributes lie in memory, apart from the row of tokens. -/
def Apart (base : Nat) (SL : Value) (e : ETok) (w : World) : Prop := e.1.2.2.1 = [] ∨ ∃ g, e.2.1 = some ⟨g, 0, none⟩ ∧ (base ≤ g ∧ e.1.2.2.1.length ≤ e.2.2) ∧ some g ≠ SL.ownBlock ∧ Cells2 g 0 e.1.2.2.1 w
def TokRow (base : Nat) (SL : Value) (ts : List PTok) (w : World) : Prop :=
  ∃ es : List ETok, es.map (fun e => e.1) = ts ∧ w.ownsRow base 27 5 SL es.length (flatE es) ∧ ∀ e ∈ es, Apart base SL e w

theorem cells2_lt {g : Nat} {ats : List (ByteArray × ByteArray)} {w : World} (h : Cells2 g 0 ats w) (hn : ats ≠ []) : g < w.heap.size := by
  have hl : 0 < ats.length := List.length_pos_iff.2 hn
  exact World.block_lt_of_cell? w _ (h 0 hl).1
theorem cells2_grown {g : Nat} {ats : List (ByteArray × ByteArray)} {w w' : World} {row : Option Nat} (h : Cells2 g 0 ats w) (hn : ats ≠ []) (hg : w.grownBy w' row) (hr : some g ≠ row) : Cells2 g 0 ats w' := by
  have hl := cells2_lt h hn
  exact fun k hk => ⟨(World.cell?_of_block (a := ⟨g, 0 + k * 2, none⟩) (hg.block g hl hr)).trans (h k hk).1, (World.cell?_of_block (a := ⟨g, 0 + k * 2 + 1, none⟩) (hg.block g hl hr)).trans (h k hk).2⟩
theorem TokRow.later {base : Nat} {SL : Value} {ts : List PTok} {w w' : World} (h : TokRow base SL ts w) (hb : Below w.heap.size w w') : TokRow base SL ts w' := by
  obtain ⟨es, h1, h2, h3⟩ := h
  exact ⟨es, h1, ownsRow_below h2 hb, fun e he => (h3 e he).imp id fun ⟨g, a, b, c, d⟩ => ⟨g, a, b, c, d.below hb⟩⟩

theorem alloc_size (w : World) (o : Obj) : (w.alloc o).heap.size = w.heap.size + 1 := by simp
theorem lit_cell {X : World} {n : Nat} {vs : Array Value} {t : TypeId} {j : Nat} {u : Value} (hn : n = X.heap.size) (h : vs.toList[j]? = some u) : (X.alloc (.cells vs t)).cell? ((⟨n, 0, none⟩ : Addr).add j) = some u := by
  subst hn
  rw [addr_plain, Nat.zero_add]
  exact ((Blk.new X vs t).cell j).trans (by simpa using h)
theorem infoTok0 : (Tryz.prog.info? 27).map (fun i => (i.zero, i.size, i.bytes)) = some (some (.agg #[.int .i64 0, .string ⟨#[]⟩, .slice none 0 0, .bool false, .string ⟨#[]⟩]), 5, 72) := by kernel_rfl

def AllAt (s : ByteArray) (R : List PTok) (w : World) (SL : Value) (i : Nat) (wr : World) : Prop :=
  ∃ k acc, s.size < i + k ∧ i ≤ s.size ∧ acc.length ≤ i ∧ allTF s k i acc = R ∧ TokRow w.heap.size SL acc wr ∧ Below w.heap.size w wr
def AllPost (s : ByteArray) (w : World) (e : Ending) (w' : World) : Prop := ∃ SL, e = .returned SL ∧ TokRow w.heap.size SL (allT s) w' ∧ Below w.heap.size w w'

set_option maxHeartbeats 8000000 in
set_option maxRecDepth 100000 in
theorem all5_any (s : ByteArray) (w : World) (ht : Tab4 w) (hm : Mx w) (hs : s.size ≤ 100000) :
    Calls Tryz.prog 9 #[.string s] w (AllPost s w) := by
  have HT := hide ht
  have HM := hide hm
  clear ht hm
  obtain ⟨i0, hi0, hi1, hi2, hi3⟩ := info_parts infoTok0
  go_enter Tryz.func9, Tryz.ntmps9
  go_wp2
  go_loopw [3, 4] (fun SL a wr => ∃ i, a = .int .i64 ((i : Nat) : Int) ∧ AllAt s (allT s) w SL i wr) (fun _ a _ => s.size - (intOf a).toNat)
  case atStart => exact ⟨0, rfl, s.size + 1, [], by omega, Nat.zero_le _, Nat.le_refl _, rfl, ⟨[], rfl, ⟨rfl, Or.inl ⟨rfl, rfl⟩⟩, fun e he => by cases he⟩, Below.refl _ _⟩
  case round =>
    obtain ⟨i, rfl, k, acc, hfu, hle, hal, hpr, hrow, hbw⟩ := hrel
    obtain ⟨a3, n3, cap, rfl⟩ : ∃ a m cap, u3 = Value.slice a m cap := by obtain ⟨es, _, h, _⟩ := hrow; exact slice_of h
    have HPR := hide hpr
    have HRW := hide hrow
    have HB := hide hbw
    clear hpr hrow hbw
    by_cases hp : i < s.size
    · have hpi : (i : Int) < (s.size : Int) := by omega
      obtain ⟨k, rfl⟩ : ∃ k', k = k' + 1 := ⟨k - 1, by omega⟩
      have CN : Hid (∀ w, Tab4 w → Mx w → Calls Tryz.prog 6 #[.string s, .int .i64 (i : Int), .agg #[.int .i64 0, .string ⟨#[]⟩, .bool false]] w (Told w (oneT s i).1 (oneT s i).2)) := fun w ht hm => by
        have := next_any s ⟨#[]⟩ 0 false (i : Int) w ht hm hs (by decide)
        rw [next_is s i hp] at this; exact this
      have hol := oneT_le s i hp
      have Q1 := fun h => (allTF_skip (k := k) (acc := acc) hp h).symm.trans (unhide HPR)
      have Q2 := fun h => (allTF_more (k := k) (acc := acc) hp h).symm.trans (unhide HPR)
      generalize oneT s i = r at *
      obtain ⟨⟨tk, tn, ta, tf, tx⟩, E⟩ := r
      by_cases hk : tk = 0
      · have HQ := hide (Q1 hk)
        subst hk
        clear Q1 Q2
        go_wp2_with fail
        have hbA : Below wr.heap.size wr (wr.alloc (Obj.cells #[.int .i64 0, .string ⟨#[]⟩, .slice none 0 0, .bool false, .string ⟨#[]⟩] 27)) := (Below.refl _ _).alloc (Nat.le_refl _) _
        refine (unhide CN _ ((unhide HT).below (tr2 (unhide HB) hbA)) ((unhide HM).below (tr2 (unhide HB) hbA))).mono ?_
        rintro r w2 ⟨q, cap2, rfl, hsl, hb2⟩
        have hbS := (((((tr2 hbA hb2).setCell (p := ⟨wr.heap.size, 0, none⟩) (Nat.le_refl _) (.int .i64 0)).setCell (p := ⟨wr.heap.size, 1, none⟩) (Nat.le_refl _) (.string tn)).setCell (p := ⟨wr.heap.size, 2, none⟩) (Nat.le_refl _) (.slice q ta.length cap2)).setCell (p := ⟨wr.heap.size, 3, none⟩) (Nat.le_refl _) (.bool tf)).setCell (p := ⟨wr.heap.size, 4, none⟩) (Nat.le_refl _) (.string tx)
        have kG : Blk w2 wr.heap.size #[.int .i64 0, .string ⟨#[]⟩, .slice none 0 0, .bool false, .string ⟨#[]⟩] 27 := (Blk.new wr _ _).later hb2
        have c0 : w2.cell? ⟨wr.heap.size, 0, none⟩ = some (.int .i64 0) := kG.cell 0
        have c1 : w2.cell? ⟨wr.heap.size, 1, none⟩ = some (.string ⟨#[]⟩) := kG.cell 1
        have c2 : w2.cell? ⟨wr.heap.size, 2, none⟩ = some (.slice none 0 0) := kG.cell 2
        have c3 : w2.cell? ⟨wr.heap.size, 3, none⟩ = some (.bool false) := kG.cell 3
        have c4 : w2.cell? ⟨wr.heap.size, 4, none⟩ = some (.string ⟨#[]⟩) := kG.cell 4
        have f0 : w2.frozen? ⟨wr.heap.size, 0, none⟩ = false := kG.frozen 0
        have f1 : w2.frozen? ⟨wr.heap.size, 1, none⟩ = false := kG.frozen 1
        have f2 : w2.frozen? ⟨wr.heap.size, 2, none⟩ = false := kG.frozen 2
        have f3 : w2.frozen? ⟨wr.heap.size, 3, none⟩ = false := kG.frozen 3
        have f4 : w2.frozen? ⟨wr.heap.size, 4, none⟩ = false := kG.frozen 4
        have HR2 := hide ((unhide HRW).later hbS)
        have HB2 := hide (tr2 (unhide HB) hbS)
        clear hbA hb2 hsl hbS kG
        go_wp2
        go_roundw
        case rel => exact ⟨E, rfl, k, acc, by have := hol.2; omega, hol.1, by have := hol.2; omega, unhide HQ, unhide HR2, unhide HB2⟩
        case measure => have := hol.2; simp [intOf]; omega
      · have HQ := hide (Q2 hk)
        have nk : (tk == 0) = false := beq_eq_false_iff_ne.2 hk
        clear Q1 Q2
        go_wp2_with fail
        have hbA : Below wr.heap.size wr (wr.alloc (Obj.cells #[.int .i64 0, .string ⟨#[]⟩, .slice none 0 0, .bool false, .string ⟨#[]⟩] 27)) := (Below.refl _ _).alloc (Nat.le_refl _) _
        refine (unhide CN _ ((unhide HT).below (tr2 (unhide HB) hbA)) ((unhide HM).below (tr2 (unhide HB) hbA))).mono ?_
        rintro r w2 ⟨q, cap2, rfl, hsl, hb2⟩
        have hbS := (((((tr2 hbA hb2).setCell (p := ⟨wr.heap.size, 0, none⟩) (Nat.le_refl _) (.int .i64 tk)).setCell (p := ⟨wr.heap.size, 1, none⟩) (Nat.le_refl _) (.string tn)).setCell (p := ⟨wr.heap.size, 2, none⟩) (Nat.le_refl _) (.slice q ta.length cap2)).setCell (p := ⟨wr.heap.size, 3, none⟩) (Nat.le_refl _) (.bool tf)).setCell (p := ⟨wr.heap.size, 4, none⟩) (Nat.le_refl _) (.string tx)
        have kG : Blk w2 wr.heap.size #[.int .i64 0, .string ⟨#[]⟩, .slice none 0 0, .bool false, .string ⟨#[]⟩] 27 := (Blk.new wr _ _).later hb2
        have c0 : w2.cell? ⟨wr.heap.size, 0, none⟩ = some (.int .i64 0) := kG.cell 0
        have c1 : w2.cell? ⟨wr.heap.size, 1, none⟩ = some (.string ⟨#[]⟩) := kG.cell 1
        have c2 : w2.cell? ⟨wr.heap.size, 2, none⟩ = some (.slice none 0 0) := kG.cell 2
        have c3 : w2.cell? ⟨wr.heap.size, 3, none⟩ = some (.bool false) := kG.cell 3
        have c4 : w2.cell? ⟨wr.heap.size, 4, none⟩ = some (.string ⟨#[]⟩) := kG.cell 4
        have f0 : w2.frozen? ⟨wr.heap.size, 0, none⟩ = false := kG.frozen 0
        have f1 : w2.frozen? ⟨wr.heap.size, 1, none⟩ = false := kG.frozen 1
        have f2 : w2.frozen? ⟨wr.heap.size, 2, none⟩ = false := kG.frozen 2
        have f3 : w2.frozen? ⟨wr.heap.size, 3, none⟩ = false := kG.frozen 3
        have f4 : w2.frozen? ⟨wr.heap.size, 4, none⟩ = false := kG.frozen 4
        have hrow2 := (unhide HRW).later hbS
        have hb02 := tr2 (unhide HB) hbS
        have jG := hide ((((((kG.set 0 (by decide) (.int .i64 tk)).set 1 (by simp) (.string tn)).set 2 (by simp) (.slice q ta.length cap2)).set 3 (by simp) (.bool tf)).set 4 (by simp) (.string tx)))
        obtain ⟨es, hes, hown, hap⟩ := hrow2
        have hel : es.length = acc.length := by rw [← hes]; simp
        have HAP := hide hap
        have HSL := hide hsl
        have HB2 := hide hb02
        have HES := hide hes
        have HRL : Hid (∀ j, (Value.slice a3 n3 cap).ownBlock = some j → j < wr.heap.size) := hide (fun j hj => by obtain ⟨es', _, h, _⟩ := unhide HRW; exact (h.lt j hj).2)
        have HSZ := hide (unhide HB).size
        clear hbA hb2 hsl hbS kG hap hb02 hes
        go_wp2_with (at_builtin; refine wpList_append_own_at _ rfl _ _ 37 rfl w.heap.size 27 i0 (.agg #[.int .i64 0, .string ⟨#[]⟩, .slice none 0 0, .bool false, .string ⟨#[]⟩]) 5 72 Tryz.underlying37 hi0 hi1 hi2 hi3 rfl (by decide) _ _ _ rfl (hown.alloc _) ⟨w2.heap.size, 0, none⟩ 1 1 [.int .i64 tk, .string tn, .slice q ta.length cap2, .bool tf, .string tx] rfl rfl ?c1 ?c2 ?c3 ?c4 ?c5 ?_)
        case c1 => intro j u hj; exact lit_cell (by simp) hj
        case c2 => intro u hu; simp at hu; rcases hu with rfl | rfl | rfl | rfl | rfl <;> rfl
        case c3 => unfold maxLen; omega
        case c4 => omega
        case c5 => have := (unhide HB2).size; rw [alloc_size]; have := (unhide HB2).size; omega
        intro v' w5 hrow5 hgrow5 _ hblk
        obtain ⟨a5, n5, c5, hv5⟩ := slice_of hrow5
        subst hv5
        have hX := (unhide HB2).alloc (unhide HB2).size (Obj.cells #[.int .i64 tk, .string tn, .slice q ta.length cap2, .bool tf, .string tx] 27)
        have hb5 := hide (hX.grown hgrow5 hX.size (fun j hj => (hown.lt j hj).1))
        have hsz : (((((w2.setCell ⟨wr.heap.size, 0, none⟩ (.int .i64 tk)).setCell ⟨wr.heap.size, 1, none⟩ (.string tn)).setCell ⟨wr.heap.size, 2, none⟩ (.slice q ta.length cap2)).setCell ⟨wr.heap.size, 3, none⟩ (.bool tf)).setCell ⟨wr.heap.size, 4, none⟩ (.string tx)).heap.size = w2.heap.size := by simp
        have hnew : Apart w.heap.size (Value.slice a5 n5 c5) ((tk, tn, ta, tf, tx), q, cap2) w5 := by
          rcases unhide HSL with h | ⟨g, hq, hg, hcs⟩
          · exact Or.inl h
          · by_cases hne : ta = []
            · exact Or.inl hne
            have hgl := cells2_lt hcs hne
            obtain ⟨hg, hcp⟩ := hg
            rw [alloc_size] at hg
            have hgr : some g ≠ (Value.slice a3 n3 cap).ownBlock := fun e => by have := unhide HRL g e.symm; omega
            refine Or.inr ⟨g, hq, ⟨by have := unhide HSZ; omega, hcp⟩, ?_, ?_⟩
            · rcases hblk with e | e
              · rw [e]; exact hgr
              · rw [e]; intro e2; cases e2; omega
            · exact cells2_grown ((((((hcs.away (by omega) _).away (by omega) _).away (by omega) _).away (by omega) _).away (by omega) _).below ((Below.refl _ _).alloc (Nat.le_refl _) _)) hne hgrow5 hgr
        have hold : ∀ e ∈ es, Apart w.heap.size (Value.slice a5 n5 c5) e w5 := fun e he => by
          rcases unhide HAP e he with h | ⟨g, hq, hg, hgr, hcs⟩
          · exact Or.inl h
          · by_cases hne : e.1.2.2.1 = []
            · exact Or.inl hne
            have hgl := cells2_lt hcs hne
            rw [hsz] at hgl
            refine Or.inr ⟨g, hq, hg, ?_, cells2_grown (hcs.below ((Below.refl _ _).alloc (Nat.le_refl _) _)) hne hgrow5 hgr⟩
            rcases hblk with e | e
            · rw [e]; exact hgr
            · rw [e]; intro e2; cases e2; omega
        have O := hide (And.intro hnew (And.intro hold hrow5))
        clear hnew hold hrow5 hgrow5 hX hblk hown
        go_wp2
        obtain ⟨hnew, hold, hrow5⟩ := unhide O
        go_roundw
        case rel =>
          refine ⟨E, rfl, k, acc ++ [(tk, tn, ta, tf, tx)], by have := hol.2; omega, hol.1, by have := hol.2; simp; omega, unhide HQ, ⟨es ++ [((tk, tn, ta, tf, tx), q, cap2)], by rw [List.map_append, unhide HES]; rfl, ?_, ?_⟩, unhide hb5⟩
          · rw [flatE_snoc, List.length_append, hel]; exact hrow5
          · intro e he
            rcases List.mem_append.1 he with h | h
            · exact hold e h
            · rw [List.mem_singleton.1 h]; exact hnew
        case measure => have := hol.2; simp [intOf]; omega
    · have hR := (allTF_end (s := s) (k := k) (i := i) (acc := acc) (by omega)).symm.trans (unhide HPR)
      have hpi : ¬ (i : Int) < (s.size : Int) := by omega
      clear hp
      go_wp2
      go_ret
      exact ⟨_, rfl, by rw [← hR]; exact unhide HRW, unhide HB⟩
end Go.Proofs.YtakjlolmmoladaaGreatDoor
