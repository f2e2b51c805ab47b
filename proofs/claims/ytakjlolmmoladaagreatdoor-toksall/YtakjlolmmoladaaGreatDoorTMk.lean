/-
  What 'toks.tag' does, told plainly; what 'toks.markup' does.
-/
import Derived.Test.YtakjlolmmoladaaGreatDoorTDe
namespace Go.Proofs.YtakjlolmmoladaaGreatDoor
open Go.RowKit
set_option linter.unusedVariables false

/-- A token, told plainly: its kind, its name, its attributes, whether it closes itself, its text. -/
abbrev PTok := Int × ByteArray × List (ByteArray × ByteArray) × Bool × ByteArray
def noT : PTok := (0, ⟨#[]⟩, [], false, ⟨#[]⟩)
/-- A call has answered a token, and a place. -/
def Told (w : World) (t : PTok) (E : Nat) (e : Ending) (w' : World) : Prop :=
  ∃ q cap, e = .returned (.tuple #[.agg #[.int .i64 t.1, .string t.2.1, .slice q t.2.2.1.length cap, .bool t.2.2.2.1, .string t.2.2.2.2], .int .i64 (E : Int)]) ∧ SlN (cap := cap) w.heap.size q t.2.2.1 w' ∧ Below w.heap.size w w'

def tagG (s : ByteArray) (i : Nat) : Nat := if dgt s.data.toList (i + 1) = 47 then i + 2 else i + 1
def tagZ (s : ByteArray) (i : Nat) : Nat := seekN (enP s) s.size (tagG s i)
def tagN (s : ByteArray) (i : Nat) : ByteArray := bs (lowL ((s.data.toList.drop (tagG s i)).take (tagZ s i - tagG s i)))
def tagR (s : ByteArray) (i : Nat) : Nat × List (ByteArray × ByteArray) × Bool := partsF s (s.size - tagZ s i + 1) (tagZ s i) [] false
def tagT (s : ByteArray) (i : Nat) : PTok := if (tagR s i).1 < s.size then (if dgt s.data.toList (i + 1) = 47 then (2, tagN s i, [], false, ⟨#[]⟩) else (1, tagN s i, (tagR s i).2.1, (tagR s i).2.2, ⟨#[]⟩)) else noT
def tagE (s : ByteArray) (i : Nat) : Nat := if (tagR s i).1 < s.size then (tagR s i).1 + 1 else s.size
theorem slN_nil {cap : Nat} (b : Nat) (q : Option Addr) (w : World) : SlN (cap := cap) b q [] w := Or.inl rfl
theorem tag_any (s : ByteArray) (i : Nat) (w : World) (ht : Tab4 w) (hm : Mx w) (hs : s.size ≤ 100000) (hi : i + 1 < s.size) :
    Calls Tryz.prog 24 #[.string s, .int .i64 (i : Int)] w (Told w (tagT s i) (tagE s i)) := by
  by_cases h : dgt s.data.toList (i + 1) = 47
  · have e1 : tagG s i = i + 2 := if_pos h
    have e2 : tagZ s i = seekN (enP s) s.size (i + 2) := by unfold tagZ; rw [e1]
    have e3 : tagN s i = bs (lowL ((s.data.toList.drop (i + 2)).take (tagZ s i - (i + 2)))) := by unfold tagN; rw [e1]
    refine (tag_close s i (tagZ s i) w ht hm hs hi h e2.symm).mono ?_
    rintro e w' ⟨v, rfl, hb, hv⟩
    rw [← e3] at hv
    have e4 : partsF s (s.size - tagZ s i + 1) (tagZ s i) [] false = tagR s i := rfl
    rw [e4] at hv ⊢
    unfold tagT tagE
    by_cases hl : (tagR s i).1 < s.size
    · rw [if_pos hl, if_pos rfl] at hv
      rw [if_pos hl, if_pos hl, if_pos hl, if_pos h]
      obtain ⟨q, cap, rfl, hsl⟩ := hv
      exact ⟨q, cap, rfl, hsl, hb⟩
    · rw [if_neg hl] at hv
      rw [if_neg hl, if_neg hl, if_neg hl]
      obtain ⟨q, cap, rfl, hsl⟩ := hv
      exact ⟨q, cap, rfl, hsl, hb⟩
  · have e1 : tagG s i = i + 1 := if_neg h
    have e2 : tagZ s i = seekN (enP s) s.size (i + 1) := by unfold tagZ; rw [e1]
    have e3 : tagN s i = bs (lowL ((s.data.toList.drop (i + 1)).take (tagZ s i - (i + 1)))) := by unfold tagN; rw [e1]
    refine (tag_open s i (tagZ s i) w ht hm hs hi h e2.symm).mono ?_
    rintro e w' ⟨v, rfl, hb, hv⟩
    rw [← e3] at hv
    have e4 : partsF s (s.size - tagZ s i + 1) (tagZ s i) [] false = tagR s i := rfl
    rw [e4] at hv ⊢
    unfold tagT tagE
    by_cases hl : (tagR s i).1 < s.size
    · rw [if_pos hl, if_neg (by decide)] at hv
      rw [if_pos hl, if_pos hl, if_pos hl, if_neg h]
      obtain ⟨q, cap, rfl, hsl⟩ := hv
      exact ⟨q, cap, rfl, hsl, hb⟩
    · rw [if_neg hl] at hv
      rw [if_neg hl, if_neg hl, if_neg hl]
      obtain ⟨q, cap, rfl, hsl⟩ := hv
      exact ⟨q, cap, rfl, hsl, hb⟩

/-- What a < begins. -/
def oddT (s : ByteArray) (i : Nat) : PTok := (4, ⟨#[]⟩, [], false, bs (cutL s i [62]))
def markT (s : ByteArray) (i : Nat) (cd : Bool) : PTok :=
  if dgt s.data.toList (i + 1) = 33 then (declK s i cd, ⟨#[]⟩, [], false, declX s i cd)
  else if dgt s.data.toList (i + 1) = 63 then oddT s (i + 1)
  else if dgt s.data.toList (i + 1) = 47 ∧ dgt s.data.toList (i + 2) = 62 then noT
  else if dgt s.data.toList (i + 1) = 47 ∧ ltN (dgt s.data.toList (i + 2)) = false then oddT s (i + 2)
  else tagT s i
def markE (s : ByteArray) (i : Nat) (cd : Bool) : Nat :=
  if dgt s.data.toList (i + 1) = 33 then declE s i cd
  else if dgt s.data.toList (i + 1) = 63 then cutE s (i + 1) [62]
  else if dgt s.data.toList (i + 1) = 47 ∧ dgt s.data.toList (i + 2) = 62 then i + 3
  else if dgt s.data.toList (i + 1) = 47 ∧ ltN (dgt s.data.toList (i + 2)) = false then cutE s (i + 2) [62]
  else tagE s i

theorem SlN.away {cap b : Nat} {q : Option Addr} {ats : List (ByteArray × ByteArray)} {w : World} (h : SlN (cap := cap) b q ats w) {c k : Nat} (hc : c < b) (u : Value) : SlN (cap := cap) b q ats (w.setCell ⟨c, k, none⟩ u) :=
  h.imp id fun ⟨g, h1, h2, h3⟩ => ⟨g, h1, h2, h3.away (by have := h2.1; omega) u⟩
theorem SlN.mono {cap b b' : Nat} {q : Option Addr} {ats : List (ByteArray × ByteArray)} {w : World} (h : SlN (cap := cap) b q ats w) (hb : b' ≤ b) : SlN (cap := cap) b' q ats w :=
  h.imp id fun ⟨g, h1, h2, h3⟩ => ⟨g, h1, ⟨by omega, h2.2⟩, h3⟩

def zTok : Array Value := #[.int .i64 0, .string ⟨#[]⟩, .slice none 0 0, .bool false, .string ⟨#[]⟩]
set_option maxHeartbeats 4000000 in
set_option maxRecDepth 100000 in
theorem markup_decl (s : ByteArray) (i : Nat) (cd : Bool) (w : World) (hm : Mx w) (hs : s.size ≤ 100000) (hi : i + 1 < s.size) (h : dgt s.data.toList (i + 1) = 33) :
    Calls Tryz.prog 28 #[.string s, .int .i64 (i : Int), .bool cd] w (Told w (declK s i cd, ⟨#[]⟩, [], false, declX s i cd) (declE s i cd)) := by
  have i1 : (i : Int) + 1 < (s.size : Int) := by omega
  have e1 := dgt_at s (i + 1) hi
  rw [h] at e1
  have C := hide (fun w h => declared_any s i cd w h (by omega) hs)
  generalize declK s i cd = K at *
  generalize declX s i cd = X at *
  generalize declE s i cd = E at *
  have HM := hide hm
  clear hm
  go_enter Tryz.func28, Tryz.ntmps28
  go_wp2_with fail
  have hbA : Below w.heap.size w (w.alloc (Obj.cells #[.int .i64 0, .string ⟨#[]⟩, .slice none 0 0, .bool false, .string ⟨#[]⟩] 27)) := (Below.refl _ _).alloc (Nat.le_refl _) _
  refine (unhide C _ ((unhide HM).below hbA)).mono ?_
  rintro e w1 ⟨rfl, hb1⟩
  have k1 := (Blk.new w #[.int .i64 0, .string ⟨#[]⟩, .slice none 0 0, .bool false, .string ⟨#[]⟩] 27).later hb1
  have hb := tr2 hbA hb1
  have c0 : w1.cell? ⟨w.heap.size, 0, none⟩ = some (.int .i64 0) := k1.cell 0
  have c1 : w1.cell? ⟨w.heap.size, 1, none⟩ = some (.string ⟨#[]⟩) := k1.cell 1
  have c2 : w1.cell? ⟨w.heap.size, 2, none⟩ = some (.slice none 0 0) := k1.cell 2
  have c3 : w1.cell? ⟨w.heap.size, 3, none⟩ = some (.bool false) := k1.cell 3
  have c4 : w1.cell? ⟨w.heap.size, 4, none⟩ = some (.string ⟨#[]⟩) := k1.cell 4
  have f0 : w1.frozen? ⟨w.heap.size, 0, none⟩ = false := k1.frozen 0
  have f1 : w1.frozen? ⟨w.heap.size, 1, none⟩ = false := k1.frozen 1
  have f2 : w1.frozen? ⟨w.heap.size, 2, none⟩ = false := k1.frozen 2
  have f3 : w1.frozen? ⟨w.heap.size, 3, none⟩ = false := k1.frozen 3
  have f4 : w1.frozen? ⟨w.heap.size, 4, none⟩ = false := k1.frozen 4
  have K1 := hide k1
  clear k1 hb1 hbA
  go_wp2
  have k1 := (((((unhide K1).set 0 (by simp) (.int .i64 K)).set 1 (by simp) (.string ⟨#[]⟩)).set 2 (by simp) (.slice none 0 0)).set 3 (by simp) (.bool false)).set 4 (by simp) (.string X)
  have d0 := k1.cell 0
  have d1 := k1.cell 1
  have d2 := k1.cell 2
  have d3 := k1.cell 3
  have d4 := k1.cell 4
  exact bodyPost_ret (v := .tuple #[.agg #[.int .i64 K, .string ⟨#[]⟩, .slice none 0 0, .bool false, .string X], .int .i64 (E : Int)]) (by simp [results, Tryz.results28, go_sem, d0, d1, d2, d3, d4]) rfl ⟨none, 0, rfl, slN_nil _ _ _, ((((hb.setCell (Nat.le_refl _) _).setCell (Nat.le_refl _) _).setCell (Nat.le_refl _) _).setCell (Nat.le_refl _) _).setCell (Nat.le_refl _) _⟩
end Go.Proofs.YtakjlolmmoladaaGreatDoor
