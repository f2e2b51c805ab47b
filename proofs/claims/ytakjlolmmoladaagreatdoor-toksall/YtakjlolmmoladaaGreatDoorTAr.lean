/-
  What 'toks.attribute' does.
-/
import Derived.Test.YtakjlolmmoladaaGreatDoorTAb
import Derived.Deep.RegionWith
namespace Go.Proofs.YtakjlolmmoladaaGreatDoor
open Go.RowKit
set_option linter.unusedVariables false

/-- A block of cells, as it lies. -/
def Blk (w : World) (b : Nat) (vs : Array Value) (t : TypeId) : Prop := w.heap[b]? = some (.cells vs t (0, 0))
theorem Blk.lt {w : World} {b : Nat} {vs : Array Value} {t : TypeId} (h : Blk w b vs t) : b < w.heap.size := by
  rcases Nat.lt_or_ge b w.heap.size with h' | h'
  · exact h'
  · unfold Blk at h; rw [Array.getElem?_eq_none h'] at h; cases h
theorem Blk.cell {w : World} {b : Nat} {vs : Array Value} {t : TypeId} (h : Blk w b vs t) (o : Nat) : w.cell? ⟨b, o, none⟩ = vs[o]? := Joins.cell_of_block h o
theorem Blk.frozen {w : World} {b : Nat} {vs : Array Value} {t : TypeId} (h : Blk w b vs t) (o : Nat) : w.frozen? ⟨b, o, none⟩ = false := by
  have h' : w.heap[b]? = some (.cells vs t (0, 0)) := h
  simp [World.frozen?, h']
theorem Blk.below {w w' : World} {b B : Nat} {vs : Array Value} {t : TypeId} (h : Blk w b vs t) (hb : Below B w w') (hB : b < B) : Blk w' b vs t := (hb.block b hB).trans h
theorem Blk.later {w w' : World} {b : Nat} {vs : Array Value} {t : TypeId} (h : Blk w b vs t) (hb : Below w.heap.size w w') : Blk w' b vs t := h.below hb h.lt
theorem Blk.alloc {w : World} {b : Nat} {vs : Array Value} {t : TypeId} (h : Blk w b vs t) (o : Obj) : Blk (w.alloc o) b vs t := h.later ((Below.refl _ _).alloc (Nat.le_refl _) _)
theorem Blk.new (w : World) (vs : Array Value) (t : TypeId) : Blk (w.alloc (.cells vs t)) w.heap.size vs t := by show (w.heap.push _)[w.heap.size]? = _; simp
theorem Blk.away {w : World} {b : Nat} {vs : Array Value} {t : TypeId} (h : Blk w b vs t) {b' o : Nat} (hb : b ≠ b') (u : Value) : Blk (w.setCell ⟨b', o, none⟩ u) b vs t := (Below.heap_setCell w ⟨b', o, none⟩ u b hb).trans h
theorem Blk.set {w : World} {b : Nat} {vs : Array Value} {t : TypeId} (h : Blk w b vs t) (o : Nat) (ho : o < vs.size) (u : Value) : Blk (w.setCell ⟨b, o, none⟩ u) b (vs.set o u) t := by
  have h' : w.heap[b]? = some (.cells vs t (0, 0)) := h
  simp [Blk, World.setCell, Array.getElem?_modify, h', Array.setIfInBounds, ho]

/-- From here on no more is asked of the world than this. -/
theorem calls_from {P : Program} {f : FuncId} {args : Array Value} {W : World} {R : Ending → World → Prop} (S : World → Prop) (h : S W) (k : ∀ W', S W' → Calls P f args W' R) : Calls P f args W R := k W h

def attrV (n v : ByteArray) : Value := .agg #[.string n, .string v]

set_option maxHeartbeats 4000000 in
set_option maxRecDepth 100000 in
theorem attribute_no (s : ByteArray) (i : Nat) (w : World) (hi : i < s.size) (hs : s.size ≤ 100000) (hp : [61].isPrefixOf (s.data.toList.drop (naB s i)) = false) :
    Calls Tryz.prog 48 #[.string s, .int .i64 (i : Int)] w fun e w' => e = .returned (.tuple #[attrV (naN s i) ⟨#[]⟩, .int .i64 (naB s i : Int)]) ∧ Below w.heap.size w w' := by
  have hE := na_le s i hi
  have hB := nb_le s i hi
  have CS : Hid (∀ (w : World) (g : Nat), w.cell? ⟨g, 0, none⟩ = some (.string s) → Calls Tryz.prog 21 #[.string s, .int .i64 ((i : Int) + 1), .func (.func 65) #[] #[.pointer (some ⟨g, 0, none⟩)]] w fun r w' => r = .returned (.int .i64 (naE s i : Int)) ∧ w' = w) := fun w g hg => by
    have := seek_attr s (i + 1) g w hg (by omega) (by omega)
    rw [Int.natCast_add] at this; exact this
  have hcx := extract_take s i (naE s i - i)
  rw [show i + (naE s i - i) = naE s i by omega] at hcx
  have hyz : (s.extract i (naE s i)).size ≤ 100000 := by simp; omega
  have CL := hide (fun w => lower_any (s.extract i (naE s i)) w (by omega))
  have hyd : (s.extract i (naE s i)).data.toList = (s.data.toList.drop i).take (naE s i - i) := by rw [hcx, bs_toList]
  rw [hyd] at CL
  have hN : naN s i = bs (lowL ((s.data.toList.drop i).take (naE s i - i))) := rfl
  rw [← hN] at CL
  have CP : Hid (∀ w, Calls Tryz.prog 66 #[.string s, .int .i64 (naE s i : Int)] w fun e w' => e = .returned (.int .i64 (naB s i : Int)) ∧ Below w.heap.size w w') := fun w => passSpaces_any s (naE s i) w hE.1 (by omega)
  have CH : Hid (∀ w, Calls Tryz.prog 46 #[.string (s.extract (naB s i) s.size), .string ⟨#[61]⟩] w fun e w' => e = .returned (.bool false) ∧ w' = w) := fun w => by
    have := prefix_any (s.extract (naB s i) s.size) [61] w
    rw [rest_of, bs_toList, hp] at this
    rw [rest_of]; exact this
  generalize naN s i = N at *
  have j1 : (i : Int) ≤ (naE s i : Int) := by omega
  have j2 : (naE s i : Int) ≤ (s.size : Int) := by omega
  have j3 : (naB s i : Int) ≤ (s.size : Int) := by omega
  generalize naE s i = E at *
  generalize naB s i = B at *
  clear hp hcx hyd hN hE hB hyz
  go_enter Tryz.func48, Tryz.ntmps48
  go_wp2_with fail
  refine (unhide CS _ w.heap.size (by simp [go_sem])).mono ?_
  rintro r w1 ⟨rfl, rfl⟩
  go_wp2_with fail
  refine (unhide CL _).mono ?_
  rintro r w2 ⟨rfl, hb2⟩
  have hz1 : w.heap.size + 1 < w2.heap.size := by have := hb2.size; simp at this; omega
  have hz0 : w.heap.size < w2.heap.size := by omega
  have k0 : Blk w2 w.heap.size #[.string s] 9 := ((Blk.new w _ _).alloc _).later hb2
  have k1 : Blk w2 (w.heap.size + 1) #[.string ⟨#[]⟩, .string ⟨#[]⟩] 51 := by
    have := (Blk.new (w.alloc (Obj.cells #[.string s] 9)) #[.string ⟨#[]⟩, .string ⟨#[]⟩] 51).later hb2
    simpa using this
  have hb02 : Below w.heap.size w w2 := (((Below.refl w.heap.size w).alloc (Nat.le_refl _) _).alloc (by simp) _).trans (hb2.mono (by simp; omega))
  clear hb2
  have c0 : w2.cell? ⟨w.heap.size, 0, none⟩ = some (.string s) := k0.cell 0
  go_wp2_with fail
  refine calls_from (fun W => Blk W w.heap.size #[.string s] 9 ∧ Blk W (w.heap.size + 1) #[.string ⟨#[]⟩, .string ⟨#[]⟩] 51 ∧ Blk W w2.heap.size #[.string N, .string ⟨#[]⟩] 51 ∧ Below w.heap.size w W) ?_ ?_
  · exact ⟨k0.alloc _, k1.alloc _, Blk.new _ _ _, hb02.alloc hb02.size _⟩
  clear c0 k0 k1 hz0 hz1 hb02
  generalize w2.heap.size = G
  rintro W ⟨k0, k1, k2, hbW⟩
  refine (unhide CP _).mono ?_
  rintro r w3 ⟨rfl, hb3⟩
  have hbZ := tr2 hbW hb3
  replace k0 := k0.later hb3
  replace k1 := k1.later hb3
  replace k2 := k2.later hb3
  clear hb3 hbW
  have c0 : w3.cell? ⟨w.heap.size, 0, none⟩ = some (.string s) := k0.cell 0
  have c1 : w3.cell? ⟨w.heap.size + 1, 0, none⟩ = some (.string ⟨#[]⟩) := k1.cell 0
  have c2 : w3.cell? ⟨w.heap.size + 1, 1, none⟩ = some (.string ⟨#[]⟩) := k1.cell 1
  have c3 : w3.cell? ⟨G, 0, none⟩ = some (.string N) := k2.cell 0
  have c4 : w3.cell? ⟨G, 1, none⟩ = some (.string ⟨#[]⟩) := k2.cell 1
  have f1 : w3.frozen? ⟨w.heap.size + 1, 0, none⟩ = false := k1.frozen 0
  have f2 : w3.frozen? ⟨w.heap.size + 1, 1, none⟩ = false := k1.frozen 1
  have K1 := hide k1
  clear k0 k1 k2
  go_wp2_with fail
  refine (unhide CH _).mono ?_
  rintro r w4 ⟨rfl, hw4⟩
  obtain rfl : w3 = w4 := hw4.symm
  go_wp2
  have k1 := ((unhide K1).set 0 (by decide) (.string N)).set 1 (by simp) (.string ⟨#[]⟩)
  have d0 := k1.cell 0
  have d1 := k1.cell 1
  exact bodyPost_ret (v := .tuple #[attrV N ⟨#[]⟩, .int .i64 (B : Int)]) (by simp [results, Tryz.results48, go_sem, attrV, d0, d1]) rfl ⟨rfl, (hbZ.setCell (by simp) _).setCell (by simp) _⟩
set_option maxHeartbeats 4000000 in
set_option maxRecDepth 100000 in
theorem attribute_eq (s : ByteArray) (i : Nat) (w : World) (ht : Tab4 w) (hm : Mx w) (hi : i < s.size) (hs : s.size ≤ 100000) (hp : [61].isPrefixOf (s.data.toList.drop (naB s i)) = true) :
    Calls Tryz.prog 48 #[.string s, .int .i64 (i : Int)] w fun e w' => e = .returned (.tuple #[attrV (naN s i) (bs (allL true (valS s (naV s i)).data.toList)), .int .i64 (valE s (naV s i) : Int)]) ∧ Below w.heap.size w w' := by
  have hE := na_le s i hi
  have hB := nb_le s i hi
  have CS : Hid (∀ (w : World) (g : Nat), w.cell? ⟨g, 0, none⟩ = some (.string s) → Calls Tryz.prog 21 #[.string s, .int .i64 ((i : Int) + 1), .func (.func 65) #[] #[.pointer (some ⟨g, 0, none⟩)]] w fun r w' => r = .returned (.int .i64 (naE s i : Int)) ∧ w' = w) := fun w g hg => by
    have := seek_attr s (i + 1) g w hg (by omega) (by omega)
    rw [Int.natCast_add] at this; exact this
  have hcx := extract_take s i (naE s i - i)
  rw [show i + (naE s i - i) = naE s i by omega] at hcx
  have hyz : (s.extract i (naE s i)).size ≤ 100000 := by simp; omega
  have CL := hide (fun w => lower_any (s.extract i (naE s i)) w (by omega))
  have hyd : (s.extract i (naE s i)).data.toList = (s.data.toList.drop i).take (naE s i - i) := by rw [hcx, bs_toList]
  rw [hyd] at CL
  have hN : naN s i = bs (lowL ((s.data.toList.drop i).take (naE s i - i))) := rfl
  rw [← hN] at CL
  have CP : Hid (∀ w, Calls Tryz.prog 66 #[.string s, .int .i64 (naE s i : Int)] w fun e w' => e = .returned (.int .i64 (naB s i : Int)) ∧ Below w.heap.size w w') := fun w => passSpaces_any s (naE s i) w hE.1 (by omega)
  have CH : Hid (∀ w, Calls Tryz.prog 46 #[.string (s.extract (naB s i) s.size), .string ⟨#[61]⟩] w fun e w' => e = .returned (.bool true) ∧ w' = w) := fun w => by
    have := prefix_any (s.extract (naB s i) s.size) [61] w
    rw [rest_of, bs_toList, hp] at this
    rw [rest_of]; exact this
  have hlt : naB s i + 1 ≤ s.size := by
    have : 0 < (s.data.toList.drop (naB s i)).length := by
      cases h : s.data.toList.drop (naB s i) with
      | nil => rw [h] at hp; simp [List.isPrefixOf] at hp
      | cons c t => simp
    rw [List.length_drop, data_len] at this; omega
  have CQ : Hid (∀ w, Calls Tryz.prog 66 #[.string s, .int .i64 ((naB s i : Int) + 1)] w fun e w' => e = .returned (.int .i64 (naV s i : Int)) ∧ Below w.heap.size w w') := fun w => by
    have := passSpaces_any s (naB s i + 1) w hlt (by omega)
    rw [Int.natCast_add] at this; exact this
  have hV : naV s i ≤ s.size := (seekN_le (nsP s) (n := s.size) (k := naB s i + 1) hlt).1
  have CV := hide (fun w h => value_any s (naV s i) w h hV hs)
  have hvz := valS_size s (naV s i)
  have CA := hide (fun w h => all_any (valS s (naV s i)) true w h (by omega))
  have HT := hide ht
  have HM := hide hm
  clear ht hm
  generalize bs (allL true (valS s (naV s i)).data.toList) = A at *
  generalize valS s (naV s i) = X at *
  generalize valE s (naV s i) = EE at *
  generalize naV s i = V at *
  generalize naN s i = N at *
  have j1 : (i : Int) ≤ (naE s i : Int) := by omega
  have j2 : (naE s i : Int) ≤ (s.size : Int) := by omega
  have j3 : (naB s i : Int) ≤ (s.size : Int) := by omega
  generalize naE s i = E at *
  generalize naB s i = B at *
  clear hp hcx hyd hN hE hB hyz hvz hV hlt
  go_enter Tryz.func48, Tryz.ntmps48
  go_wp2_with fail
  refine (unhide CS _ w.heap.size (by simp [go_sem])).mono ?_
  rintro r w1 ⟨rfl, rfl⟩
  go_wp2_with fail
  refine (unhide CL _).mono ?_
  rintro r w2 ⟨rfl, hb2⟩
  have hz1 : w.heap.size + 1 < w2.heap.size := by have := hb2.size; simp at this; omega
  have hz0 : w.heap.size < w2.heap.size := by omega
  have k0 : Blk w2 w.heap.size #[.string s] 9 := ((Blk.new w _ _).alloc _).later hb2
  have k1 : Blk w2 (w.heap.size + 1) #[.string ⟨#[]⟩, .string ⟨#[]⟩] 51 := by
    have := (Blk.new (w.alloc (Obj.cells #[.string s] 9)) #[.string ⟨#[]⟩, .string ⟨#[]⟩] 51).later hb2
    simpa using this
  have hb02 : Below w.heap.size w w2 := (((Below.refl w.heap.size w).alloc (Nat.le_refl _) _).alloc (by simp) _).trans (hb2.mono (by simp; omega))
  clear hb2
  have c0 : w2.cell? ⟨w.heap.size, 0, none⟩ = some (.string s) := k0.cell 0
  go_wp2_with fail
  refine calls_from (fun W => Blk W w.heap.size #[.string s] 9 ∧ Blk W (w.heap.size + 1) #[.string ⟨#[]⟩, .string ⟨#[]⟩] 51 ∧ Blk W w2.heap.size #[.string N, .string ⟨#[]⟩] 51 ∧ Below w.heap.size w W) ?_ ?_
  · exact ⟨k0.alloc _, k1.alloc _, Blk.new _ _ _, hb02.alloc hb02.size _⟩
  have HG : Hid (w2.heap.size ≠ w.heap.size + 1) := hide (by omega)
  have HG2 : Hid (w.heap.size ≤ w2.heap.size) := hide (by omega)
  clear c0 k0 k1 hz0 hz1 hb02
  generalize w2.heap.size = G at *
  rintro W ⟨k0, k1, k2, hbW⟩
  refine (unhide CP _).mono ?_
  rintro r w3 ⟨rfl, hb3⟩
  have hbZ := tr2 hbW hb3
  replace k0 := k0.later hb3
  replace k1 := k1.later hb3
  replace k2 := k2.later hb3
  clear hb3 hbW
  have c0 : w3.cell? ⟨w.heap.size, 0, none⟩ = some (.string s) := k0.cell 0
  have c1 : w3.cell? ⟨w.heap.size + 1, 0, none⟩ = some (.string ⟨#[]⟩) := k1.cell 0
  have c2 : w3.cell? ⟨w.heap.size + 1, 1, none⟩ = some (.string ⟨#[]⟩) := k1.cell 1
  have c3 : w3.cell? ⟨G, 0, none⟩ = some (.string N) := k2.cell 0
  have c4 : w3.cell? ⟨G, 1, none⟩ = some (.string ⟨#[]⟩) := k2.cell 1
  have f1 : w3.frozen? ⟨w.heap.size + 1, 0, none⟩ = false := k1.frozen 0
  have f2 : w3.frozen? ⟨w.heap.size + 1, 1, none⟩ = false := k1.frozen 1
  have K1 := hide k1
  have K2 := hide k2
  clear k0 k1 k2
  go_wp2_with fail
  refine (unhide CH _).mono ?_
  rintro r w4 ⟨rfl, hw4⟩
  obtain rfl : w3 = w4 := hw4.symm
  have m3 := (unhide HM).below hbZ
  have M3 := hide m3
  clear m3
  have hwr := wrap_small ((B : Int) + 1) (by omega) (by omega)
  go_wp2_with fail
  go_region_with (first
    | (go_at_call 66; refine (unhide CQ _).mono ?_; rintro e1 w5 ⟨rfl, hb5'⟩; have hb5 := tr2 (Below.drew (Below.refl w3.heap.size w3)) hb5'; have d0 : w5.cell? ⟨w.heap.size, 0, none⟩ = some (.string s) := cell_later hb5 c0; have M5 := hide ((unhide M3).below hb5))
    | (go_at_call 67; refine (unhide CV _ (unhide M5)).mono ?_; rintro e1 w6 ⟨rfl, hb6⟩))
  all_goals
    have hb36 := tr2 hb5 hb6
    have k1 := (unhide K1).later hb36
    have k2 := (unhide K2).later hb36
    have hbY := tr2 hbZ hb36
    clear c0 c1 c2 c3 c4 f1 f2 d0 hb36 hb5 hb5' hb6 M5 M3 CQ CV CH CP CL CS hwr hbZ K1 K2
    go_wp2_with fail
    refine (unhide CA _ ((unhide HT).below hbY)).mono ?_
    rintro e w7 ⟨rfl, hb7⟩
    replace hbY := tr2 hbY hb7
    replace k1 := k1.later hb7
    replace k2 := k2.later hb7
    have hGne : G ≠ w.heap.size + 1 := unhide HG
    have c1 : w7.cell? ⟨w.heap.size + 1, 0, none⟩ = some (.string ⟨#[]⟩) := k1.cell 0
    have c2 : w7.cell? ⟨w.heap.size + 1, 1, none⟩ = some (.string ⟨#[]⟩) := k1.cell 1
    have c3 : w7.cell? ⟨G, 0, none⟩ = some (.string N) := k2.cell 0
    have c4 : w7.cell? ⟨G, 1, none⟩ = some (.string ⟨#[]⟩) := k2.cell 1
    have f1 : w7.frozen? ⟨w.heap.size + 1, 0, none⟩ = false := k1.frozen 0
    have f2 : w7.frozen? ⟨w.heap.size + 1, 1, none⟩ = false := k1.frozen 1
    have f3 : w7.frozen? ⟨G, 1, none⟩ = false := k2.frozen 1
    have K1 := hide k1
    clear k1 k2 hb7
    go_wp2
    have k1 := (((unhide K1).away (b' := G) (o := 1) (Ne.symm hGne) (.string A)).set 0 (by decide) (.string N)).set 1 (by simp) (.string A)
    have d0 := k1.cell 0
    have d1 := k1.cell 1
    exact bodyPost_ret (v := .tuple #[attrV N A, .int .i64 (EE : Int)]) (by simp [results, Tryz.results48, go_sem, attrV, d0, d1]) rfl ⟨rfl, ((hbY.setCell (unhide HG2) _).setCell (by simp) _).setCell (by simp) _⟩
end Go.Proofs.YtakjlolmmoladaaGreatDoor
