/-
  'policy.Plain': the plain policy, in new memory (made by mk_wpn.py).
-/
import Derived.Test.YtfdhmhdemfbfeaaGreatDoorMgAU
namespace Go.Proofs.YtfdhmhdemfbfeaaGreatDoor
open Go.RowKit
set_option linter.unusedVariables false
set_option linter.unusedSimpArgs false

def bareS : ByteArray := ⟨([112, 32, 100, 105, 118, 32, 104, 49, 32, 104, 50, 32, 104, 51, 32, 117, 108, 32, 111, 108, 32, 108, 105, 32, 98, 108, 111, 99, 107, 113, 117, 111, 116, 101, 32, 112, 114, 101, 32, 98, 32, 105, 32, 101, 109, 32, 115, 116, 114, 111, 110, 103, 32, 117, 32, 99, 111, 100, 101, 32, 98, 114, 32, 104, 114, 32, 115, 112, 97, 110, 32, 116, 97, 98, 108, 101, 32, 99, 97, 112, 116, 105, 111, 110, 32, 116, 98, 111, 100, 121, 32, 116, 104, 101, 97, 100, 32, 116, 114, 32, 116, 100, 32, 116, 104] : List UInt8).toArray⟩
def bareNs : List ByteArray := [⟨#[112]⟩, ⟨#[100, 105, 118]⟩, ⟨#[104, 49]⟩, ⟨#[104, 50]⟩, ⟨#[104, 51]⟩, ⟨#[117, 108]⟩, ⟨#[111, 108]⟩, ⟨#[108, 105]⟩, ⟨#[98, 108, 111, 99, 107, 113, 117, 111, 116, 101]⟩, ⟨#[112, 114, 101]⟩, ⟨#[98]⟩, ⟨#[105]⟩, ⟨#[101, 109]⟩, ⟨#[115, 116, 114, 111, 110, 103]⟩, ⟨#[117]⟩, ⟨#[99, 111, 100, 101]⟩, ⟨#[98, 114]⟩, ⟨#[104, 114]⟩, ⟨#[115, 112, 97, 110]⟩, ⟨#[116, 97, 98, 108, 101]⟩, ⟨#[99, 97, 112, 116, 105, 111, 110]⟩, ⟨#[116, 98, 111, 100, 121]⟩, ⟨#[116, 104, 101, 97, 100]⟩, ⟨#[116, 114]⟩, ⟨#[116, 100]⟩, ⟨#[116, 104]⟩]
theorem bare_is : txt (wordsL bareS.data.toList) = bareNs := by kernel_rfl
theorem bare_len : bareNs.length = 26 := rfl
def keptR (nm : ByteArray) : PRul := ⟨nm, 1, [], []⟩
def moreR : List PRul := [⟨⟨#[115, 101, 99, 116, 105, 111, 110]⟩, 1, [⟨#[99, 108, 97, 115, 115]⟩], []⟩, ⟨⟨#[97]⟩, 1, [⟨#[116, 105, 116, 108, 101]⟩], [⟨#[104, 114, 101, 102]⟩]⟩, ⟨⟨#[105, 109, 103]⟩, 1, [⟨#[97, 108, 116]⟩], [⟨#[115, 114, 99]⟩]⟩, ⟨⟨#[115, 99, 114, 105, 112, 116]⟩, 3, [], []⟩, ⟨⟨#[115, 116, 121, 108, 101]⟩, 3, [], []⟩]
/-- The plain policy. -/
def plainP : PPol := ⟨bareNs.map keptR ++ moreR, [⟨#[104, 116, 116, 112]⟩, ⟨#[104, 116, 116, 112, 115]⟩, ⟨#[109, 97, 105, 108, 116, 111]⟩], 2, 3⟩

/-- The cells of rules without attributes. -/
def flatR : List ByteArray → List Value
  | [] => []
  | n :: t => .string n :: .int .i64 1 :: .slice none 0 0 :: .slice none 0 0 :: flatR t
theorem flatR_len : ∀ ns : List ByteArray, (flatR ns).length = ns.length * 4
  | [] => rfl
  | n :: t => by
    have := flatR_len t
    simp only [flatR, List.length_cons]; omega
theorem flatR_app : ∀ (a b : List ByteArray), flatR (a ++ b) = flatR a ++ flatR b
  | [], b => rfl
  | n :: t, b => by rw [List.cons_append, flatR, flatR_app t b]; rfl
theorem flatR_one : ∀ ns : List ByteArray, ∀ u ∈ flatR ns, u.oneCell' = true
  | [], u, h => by simp [flatR] at h
  | n :: t, u, h => by
    simp only [flatR, List.mem_cons] at h
    rcases h with rfl | rfl | rfl | rfl | h
    · rfl
    · rfl
    · rfl
    · rfl
    · exact flatR_one t u h
theorem flatR_at : ∀ (ns : List ByteArray) (ys : List Value) (i : Nat), i < ns.length →
    (flatR ns ++ ys)[i * 4]? = some (.string (ns.getD i ByteArray.empty)) ∧ (flatR ns ++ ys)[i * 4 + 1]? = some (.int .i64 1) ∧ (flatR ns ++ ys)[i * 4 + 2]? = some (.slice none 0 0) ∧ (flatR ns ++ ys)[i * 4 + 3]? = some (.slice none 0 0)
  | [], _, i, h => by simp at h
  | n :: t, ys, 0, _ => ⟨rfl, rfl, rfl, rfl⟩
  | n :: t, ys, i + 1, h => by
    have := flatR_at t ys i (by simp at h; exact h)
    have e : (i + 1) * 4 = i * 4 + 4 := by omega
    rw [e]
    exact this
theorem take_next (ns : List ByteArray) (k : Nat) (h : k < ns.length) : ns.take (k + 1) = ns.take k ++ [ns.getD k ByteArray.empty] := by
  rw [List.take_add_one, List.getElem?_eq_getElem h, List.getD, List.getElem?_eq_getElem h]; rfl
theorem Tryz.infoRule : (Tryz.prog.info? 41).map (fun i => (i.zero, i.size, i.bytes)) = some (some (.agg #[.string ⟨#[]⟩, .int .i64 0, .slice none 0 0, .slice none 0 0]), 4, 72) := by kernel_rfl
theorem view1 {w : World} {g : Nat} {s : ByteArray} {t : TypeId} (h : Blk w g #[.string s] t) : ViewN w (.slice (some ⟨g, 0, none⟩) 1 1) [s] :=
  ⟨⟨by simp, _, 1, rfl, fun _ => ⟨g, 0, rfl, fun i hi => by
    have : i = 0 := by simp at hi; omega
    subst this
    exact h.cell 0⟩⟩, fun n c h => by cases h⟩

theorem cell_same {w w' : World} {i o : Nat} (h : w'.heap[i]? = w.heap[i]?) : w'.cell? ⟨i, o, none⟩ = w.cell? ⟨i, o, none⟩ := by
  unfold World.cell?; simp [h]
theorem row_cell {w : World} {base : Nat} {e : TypeId} {size : Nat} {v : Value} {n : Nat} {xs : List Value} (h : w.ownsRow base e size v n xs) (hn : 0 < n) :
    ∃ g cap, v = .slice (some ⟨g, 0, none⟩) n cap ∧ base ≤ g ∧ g < w.heap.size ∧ ∀ j u, xs[j]? = some u → w.cell? ⟨g, j, none⟩ = some u := by
  obtain ⟨hl, h⟩ := h
  rcases h with ⟨_, h0⟩ | ⟨g, cap, cur, h1, h2, h3, h4, h5, h6, h7⟩
  · omega
  · have hlt : g < w.heap.size := by
      rcases Nat.lt_or_ge g w.heap.size with h | h
      · exact h
      · rw [Array.getElem?_eq_none h] at h3; cases h3
    refine ⟨g, cap, h1, h2, hlt, fun j u hj => ?_⟩
    rw [Joins.cell_of_block h3]
    have hjl : j < xs.length := by
      rcases Nat.lt_or_ge j xs.length with h | h
      · exact h
      · rw [List.getElem?_eq_none h] at hj; cases hj
    rw [← h7, List.getElem?_take_of_lt (by rw [← hl]; exact hjl)] at hj
    simpa using hj

theorem blk_own {w w' : World} {b : Nat} {vs : Array Value} {t : TypeId} {row : Option Nat} (h : Blk w b vs t) (hg : w.grownBy w' row) (hr : some b ≠ row) : Blk w' b vs t := (hg.block b h.lt hr).trans h
theorem plain_at {w : World} {g b0 b1 b2 b3 b4 : Nat} (hc : ∀ j u, (flatR bareNs ++ [.string ⟨#[115, 101, 99, 116, 105, 111, 110]⟩, .int .i64 1, .slice (some ⟨b0, 0, none⟩) 1 1, .slice none 0 0, .string ⟨#[97]⟩, .int .i64 1, .slice (some ⟨b1, 0, none⟩) 1 1, .slice (some ⟨b2, 0, none⟩) 1 1, .string ⟨#[105, 109, 103]⟩, .int .i64 1, .slice (some ⟨b3, 0, none⟩) 1 1, .slice (some ⟨b4, 0, none⟩) 1 1, .string ⟨#[115, 99, 114, 105, 112, 116]⟩, .int .i64 3, .slice none 0 0, .slice none 0 0, .string ⟨#[115, 116, 121, 108, 101]⟩, .int .i64 3, .slice none 0 0, .slice none 0 0])[j]? = some u → w.cell? ⟨g, j, none⟩ = some u)
    (k0 : Blk w b0 #[.string ⟨#[99, 108, 97, 115, 115]⟩] 9) (k1 : Blk w b1 #[.string ⟨#[116, 105, 116, 108, 101]⟩] 9) (k2 : Blk w b2 #[.string ⟨#[104, 114, 101, 102]⟩] 9) (k3 : Blk w b3 #[.string ⟨#[97, 108, 116]⟩] 9) (k4 : Blk w b4 #[.string ⟨#[115, 114, 99]⟩] 9) :
    ∀ i, i < (bareNs.map keptR ++ moreR).length → RulAt w g (0 + i * 4) ((bareNs.map keptR ++ moreR).getD i noR) := by
  intro i hi
  have hl : (bareNs.map keptR ++ moreR).length = 31 := rfl
  rw [hl] at hi
  by_cases h26 : i < 26
  · obtain ⟨e0, e1, e2, e3⟩ := flatR_at bareNs [.string ⟨#[115, 101, 99, 116, 105, 111, 110]⟩, .int .i64 1, .slice (some ⟨b0, 0, none⟩) 1 1, .slice none 0 0, .string ⟨#[97]⟩, .int .i64 1, .slice (some ⟨b1, 0, none⟩) 1 1, .slice (some ⟨b2, 0, none⟩) 1 1, .string ⟨#[105, 109, 103]⟩, .int .i64 1, .slice (some ⟨b3, 0, none⟩) 1 1, .slice (some ⟨b4, 0, none⟩) 1 1, .string ⟨#[115, 99, 114, 105, 112, 116]⟩, .int .i64 3, .slice none 0 0, .slice none 0 0, .string ⟨#[115, 116, 121, 108, 101]⟩, .int .i64 3, .slice none 0 0, .slice none 0 0] i (by rw [bare_len]; exact h26)
    have er : (bareNs.map keptR ++ moreR).getD i noR = keptR (bareNs.getD i ByteArray.empty) := by
      rw [List.getD, List.getElem?_append_left (by rw [List.length_map, bare_len]; exact h26), List.getElem?_map, List.getD, List.getElem?_eq_getElem (by rw [bare_len]; exact h26)]; rfl
    rw [er, Nat.zero_add]
    exact ⟨_, _, hc _ _ e0, hc _ _ e1, hc _ _ e2, hc _ _ e3, viewN_nil w, viewN_nil w⟩
  · have : i = 26 ∨ i = 27 ∨ i = 28 ∨ i = 29 ∨ i = 30 := by omega
    rcases this with rfl | rfl | rfl | rfl | rfl
    · exact ⟨_, _, hc 104 _ rfl, hc 105 _ rfl, hc 106 _ rfl, hc 107 _ rfl, view1 k0, viewN_nil w⟩
    · exact ⟨_, _, hc 108 _ rfl, hc 109 _ rfl, hc 110 _ rfl, hc 111 _ rfl, view1 k1, view1 k2⟩
    · exact ⟨_, _, hc 112 _ rfl, hc 113 _ rfl, hc 114 _ rfl, hc 115 _ rfl, view1 k3, view1 k4⟩
    · exact ⟨_, _, hc 116 _ rfl, hc 117 _ rfl, hc 118 _ rfl, hc 119 _ rfl, viewN_nil w, viewN_nil w⟩
    · exact ⟨_, _, hc 120 _ rfl, hc 121 _ rfl, hc 122 _ rfl, hc 123 _ rfl, viewN_nil w, viewN_nil w⟩

set_option maxHeartbeats 4000000 in
set_option maxRecDepth 100000 in
theorem plain16_any (w : World) :
    Calls Tryz.prog 13 #[] w fun e w' => (∃ v, e = .returned v ∧ PolV w' v plainP) ∧ Below w.heap.size w w' := by
  have CW := hide (fun w => words_any bareS w (by decide))
  obtain ⟨i0, hi, hz0, hz1, hz2⟩ := info_parts Tryz.infoRule
  have hb0 := (Below.refl w.heap.size w).alloc (Nat.le_refl _) (Obj.cells #[.slice none 0 0, .slice none 0 0, .int .i64 0, .int .i64 0] 25)
  have KR := hide (Blk.new w #[.slice none 0 0, .slice none 0 0, .int .i64 0, .int .i64 0] 25)
  go_enter Tryz.func13, Tryz.ntmps13
  go_wp2_with fail
  refine (unhide CW _).mono ?_
  rintro e1 w1 ⟨vw, rfl, hrow, hb1⟩
  rw [bare_is] at hrow
  have KR1 := hide ((unhide KR).later hb1)
  have HB1 := hide (hb0.trans (hb1.mono (by simp)))
  have HVW := hide (view_of_owns hrow)
  obtain ⟨aw, mw, cw, hvw⟩ := slice_of hrow
  obtain ⟨gw, cpw, hvw2, _, hgw, hcw⟩ := row_cell hrow (by rw [bare_len]; omega)
  rw [bare_len] at hvw2
  subst hvw2
  have HCW : Hid (∀ k, k < 26 → w1.cell? ⟨gw, 0 + k, none⟩ = some (.string (bareNs.getD k ByteArray.empty))) := hide (fun k hk => by
    rw [Nat.zero_add]
    refine hcw k _ ?_
    rw [List.getElem?_map, List.getD, List.getElem?_eq_getElem (by rw [bare_len]; exact hk)]; rfl)
  have hrlt : w.heap.size < w1.heap.size := (unhide KR1).lt
  clear hb1 hb0 KR CW hrow hcw hvw HVW
  go_wp2
  go_loopw [1, 6] (fun x i wr => ∃ (k : Nat) (vn : Value), k ≤ 26 ∧ i = .int .i64 k ∧ vn = x ∧ wr.ownsRow w1.heap.size 41 4 vn k (flatR (bareNs.take k)) ∧ Below w1.heap.size w1 wr) (fun _ i _ => 26 - (intOf i).toNat)
  case atStart => exact ⟨0, _, by omega, rfl, rfl, World.ownsRow_nil _ _ _ _, Below.refl _ _⟩
  case round =>
    obtain ⟨k, vn, hk, rfl, rfl, hown, hbw⟩ := hrel
    have hsz := hbw.size
    by_cases hp : k < 26
    · have hpi : (k : Int) < 26 := by omega
      have d0 : wr.cell? ⟨gw, 0 + k, none⟩ = some (.string (bareNs.getD k ByteArray.empty)) := cell_on hbw (unhide HCW k hp)
      have hnx := hide (take_next bareNs k (by rw [bare_len]; exact hp))
      rw [Nat.zero_add] at d0
      generalize bareNs.getD k ByteArray.empty = nm at *
      go_wp2_with (at_builtin; refine wpList_append_own _ rfl _ _ 22 rfl w1.heap.size 41 i0 (.agg #[.string ⟨#[]⟩, .int .i64 0, .slice none 0 0, .slice none 0 0]) 4 72 Tryz.underlying22 hi hz0 hz1 hz2 rfl (by decide) _ _ _ rfl (hown.alloc _) ⟨wr.heap.size, 0, none⟩ 1 1 [.string nm, .int .i64 1, .slice none 0 0, .slice none 0 0] rfl rfl ?c1 ?c2 ?c3 ?c4 ?c5 ?_)
      case c1 =>
        intro j u hj
        have e2 : (⟨wr.heap.size, 0, none⟩ : Addr).add j = ⟨wr.heap.size, j, none⟩ := by unfold Addr.add; split <;> simp_all
        rw [e2, (Blk.new wr _ _).cell j]
        simpa using hj
      case c2 => intro u hu; simp at hu; rcases hu with rfl | rfl | rfl | rfl <;> rfl
      case c3 => unfold maxLen; omega
      case c4 => omega
      case c5 => simp; omega
      intro v' w2 hown' hgrow _
      have hbig : Below w1.heap.size w1 w2 := (hbw.alloc hsz _).grown hgrow (by simp; omega) (fun j hj => (hown.lt j hj).1)
      clear hgrow
      go_wp2
      go_roundw
      case rel => exact ⟨k + 1, _, by omega, by go_num, rfl, by rw [unhide hnx, flatR_app]; exact hown', hbig⟩
      case measure => simp [intOf]; omega
    · have hkn : k = 26 := by omega
      have hown2 := hown
      rw [hkn, show bareNs.take 26 = bareNs from rfl] at hown2
      have HO2 := hide hown2
      obtain ⟨qn, mn, cn, hvn⟩ := slice_of hown
      subst hvn
      clear hown hown2
      have HK5 : Hid (Blk ((((((wr.alloc (Obj.cells #[.string ⟨#[99, 108, 97, 115, 115]⟩] 9)).alloc (Obj.cells #[.string ⟨#[116, 105, 116, 108, 101]⟩] 9)).alloc (Obj.cells #[.string ⟨#[104, 114, 101, 102]⟩] 9)).alloc (Obj.cells #[.string ⟨#[97, 108, 116]⟩] 9)).alloc (Obj.cells #[.string ⟨#[115, 114, 99]⟩] 9)).alloc (Obj.cells #[.string ⟨#[115, 101, 99, 116, 105, 111, 110]⟩, .int .i64 1, .slice (some ⟨wr.heap.size, 0, none⟩) 1 1, .slice none 0 0, .string ⟨#[97]⟩, .int .i64 1, .slice (some ⟨wr.heap.size + 1, 0, none⟩) 1 1, .slice (some ⟨wr.heap.size + 2, 0, none⟩) 1 1, .string ⟨#[105, 109, 103]⟩, .int .i64 1, .slice (some ⟨wr.heap.size + 3, 0, none⟩) 1 1, .slice (some ⟨wr.heap.size + 4, 0, none⟩) 1 1, .string ⟨#[115, 99, 114, 105, 112, 116]⟩, .int .i64 3, .slice none 0 0, .slice none 0 0, .string ⟨#[115, 116, 121, 108, 101]⟩, .int .i64 3, .slice none 0 0, .slice none 0 0] 41)) (wr.heap.size + 5) #[.string ⟨#[115, 101, 99, 116, 105, 111, 110]⟩, .int .i64 1, .slice (some ⟨wr.heap.size, 0, none⟩) 1 1, .slice none 0 0, .string ⟨#[97]⟩, .int .i64 1, .slice (some ⟨wr.heap.size + 1, 0, none⟩) 1 1, .slice (some ⟨wr.heap.size + 2, 0, none⟩) 1 1, .string ⟨#[105, 109, 103]⟩, .int .i64 1, .slice (some ⟨wr.heap.size + 3, 0, none⟩) 1 1, .slice (some ⟨wr.heap.size + 4, 0, none⟩) 1 1, .string ⟨#[115, 99, 114, 105, 112, 116]⟩, .int .i64 3, .slice none 0 0, .slice none 0 0, .string ⟨#[115, 116, 121, 108, 101]⟩, .int .i64 3, .slice none 0 0, .slice none 0 0] 41) := hide (blk_next (by simp))
      have HK0 : Hid (Blk ((((((wr.alloc (Obj.cells #[.string ⟨#[99, 108, 97, 115, 115]⟩] 9)).alloc (Obj.cells #[.string ⟨#[116, 105, 116, 108, 101]⟩] 9)).alloc (Obj.cells #[.string ⟨#[104, 114, 101, 102]⟩] 9)).alloc (Obj.cells #[.string ⟨#[97, 108, 116]⟩] 9)).alloc (Obj.cells #[.string ⟨#[115, 114, 99]⟩] 9)).alloc (Obj.cells #[.string ⟨#[115, 101, 99, 116, 105, 111, 110]⟩, .int .i64 1, .slice (some ⟨wr.heap.size, 0, none⟩) 1 1, .slice none 0 0, .string ⟨#[97]⟩, .int .i64 1, .slice (some ⟨wr.heap.size + 1, 0, none⟩) 1 1, .slice (some ⟨wr.heap.size + 2, 0, none⟩) 1 1, .string ⟨#[105, 109, 103]⟩, .int .i64 1, .slice (some ⟨wr.heap.size + 3, 0, none⟩) 1 1, .slice (some ⟨wr.heap.size + 4, 0, none⟩) 1 1, .string ⟨#[115, 99, 114, 105, 112, 116]⟩, .int .i64 3, .slice none 0 0, .slice none 0 0, .string ⟨#[115, 116, 121, 108, 101]⟩, .int .i64 3, .slice none 0 0, .slice none 0 0] 41)) (wr.heap.size) #[.string ⟨#[99, 108, 97, 115, 115]⟩] 9) := hide ((((((Blk.new wr _ _).alloc _).alloc _).alloc _).alloc _).alloc _)
      have HK1 : Hid (Blk ((((((wr.alloc (Obj.cells #[.string ⟨#[99, 108, 97, 115, 115]⟩] 9)).alloc (Obj.cells #[.string ⟨#[116, 105, 116, 108, 101]⟩] 9)).alloc (Obj.cells #[.string ⟨#[104, 114, 101, 102]⟩] 9)).alloc (Obj.cells #[.string ⟨#[97, 108, 116]⟩] 9)).alloc (Obj.cells #[.string ⟨#[115, 114, 99]⟩] 9)).alloc (Obj.cells #[.string ⟨#[115, 101, 99, 116, 105, 111, 110]⟩, .int .i64 1, .slice (some ⟨wr.heap.size, 0, none⟩) 1 1, .slice none 0 0, .string ⟨#[97]⟩, .int .i64 1, .slice (some ⟨wr.heap.size + 1, 0, none⟩) 1 1, .slice (some ⟨wr.heap.size + 2, 0, none⟩) 1 1, .string ⟨#[105, 109, 103]⟩, .int .i64 1, .slice (some ⟨wr.heap.size + 3, 0, none⟩) 1 1, .slice (some ⟨wr.heap.size + 4, 0, none⟩) 1 1, .string ⟨#[115, 99, 114, 105, 112, 116]⟩, .int .i64 3, .slice none 0 0, .slice none 0 0, .string ⟨#[115, 116, 121, 108, 101]⟩, .int .i64 3, .slice none 0 0, .slice none 0 0] 41)) (wr.heap.size + 1) #[.string ⟨#[116, 105, 116, 108, 101]⟩] 9) := hide (((((blk_next (by simp)).alloc _).alloc _).alloc _).alloc _)
      have HK2 : Hid (Blk ((((((wr.alloc (Obj.cells #[.string ⟨#[99, 108, 97, 115, 115]⟩] 9)).alloc (Obj.cells #[.string ⟨#[116, 105, 116, 108, 101]⟩] 9)).alloc (Obj.cells #[.string ⟨#[104, 114, 101, 102]⟩] 9)).alloc (Obj.cells #[.string ⟨#[97, 108, 116]⟩] 9)).alloc (Obj.cells #[.string ⟨#[115, 114, 99]⟩] 9)).alloc (Obj.cells #[.string ⟨#[115, 101, 99, 116, 105, 111, 110]⟩, .int .i64 1, .slice (some ⟨wr.heap.size, 0, none⟩) 1 1, .slice none 0 0, .string ⟨#[97]⟩, .int .i64 1, .slice (some ⟨wr.heap.size + 1, 0, none⟩) 1 1, .slice (some ⟨wr.heap.size + 2, 0, none⟩) 1 1, .string ⟨#[105, 109, 103]⟩, .int .i64 1, .slice (some ⟨wr.heap.size + 3, 0, none⟩) 1 1, .slice (some ⟨wr.heap.size + 4, 0, none⟩) 1 1, .string ⟨#[115, 99, 114, 105, 112, 116]⟩, .int .i64 3, .slice none 0 0, .slice none 0 0, .string ⟨#[115, 116, 121, 108, 101]⟩, .int .i64 3, .slice none 0 0, .slice none 0 0] 41)) (wr.heap.size + 2) #[.string ⟨#[104, 114, 101, 102]⟩] 9) := hide ((((blk_next (by simp)).alloc _).alloc _).alloc _)
      have HK3 : Hid (Blk ((((((wr.alloc (Obj.cells #[.string ⟨#[99, 108, 97, 115, 115]⟩] 9)).alloc (Obj.cells #[.string ⟨#[116, 105, 116, 108, 101]⟩] 9)).alloc (Obj.cells #[.string ⟨#[104, 114, 101, 102]⟩] 9)).alloc (Obj.cells #[.string ⟨#[97, 108, 116]⟩] 9)).alloc (Obj.cells #[.string ⟨#[115, 114, 99]⟩] 9)).alloc (Obj.cells #[.string ⟨#[115, 101, 99, 116, 105, 111, 110]⟩, .int .i64 1, .slice (some ⟨wr.heap.size, 0, none⟩) 1 1, .slice none 0 0, .string ⟨#[97]⟩, .int .i64 1, .slice (some ⟨wr.heap.size + 1, 0, none⟩) 1 1, .slice (some ⟨wr.heap.size + 2, 0, none⟩) 1 1, .string ⟨#[105, 109, 103]⟩, .int .i64 1, .slice (some ⟨wr.heap.size + 3, 0, none⟩) 1 1, .slice (some ⟨wr.heap.size + 4, 0, none⟩) 1 1, .string ⟨#[115, 99, 114, 105, 112, 116]⟩, .int .i64 3, .slice none 0 0, .slice none 0 0, .string ⟨#[115, 116, 121, 108, 101]⟩, .int .i64 3, .slice none 0 0, .slice none 0 0] 41)) (wr.heap.size + 3) #[.string ⟨#[97, 108, 116]⟩] 9) := hide (((blk_next (by simp)).alloc _).alloc _)
      have HK4 : Hid (Blk ((((((wr.alloc (Obj.cells #[.string ⟨#[99, 108, 97, 115, 115]⟩] 9)).alloc (Obj.cells #[.string ⟨#[116, 105, 116, 108, 101]⟩] 9)).alloc (Obj.cells #[.string ⟨#[104, 114, 101, 102]⟩] 9)).alloc (Obj.cells #[.string ⟨#[97, 108, 116]⟩] 9)).alloc (Obj.cells #[.string ⟨#[115, 114, 99]⟩] 9)).alloc (Obj.cells #[.string ⟨#[115, 101, 99, 116, 105, 111, 110]⟩, .int .i64 1, .slice (some ⟨wr.heap.size, 0, none⟩) 1 1, .slice none 0 0, .string ⟨#[97]⟩, .int .i64 1, .slice (some ⟨wr.heap.size + 1, 0, none⟩) 1 1, .slice (some ⟨wr.heap.size + 2, 0, none⟩) 1 1, .string ⟨#[105, 109, 103]⟩, .int .i64 1, .slice (some ⟨wr.heap.size + 3, 0, none⟩) 1 1, .slice (some ⟨wr.heap.size + 4, 0, none⟩) 1 1, .string ⟨#[115, 99, 114, 105, 112, 116]⟩, .int .i64 3, .slice none 0 0, .slice none 0 0, .string ⟨#[115, 116, 121, 108, 101]⟩, .int .i64 3, .slice none 0 0, .slice none 0 0] 41)) (wr.heap.size + 4) #[.string ⟨#[115, 114, 99]⟩] 9) := hide ((blk_next (by simp)).alloc _)
      have HA6 : Hid (Below w1.heap.size w1 ((((((wr.alloc (Obj.cells #[.string ⟨#[99, 108, 97, 115, 115]⟩] 9)).alloc (Obj.cells #[.string ⟨#[116, 105, 116, 108, 101]⟩] 9)).alloc (Obj.cells #[.string ⟨#[104, 114, 101, 102]⟩] 9)).alloc (Obj.cells #[.string ⟨#[97, 108, 116]⟩] 9)).alloc (Obj.cells #[.string ⟨#[115, 114, 99]⟩] 9)).alloc (Obj.cells #[.string ⟨#[115, 101, 99, 116, 105, 111, 110]⟩, .int .i64 1, .slice (some ⟨wr.heap.size, 0, none⟩) 1 1, .slice none 0 0, .string ⟨#[97]⟩, .int .i64 1, .slice (some ⟨wr.heap.size + 1, 0, none⟩) 1 1, .slice (some ⟨wr.heap.size + 2, 0, none⟩) 1 1, .string ⟨#[105, 109, 103]⟩, .int .i64 1, .slice (some ⟨wr.heap.size + 3, 0, none⟩) 1 1, .slice (some ⟨wr.heap.size + 4, 0, none⟩) 1 1, .string ⟨#[115, 99, 114, 105, 112, 116]⟩, .int .i64 3, .slice none 0 0, .slice none 0 0, .string ⟨#[115, 116, 121, 108, 101]⟩, .int .i64 3, .slice none 0 0, .slice none 0 0] 41))) := hide ((((((hbw.alloc hsz _).alloc (by simp; omega) _).alloc (by simp; omega) _).alloc (by simp; omega) _).alloc (by simp; omega) _).alloc (by simp; omega) _)
      have hone : Hid (∀ u ∈ ([.string ⟨#[115, 101, 99, 116, 105, 111, 110]⟩, .int .i64 1, .slice (some ⟨wr.heap.size, 0, none⟩) 1 1, .slice none 0 0, .string ⟨#[97]⟩, .int .i64 1, .slice (some ⟨wr.heap.size + 1, 0, none⟩) 1 1, .slice (some ⟨wr.heap.size + 2, 0, none⟩) 1 1, .string ⟨#[105, 109, 103]⟩, .int .i64 1, .slice (some ⟨wr.heap.size + 3, 0, none⟩) 1 1, .slice (some ⟨wr.heap.size + 4, 0, none⟩) 1 1, .string ⟨#[115, 99, 114, 105, 112, 116]⟩, .int .i64 3, .slice none 0 0, .slice none 0 0, .string ⟨#[115, 116, 121, 108, 101]⟩, .int .i64 3, .slice none 0 0, .slice none 0 0] : List Value), u.oneCell' = true) := hide (by
        intro u hu
        simp only [List.mem_cons, List.not_mem_nil, or_false] at hu
        rcases hu with rfl | rfl | rfl | rfl | rfl | rfl | rfl | rfl | rfl | rfl | rfl | rfl | rfl | rfl | rfl | rfl | rfl | rfl | rfl | rfl <;> rfl)
      go_wp2_with (at_builtin; refine wpList_append_own _ rfl _ _ 22 rfl w1.heap.size 41 i0 (.agg #[.string ⟨#[]⟩, .int .i64 0, .slice none 0 0, .slice none 0 0]) 4 72 Tryz.underlying22 hi hz0 hz1 hz2 rfl (by decide) _ 26 (flatR bareNs) rfl (((((((unhide HO2).alloc _).alloc _).alloc _).alloc _).alloc _).alloc _) ⟨wr.heap.size + 5, 0, none⟩ 5 5 [.string ⟨#[115, 101, 99, 116, 105, 111, 110]⟩, .int .i64 1, .slice (some ⟨wr.heap.size, 0, none⟩) 1 1, .slice none 0 0, .string ⟨#[97]⟩, .int .i64 1, .slice (some ⟨wr.heap.size + 1, 0, none⟩) 1 1, .slice (some ⟨wr.heap.size + 2, 0, none⟩) 1 1, .string ⟨#[105, 109, 103]⟩, .int .i64 1, .slice (some ⟨wr.heap.size + 3, 0, none⟩) 1 1, .slice (some ⟨wr.heap.size + 4, 0, none⟩) 1 1, .string ⟨#[115, 99, 114, 105, 112, 116]⟩, .int .i64 3, .slice none 0 0, .slice none 0 0, .string ⟨#[115, 116, 121, 108, 101]⟩, .int .i64 3, .slice none 0 0, .slice none 0 0] rfl rfl ?d1 (unhide hone) ?d3 ?d4 ?d5 ?_)
      case d1 =>
        intro j u hj
        have e2 : (⟨wr.heap.size + 5, 0, none⟩ : Addr).add j = ⟨wr.heap.size + 5, j, none⟩ := by unfold Addr.add; split <;> simp_all
        rw [e2, (unhide HK5).cell j]
        simpa using hj
      case d3 => unfold maxLen; omega
      case d4 => omega
      case d5 => exact (unhide HA6).size
      intro v3 w3 hown3 hgrow3 _
      obtain ⟨g3, cp3, hv3, hg3a, hg3, hc3⟩ := row_cell hown3 (by omega)
      have HB3 : Hid (Below w1.heap.size w1 w3) := hide ((unhide HA6).grown hgrow3 (unhide HA6).size (fun j hj => ((unhide HO2).lt j hj).1))
      have hne : ∀ b, wr.heap.size ≤ b → some b ≠ (Value.slice qn mn cn).ownBlock := fun b hb e => by
        have := ((unhide HO2).lt b e.symm).2
        omega
      have KB0 := hide (blk_own (unhide HK0) hgrow3 (hne _ (by omega)))
      have KB1 := hide (blk_own (unhide HK1) hgrow3 (hne _ (by omega)))
      have KB2 := hide (blk_own (unhide HK2) hgrow3 (hne _ (by omega)))
      have KB3 := hide (blk_own (unhide HK3) hgrow3 (hne _ (by omega)))
      have KB4 := hide (blk_own (unhide HK4) hgrow3 (hne _ (by omega)))
      have KR3 := hide ((unhide KR1).below (unhide HB3) hrlt)
      have HC3 := hide hc3
      have HBw : Hid (Below w.heap.size w w3) := hide ((unhide HB1).trans ((unhide HB3).mono (by omega)))
      subst hv3
      clear hgrow3 hown3 hc3 hne HO2 HA6 hone HK5 HK0 HK1 HK2 HK3 HK4
      have x0 : w3.cell? ⟨w.heap.size, 0, none⟩ = some (.slice none 0 0) := (unhide KR3).cell 0
      have x1 : w3.cell? ⟨w.heap.size, 1, none⟩ = some (.slice none 0 0) := (unhide KR3).cell 1
      have x2 : w3.cell? ⟨w.heap.size, 2, none⟩ = some (.int .i64 0) := (unhide KR3).cell 2
      have x3 : w3.cell? ⟨w.heap.size, 3, none⟩ = some (.int .i64 0) := (unhide KR3).cell 3
      have y0 := (unhide KR3).frozen 0
      have y1 := (unhide KR3).frozen 1
      have y2 := (unhide KR3).frozen 2
      have y3 := (unhide KR3).frozen 3
      have hrw3 : w.heap.size < w3.heap.size := (unhide KR3).lt
      go_wp2
      have kk := (((((unhide KR3).set 0 (by simp) (.slice (some ⟨g3, 0, none⟩) 31 cp3)).set 1 (by simp) (.slice (some ⟨w3.heap.size, 0, none⟩) 3 3)).set 2 (by simp) (.int .i64 2)).set 3 (by simp) (.int .i64 3)).alloc (Obj.cells #[.string ⟨#[104, 116, 116, 112]⟩, .string ⟨#[104, 116, 116, 112, 115]⟩, .string ⟨#[109, 97, 105, 108, 116, 111]⟩] 9)
      have dd0 := kk.cell 0
      have dd1 := kk.cell 1
      have dd2 := kk.cell 2
      have dd3 := kk.cell 3
      refine bodyPost_ret (v := .agg #[.slice (some ⟨g3, 0, none⟩) 31 cp3, .slice (some ⟨w3.heap.size, 0, none⟩) 3 3, .int .i64 2, .int .i64 3]) (by simp [results, Tryz.results13, go_sem, dd0, dd1, dd2, dd3]) rfl ?_
      have hcz : Cz w.heap.size w3 ((((w3.setCell ⟨w.heap.size, 0, none⟩ (.slice (some ⟨g3, 0, none⟩) 31 cp3)).setCell ⟨w.heap.size, 1, none⟩ (.slice (some ⟨w3.heap.size, 0, none⟩) 3 3)).setCell ⟨w.heap.size, 2, none⟩ (.int .i64 2)).setCell ⟨w.heap.size, 3, none⟩ (.int .i64 3)) := ((((Cz.refl _ _).set _).set _).set _).set _
      have hsz4 : ((((w3.setCell ⟨w.heap.size, 0, none⟩ (.slice (some ⟨g3, 0, none⟩) 31 cp3)).setCell ⟨w.heap.size, 1, none⟩ (.slice (some ⟨w3.heap.size, 0, none⟩) 3 3)).setCell ⟨w.heap.size, 2, none⟩ (.int .i64 2)).setCell ⟨w.heap.size, 3, none⟩ (.int .i64 3)).heap.size = w3.heap.size := by simp
      refine ⟨⟨_, rfl, _, _, rfl, ⟨by decide, some ⟨g3, 0, none⟩, cp3, rfl, fun _ => ⟨g3, 0, rfl, plain_at (b0 := wr.heap.size) (b1 := wr.heap.size + 1) (b2 := wr.heap.size + 2) (b3 := wr.heap.size + 3) (b4 := wr.heap.size + 4) ?_ ?_ ?_ ?_ ?_ ?_⟩⟩, ⟨by decide, _, 3, rfl, fun _ => ⟨w3.heap.size, 0, rfl, ?_⟩⟩⟩, ?_⟩
      · intro j u hj
        have := unhide HC3 j u hj
        have h2 := (cell_same (hcz.2 g3 hg3 (by omega)) (o := j)).trans this
        exact cell_on ((Below.refl _ _).alloc (Nat.le_refl _) _) h2
      · exact (hcz.blk (unhide KB0) (by omega)).alloc _
      · exact (hcz.blk (unhide KB1) (by omega)).alloc _
      · exact (hcz.blk (unhide KB2) (by omega)).alloc _
      · exact (hcz.blk (unhide KB3) (by omega)).alloc _
      · exact (hcz.blk (unhide KB4) (by omega)).alloc _
      · intro i hi
        have hs3 := blk_next (vs := #[.string ⟨#[104, 116, 116, 112]⟩, .string ⟨#[104, 116, 116, 112, 115]⟩, .string ⟨#[109, 97, 105, 108, 116, 111]⟩]) (t := 9) hsz4.symm
        have : i = 0 ∨ i = 1 ∨ i = 2 := by have : i < 3 := hi; omega
        rcases this with rfl | rfl | rfl
        · exact hs3.cell 0
        · exact hs3.cell 1
        · exact hs3.cell 2
      · exact (((((unhide HBw).setCell (by simp) _).setCell (by simp) _).setCell (by simp) _).setCell (by simp) _).alloc (by simp; omega) _
end Go.Proofs.YtfdhmhdemfbfeaaGreatDoor
