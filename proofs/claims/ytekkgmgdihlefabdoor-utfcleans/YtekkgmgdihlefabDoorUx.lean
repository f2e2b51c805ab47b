/-
  What 'rectoref02.Clean' and 'rectoref02.Nth' do, as the plain functions say it.
-/
import Derived.Test.YtekkgmgdihlefabDoorUo
import Derived.Test.YtekkgmgdihlefabDoorUl
namespace Go.Proofs.YtekkgmgdihlefabDoor
open Go.RowKit
set_option linter.unusedVariables false

/-- A slice value that shows these numbers in a world. -/
def IView (w : World) (v : Value) (cs : List Int) : Prop :=
  ∃ a cap, v = .slice a cs.length cap ∧ (0 < cs.length → ∃ b off, a = some ⟨b, off, none⟩ ∧ ∀ i, i < cs.length → w.cell? ⟨b, off + i, none⟩ = some (.int .i64 (cs.getD i 0)))
theorem iview_of_owns {w : World} {base : Nat} {v : Value} {cs : List Int} {n : Nat} (hn : cs.length = n) (h : w.ownsRow base 3 1 v n (cs.map (Value.int .i64))) : IView w v cs := by
  subst hn
  obtain ⟨_, h⟩ := h
  rcases h with ⟨rfl, h0⟩ | ⟨g, cap, cur, rfl, h1, h2, h3, h4, h5, h6⟩
  · exact ⟨none, 0, by rw [h0], fun h => by omega⟩
  · refine ⟨some ⟨g, 0, none⟩, cap, rfl, fun _ => ⟨g, 0, rfl, fun i hi => ?_⟩⟩
    rw [Joins.cell_of_block h2]
    have e : cur.toList[i]? = some (.int .i64 (cs.getD i 0)) := by
      have : (cur.toList.take (cs.length * 1))[i]? = some (.int .i64 (cs.getD i 0)) := by
        rw [h6, List.getElem?_map, List.getD, List.getElem?_eq_getElem hi]; rfl
      rw [List.getElem?_take] at this
      rw [if_pos (by omega)] at this
      exact this
    simpa using e
theorem IView.below {w w1 : World} {v : Value} {cs : List Int} (h : IView w v cs) (hb : Below w.heap.size w w1) : IView w1 v cs := by
  obtain ⟨a, cap, rfl, hx⟩ := h
  refine ⟨a, cap, rfl, fun h0 => ?_⟩
  obtain ⟨b, off, rfl, hc⟩ := hx h0
  exact ⟨b, off, rfl, fun i hi => cell_later hb (hc i hi)⟩

theorem field_all (a : Option Addr) (n cap : Nat) (r : Bool) (w : World) : (Instr.field 37 (.agg #[.slice a n cap, .bool r]) 0).run Tryd.prog w = .ok (.slice a n cap) w := by kernel_rfl

def OfIs (s : ByteArray) (cs : List Int) (r : Bool) : Prop := ∀ w, Calls Tryd.prog 15 #[.string s] w fun e w' => ∃ v, e = .returned (.agg #[v, .bool r]) ∧ IView w' v cs ∧ Below w.heap.size w w'
theorem ofIs (s : ByteArray) (hs : s.size ≤ 3000) : OfIs s ((ch s.data.toList).map (·.1)) (rightB s.data.toList) := by
  intro w
  refine (of_any s w hs).mono fun e w' h => ?_
  obtain ⟨v, h1, h2, h3⟩ := h
  exact ⟨v, h1, iview_of_owns (by simp) h2, h3⟩

def flatU (cs : List Int) (k : Nat) : List UInt8 := ((cs.take k).map ub).flatten
theorem flat_take (cs : List Int) (k : Nat) (h : k < cs.length) : flatU cs (k + 1) = flatU cs k ++ ub (cs.getD k 0) := by
  have e : cs.getD k 0 = cs[k] := by rw [List.getD, List.getElem?_eq_getElem h]; rfl
  unfold flatU
  rw [e, List.take_succ_eq_append_getElem h, List.map_append, List.flatten_append]
  simp only [List.map_cons, List.map_nil, List.flatten_cons, List.flatten_nil, List.append_nil]
theorem flat_len (cs : List Int) : ∀ k, k ≤ cs.length → (flatU cs k).length ≤ 4 * k
  | 0, _ => by simp [flatU]
  | k + 1, h => by
    have ih := flat_len cs k (by omega)
    have h2 := sz_le (cs.getD k 0)
    rw [flat_take cs k (by omega), List.length_append, ub_len]
    omega

set_option maxHeartbeats 1000000 in
theorem rclean_main (s : ByteArray) (cs : List Int) (r : Bool) (w : World) (C : Hid (OfIs s cs r)) (hcs : ∀ c ∈ cs, isC c = true) (hlen : cs.length ≤ 3000) :
    Calls Tryd.prog 17 #[.string s] w fun e w' => e = .returned (.string (bs (cs.map ub).flatten)) ∧ Below w.heap.size w w' := by
  have HCS := hide hcs
  clear hcs
  go_enter Tryd.func17, Tryd.ntmps17
  go_wp2_with fail
  refine (unhide C _).mono ?_
  rintro e w1 ⟨v, rfl, hv, hb1⟩
  have HV := hide hv
  obtain ⟨a, cap, rfl, hx⟩ := hv
  have HX := hide hx
  clear hx
  generalize hn : cs.length = n at *
  have HN := hide hn.symm
  clear hn
  have hfa := field_all
  go_wp2
  by_cases h0 : n = 0
  · have hcn : cs = [] := List.eq_nil_of_length_eq_zero (by rw [← unhide HN]; exact h0)
    have HE := hide hcn
    clear hcn
    subst h0
    refine wp_loop_rounds 1 ?_
    rw [rounds_succ]; go_wp2
    go_ret
    exact ⟨by rw [unhide HE]; rfl, hb1⟩
  · obtain ⟨b, off, hab, hc⟩ := unhide HX (by omega)
    subst hab
    have HC := hide hc
    clear hc
    go_loopw [3, 10] (fun o i wr => ∃ k : Nat, k ≤ n ∧ i = .int .i64 k ∧ o = .string (bs (flatU cs k)) ∧ Below w1.heap.size w1 wr) (fun _ i _ => n - (intOf i).toNat)
    case atStart => exact ⟨0, Nat.zero_le _, rfl, rfl, Below.refl _ _⟩
    case round =>
      obtain ⟨k, hk, rfl, rfl, hbw⟩ := hrel
      have hsz := flat_len cs k (by rw [← unhide HN]; exact hk)
      rw [← bs_size] at hsz
      by_cases hlt : k < n
      · have hlti : (k : Int) < (n : Int) := by omega
        have hkl : k < cs.length := by rw [← unhide HN]; exact hlt
        obtain ⟨c, hcc⟩ : ∃ c, c = cs.getD k 0 := ⟨_, rfl⟩
        have c1 : wr.cell? ⟨b, off + k, none⟩ = some (.int .i64 c) := by rw [hcc]; exact cell_later hbw (unhide HC k hlt)
        have hic : isC c = true := by
          have e : cs.getD k 0 = cs[k] := by rw [List.getD, List.getElem?_eq_getElem hkl]; rfl
          rw [hcc, e]; exact unhide HCS _ (List.getElem_mem hkl)
        have htk := flat_take cs k hkl
        rw [← hcc] at htk
        have HT := hide htk
        have CB := hide (fun w => rbytes_char c w hic)
        have hq := sz_le c
        have hq2 : (str (ubI c)).size ≤ 4 := by rw [str_len]; omega
        clear htk hkl hcc hic
        go_wp2_with fail
        refine (unhide CB _).mono ?_
        rintro e w2 ⟨rfl, hb2⟩
        go_wp2
        go_roundw
        case rel => exact ⟨k + 1, by omega, by go_num, by rw [unhide HT, str_bs, bs_bs]; rfl, hbw.trans (hb2.mono hbw.size)⟩
        case measure => simp [intOf]; omega
      · have hkn : k = n := by omega
        have e : flatU cs k = (cs.map ub).flatten := by rw [hkn, unhide HN, flatU, List.take_length]
        have E := hide e
        clear hkn e
        go_wp2
        go_ret
        exact ⟨by rw [unhide E]; rfl, tr2 hb1 hbw⟩

theorem rclean_any (s : ByteArray) (w : World) (hs : s.size ≤ 3000) :
    Calls Tryd.prog 17 #[.string s] w fun e w' => e = .returned (.string (bs (cleanL s.data.toList))) ∧ Below w.heap.size w w' := by
  rw [cleanL_eq]
  refine rclean_main s _ _ w (hide (ofIs s hs)) ?_ ?_
  · intro c hc
    obtain ⟨p, hp, rfl⟩ := List.mem_map.1 hc
    exact ch_isC s.data.toList.length s.data.toList (Nat.le_refl _) p hp
  · have := ch_len s.size s.data.toList (by rw [data_len]; exact Nat.le_refl _)
    rw [data_len] at this
    simp; omega

/-! ### Nth -/

theorem nth_below (s : ByteArray) (n : Int) (w : World) (h : n < 0) :
    Calls Tryd.prog 14 #[.string s, .int .i64 n] w fun e w' => e = .returned (.tuple #[.int .i64 0, .int .i64 1]) ∧ Below w.heap.size w w' := by
  go_enter Tryd.func14, Tryd.ntmps14
  go_wp2
  go_ret2
  exact ⟨rfl, Below.refl _ _⟩

theorem nth_none (s : ByteArray) (n : Nat) (cs : List Int) (r : Bool) (w : World) (C : Hid (OfIs s cs r)) (h1 : n ≤ 9223372036854775807) (h2 : cs.length ≤ 3000) (h : cs.length ≤ n) :
    Calls Tryd.prog 14 #[.string s, .int .i64 n] w fun e w' => e = .returned (.tuple #[.int .i64 0, .int .i64 6]) ∧ Below w.heap.size w w' := by
  have h0 : (0 : Int) ≤ (n : Int) := by omega
  have h3 : (cs.length : Int) ≤ (n : Int) := by omega
  go_enter Tryd.func14, Tryd.ntmps14
  go_wp2_with fail
  refine (unhide C _).mono ?_
  rintro e w1 ⟨v, rfl, hv, hb1⟩
  obtain ⟨a, cap, rfl, hx⟩ := hv
  have HX := hide hx
  clear hx
  have hfa := field_all
  go_wp2
  go_ret2
  exact ⟨rfl, hb1⟩

theorem nth_some (s : ByteArray) (n : Nat) (cs : List Int) (r : Bool) (w : World) (C : Hid (OfIs s cs r)) (h1 : n ≤ 9223372036854775807) (h2 : cs.length ≤ 3000) (h : n < cs.length) :
    Calls Tryd.prog 14 #[.string s, .int .i64 n] w fun e w' => e = .returned (.tuple #[.int .i64 (cs.getD n 0), .int .i64 0]) ∧ Below w.heap.size w w' := by
  have h0 : (0 : Int) ≤ (n : Int) := by omega
  have h3 : (n : Int) < (cs.length : Int) := by omega
  obtain ⟨c, hcc⟩ : ∃ c, c = cs.getD n 0 := ⟨_, rfl⟩
  rw [← hcc]
  have HCC := hide hcc
  clear hcc
  go_enter Tryd.func14, Tryd.ntmps14
  go_wp2_with fail
  refine (unhide C _).mono ?_
  rintro e w1 ⟨v, rfl, hv, hb1⟩
  obtain ⟨a, cap, rfl, hx⟩ := hv
  obtain ⟨b, off, rfl, hc⟩ := hx (by omega)
  have c1 := hc n h
  rw [← unhide HCC] at c1
  clear hc
  have hfa := field_all
  go_wp2
  go_ret2
  exact ⟨rfl, hb1⟩

theorem ats_both (s : ByteArray) (n : Int) (hs : s.size ≤ 3000) (hn : n ≤ 9223372036854775807) : ∃ (c er : Int),
    (∀ w, Tabs w → Calls Tryd.prog 13 #[.string s, .int .i64 n] w fun e w' => e = .returned (.tuple #[.int .i64 c, .int .i64 er]) ∧ Below w.heap.size w w') ∧
    (∀ w, Calls Tryd.prog 14 #[.string s, .int .i64 n] w fun e w' => e = .returned (.tuple #[.int .i64 c, .int .i64 er]) ∧ Below w.heap.size w w') := by
  by_cases h : n < 0
  · exact ⟨_, _, fun w _ => at_below s n w h, fun w => nth_below s n w h⟩
  · obtain ⟨k, rfl⟩ := Int.eq_ofNat_of_zero_le (show 0 ≤ n by omega)
    have hlen := ch_len s.size s.data.toList (by rw [data_len]; exact Nat.le_refl _)
    rw [data_len] at hlen
    by_cases hk : k < (ch s.data.toList).length
    · refine ⟨((ch s.data.toList).map (·.1)).getD k 0, 0, fun w ht => ?_, fun w => nth_some s k _ _ w (hide (ofIs s hs)) (by omega) (by simp; omega) (by simpa using hk)⟩
      have := at_any s k w ht (by omega) (by omega)
      rw [List.getElem?_eq_getElem hk] at this
      have e : ((ch s.data.toList).map (·.1)).getD k 0 = ((ch s.data.toList)[k]).1 := by
        rw [List.getD, List.getElem?_map, List.getElem?_eq_getElem hk]; rfl
      rw [e]; exact this
    · refine ⟨0, 6, fun w ht => ?_, fun w => nth_none s k _ _ w (hide (ofIs s hs)) (by omega) (by simp; omega) (by simp; omega)⟩
      have := at_any s k w ht (by omega) (by omega)
      rw [List.getElem?_eq_none (by omega)] at this
      exact this
end Go.Proofs.YtekkgmgdihlefabDoor
