/-
  Several texts in one: what the functions of the program and of the document's answer do.
-/
import Derived.Test.YtfbgpodcdgmpjaaDoorXJo
import Derived.Test.YtfbgpodcdgmpjaaDoorXLi

/-
  What 'words.Old', 'New', 'Marked' and 'Texts' do (made by mk_xtx.py).
-/
namespace Go.Proofs.YtfbgpodcdgmpjaaDoor
open Go.RowKit
set_option linter.unusedVariables false
set_option linter.unusedSimpArgs false

theorem kinds_two (w : World) (x y : Int) : ∀ j, j < [x, y].length → (w.alloc (Obj.cells #[.int .i64 x, .int .i64 y] 3)).cell? ⟨w.heap.size, 0 + j, none⟩ = some (.int .i64 ([x, y].getD j 0)) := by
  intro j hj
  have k := Blk.new w #[.int .i64 x, .int .i64 y] 3
  have hj' : j < 2 := hj
  rcases j with _ | _ | j
  · exact k.cell 0
  · exact k.cell 1
  · omega
set_option maxHeartbeats 1000000 in
theorem old_any (q : Option Addr) (c : Nat) (L : List Pc) (w : World) (hL : PcA w q L) (hl : L.length ≤ 1000000) (hs : (toldF (ifK (inK [1, 2])) L).length ≤ 140737488355328) :
    Calls Tryd.prog 12 #[.slice q L.length c] w fun e w' => e = .returned (.string (bs (toldF (ifK (inK [1, 2])) L))) ∧ Below w.heap.size w w' := by
  have hb : Below w.heap.size w (w.alloc (Obj.cells #[.int .i64 1, .int .i64 2] 3)) := (Below.refl _ _).alloc (Nat.le_refl _) _
  have CI := hide (textIf_any w.heap.size [1, 2] _ (kinds_two w 1 2))
  have CT := hide (fun (bx : Nat) (W : World) (hW : Below w.heap.size w W) (hk : KindsAt W bx [1, 2]) => told_if bx [1, 2] q c L W (hL.below hW) hk (by decide) hl hs)
  have HB := hide hb
  clear hL hl hs hb
  generalize toldF (ifK (inK [1, 2])) L = tt at *
  generalize L.length = n at *
  go_enter Tryd.func12, Tryd.ntmps12
  go_wp2_with fail
  refine Calls.mono (unhide CI) ?_
  rintro e w1 ⟨rfl, hk, hb1⟩
  have HB1 := hide (tr2 (unhide HB) hb1)
  have CT1 := hide (unhide CT _ w1 (unhide HB1) hk)
  simp only [World.alloc, Array.size_push] at CT1
  clear hk hb1 CI
  go_wp2_with fail
  refine Calls.mono (unhide CT1) ?_
  rintro e w2 ⟨rfl, hb2⟩
  have HB2 := hide (tr2 (unhide HB1) hb2)
  clear hb2
  go_wp2
  go_ret
  exact ⟨rfl, unhide HB2⟩
theorem marked_all (q : Option Addr) (c : Nat) (L : List Pc) (w : World) (hL : PcA w q L) (ht : ∀ p ∈ L, p.2.size ≤ 1000000000000000) (hl : L.length ≤ 1000000) (hs : (toldF mkF L).length ≤ 140737488355328) :
    Calls Tryd.prog 11 #[.slice q L.length c] w fun e w' => e = .returned (.string (bs (toldF mkF L))) ∧ Below w.heap.size w w' := by
  have CT := hide (told_mk q c L w hL ht hl hs)
  clear hL hl hs ht
  generalize toldF mkF L = tt at *
  generalize L.length = n at *
  go_enter Tryd.func11, Tryd.ntmps11
  go_wp2_with fail
  refine Calls.mono (unhide CT) ?_
  rintro e w2 ⟨rfl, hb2⟩
  have HB2 := hide hb2
  clear hb2
  go_wp2
  go_ret
  exact ⟨rfl, unhide HB2⟩
/-- The pieces of two texts, ahead of joining. -/
def shP (a b : List UInt8) : List Pc := lsP (bsL (grp a)) (bsL (grp b)) 0 0 (lnP (eqT (bsL (grp a)) (bsL (grp b))) (bsL (grp a)).length (bsL (grp b)).length 0 0)
def rwP (a b : ByteArray) : List Pc := if (longB a.data.toList || longB b.data.toList) = true then [(2, a), (3, b)] else shP a.data.toList b.data.toList
theorem mem_flatten_le : ∀ (gs : List (List UInt8)) (g : List UInt8), g ∈ gs → g.length ≤ gs.flatten.length
  | [], g, h => by cases h
  | x :: r, g, h => by
    rw [List.flatten_cons, List.length_append]
    rcases List.mem_cons.1 h with rfl | h
    · omega
    · have := mem_flatten_le r g h; omega
theorem bsL_mem {l : List UInt8} {t : ByteArray} (h : t ∈ bsL (grp l)) : t.size ≤ l.length ∧ t.data.toList ≠ [] := by
  obtain ⟨g, hg, rfl⟩ := List.mem_map.1 h
  rw [bs_size, bs_toList]
  have := mem_flatten_le _ g hg
  rw [grp_flatten] at this
  exact ⟨this, (wordsOk_mem (grp_ok l) g hg).1⟩
theorem tx_mem (l : List ByteArray) (k : Nat) (h : k < l.length) : tx l k ∈ l := getD_mem l k h
theorem szP_le (B : Nat) : ∀ L : List Pc, (∀ p ∈ L, p.2.size ≤ B) → szP L ≤ L.length * B
  | [], _ => by simp [szP]
  | x :: r, h => by
    have h1 := szP_le B r (fun p hp => h p (List.mem_cons_of_mem _ hp))
    have h2 := h x (List.mem_cons_self ..)
    rw [szP_cons, List.length_cons, Nat.add_mul]
    omega
theorem shP_rise (a b : List UInt8) : RiseFrom (eqT (bsL (grp a)) (bsL (grp b))) (bsL (grp a)).length (bsL (grp b)).length 0 0 (lnP (eqT (bsL (grp a)) (bsL (grp b))) (bsL (grp a)).length (bsL (grp b)).length 0 0) := lnP_rises _ _ _ 0 0
theorem shP_mem (a b : List UInt8) (p : Pc) (h : p ∈ shP a b) : p.2.size ≤ a.length + b.length ∧ p.2.data.toList ≠ [] := by
  rcases lsP_mem _ _ _ _ _ (shP_rise a b) p h with h | h
  · have := bsL_mem h; exact ⟨by omega, this.2⟩
  · have := bsL_mem h; exact ⟨by omega, this.2⟩
theorem shP_len (a b : List UInt8) : (shP a b).length ≤ (grp a).length + (grp b).length := by
  have := lsP_len _ _ _ _ _ (shP_rise a b)
  rw [bsL_len, bsL_len] at this
  unfold shP
  rw [bsL_len, bsL_len]
  omega
theorem jok_rw (a b : ByteArray) : JOk (rwP a b) := by
  unfold rwP
  split
  · exact Or.inr ⟨a, b, rfl⟩
  · exact Or.inl fun p hp => (shP_mem _ _ p hp).2
theorem rwP_small (a b : ByteArray) (ha : a.size ≤ 100000) (hb : b.size ≤ 100000) : (rwP a b).length ≤ 200000 ∧ szP (rwP a b) ≤ 100000000000 ∧ ∀ p ∈ rwP a b, p.2.size ≤ 200000 := by
  have hm : ∀ p ∈ rwP a b, p.2.size ≤ 200000 := by
    intro p hp
    unfold rwP at hp
    split at hp
    · simp only [List.mem_cons, List.not_mem_nil, or_false] at hp
      rcases hp with rfl | rfl
      · show a.size ≤ _; omega
      · show b.size ≤ _; omega
    · have := (shP_mem _ _ p hp).1
      rw [data_len, data_len] at this
      omega
  have hl : (rwP a b).length ≤ 200000 := by
    unfold rwP
    split
    · show 2 ≤ _; omega
    · have h1 := shP_len a.data.toList b.data.toList
      have h2 := grp_len a.data.toList
      have h3 := grp_len b.data.toList
      rw [data_len] at h2 h3
      omega
  have := szP_le 200000 _ hm
  have h2 := Nat.mul_le_mul_right 200000 hl
  exact ⟨hl, by omega, hm⟩
theorem two_read (w : World) (a b : ByteArray) : PcA (w.alloc (Obj.cells #[.int .i64 2, .string a, .int .i64 3, .string b] 36)) (some ⟨w.heap.size, 0, none⟩) [((2 : Int), a), (3, b)] := fun _ => by
  refine ⟨w.heap.size, 0, rfl, fun i hi => ?_⟩
  have k := Blk.new w #[.int .i64 2, .string a, .int .i64 3, .string b] 36
  have hi' : i < 2 := hi
  rcases i with _ | _ | i
  · exact ⟨k.cell 0, k.cell 1⟩
  · exact ⟨k.cell 2, k.cell 3⟩
  · omega
def TxSaid (a b : ByteArray) (w : World) (e : Ending) (w' : World) : Prop := ∃ v, e = .returned v ∧ PcsV w' w.heap.size v (jnP (rwP a b)) ∧ Below w.heap.size w w'
set_option maxHeartbeats 2000000 in
theorem texts_long (a b : ByteArray) (w : World) (ha : a.size ≤ 100000) (hb : b.size ≤ 100000) (h : (longB a.data.toList || longB b.data.toList) = true) :
    Calls Tryd.prog 10 #[.string a, .string b] w (TxSaid a b w) := by
  have hr : rwP a b = [(2, a), (3, b)] := by unfold rwP; rw [if_pos h]
  have CJ := hide (fun (W : World) => joined_any (some ⟨W.heap.size, 0, none⟩) 2 [((2 : Int), a), (3, b)] (W.alloc (Obj.cells #[.int .i64 2, .string a, .int .i64 3, .string b] 36)) (two_read W a b) (by simp) (by simp) (by rw [szP_cons, szP_cons]; show a.size + (b.size + 0) ≤ _; omega))
  unfold TxSaid
  rw [hr]
  unfold JoinSaid at CJ
  generalize jnP [((2 : Int), a), (3, b)] = J at *
  have CA := hide (fun (W : World) => isLong_any a W (by omega))
  have CB := hide (fun (W : World) => isLong_any b W (by omega))
  clear hr
  cases hla : longB a.data.toList with
  | true =>
    rw [hla] at CA
    clear hla h
    go_enter Tryd.func10, Tryd.ntmps10
    go_wp2_with fail
    refine Calls.mono (unhide CA _) ?_
    rintro e w1 ⟨rfl, hb1⟩
    have HB1 := hide hb1
    clear hb1
    go_wp2_with fail
    refine Calls.mono (unhide CJ _) ?_
    rintro e w2 ⟨v, rfl, hv, hb2⟩
    have HB2 : Hid (Below w.heap.size w w2) := hide ((unhide HB1).trans (((Below.refl _ _).alloc (Nat.le_refl _) _ |>.trans (hb2.mono (by simp))).mono (unhide HB1).size))
    have HV := hide (owns_mono (base' := w.heap.size) hv (by have := (unhide HB1).size; simp; omega))
    obtain ⟨q2, n2, c2, hv2⟩ := slice_of hv
    subst hv2
    clear hv hb2
    go_wp2
    go_ret
    exact ⟨_, rfl, unhide HV, unhide HB2⟩
  | false =>
    rw [hla] at CA h
    rw [Bool.false_or] at h
    rw [h] at CB
    clear hla h
    go_enter Tryd.func10, Tryd.ntmps10
    go_wp2_with fail
    refine Calls.mono (unhide CA _) ?_
    rintro e w0 ⟨rfl, hb0⟩
    have HB0 := hide hb0
    clear hb0
    go_wp2_with fail
    refine Calls.mono (unhide CB _) ?_
    rintro e w1 ⟨rfl, hb1⟩
    have HB1 := hide (tr2 (unhide HB0) hb1)
    clear hb1
    go_wp2_with fail
    refine Calls.mono (unhide CJ _) ?_
    rintro e w2 ⟨v, rfl, hv, hb2⟩
    have HB2 : Hid (Below w.heap.size w w2) := hide ((unhide HB1).trans (((Below.refl _ _).alloc (Nat.le_refl _) _ |>.trans (hb2.mono (by simp))).mono (unhide HB1).size))
    have HV := hide (owns_mono (base' := w.heap.size) hv (by have := (unhide HB1).size; simp; omega))
    obtain ⟨q2, n2, c2, hv2⟩ := slice_of hv
    subst hv2
    clear hv hb2
    go_wp2
    go_ret
    exact ⟨_, rfl, unhide HV, unhide HB2⟩
theorem owns_cap {w : World} {base : Nat} {e : TypeId} {size : Nat} {v : Value} {n : Nat} {xs : List Value} (h : w.ownsRow base e size v n xs) : ∃ q c, v = .slice q n c ∧ n ≤ c := by
  rcases h.2 with ⟨h1, h0⟩ | ⟨g, cap, cur, h1, h2, h3, h4, h5⟩
  · exact ⟨none, 0, by rw [h1, h0], by omega⟩
  · exact ⟨_, cap, h1, h4⟩
theorem longB_no {l : List UInt8} (h : longB l = false) : (grp l).length ≤ 400 := by
  have := of_decide_eq_false h
  omega
set_option maxHeartbeats 2000000 in
theorem texts_short (a b : ByteArray) (w : World) (ha : a.size ≤ 100000) (hb : b.size ≤ 100000) (h : (longB a.data.toList || longB b.data.toList) = false) :
    Calls Tryd.prog 10 #[.string a, .string b] w (TxSaid a b w) := by
  have hr : rwP a b = shP a.data.toList b.data.toList := by unfold rwP; rw [if_neg (by rw [h]; decide)]
  rw [Bool.or_eq_false_iff] at h
  obtain ⟨hla, hlb⟩ := h
  have hga := longB_no hla
  have hgb := longB_no hlb
  have hsm := rwP_small a b ha hb
  rw [hr] at hsm
  unfold TxSaid
  rw [hr]
  have CA := hide (fun (W : World) => isLong_any a W (by omega))
  have CB := hide (fun (W : World) => isLong_any b W (by omega))
  rw [hla] at CA
  rw [hlb] at CB
  have SA := hide (fun (W : World) => split_any a W ha)
  have SB := hide (fun (W : World) => split_any b W hb)
  unfold SplitSaid at SA SB
  have ma : ∀ k, k < (bsL (grp a.data.toList)).length → (tx (bsL (grp a.data.toList)) k).size ≤ 9223372036854775807 := fun k hk => by
    have := (bsL_mem (tx_mem _ k hk)).1; rw [data_len] at this; omega
  have mb : ∀ k, k < (bsL (grp b.data.toList)).length → (tx (bsL (grp b.data.toList)) k).size ≤ 9223372036854775807 := fun k hk => by
    have := (bsL_mem (tx_mem _ k hk)).1; rw [data_len] at this; omega
  have CL := hide (fun (qa qb : Option Addr) (ca cb : Nat) (W : World) h1 h2 h3 h4 => lists_any qa qb (bsL (grp a.data.toList)).length (bsL (grp b.data.toList)).length ca cb (bsL (grp a.data.toList)) (bsL (grp b.data.toList)) W h1 h2 h3 h4 ma mb (by rw [bsL_len]; omega) (by rw [bsL_len]; omega))
  unfold ListsSaid at CL
  have CJ := hide (fun (q : Option Addr) (c : Nat) (W : World) h1 h2 => joined_any q c (shP a.data.toList b.data.toList) W h1 h2 (by omega) (by omega))
  unfold JoinSaid at CJ
  have HSH : Hid (lsP (bsL (grp a.data.toList)) (bsL (grp b.data.toList)) 0 0 (lnP (eqT (bsL (grp a.data.toList)) (bsL (grp b.data.toList))) (bsL (grp a.data.toList)).length (bsL (grp b.data.toList)).length 0 0) = shP a.data.toList b.data.toList) := hide rfl
  rw [unhide HSH] at CL
  generalize shP a.data.toList b.data.toList = S at *
  generalize bsL (grp a.data.toList) = ga at *
  generalize bsL (grp b.data.toList) = gb at *
  clear hr hsm hla hlb ma mb HSH hga hgb
  generalize jnP S = J at *
  go_enter Tryd.func10, Tryd.ntmps10
  go_wp2_with fail
  refine Calls.mono (unhide CA _) ?_
  rintro e w0 ⟨rfl, hb0⟩
  have HB0 := hide hb0
  clear hb0
  go_wp2_with fail
  refine Calls.mono (unhide CB _) ?_
  rintro e w1 ⟨rfl, hb1⟩
  have HB1 := hide (tr2 (unhide HB0) hb1)
  clear hb1
  go_wp2_with fail
  refine Calls.mono (unhide SA _) ?_
  rintro e w2 ⟨va, rfl, hva, hb2⟩
  have HB2 := hide (tr2 (unhide HB1) hb2)
  obtain ⟨qa, ca, hqa, hca⟩ := owns_cap hva
  subst hqa
  have HVA := hide (view_of_owns hva)
  clear hva hb2
  go_wp2_with fail
  refine Calls.mono (unhide SB _) ?_
  rintro e w3 ⟨vb, rfl, hvb, hb3⟩
  have HB3 := hide (tr2 (unhide HB2) hb3)
  obtain ⟨qb, cb, hqb, hcb⟩ := owns_cap hvb
  subst hqb
  have HVB := hide (view_of_owns hvb)
  have HVA3 := hide (view_below (unhide HVA) hb3)
  clear hvb hb3
  go_wp2_with fail
  refine Calls.mono (unhide CL qa qb ca cb w3 (unhide HVA3) (unhide HVB) hca hcb) ?_
  rintro e w4 ⟨v4, rfl, hv4, hb4⟩
  have HB4 := hide (tr2 (unhide HB3) hb4)
  obtain ⟨q4, c4, hq4, hc4, hp4⟩ := hv4.read
  subst hq4
  have HP4 := hide hp4
  clear hv4 hb4 hp4
  go_wp2_with fail
  refine Calls.mono (unhide CJ q4 c4 w4 (unhide HP4) hc4) ?_
  rintro e w5 ⟨v5, rfl, hv5, hb5⟩
  have HB5 := hide (tr2 (unhide HB4) hb5)
  have HV := hide (owns_mono (base' := w.heap.size) hv5 (unhide HB4).size)
  obtain ⟨q5, n5, c5, hv2⟩ := slice_of hv5
  subst hv2
  clear hv5 hb5
  go_wp2
  go_ret
  exact ⟨_, rfl, unhide HV, unhide HB5⟩
theorem wtexts_any (a b : ByteArray) (w : World) (ha : a.size ≤ 100000) (hb : b.size ≤ 100000) :
    Calls Tryd.prog 10 #[.string a, .string b] w (TxSaid a b w) := by
  cases h : (longB a.data.toList || longB b.data.toList) with
  | true => exact texts_long a b w ha hb h
  | false => exact texts_short a b w ha hb h
end Go.Proofs.YtfbgpodcdgmpjaaDoor

/-
  The small case of rectolaw24: a word that is another one.
-/
namespace Go.Proofs.YtfbgpodcdgmpjaaDoor
open Go.RowKit
set_option linter.unusedVariables false
set_option linter.unusedSimpArgs false

def abcA : ByteArray := ⟨#[97, 32, 98, 32, 99]⟩
def abcB : ByteArray := ⟨#[97, 32, 120, 32, 99]⟩
def abcL : List Pc := [((1 : Int), ⟨#[97, 32]⟩), (2, ⟨#[98]⟩), (3, ⟨#[120]⟩), (1, ⟨#[32, 99]⟩)]
theorem abc_plain : jnP (rwP abcA abcB) = abcL := by kernel_rfl
theorem abc_mk : toldF mkF abcL = [97, 32, 91, 45, 98, 45, 93, 91, 43, 120, 43, 93, 32, 99] := by kernel_rfl
theorem abc_old : toldF (ifK (inK [1, 2])) abcL = [97, 32, 98, 32, 99] := by kernel_rfl
set_option maxHeartbeats 4000000 in
theorem abc_any (w : World) : Calls Tryd.prog 5 #[] w fun e w' => e = .returned (.bool true) ∧ Below w.heap.size w w' := by
  have CX := hide (wtexts_any abcA abcB w (by decide) (by decide))
  unfold TxSaid at CX
  rw [abc_plain] at CX
  unfold abcA abcB at CX
  have CM := hide (fun (q : Option Addr) (c : Nat) (W : World) h => marked_all q c abcL W h (by decide) (by decide) (by rw [abc_mk]; decide))
  have CO := hide (fun (q : Option Addr) (c : Nat) (W : World) h => old_any q c abcL W h (by decide) (by rw [abc_old]; decide))
  rw [abc_mk] at CM
  rw [abc_old] at CO
  have hl : abcL.length = 4 := rfl
  have hM : ((bs [97, 32, 91, 45, 98, 45, 93, 91, 43, 120, 43, 93, 32, 99]).toList == [97, 32, 91, 45, 98, 45, 93, 91, 43, 120, 43, 93, 32, 99]) = true := by kernel_rfl
  have hO : ((bs [97, 32, 98, 32, 99]).toList == [97, 32, 98, 32, 99]) = true := by kernel_rfl
  rw [hl] at CM CO
  go_enter Tryd.func5, Tryd.ntmps5
  go_wp2_with fail
  refine Calls.mono (unhide CX) ?_
  rintro e w1 ⟨v, rfl, hv, hb1⟩
  obtain ⟨q, c, hq, hc, hp⟩ := hv.read
  rw [hl] at hq
  subst hq
  obtain ⟨g, o, rfl, hcell⟩ := hp (by decide)
  have HP := hide (show PcA w1 (some ⟨g, o, none⟩) abcL from hp)
  obtain ⟨x0, x1⟩ := hcell 0 (by decide)
  have y1 := (hcell 1 (by decide)).2
  have z1 := (hcell 2 (by decide)).2
  have x0' : w1.cell? ⟨g, o, none⟩ = some (.int .i64 1) := by simpa [abcL] using x0
  have x1' : w1.cell? ⟨g, o + 1, none⟩ = some (.string ⟨#[97, 32]⟩) := by simpa [abcL] using x1
  have y1' : w1.cell? ⟨g, o + 2 + 1, none⟩ = some (.string ⟨#[98]⟩) := by simpa [abcL] using y1
  have z1' : w1.cell? ⟨g, o + 4 + 1, none⟩ = some (.string ⟨#[120]⟩) := by simpa [abcL] using z1
  have HB1 := hide hb1
  clear CX hv hp hcell x0 x1 y1 z1 hb1 hc
  go_wp2_with fail
  refine Calls.mono (unhide CM _ c w1 (unhide HP)) ?_
  rintro e w2 ⟨rfl, hb2⟩
  have HB2 := hide (tr2 (unhide HB1) hb2)
  have HP2 := hide ((unhide HP).below hb2)
  clear hb2
  go_wp2_with fail
  refine Calls.mono (unhide CO _ c w2 (unhide HP2)) ?_
  rintro e w3 ⟨rfl, hb3⟩
  have HB3 := hide (tr2 (unhide HB2) hb3)
  clear hb3
  go_wp2
  go_ret
  exact ⟨rfl, unhide HB3⟩
end Go.Proofs.YtfbgpodcdgmpjaaDoor
