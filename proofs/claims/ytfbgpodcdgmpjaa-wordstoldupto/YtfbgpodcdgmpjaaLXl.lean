/-
  The law WordsLists; the law's own same and long.
-/
import Derived.Test.YtfbgpodcdgmpjaaXAb
import Derived.Test.YtfbgpodcdgmpjaaRXl
namespace Go.Proofs.Ytfbgpodcdgmpjaa
open Go.RowKit
set_option linter.unusedVariables false
set_option linter.unusedSimpArgs false

theorem RcsV.read {w : World} {base : Nat} {v : Value} {L : List Pc} (h : RcsV w base v L) : ∃ q c, v = .slice q L.length c ∧ L.length ≤ c ∧ PcA w q L := by
  obtain ⟨_, h⟩ := h
  rcases h with ⟨h1, h0⟩ | ⟨g, cap, cur, h0, h1, h2, h3, h4, h5, h6⟩
  · exact ⟨none, 0, by rw [h0]; exact h1, by omega, fun x => by omega⟩
  · refine ⟨_, cap, h0, h3, fun hp => ⟨g, 0, rfl, fun i hi => ?_⟩⟩
    have hc : ∀ j, j < L.length * 2 → w.cell? ⟨g, 0 + j, none⟩ = (flatQ L)[j]? := by
      intro j hj
      rw [Nat.zero_add, Joins.cell_of_block h2, ← h6, List.getElem?_take, if_pos hj]
      simp
    obtain ⟨f1, f2⟩ := flatQ_get L i hi
    exact ⟨(hc _ (by omega)).trans f1, by rw [Nat.add_assoc]; exact (hc _ (by omega)).trans f2⟩
set_option maxHeartbeats 4000000 in
set_option maxRecDepth 100000 in
theorem same24_yes (q1 q2 : Option Addr) (c1 c2 : Nat) (L : List Pc) (w : World) (h1 : PcA w q1 L) (h2 : PcA w q2 L) (hl : L.length ≤ 1000000) :
    Calls Try.prog 12 #[.slice q1 L.length c1, .slice q2 L.length c2] w fun e w' => e = .returned (.bool true) ∧ Below w.heap.size w w' := by
  have H1 := hide h1
  have H2 := hide h2
  obtain ⟨n, hn⟩ : ∃ n, L.length = n := ⟨_, rfl⟩
  have HN := hide hn
  rw [hn] at hl ⊢
  clear h1 h2 hn
  go_enter Try.func12, Try.ntmps12
  go_wp2
  go_loopw [8] (fun i wr => ∃ k : Nat, k ≤ n ∧ i = .int .i64 (k : Int) ∧ Below w.heap.size w wr) (fun i _ => n - (intOf i).toNat)
  case atStart => exact ⟨0, Nat.zero_le _, rfl, Below.refl _ _⟩
  case round =>
    obtain ⟨k, hk, rfl, hbl⟩ := hrel
    have HBL := hide hbl
    by_cases hp : k < n
    · have hpi : (k : Int) < (n : Int) := by omega
      have hpn : ¬ (n : Int) ≤ (k : Int) := by omega
      have hpd : decide (n ≤ k) = false := decide_eq_false (by omega)
      have hpe : decide ((n : Int) ≤ (k : Int)) = false := decide_eq_false hpn
      obtain ⟨g1, o1, hq1, f1⟩ := (unhide H1).below hbl (by rw [unhide HN]; omega)
      obtain ⟨g2, o2, hq2, f2⟩ := (unhide H2).below hbl (by rw [unhide HN]; omega)
      subst hq1
      subst hq2
      obtain ⟨a0, a1⟩ := f1 k (by rw [unhide HN]; exact hp)
      obtain ⟨b0, b1⟩ := f2 k (by rw [unhide HN]; exact hp)
      generalize (L.getD k (0, ByteArray.empty)).1 = x at *
      generalize (L.getD k (0, ByteArray.empty)).2 = y at *
      have hxx : (x != x) = false := by simp
      have hyy : (y.toList == y.toList) = true := beq_self_eq_true _
      clear f1 f2 hbl
      go_wp2
      go_quiet (fail)
      go_wp2
      go_roundw
      case rel => exact ⟨k + 1, by omega, by go_num, below_drewN (unhide HBL) _⟩
      case measure => simp [intOf]; omega
    · have hpi : ¬ (k : Int) < (n : Int) := by omega
      have hnn : ((n : Int) == (n : Int)) = true := beq_self_eq_true _
      go_wp2
      go_ret
      exact ⟨by simp, hbl⟩
def lgS (ss : List ByteArray) : Bool := decide (80 < ss.length) || ss.any (fun s => decide (500 < s.size))
theorem lgS_no {ss : List ByteArray} (h : lgS ss = false) : ss.length ≤ 80 ∧ ∀ k, k < ss.length → (tx ss k).size ≤ 500 := by
  unfold lgS at h
  rw [Bool.or_eq_false_iff] at h
  refine ⟨by have := of_decide_eq_false h.1; omega, fun k hk => ?_⟩
  have := List.any_eq_false.1 h.2 (tx ss k) (tx_mem ss k hk)
  simpa using this
set_option maxHeartbeats 1000000 in
theorem long24_any (q : Option Addr) (n c : Nat) (ss : List ByteArray) (w : World) (hv : View w (.slice q n c) ss) :
    Calls Try.prog 15 #[.slice q n c] w fun e w' => e = .returned (.bool (lgS ss)) ∧ Below w.heap.size w w' := by
  have hn : n = ss.length := by obtain ⟨_, _, _, e, _⟩ := hv; cases e; rfl
  have hnl : n ≤ 9223372036854775807 := by rw [hn]; exact hv.1
  have HV := hide hv
  have HN := hide hn
  by_cases h80 : 80 < n
  · have hr : lgS ss = true := by unfold lgS; rw [decide_eq_true (by omega)]; rfl
    have hi : (80 : Int) < (n : Int) := by omega
    rw [hr]
    clear hv hn
    go_enter Try.func15, Try.ntmps15
    go_wp2
    go_ret
    exact ⟨rfl, Below.refl _ _⟩
  · have hi : ¬ (80 : Int) < (n : Int) := by omega
    clear hv hn
    go_enter Try.func15, Try.ntmps15
    go_wp2
    go_loopw [10] (fun i wr => ∃ k : Nat, k ≤ n ∧ i = .int .i64 (k : Int) ∧ (∀ j, j < k → (tx ss j).size ≤ 500) ∧ Below w.heap.size w wr) (fun i _ => n - (intOf i).toNat)
    case atStart => exact ⟨0, Nat.zero_le _, rfl, fun j hj => by omega, Below.refl _ _⟩
    case round =>
      obtain ⟨k, hk, rfl, hall, hbl⟩ := hrel
      have HALL := hide hall
      have HBL := hide hbl
      clear hall
      by_cases hp : k < n
      · have hpi : (k : Int) < (n : Int) := by omega
        have hkl : k < ss.length := by have := unhide HN; omega
        obtain ⟨g, o, rfl, cS⟩ := view_atR (unhide HV) hbl k hkl
        have hmem := tx_mem ss k hkl
        have HT : Hid (500 < (tx ss k).size → lgS ss = true) := hide (fun h => by
          unfold lgS
          have : ss.any (fun s => decide (500 < s.size)) = true := List.any_eq_true.2 ⟨_, hmem, decide_eq_true h⟩
          rw [this, Bool.or_true])
        have HU : Hid ((tx ss k).size ≤ 500 → ∀ j, j < k + 1 → (tx ss j).size ≤ 500) := hide (fun h j hj => by
          by_cases e : j = k
          · rw [e]; exact h
          · exact unhide HALL j (by omega))
        generalize tx ss k = s at *
        clear hmem hkl hbl
        by_cases hs : 500 < s.size
        · have hsi : (500 : Int) < (s.size : Int) := by omega
          have HR := hide (unhide HT hs)
          clear hs HT HU
          go_wp2
          go_ret
          exact ⟨by rw [unhide HR]; rfl, unhide HBL⟩
        · have hsi : ¬ (500 : Int) < (s.size : Int) := by omega
          have HR := hide (unhide HU (by omega))
          clear hs HT HU
          go_wp2
          go_roundw
          case rel => exact ⟨k + 1, by omega, by go_num, unhide HR, unhide HBL⟩
          case measure => simp [intOf]; omega
      · have hpi : ¬ (k : Int) < (n : Int) := by omega
        have hr : lgS ss = false := by
          unfold lgS
          rw [decide_eq_false (by have := unhide HN; omega), Bool.false_or, List.any_eq_false]
          intro s hs
          obtain ⟨j, hj, e⟩ := List.getElem_of_mem hs
          have h1 := unhide HALL j (by have := unhide HN; omega)
          have h2 : tx ss j = s := by unfold tx; rw [List.getD, List.getElem?_eq_getElem hj, e]; rfl
          rw [h2] at h1
          simp only [decide_eq_true_eq]
          omega
        have HR := hide hr
        clear hr
        go_wp2
        go_ret
        exact ⟨by rw [unhide HR]; rfl, hbl⟩
def lsT (a b : List ByteArray) : List Pc := lsP a b 0 0 (lnP (eqT a b) a.length b.length 0 0)
theorem lsT_len (a b : List ByteArray) : (lsT a b).length ≤ a.length + b.length := by
  have := lsP_len a b _ _ _ (lnP_rises (eqT a b) a.length b.length 0 0)
  unfold lsT; omega
set_option maxHeartbeats 2000000 in
theorem wordsLists_long (qa qb : Option Addr) (la lb ca cb : Nat) (a b : List ByteArray) (w : World) (ha : View w (.slice qa la ca) a) (hb : View w (.slice qb lb cb) b) (h : (lgS a || lgS b) = true) :
    Calls Try.prog 4 #[.slice qa la ca, .slice qb lb cb] w fun e w' => e = .returned (.bool true) ∧ Below w.heap.size w w' := by
  have C := hide abc_any
  have CA := hide (long24_any qa la ca a w ha)
  have CB := hide (fun (W : World) hW => long24_any qb lb cb b W (view_below hb hW))
  clear ha hb
  cases hA : lgS a with
  | true =>
    rw [hA] at CA
    clear hA h
    go_enter Try.func4, Try.ntmps4
    go_wp2_with fail
    refine Calls.mono (unhide CA) ?_
    rintro e w1 ⟨rfl, hb1⟩
    have HB1 := hide hb1
    clear hb1
    go_wp2_with fail
    refine Calls.mono (unhide C _) ?_
    rintro e w2 ⟨rfl, hb2⟩
    go_wp2
    go_ret
    exact ⟨rfl, tr2 (unhide HB1) hb2⟩
  | false =>
    rw [hA] at CA h
    rw [Bool.false_or] at h
    rw [h] at CB
    clear hA h
    go_enter Try.func4, Try.ntmps4
    go_wp2_with fail
    refine Calls.mono (unhide CA) ?_
    rintro e w1 ⟨rfl, hb1⟩
    have HB1 := hide hb1
    clear hb1
    go_wp2_with fail
    refine Calls.mono (unhide CB w1 (unhide HB1)) ?_
    rintro e w2 ⟨rfl, hb2⟩
    have HB2 := hide (tr2 (unhide HB1) hb2)
    clear hb2
    go_wp2_with fail
    refine Calls.mono (unhide C _) ?_
    rintro e w3 ⟨rfl, hb3⟩
    go_wp2
    go_ret
    exact ⟨rfl, tr2 (unhide HB2) hb3⟩
set_option maxHeartbeats 2000000 in
theorem wordsLists_short (qa qb : Option Addr) (la lb ca cb : Nat) (a b : List ByteArray) (w : World) (ha : View w (.slice qa la ca) a) (hb : View w (.slice qb lb cb) b) (hca : la ≤ ca) (hcb : lb ≤ cb) (hA : lgS a = false) (hB : lgS b = false) :
    Calls Try.prog 4 #[.slice qa la ca, .slice qb lb cb] w fun e w' => e = .returned (.bool true) ∧ Below w.heap.size w w' := by
  have C := hide abc_any
  have CA := hide (long24_any qa la ca a w ha)
  have CB := hide (fun (W : World) hW => long24_any qb lb cb b W (view_below hb hW))
  rw [hA] at CA
  rw [hB] at CB
  obtain ⟨a1, a2⟩ := lgS_no hA
  obtain ⟨b1, b2⟩ := lgS_no hB
  have hla : la = a.length := by obtain ⟨_, _, _, e, _⟩ := ha; cases e; rfl
  have hlb : lb = b.length := by obtain ⟨_, _, _, e, _⟩ := hb; cases e; rfl
  have CL := hide (fun (W : World) hW => lists_any qa qb la lb ca cb a b W (view_below ha hW) (view_below hb hW) hca hcb (fun k hk => by have := a2 k hk; omega) (fun k hk => by have := b2 k hk; omega) (by omega) (by omega))
  have CR := hide (fun (W : World) hW => rlists_any qa qb la lb ca cb a b W (view_below ha hW) (view_below hb hW) (by omega) (by omega))
  unfold ListsSaid at CL
  unfold RlSaid at CR
  have hlen := lsT_len a b
  have HT : Hid (lsP a b 0 0 (lnP (eqT a b) a.length b.length 0 0) = lsT a b) := hide rfl
  rw [unhide HT] at CL CR
  have hT2 : (lsT a b).length ≤ 1000000 := by omega
  have CS := hide (fun (q1 q2 : Option Addr) (c1 c2 : Nat) (W : World) h1 h2 => same24_yes q1 q2 c1 c2 (lsT a b) W h1 h2 hT2)
  generalize lsT a b = L at *
  clear ha hb hA hB a2 b2 HT hlen hla hlb
  go_enter Try.func4, Try.ntmps4
  go_wp2_with fail
  refine Calls.mono (unhide CA) ?_
  rintro e w1 ⟨rfl, hb1⟩
  have HB1 := hide hb1
  clear hb1
  go_wp2_with fail
  refine Calls.mono (unhide CB w1 (unhide HB1)) ?_
  rintro e w2 ⟨rfl, hb2⟩
  have HB2 := hide (tr2 (unhide HB1) hb2)
  clear hb2
  go_wp2_with fail
  refine Calls.mono (unhide CL w2 (unhide HB2)) ?_
  rintro e w3 ⟨v3, rfl, hv3, hb3⟩
  have HB3 := hide (tr2 (unhide HB2) hb3)
  obtain ⟨q3, c3, hq3, _, hp3⟩ := hv3.read
  subst hq3
  have HP3 := hide hp3
  clear hv3 hb3 hp3
  go_wp2_with fail
  refine Calls.mono (unhide CR w3 (unhide HB3)) ?_
  rintro e w4 ⟨v4, rfl, hv4, hb4⟩
  have HB4 := hide (tr2 (unhide HB3) hb4)
  obtain ⟨q4, c4, hq4, _, hp4⟩ := hv4.read
  subst hq4
  have HP4 := hide hp4
  have HP34 := hide ((unhide HP3).below hb4)
  clear hv4 hb4 hp4
  go_wp2_with fail
  refine Calls.mono (unhide CS q3 q4 c3 c4 w4 (unhide HP34) (unhide HP4)) ?_
  rintro e w5 ⟨rfl, hb5⟩
  have HB5 := hide (tr2 (unhide HB4) hb5)
  clear hb5
  go_wp2_with fail
  refine Calls.mono (unhide C _) ?_
  rintro e w6 ⟨rfl, hb6⟩
  go_wp2
  go_ret
  exact ⟨rfl, tr2 (unhide HB5) hb6⟩
theorem wordsLists_walk (qa qb : Option Addr) (la lb ca cb : Nat) (a b : List ByteArray) (w : World) (ha : View w (.slice qa la ca) a) (hb : View w (.slice qb lb cb) b) (h1 : ∀ s ∈ a, s.size ≤ 9223372036854775807) (h2 : ∀ s ∈ b, s.size ≤ 9223372036854775807) (hca : la ≤ ca) (hcb : lb ≤ cb) :
    Calls Try.prog 4 #[.slice qa la ca, .slice qb lb cb] w fun e w' => e = .returned (.bool true) ∧ Below w.heap.size w w' := by
  cases h : (lgS a || lgS b) with
  | true => exact wordsLists_long qa qb la lb ca cb a b w ha hb h
  | false =>
    rw [Bool.or_eq_false_iff] at h
    exact wordsLists_short qa qb la lb ca cb a b w ha hb hca hcb h.1 h.2
end Go.Proofs.Ytfbgpodcdgmpjaa
