/-
  tree.walk under the closure of tree.Copy, and tree.Copy (made by mk_ycw.py).
-/
import Derived.Test.YtemccomnhjhjeaaDoorYCp
namespace Go.Proofs.YtemccomnhjhjeaaDoor
open Go.RowKit
set_option linter.unusedVariables false
set_option linter.unusedSimpArgs false

theorem owns_blk {w w' : World} {base : Nat} {e : TypeId} {size : Nat} {v : Value} {n : Nat} {xs : List Value} (h : w.ownsRow base e size v n xs) (hs : ∀ b, v.ownBlock = some b → b < w.heap.size → w'.heap[b]? = w.heap[b]?) : w'.ownsRow base e size v n xs := by
  obtain ⟨hl, h⟩ := h
  refine ⟨hl, ?_⟩
  rcases h with h | ⟨g, cap, cur, h1, h2, h3, h4, h5, h6, h7⟩
  · exact .inl h
  · have hg : g < w.heap.size := by
      rcases Nat.lt_or_ge g w.heap.size with h | h
      · exact h
      · rw [Array.getElem?_eq_none h] at h3; cases h3
    refine .inr ⟨g, cap, cur, h1, h2, ?_, h4, h5, h6, h7⟩
    rw [hs g (by rw [h1]; rfl) hg]; exact h3
theorem owns_type {w : World} {base : Nat} {e : TypeId} {size b n cap : Nat} {m : Nat} {xs : List Value} (h : w.ownsRow base e size (.slice (some ⟨b, 0, none⟩) n cap) m xs) : ∃ cur, Blk w b cur e := by
  rcases h.2 with ⟨h, _⟩ | ⟨g', _, cur, h, _, hb, _⟩
  · injection h with h; cases h
  · injection h with h1 _ _
    injection h1 with h1
    injection h1 with h1
    subst h1
    exact ⟨cur, hb⟩
theorem notA {w : World} {b : Nat} (h : ∃ cur, Blk w b cur 22) : (∀ cur, ¬ Blk w b cur 82) ∧ ∀ cur, ¬ Blk w b cur 34 := by
  obtain ⟨c, h⟩ := h
  exact ⟨fun cur h' => absurd (blk_types h h') (by decide), fun cur h' => absurd (blk_types h h') (by decide)⟩
def WalkC (w0 : World) (B1 : Nat) (f : Forest) (q : Option Addr) (gk : Nat) (left : Value) (wr : World) : Prop :=
  ∃ (st : List Entry) (N : Nat → Bool), cnt st ≤ 1000000 ∧ st.length + cnt st ≤ 1000001 ∧ 2 * cnt st + st.length = gk ∧ (∀ e ∈ st, SmF e.1) ∧ CpI w0 N st f q wr ∧ wr.ownsRow B1 22 1 left st.length (rowOf st) ∧ w0.heap.size ≤ B1 ∧ B1 ≤ wr.heap.size
set_option maxHeartbeats 8000000 in
set_option maxRecDepth 100000 in
theorem walk_copy (w0 : World) (f : Forest) (q : Option Addr) (cap : Nat) (w : World) (N : Nat → Bool) (hI : CpI w0 N [(f, q, cap)] f q w) (hc : f.count ≤ 1000000) (hsm : SmF f) :
    Calls Tryd.prog 49 #[.slice q f.len cap, .func (.func 50) #[] #[]] w fun e w' => e = .returned (.tuple #[]) ∧ ∃ N', CpI w0 N' [] f q w' := by
  obtain ⟨i0, hi0, hi1, hi2, hi3⟩ := info_parts infoNodes0
  have hrow0 : (w.alloc (Obj.cells #[.slice q f.len cap] 22)).ownsRow w.heap.size 22 1 (.slice (some ⟨w.heap.size, 0, none⟩) 1 1) 1 [.slice q f.len cap] :=
    ⟨rfl, Or.inr ⟨w.heap.size, 1, #[.slice q f.len cap], rfl, Nat.le_refl _, Blk.new w _ _, Nat.le_refl _, by unfold maxLen; omega, rfl, rfl⟩⟩
  have hbA := (Below.refl w.heap.size w).alloc (Nat.le_refl _) (Obj.cells #[.slice q f.len cap] 22)
  have hI0 : CpI w0 N [(f, q, cap)] f q (w.alloc (Obj.cells #[.slice q f.len cap] 22)) := hI.only (b := w.heap.size) ⟨hbA.size, fun i hi _ => hbA.block i hi⟩ (fun cur h => absurd h.lt (by omega)) (fun cur h => absurd h.lt (by omega)) (hI.bel.alloc hI.bel.size _)
  have HAT : Hid (WalkC w0 w.heap.size f q (2 * f.count + 1) (.slice (some ⟨w.heap.size, 0, none⟩) 1 1) (w.alloc (Obj.cells #[.slice q f.len cap] 22))) := hide ⟨[(f, q, cap)], N, by simpa [cnt] using hc, by simp [cnt]; omega, by simp [cnt], fun e he => by rw [List.mem_singleton.1 he]; exact hsm, hI0, hrow0, hI.bel.size, by simp⟩
  clear hrow0 hI hI0 hbA hsm
  go_enter Tryd.func49, Tryd.ntmps49
  go_wp2
  go_loopg [4] (2 * f.count + 1) (fun gk left wr => WalkC w0 w.heap.size f q gk left wr)
  case atStart => exact unhide HAT
  case round =>
    clear HAT
    obtain ⟨st, N, hc1, hc2, hgk, hsm, hcp, hrow, hB1, hsz⟩ := hrel
    match st, hc1, hc2, hgk, hsm, hcp, hrow with
    | [], hc1, hc2, hgk, hsm, hcp, hrow =>
      obtain ⟨a4, cap4, rfl⟩ := slice_n hrow
      have HX := hide hcp
      simp only [List.length_nil]
      clear hsm hrow hcp
      go_wp2
      refine bodyPost_end (v := .tuple #[]) (results_none Tryd.results49 _ _ _) rfl ?_
      exact ⟨rfl, N, unhide HX⟩
    | (fo, qe, ce) :: st, hc1, hc2, hgk, hsm, hcp, hrow =>
      rw [rowOf_cons] at hrow
      have hty0 := hrow
      obtain ⟨b, capb, rfl, hbb, hcb, c0, cf0, hblt, hpop, hset⟩ := row_last hrow (rowOf_len st)
      have hty := notA (owns_type hty0)
      have hln : (st.length : Int) + 1 ≤ 1000001 := by simp at hc2; omega
      have hcbi : (st.length : Int) + 1 ≤ (capb : Int) := by omega
      cases fo with
      | nil =>
        have HX := hide (And.intro hcp.pop (And.intro hsz (And.intro hpop (And.intro hB1 (show ∀ e ∈ st, SmF e.1 from fun e he => hsm e (List.mem_cons_of_mem _ he))))))
        have hg' : 2 * cnt st + st.length < gk := by simp [cnt, Forest.count] at hgk; omega
        have hc1' : cnt st ≤ 1000000 := by simp [cnt, Forest.count] at hc1; omega
        have hc2' : st.length + cnt st ≤ 1000001 := by simp [cnt, Forest.count] at hc2; omega
        simp only [Entry.val, Forest.len] at c0
        clear hsm hcp hrow hset hpop hgk hc1 hc2 hty hty0 hB1
        go_wp2
        go_roundg (2 * cnt st + st.length)
        case measure => exact hg'
        case rel => exact ⟨st, N, hc1', hc2', rfl, (unhide HX).2.2.2.2, (unhide HX).1, (unhide HX).2.2.1, (unhide HX).2.2.2.1, (unhide HX).2.1⟩
      | cons k sp n ats tx kids rest =>
        obtain ⟨hce, hfo⟩ := hcp.stk _ (List.mem_cons_self ..)
        rcases hfo with h | ⟨g, o, hq, ho6, hNg, hl⟩
        · cases h
        have hq' : qe = some ⟨g, o, none⟩ := hq
        subst hq'
        have hs0 : SmF (.cons k sp n ats tx kids rest) := hsm _ (List.mem_cons_self ..)
        have hsk : ∀ e ∈ st, SmF e.1 := fun e he => hsm e (List.mem_cons_of_mem _ he)
        have hce' : rest.len + 1 ≤ ce := hce
        have hcei : (rest.len : Int) + 1 ≤ (ce : Int) := by omega
        have hrl : (rest.len : Int) + 1 ≤ 1000001 := by
          have := rest.len_count
          simp [cnt, Forest.count] at hc1
          omega
        have hkl : kids.len ≤ 1000000 := by
          have := kids.len_count
          simp [cnt, Forest.count] at hc1
          omega
        simp only [Entry.val, Forest.len] at c0
        have HP := hide hset
        have e1 : ((rest.len : Int) + 1 == 0) = false := beq_eq_false_iff_ne.2 (by omega)
        have HX := hide (And.intro hcp (And.intro hB1 (And.intro hsz (And.intro hc1 (And.intro hc2 (And.intro hgk (And.intro hs0 hsk)))))))
        have HT := hide (And.intro hty (And.intro hkl hNg))
        clear hsm hcp hrow hpop hce hset hB1 hsz hc1 hc2 hgk hs0 hsk hl hce' hty hty0 hkl hNg ho6
        obtain ⟨rl, hrlq⟩ : ∃ rl, rest.len = rl := ⟨_, rfl⟩
        obtain ⟨sl, hslq⟩ : ∃ sl, st.length = sl := ⟨_, rfl⟩
        rw [hrlq] at c0 hcei hrl e1
        rw [hslq] at c0 cf0 hln hcbi HP hcb
        rw [hslq]
        have HQ := hide (And.intro hrlq hslq)
        clear hrlq hslq
        have j1 : (1 : Int) ≤ (rl : Int) + 1 := by omega
        have j2 : (0 : Int) < (rl : Int) + 1 := by omega
        go_upto_region 7 with fail
        generalize hqr : (if ce = 1 then some (⟨g, o, none⟩ : Addr) else some ⟨g, o + 6, none⟩) = qr at *
        have HQR : Hid (rest = .nil ∨ qr = some ⟨g, o + 6, none⟩) := hide (by
          by_cases h1 : ce = 1
          · left
            have hr0 : rest.len = 0 := by have := (unhide HQ).1; omega
            exact len_nil hr0
          · right; rw [if_neg h1] at hqr; exact hqr.symm)
        clear hqr
        have hb0 : w0.heap.size ≤ b := by have := (unhide HX).2.1; omega
        have hX1 := (unhide HX).1.only (Only.set wr b sl (.slice qr rl (ce - 1))) (unhide HT).1.1 (unhide HT).1.2 ((unhide HX).1.bel.setCell (p := ⟨b, sl, none⟩) hb0 (.slice qr rl (ce - 1)))
        have HR := hide (unhide HP (.slice qr rl (ce - 1)))
        have HZ : Hid ((wr.setCell ⟨b, sl, none⟩ (.slice qr rl (ce - 1))).heap.size = wr.heap.size) := hide (by simp)
        obtain ⟨hg0, cur, hgb⟩ := hX1.nb g (unhide HT).2.2
        obtain ⟨q3, a3, m3, x3, q5, a5, m5, x5⟩ : ∃ qa ca, (wr.setCell ⟨b, sl, none⟩ (.slice qr rl (ce - 1))).cell? ⟨g, o + 3, none⟩ = some (.slice qa ats.length ca) ∧ Sl qa ats w0 ∧ ∃ qk ck, (wr.setCell ⟨b, sl, none⟩ (.slice qr rl (ce - 1))).cell? ⟨g, o + 5, none⟩ = some (.slice qk kids.len ck) ∧ Fo qk kids w0 := by
          rcases (hX1.stk _ (List.mem_cons_self ..)).2 with h | ⟨g1, o1, y1, _, _, y4⟩
          · cases h
          · have y1' : (some ⟨g, o, none⟩ : Option Addr) = some ⟨g1, o1, none⟩ := y1
            injection y1' with y1'
            injection y1' with z1 z2
            subst z1 z2
            obtain ⟨⟨_, _, _, ⟨qa, ca, h3, h3'⟩, _, ⟨qk, ck, h5, _, h7⟩⟩, _⟩ := y4
            exact ⟨qa, ca, h3, h3', qk, ck, h5, h7⟩
        have hal : ats.length ≤ 1000000 := by have := (unhide HX).2.2.2.2.2.2.1.1.2.2.1.1; omega
        have CC := hide (copy1_any w0 _ g o ((sl : Int) + 1) cur ats kids q3 q5 a3 a5 hgb hg0 m3 m5 x3 x5 hX1.bel hal (unhide HT).2.1)
        have HM := hide (And.intro m3 (And.intro m5 (And.intro x3 (And.intro x5 (And.intro hX1 hgb)))))
        clear hX1 m3 m5 x3 x5 hgb hg0 hal
        go_wp2_with fail
        refine (unhide CC).mono ?_
        rintro e3 W3 ⟨rfl, qa', ca', qk', ck', hs3⟩
        clear CC
        have hbg : b ≠ g := fun e => by
          have h1 := (unhide HM).2.2.2.2.2
          obtain ⟨c', h2⟩ := owns_type (unhide HR)
          have h3 : Blk (wr.setCell ⟨b, sl, none⟩ (.slice qr rl (ce - 1))) b cur 34 := by
            rw [← e] at h1
            exact h1
          exact absurd (blk_types h2 h3) (by decide)
        have hrow3 := owns_blk (unhide HR) (w' := W3) (fun b' hb' hlt => hs3.blk b' hlt (by simp [Value.ownBlock] at hb'; omega))
        have k5 : W3.cell? ⟨g, o + 5, none⟩ = some (.slice qk' kids.len ck') := hs3.d5
        have hsz3 : w.heap.size ≤ W3.heap.size := by have h1 := hs3.size; rw [unhide HZ] at h1; have := (unhide HX).2.2.1; omega
        obtain ⟨N', hN'⟩ := (unhide HM).2.2.2.2.1.step hs3 (unhide HM).1 (unhide HM).2.1 (unhide HM).2.2.1 (unhide HM).2.2.2.1 (unhide HQR)
        have hlb : ∀ j, some j = (Value.slice (some ⟨b, 0, none⟩) (sl + 1) capb).ownBlock → w.heap.size ≤ j := fun j hj => (hrow3.lt j hj.symm).1
        have hty3 := notA (owns_type hrow3)
        have HY := hide (And.intro hN' hty3)
        clear hs3 hN' HM hty3 hbg
        go_wp2_with (at_builtin; refine wpList_append_own _ rfl _ _ 102 rfl w.heap.size 22 i0 (.slice none 0 0) 1 24 Tryd.underlying102 hi0 hi1 hi2 hi3 rfl (by decide) _ _ _ rfl (hrow3.alloc _) ⟨W3.heap.size, 0, none⟩ 1 1 [.slice qk' kids.len ck'] rfl rfl ?c1 ?c2 ?c3 ?c4 ?c5 ?_)
        case c1 => intro j u hj; exact lit1 hj
        case c2 => intro u hu; simp at hu; rw [hu]; rfl
        case c3 => unfold maxLen; omega
        case c4 => omega
        case c5 => simp; omega
        intro v' w5 hrow5 hgrow5 _
        obtain ⟨a5', c5', hv5⟩ := slice_n hrow5
        subst hv5
        have hbL := (unhide HY).1.bel.alloc (unhide HY).1.bel.size (Obj.cells #[.slice qk' kids.len ck'] 22)
        have hb5 := hbL.grown hgrow5 hbL.size (fun j hj => by have h1 := hlb _ hj.symm; have h2 := (unhide HX).2.1; omega)
        have ho5 : Only b W3 w5 := ⟨by have := hgrow5.size; simp at this; omega, fun i hi hne => by
          have h1 : (W3.alloc (Obj.cells #[.slice qk' kids.len ck'] 22)).heap[i]? = W3.heap[i]? := ((Below.refl W3.heap.size W3).alloc (Nat.le_refl _) _).block i hi
          rw [← h1]
          exact hgrow5.block i (by simp; omega) (fun e => by simp [Value.ownBlock] at e; omega)⟩
        have hI5 := (unhide HY).1.only ho5 (unhide HY).2.1 (unhide HY).2.2 hb5
        have hs5 : w.heap.size ≤ w5.heap.size := by
          have := hgrow5.size
          simp at this
          omega
        have HZ5 := hide (And.intro hrow5 (And.intro hI5 hs5))
        clear hrow5 hgrow5 hbL hb5 hI5 hs5 hrow3 hlb ho5
        go_wp2
        obtain ⟨hrow5, hI5, hs5⟩ := unhide HZ5
        obtain ⟨_, hB1, _, hc1, hc2, hgk, hs0, hsk⟩ := unhide HX
        obtain ⟨hrlq, hslq⟩ := unhide HQ
        simp only [cnt, Forest.count, List.length_cons] at hc1 hc2 hgk
        go_roundg (2 * (kids.count + (rest.count + cnt st)) + (st.length + 1 + 1))
        case measure => omega
        case rel =>
          refine ⟨(kids, qk', ck') :: (rest, qr, ce - 1) :: st, N', ?_, ?_, rfl, ?_, hI5, ?_, hB1, hs5⟩
          · show kids.count + (rest.count + cnt st) ≤ 1000000; omega
          · show st.length + 1 + 1 + (kids.count + (rest.count + cnt st)) ≤ 1000001; omega
          · intro e he
            rcases List.mem_cons.1 he with rfl | he
            · exact hs0.2.1
            rcases List.mem_cons.1 he with rfl | he
            · exact hs0.2.2
            · exact hsk e he
          · rw [rowOf_cons, rowOf_cons, List.append_assoc, List.length_cons, List.length_cons, hslq]
            show w5.ownsRow _ _ _ _ _ (rowOf st ++ ([.slice qr rest.len (ce - 1)] ++ [.slice qk' kids.len ck']))
            rw [hrlq]; exact hrow5
/-- A copy of nodes lies in new memory. -/
theorem copy_any (f : Forest) (q : Option Addr) (cap : Nat) (w : World) (hf : Fo q f w) (hc : f.count ≤ 1000000) (hsm : SmF f) :
    Calls Tryd.prog 43 #[.slice q f.len cap] w fun e w' => ∃ q' c' N, e = .returned (.slice q' f.len c') ∧ f.len ≤ c' ∧ CpI w N [] f q' w' := by
  have hfl := f.len_count
  have C1 := hide (cloneN_own q f cap w w hf (Below.refl _ _) (by omega))
  have C2 := hide (fun q' c' N W hI => walk_copy w f q' c' W N hI hc hsm)
  generalize hfq : f.len = fl at *
  have HFQ := hide hfq
  clear hf hsm hfq hfl
  go_enter Tryd.func43, Tryd.ntmps43
  go_wp2_with fail
  refine (unhide C1).mono ?_
  rintro e w1 ⟨q', c', rfl, hc', hH, hb1⟩
  have HI : Hid (∃ N, CpI w N [(f, q', c')] f q' w1) := hide (by
    rcases hH with h0 | ⟨g, cur, h1, h2, h3, h4⟩
    · exact ⟨fun _ => false, ⟨(fun i hi => by cases hi), (fun e he => by rw [List.mem_singleton.1 he]; exact ⟨by show f.len ≤ c'; rw [unhide HFQ]; exact hc', Or.inl h0⟩), List.pairwise_singleton _ _, Or.inl h0, hb1⟩⟩
    · refine ⟨fun i => i == g, ⟨fun i hi => ?_, fun e he => ?_, List.pairwise_singleton _ _, Or.inr ⟨g, h1, ?_⟩, hb1⟩⟩
      · have hi' : i = g := by simpa using hi
        subst hi'
        exact ⟨h2, cur, h3⟩
      · rw [List.mem_singleton.1 he]; exact ⟨by show f.len ≤ c'; rw [unhide HFQ]; exact hc', Or.inr ⟨g, 0, h1, rfl, by simp, h4⟩⟩
      · exact h4.mix (by simp) _ _ rfl fun j hj => ⟨_, List.mem_singleton.2 rfl, 0, j, h1, hj, by omega⟩)
  have HC' := hide hc'
  clear hH hb1 hc'
  obtain ⟨N, hI⟩ := unhide HI
  have C3 := hide (unhide C2 q' c' N w1 hI)
  clear hI HI C1 C2
  go_wp2_with fail
  refine (unhide C3).mono ?_
  rintro e w2 ⟨rfl, N', hI'⟩
  have HI' := hide hI'
  clear hI' C3
  go_wp2
  go_ret
  exact ⟨q', c', N', rfl, unhide HC', unhide HI'⟩
end Go.Proofs.YtemccomnhjhjeaaDoor
