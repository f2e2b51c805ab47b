/-
  Several texts in one: what the functions of the program and of the document's answer do.
-/
import Derived.Test.YtbabmkilbbbmoaaDoorYCp
import Derived.Test.YtbabmkilbbbmoaaDoorMgAF

/-
  tree.walk under the closure of tree.Copy, and tree.Copy (made by mk_ycw.py).
-/
namespace Go.Proofs.YtbabmkilbbbmoaaDoor
open Go.RowKit
set_option linter.unusedVariables false
set_option linter.unusedSimpArgs false

theorem owns_blk {w w' : World} {base : Nat} {e : TypeId} {size : Nat} {v : Value} {n : Nat} {xs : List Value} (h : w.ownsRow base e size v n xs) (hs : ∀ b, v.ownBlock = some b → b < w.heap.size → w'.heap[b]? = w.heap[b]?) : w'.ownsRow base e size v n xs := by
  obtain ⟨hl, h⟩ := h
  refine ⟨hl, ?_⟩
  rcases h with h | ⟨g, cap, cur, h1, h2, h3, h4, h5, h6, h7⟩
  · exact .inl h
  · have hg : g < w.heap.size := by
      rcases Nat.lt_or_ge g w.heap.size with h | h
      · exact h
      · rw [Array.getElem?_eq_none h] at h3; cases h3
    refine .inr ⟨g, cap, cur, h1, h2, ?_, h4, h5, h6, h7⟩
    rw [hs g (by rw [h1]; rfl) hg]; exact h3
theorem owns_type {w : World} {base : Nat} {e : TypeId} {size b n cap : Nat} {m : Nat} {xs : List Value} (h : w.ownsRow base e size (.slice (some ⟨b, 0, none⟩) n cap) m xs) : ∃ cur, Blk w b cur e := by
  rcases h.2 with ⟨h, _⟩ | ⟨g', _, cur, h, _, hb, _⟩
  · injection h with h; cases h
  · injection h with h1 _ _
    injection h1 with h1
    injection h1 with h1
    subst h1
    exact ⟨cur, hb⟩
theorem notA {w : World} {b : Nat} (h : ∃ cur, Blk w b cur 22) : (∀ cur, ¬ Blk w b cur 112) ∧ ∀ cur, ¬ Blk w b cur 44 := by
  obtain ⟨c, h⟩ := h
  exact ⟨fun cur h' => absurd (blk_types h h') (by decide), fun cur h' => absurd (blk_types h h') (by decide)⟩
def WalkC (w0 : World) (B1 : Nat) (f : Forest) (q : Option Addr) (gk : Nat) (left : Value) (wr : World) : Prop :=
  ∃ (st : List Entry) (N : Nat → Bool), cnt st ≤ 1000000 ∧ st.length + cnt st ≤ 1000001 ∧ 2 * cnt st + st.length = gk ∧ (∀ e ∈ st, SmF e.1) ∧ CpI w0 N st f q wr ∧ wr.ownsRow B1 22 1 left st.length (rowOf st) ∧ w0.heap.size ≤ B1 ∧ B1 ≤ wr.heap.size
set_option maxHeartbeats 8000000 in
set_option maxRecDepth 100000 in
theorem walk_copy (w0 : World) (f : Forest) (q : Option Addr) (cap : Nat) (w : World) (N : Nat → Bool) (hI : CpI w0 N [(f, q, cap)] f q w) (hc : f.count ≤ 1000000) (hsm : SmF f) :
    Calls Tryd.prog 100 #[.slice q f.len cap, .func (.func 101) #[] #[]] w fun e w' => e = .returned (.tuple #[]) ∧ ∃ N', CpI w0 N' [] f q w' := by
  obtain ⟨i0, hi0, hi1, hi2, hi3⟩ := info_parts infoNodes0
  have hrow0 : (w.alloc (Obj.cells #[.slice q f.len cap] 22)).ownsRow w.heap.size 22 1 (.slice (some ⟨w.heap.size, 0, none⟩) 1 1) 1 [.slice q f.len cap] :=
    ⟨rfl, Or.inr ⟨w.heap.size, 1, #[.slice q f.len cap], rfl, Nat.le_refl _, Blk.new w _ _, Nat.le_refl _, by unfold maxLen; omega, rfl, rfl⟩⟩
  have hbA := (Below.refl w.heap.size w).alloc (Nat.le_refl _) (Obj.cells #[.slice q f.len cap] 22)
  have hI0 : CpI w0 N [(f, q, cap)] f q (w.alloc (Obj.cells #[.slice q f.len cap] 22)) := hI.only (b := w.heap.size) ⟨hbA.size, fun i hi _ => hbA.block i hi⟩ (fun cur h => absurd h.lt (by omega)) (fun cur h => absurd h.lt (by omega)) (hI.bel.alloc hI.bel.size _)
  have HAT : Hid (WalkC w0 w.heap.size f q (2 * f.count + 1) (.slice (some ⟨w.heap.size, 0, none⟩) 1 1) (w.alloc (Obj.cells #[.slice q f.len cap] 22))) := hide ⟨[(f, q, cap)], N, by simpa [cnt] using hc, by simp [cnt]; omega, by simp [cnt], fun e he => by rw [List.mem_singleton.1 he]; exact hsm, hI0, hrow0, hI.bel.size, by simp⟩
  clear hrow0 hI hI0 hbA hsm
  go_enter Tryd.func100, Tryd.ntmps100
  go_wp2
  go_loopg [4] (2 * f.count + 1) (fun gk left wr => WalkC w0 w.heap.size f q gk left wr)
  case atStart => exact unhide HAT
  case round =>
    clear HAT
    obtain ⟨st, N, hc1, hc2, hgk, hsm, hcp, hrow, hB1, hsz⟩ := hrel
    match st, hc1, hc2, hgk, hsm, hcp, hrow with
    | [], hc1, hc2, hgk, hsm, hcp, hrow =>
      obtain ⟨a4, cap4, rfl⟩ := slice_n hrow
      have HX := hide hcp
      simp only [List.length_nil]
      clear hsm hrow hcp
      go_wp2
      refine bodyPost_end (v := .tuple #[]) (results_none Tryd.results100 _ _ _) rfl ?_
      exact ⟨rfl, N, unhide HX⟩
    | (fo, qe, ce) :: st, hc1, hc2, hgk, hsm, hcp, hrow =>
      rw [rowOf_cons] at hrow
      have hty0 := hrow
      obtain ⟨b, capb, rfl, hbb, hcb, c0, cf0, hblt, hpop, hset⟩ := row_last hrow (rowOf_len st)
      have hty := notA (owns_type hty0)
      have hln : (st.length : Int) + 1 ≤ 1000001 := by simp at hc2; omega
      have hcbi : (st.length : Int) + 1 ≤ (capb : Int) := by omega
      cases fo with
      | nil =>
        have HX := hide (And.intro hcp.pop (And.intro hsz (And.intro hpop (And.intro hB1 (show ∀ e ∈ st, SmF e.1 from fun e he => hsm e (List.mem_cons_of_mem _ he))))))
        have hg' : 2 * cnt st + st.length < gk := by simp [cnt, Forest.count] at hgk; omega
        have hc1' : cnt st ≤ 1000000 := by simp [cnt, Forest.count] at hc1; omega
        have hc2' : st.length + cnt st ≤ 1000001 := by simp [cnt, Forest.count] at hc2; omega
        simp only [Entry.val, Forest.len] at c0
        clear hsm hcp hrow hset hpop hgk hc1 hc2 hty hty0 hB1
        go_wp2
        go_roundg (2 * cnt st + st.length)
        case measure => exact hg'
        case rel => exact ⟨st, N, hc1', hc2', rfl, (unhide HX).2.2.2.2, (unhide HX).1, (unhide HX).2.2.1, (unhide HX).2.2.2.1, (unhide HX).2.1⟩
      | cons k sp n ats tx kids rest =>
        obtain ⟨hce, hfo⟩ := hcp.stk _ (List.mem_cons_self ..)
        rcases hfo with h | ⟨g, o, hq, ho6, hNg, hl⟩
        · cases h
        have hq' : qe = some ⟨g, o, none⟩ := hq
        subst hq'
        have hs0 : SmF (.cons k sp n ats tx kids rest) := hsm _ (List.mem_cons_self ..)
        have hsk : ∀ e ∈ st, SmF e.1 := fun e he => hsm e (List.mem_cons_of_mem _ he)
        have hce' : rest.len + 1 ≤ ce := hce
        have hcei : (rest.len : Int) + 1 ≤ (ce : Int) := by omega
        have hrl : (rest.len : Int) + 1 ≤ 1000001 := by
          have := rest.len_count
          simp [cnt, Forest.count] at hc1
          omega
        have hkl : kids.len ≤ 1000000 := by
          have := kids.len_count
          simp [cnt, Forest.count] at hc1
          omega
        simp only [Entry.val, Forest.len] at c0
        have HP := hide hset
        have e1 : ((rest.len : Int) + 1 == 0) = false := beq_eq_false_iff_ne.2 (by omega)
        have HX := hide (And.intro hcp (And.intro hB1 (And.intro hsz (And.intro hc1 (And.intro hc2 (And.intro hgk (And.intro hs0 hsk)))))))
        have HT := hide (And.intro hty (And.intro hkl hNg))
        clear hsm hcp hrow hpop hce hset hB1 hsz hc1 hc2 hgk hs0 hsk hl hce' hty hty0 hkl hNg ho6
        obtain ⟨rl, hrlq⟩ : ∃ rl, rest.len = rl := ⟨_, rfl⟩
        obtain ⟨sl, hslq⟩ : ∃ sl, st.length = sl := ⟨_, rfl⟩
        rw [hrlq] at c0 hcei hrl e1
        rw [hslq] at c0 cf0 hln hcbi HP hcb
        rw [hslq]
        have HQ := hide (And.intro hrlq hslq)
        clear hrlq hslq
        have j1 : (1 : Int) ≤ (rl : Int) + 1 := by omega
        have j2 : (0 : Int) < (rl : Int) + 1 := by omega
        go_upto_region 7 with fail
        generalize hqr : (if ce = 1 then some (⟨g, o, none⟩ : Addr) else some ⟨g, o + 6, none⟩) = qr at *
        have HQR : Hid (rest = .nil ∨ qr = some ⟨g, o + 6, none⟩) := hide (by
          by_cases h1 : ce = 1
          · left
            have hr0 : rest.len = 0 := by have := (unhide HQ).1; omega
            exact len_nil hr0
          · right; rw [if_neg h1] at hqr; exact hqr.symm)
        clear hqr
        have hb0 : w0.heap.size ≤ b := by have := (unhide HX).2.1; omega
        have hX1 := (unhide HX).1.only (Only.set wr b sl (.slice qr rl (ce - 1))) (unhide HT).1.1 (unhide HT).1.2 ((unhide HX).1.bel.setCell (p := ⟨b, sl, none⟩) hb0 (.slice qr rl (ce - 1)))
        have HR := hide (unhide HP (.slice qr rl (ce - 1)))
        have HZ : Hid ((wr.setCell ⟨b, sl, none⟩ (.slice qr rl (ce - 1))).heap.size = wr.heap.size) := hide (by simp)
        obtain ⟨hg0, cur, hgb⟩ := hX1.nb g (unhide HT).2.2
        obtain ⟨q3, a3, m3, x3, q5, a5, m5, x5⟩ : ∃ qa ca, (wr.setCell ⟨b, sl, none⟩ (.slice qr rl (ce - 1))).cell? ⟨g, o + 3, none⟩ = some (.slice qa ats.length ca) ∧ Sl qa ats w0 ∧ ∃ qk ck, (wr.setCell ⟨b, sl, none⟩ (.slice qr rl (ce - 1))).cell? ⟨g, o + 5, none⟩ = some (.slice qk kids.len ck) ∧ Fo qk kids w0 := by
          rcases (hX1.stk _ (List.mem_cons_self ..)).2 with h | ⟨g1, o1, y1, _, _, y4⟩
          · cases h
          · have y1' : (some ⟨g, o, none⟩ : Option Addr) = some ⟨g1, o1, none⟩ := y1
            injection y1' with y1'
            injection y1' with z1 z2
            subst z1 z2
            obtain ⟨⟨_, _, _, ⟨qa, ca, h3, h3'⟩, _, ⟨qk, ck, h5, _, h7⟩⟩, _⟩ := y4
            exact ⟨qa, ca, h3, h3', qk, ck, h5, h7⟩
        have hal : ats.length ≤ 1000000 := by have := (unhide HX).2.2.2.2.2.2.1.1.2.2.1.1; omega
        have CC := hide (copy1_any w0 _ g o ((sl : Int) + 1) cur ats kids q3 q5 a3 a5 hgb hg0 m3 m5 x3 x5 hX1.bel hal (unhide HT).2.1)
        have HM := hide (And.intro m3 (And.intro m5 (And.intro x3 (And.intro x5 (And.intro hX1 hgb)))))
        clear hX1 m3 m5 x3 x5 hgb hg0 hal
        go_wp2_with fail
        refine (unhide CC).mono ?_
        rintro e3 W3 ⟨rfl, qa', ca', qk', ck', hs3⟩
        clear CC
        have hbg : b ≠ g := fun e => by
          have h1 := (unhide HM).2.2.2.2.2
          obtain ⟨c', h2⟩ := owns_type (unhide HR)
          have h3 : Blk (wr.setCell ⟨b, sl, none⟩ (.slice qr rl (ce - 1))) b cur 44 := by
            rw [← e] at h1
            exact h1
          exact absurd (blk_types h2 h3) (by decide)
        have hrow3 := owns_blk (unhide HR) (w' := W3) (fun b' hb' hlt => hs3.blk b' hlt (by simp [Value.ownBlock] at hb'; omega))
        have k5 : W3.cell? ⟨g, o + 5, none⟩ = some (.slice qk' kids.len ck') := hs3.d5
        have hsz3 : w.heap.size ≤ W3.heap.size := by have h1 := hs3.size; rw [unhide HZ] at h1; have := (unhide HX).2.2.1; omega
        obtain ⟨N', hN'⟩ := (unhide HM).2.2.2.2.1.step hs3 (unhide HM).1 (unhide HM).2.1 (unhide HM).2.2.1 (unhide HM).2.2.2.1 (unhide HQR)
        have hlb : ∀ j, some j = (Value.slice (some ⟨b, 0, none⟩) (sl + 1) capb).ownBlock → w.heap.size ≤ j := fun j hj => (hrow3.lt j hj.symm).1
        have hty3 := notA (owns_type hrow3)
        have HY := hide (And.intro hN' hty3)
        clear hs3 hN' HM hty3 hbg
        go_wp2_with (at_builtin; refine wpList_append_own _ rfl _ _ 199 rfl w.heap.size 22 i0 (.slice none 0 0) 1 24 Tryd.underlying199 hi0 hi1 hi2 hi3 rfl (by decide) _ _ _ rfl (hrow3.alloc _) ⟨W3.heap.size, 0, none⟩ 1 1 [.slice qk' kids.len ck'] rfl rfl ?c1 ?c2 ?c3 ?c4 ?c5 ?_)
        case c1 => intro j u hj; exact lit1 hj
        case c2 => intro u hu; simp at hu; rw [hu]; rfl
        case c3 => unfold maxLen; omega
        case c4 => omega
        case c5 => simp; omega
        intro v' w5 hrow5 hgrow5 _
        obtain ⟨a5', c5', hv5⟩ := slice_n hrow5
        subst hv5
        have hbL := (unhide HY).1.bel.alloc (unhide HY).1.bel.size (Obj.cells #[.slice qk' kids.len ck'] 22)
        have hb5 := hbL.grown hgrow5 hbL.size (fun j hj => by have h1 := hlb _ hj.symm; have h2 := (unhide HX).2.1; omega)
        have ho5 : Only b W3 w5 := ⟨by have := hgrow5.size; simp at this; omega, fun i hi hne => by
          have h1 : (W3.alloc (Obj.cells #[.slice qk' kids.len ck'] 22)).heap[i]? = W3.heap[i]? := ((Below.refl W3.heap.size W3).alloc (Nat.le_refl _) _).block i hi
          rw [← h1]
          exact hgrow5.block i (by simp; omega) (fun e => by simp [Value.ownBlock] at e; omega)⟩
        have hI5 := (unhide HY).1.only ho5 (unhide HY).2.1 (unhide HY).2.2 hb5
        have hs5 : w.heap.size ≤ w5.heap.size := by
          have := hgrow5.size
          simp at this
          omega
        have HZ5 := hide (And.intro hrow5 (And.intro hI5 hs5))
        clear hrow5 hgrow5 hbL hb5 hI5 hs5 hrow3 hlb ho5
        go_wp2
        obtain ⟨hrow5, hI5, hs5⟩ := unhide HZ5
        obtain ⟨_, hB1, _, hc1, hc2, hgk, hs0, hsk⟩ := unhide HX
        obtain ⟨hrlq, hslq⟩ := unhide HQ
        simp only [cnt, Forest.count, List.length_cons] at hc1 hc2 hgk
        go_roundg (2 * (kids.count + (rest.count + cnt st)) + (st.length + 1 + 1))
        case measure => omega
        case rel =>
          refine ⟨(kids, qk', ck') :: (rest, qr, ce - 1) :: st, N', ?_, ?_, rfl, ?_, hI5, ?_, hB1, hs5⟩
          · show kids.count + (rest.count + cnt st) ≤ 1000000; omega
          · show st.length + 1 + 1 + (kids.count + (rest.count + cnt st)) ≤ 1000001; omega
          · intro e he
            rcases List.mem_cons.1 he with rfl | he
            · exact hs0.2.1
            rcases List.mem_cons.1 he with rfl | he
            · exact hs0.2.2
            · exact hsk e he
          · rw [rowOf_cons, rowOf_cons, List.append_assoc, List.length_cons, List.length_cons, hslq]
            show w5.ownsRow _ _ _ _ _ (rowOf st ++ ([.slice qr rest.len (ce - 1)] ++ [.slice qk' kids.len ck']))
            rw [hrlq]; exact hrow5
/-- A copy of nodes lies in new memory. -/
theorem copy_any (f : Forest) (q : Option Addr) (cap : Nat) (w : World) (hf : Fo q f w) (hc : f.count ≤ 1000000) (hsm : SmF f) :
    Calls Tryd.prog 74 #[.slice q f.len cap] w fun e w' => ∃ q' c' N, e = .returned (.slice q' f.len c') ∧ f.len ≤ c' ∧ CpI w N [] f q' w' := by
  have hfl := f.len_count
  have C1 := hide (cloneN_own q f cap w w hf (Below.refl _ _) (by omega))
  have C2 := hide (fun q' c' N W hI => walk_copy w f q' c' W N hI hc hsm)
  generalize hfq : f.len = fl at *
  have HFQ := hide hfq
  clear hf hsm hfq hfl
  go_enter Tryd.func74, Tryd.ntmps74
  go_wp2_with fail
  refine (unhide C1).mono ?_
  rintro e w1 ⟨q', c', rfl, hc', hH, hb1⟩
  have HI : Hid (∃ N, CpI w N [(f, q', c')] f q' w1) := hide (by
    rcases hH with h0 | ⟨g, cur, h1, h2, h3, h4⟩
    · exact ⟨fun _ => false, ⟨(fun i hi => by cases hi), (fun e he => by rw [List.mem_singleton.1 he]; exact ⟨by show f.len ≤ c'; rw [unhide HFQ]; exact hc', Or.inl h0⟩), List.pairwise_singleton _ _, Or.inl h0, hb1⟩⟩
    · refine ⟨fun i => i == g, ⟨fun i hi => ?_, fun e he => ?_, List.pairwise_singleton _ _, Or.inr ⟨g, h1, ?_⟩, hb1⟩⟩
      · have hi' : i = g := by simpa using hi
        subst hi'
        exact ⟨h2, cur, h3⟩
      · rw [List.mem_singleton.1 he]; exact ⟨by show f.len ≤ c'; rw [unhide HFQ]; exact hc', Or.inr ⟨g, 0, h1, rfl, by simp, h4⟩⟩
      · exact h4.mix (by simp) _ _ rfl fun j hj => ⟨_, List.mem_singleton.2 rfl, 0, j, h1, hj, by omega⟩)
  have HC' := hide hc'
  clear hH hb1 hc'
  obtain ⟨N, hI⟩ := unhide HI
  have C3 := hide (unhide C2 q' c' N w1 hI)
  clear hI HI C1 C2
  go_wp2_with fail
  refine (unhide C3).mono ?_
  rintro e w2 ⟨rfl, N', hI'⟩
  have HI' := hide hI'
  clear hI' C3
  go_wp2
  go_ret
  exact ⟨q', c', N', rfl, unhide HC', unhide HI'⟩
end Go.Proofs.YtbabmkilbbbmoaaDoor

/-
  What keys.copied does: a node in new memory.
-/
namespace Go.Proofs.YtbabmkilbbbmoaaDoor
open Go.RowKit
set_option linter.unusedVariables false
set_option linter.unusedSimpArgs false

/-- A node's cells, as one value. -/
def ndV (k sp : Int) (n : ByteArray) (qa : Option Addr) (la ca : Nat) (tx : ByteArray) (qk : Option Addr) (lk ck : Nat) : Value := .agg #[.int .i64 k, .int .i64 sp, .string n, .slice qa la ca, .string tx, .slice qk lk ck]
/-- What lies behind such a value: a node. -/
def NdV (k sp : Int) (n : ByteArray) (ats : List (ByteArray × ByteArray)) (tx : ByteArray) (kids : Forest) (v : Value) (w : World) : Prop :=
  ∃ qa ca qk ck, v = ndV k sp n qa ats.length ca tx qk kids.len ck ∧ Sl qa ats w ∧ Fo qk kids w ∧ kids.len ≤ ck
theorem NdV.below {k sp : Int} {n : ByteArray} {ats : List (ByteArray × ByteArray)} {tx : ByteArray} {kids : Forest} {v : Value} {w w' : World} (h : NdV k sp n ats tx kids v w) (hb : Below w.heap.size w w') : NdV k sp n ats tx kids v w' := by
  obtain ⟨qa, ca, qk, ck, h1, h2, h3, h4⟩ := h
  exact ⟨qa, ca, qk, ck, h1, h2.below hb, h3.below hb, h4⟩
theorem NdV.le {k sp : Int} {n : ByteArray} {ats : List (ByteArray × ByteArray)} {tx : ByteArray} {kids : Forest} {v : Value} {w w' : World} (hc : CellLe w w') (h : NdV k sp n ats tx kids v w) : NdV k sp n ats tx kids v w' := by
  obtain ⟨qa, ca, qk, ck, h1, h2, h3, h4⟩ := h
  exact ⟨qa, ca, qk, ck, h1, h2.le hc, h3.le hc, h4⟩
theorem six_lies {w : World} {k sp : Int} {n : ByteArray} {ats : List (ByteArray × ByteArray)} {tx : ByteArray} {kids : Forest} {qa qk : Option Addr} {ca ck : Nat} {t : TypeId} {b : Nat} (hb : Blk w b #[.int .i64 k, .int .i64 sp, .string n, .slice qa ats.length ca, .string tx, .slice qk kids.len ck] t) (h2 : Sl qa ats w) (h3 : Fo qk kids w) (h4 : kids.len ≤ ck) : Lies (.cons k sp n ats tx kids .nil) b 0 w :=
  ⟨⟨hb.cell 0, hb.cell 1, hb.cell 2, ⟨qa, ca, hb.cell 3, h2⟩, hb.cell 4, ⟨qk, ck, hb.cell 5, h4, h3⟩⟩, trivial⟩
theorem cpI_fo {w0 w : World} {N : Nat → Bool} {f : Forest} {q : Option Addr} (h : CpI w0 N [] f q w) : Fo q f (mask (hiP w0.heap.size) w) :=
  h.top.imp id fun ⟨g, e, hm⟩ => ⟨g, 0, e, hm.done (fun _ _ ⟨e, he, _⟩ => by cases he) (fun i hi => (h.nb i hi).1) _ _ _⟩
set_option maxHeartbeats 4000000 in
set_option maxRecDepth 100000 in
theorem copied_any (k sp : Int) (n : ByteArray) (ats : List (ByteArray × ByteArray)) (tx : ByteArray) (kids : Forest) (v : Value) (w : World) (hv : NdV k sp n ats tx kids v w) (hc : kids.count ≤ 900000) (hs : SmF (.cons k sp n ats tx kids .nil)) :
    Calls Tryd.prog 47 #[v] w fun e w' => ∃ v', e = .returned v' ∧ NdV k sp n ats tx kids v' (mask (hiP w.heap.size) w') ∧ Below w.heap.size w w' := by
  obtain ⟨qa, ca, qk, ck, rfl, h2, h3, h4⟩ := hv
  unfold ndV
  obtain ⟨W1, hW1⟩ : ∃ W1, (w.alloc (Obj.cells #[.int .i64 k, .int .i64 sp, .string n, .slice qa ats.length ca, .string tx, .slice qk kids.len ck] 44)).alloc (Obj.cells #[.int .i64 0, .int .i64 0, .string ⟨#[]⟩, .slice none 0 0, .string ⟨#[]⟩, .slice none 0 0] 44) = W1 := ⟨_, rfl⟩
  have hb1 : Below w.heap.size w W1 := by rw [← hW1]; exact ((Below.refl w.heap.size w).alloc (Nat.le_refl _) _).alloc (by simp) _
  have hs1 : W1.heap.size = w.heap.size + 2 := by rw [← hW1]; simp
  have k0 : Blk W1 w.heap.size #[.int .i64 k, .int .i64 sp, .string n, .slice qa ats.length ca, .string tx, .slice qk kids.len ck] 44 := by rw [← hW1]; exact (Blk.new w _ _).alloc _
  have k1 : Blk W1 (w.heap.size + 1) #[.int .i64 0, .int .i64 0, .string ⟨#[]⟩, .slice none 0 0, .string ⟨#[]⟩, .slice none 0 0] 44 := by
    rw [← hW1]
    have := Blk.new (w.alloc (Obj.cells #[.int .i64 k, .int .i64 sp, .string n, .slice qa ats.length ca, .string tx, .slice qk kids.len ck] 44)) #[.int .i64 0, .int .i64 0, .string ⟨#[]⟩, .slice none 0 0, .string ⟨#[]⟩, .slice none 0 0] 44
    simpa using this
  obtain ⟨W2, hW2⟩ : ∃ W2, W1.alloc (Obj.cells #[.int .i64 k, .int .i64 sp, .string n, .slice qa ats.length ca, .string tx, .slice qk kids.len ck] 44) = W2 := ⟨_, rfl⟩
  have hb2 : Below W1.heap.size W1 W2 := by rw [← hW2]; exact (Below.refl _ _).alloc (Nat.le_refl _) _
  have hb02 : Below w.heap.size w W2 := tr2 hb1 hb2
  have k2 : Blk W2 (w.heap.size + 2) #[.int .i64 k, .int .i64 sp, .string n, .slice qa ats.length ca, .string tx, .slice qk kids.len ck] 44 := by rw [← hW2, ← hs1]; exact Blk.new _ _ _
  have hl := six_lies k2 (h2.below hb02) (h3.below hb02) h4
  have CC := hide (copy_any (.cons k sp n ats tx kids .nil) (some ⟨w.heap.size + 2, 0, none⟩) 1 W2 (Or.inr ⟨_, 0, rfl, hl⟩) (by simp [Forest.count]; omega) hs)
  rw [show (Forest.cons k sp n ats tx kids .nil).len = 1 from rfl] at CC
  have HB := hide hb02
  have K1 := hide (k1.later hb2)
  have hs2 : W2.heap.size = w.heap.size + 3 := by rw [← hW2]; simp [hs1]
  have K0 := hide k0
  have hz0 : W1.heap.size = w.heap.size + 2 := hs1
  have c0 : W1.cell? ⟨w.heap.size, 0, none⟩ = some (.int .i64 k) := k0.cell 0
  have c1 : W1.cell? ⟨w.heap.size, 1, none⟩ = some (.int .i64 sp) := k0.cell 1
  have c2 : W1.cell? ⟨w.heap.size, 2, none⟩ = some (.string n) := k0.cell 2
  have c3 : W1.cell? ⟨w.heap.size, 3, none⟩ = some (.slice qa ats.length ca) := k0.cell 3
  have c4 : W1.cell? ⟨w.heap.size, 4, none⟩ = some (.string tx) := k0.cell 4
  have c5 : W1.cell? ⟨w.heap.size, 5, none⟩ = some (.slice qk kids.len ck) := k0.cell 5
  clear hl k0 k1 k2 hb1 hb2 hb02 h2 h3 h4 hs hc
  obtain ⟨al, hal⟩ : ∃ al, ats.length = al := ⟨_, rfl⟩
  obtain ⟨kl, hkl⟩ : ∃ kl, kids.len = kl := ⟨_, rfl⟩
  rw [hal] at c3 hW1 hW2
  rw [hkl] at c5 hW1 hW2
  rw [hal, hkl]
  have HAL := hide hal
  have HKL := hide hkl
  clear hal hkl
  go_enter Tryd.func47, Tryd.ntmps47
  go_wp2_with fail
  refine (unhide CC).mono ?_
  rintro e w2 ⟨q', c', N, rfl, hc1, hI⟩
  obtain ⟨g, og, hq, hl⟩ : ∃ g og, q' = some ⟨g, og, none⟩ ∧ Lies (.cons k sp n ats tx kids .nil) g og (mask (hiP W2.heap.size) w2) := by
    rcases cpI_fo hI with h | h
    · cases h
    · exact h
  subst hq
  obtain ⟨⟨m0, m1, m2, ⟨qa', ca', m3, msl⟩, m4, ⟨qk', ck', m5, mck, mfo⟩⟩, -⟩ := hl
  have x0 := (mask_cell.1 m0).2
  have x1 := (mask_cell.1 m1).2
  have x2 := (mask_cell.1 m2).2
  have x3 := (mask_cell.1 m3).2
  have x4 := (mask_cell.1 m4).2
  have x5 := (mask_cell.1 m5).2
  rw [unhide HAL] at x3
  rw [unhide HKL] at x5
  have hb2 := hI.bel
  have HBW := hide (tr2 (unhide HB) hb2)
  have k2 := (unhide K1).later hb2
  have y0 : w2.cell? ⟨w.heap.size + 1, 0, none⟩ = some (.int .i64 0) := k2.cell 0
  have y1 : w2.cell? ⟨w.heap.size + 1, 1, none⟩ = some (.int .i64 0) := k2.cell 1
  have y2 : w2.cell? ⟨w.heap.size + 1, 2, none⟩ = some (.string ⟨#[]⟩) := k2.cell 2
  have y3 : w2.cell? ⟨w.heap.size + 1, 3, none⟩ = some (.slice none 0 0) := k2.cell 3
  have y4 : w2.cell? ⟨w.heap.size + 1, 4, none⟩ = some (.string ⟨#[]⟩) := k2.cell 4
  have y5 : w2.cell? ⟨w.heap.size + 1, 5, none⟩ = some (.slice none 0 0) := k2.cell 5
  have yf0 : w2.frozen? ⟨w.heap.size + 1, 0, none⟩ = false := k2.frozen 0
  have yf1 : w2.frozen? ⟨w.heap.size + 1, 1, none⟩ = false := k2.frozen 1
  have yf2 : w2.frozen? ⟨w.heap.size + 1, 2, none⟩ = false := k2.frozen 2
  have yf3 : w2.frozen? ⟨w.heap.size + 1, 3, none⟩ = false := k2.frozen 3
  have yf4 : w2.frozen? ⟨w.heap.size + 1, 4, none⟩ = false := k2.frozen 4
  have yf5 : w2.frozen? ⟨w.heap.size + 1, 5, none⟩ = false := k2.frozen 5
  have K2 := hide k2
  have hw2 : w.heap.size ≤ W2.heap.size := by omega
  have hp : hiP W2.heap.size (w.heap.size + 1) = true := hiP_at (by omega)
  have HM := hide (And.intro msl (And.intro mfo (And.intro mck hp)))
  clear k2 hb2 msl mfo mck m0 m1 m2 m3 m4 m5 hI hp CC c0 c1 c2 c3 c4 c5 hW1 hW2
  go_wp2
  have kk := (((((((unhide K2).set 0 (by simp) (.int .i64 k)).set 1 (by simp) (.int .i64 sp)).set 2 (by simp) (.string n)).set 3 (by simp) (.slice qa' al ca')).set 4 (by simp) (.string tx)).set 5 (by simp) (.slice qk' kl ck'))
  have d0 := kk.cell 0
  have d1 := kk.cell 1
  have d2 := kk.cell 2
  have d3 := kk.cell 3
  have d4 := kk.cell 4
  have d5 := kk.cell 5
  have hle : CellLe (mask (hiP W2.heap.size) w2) (mask (hiP w.heap.size) _) := ((((((mask_set (o := 0) (v := .int .i64 k) (unhide HM).2.2.2).trans (mask_set (o := 1) (v := .int .i64 sp) (unhide HM).2.2.2)).trans (mask_set (o := 2) (v := .string n) (unhide HM).2.2.2)).trans (mask_set (o := 3) (v := .slice qa' al ca') (unhide HM).2.2.2)).trans (mask_set (o := 4) (v := .string tx) (unhide HM).2.2.2)).trans (mask_set (o := 5) (v := .slice qk' kl ck') (unhide HM).2.2.2)).trans (mask_less _ (hiP_less hw2))
  exact bodyPost_ret (v := .agg #[.int .i64 k, .int .i64 sp, .string n, .slice qa' al ca', .string tx, .slice qk' kl ck']) (by simp [results, Tryd.results47, go_sem, d0, d1, d2, d3, d4, d5]) rfl ⟨_, rfl, ⟨qa', ca', qk', ck', by unfold ndV; rw [unhide HAL, unhide HKL], Sl.le hle (unhide HM).1, Fo.le hle (unhide HM).2.1, (unhide HM).2.2.1⟩, ((((((unhide HBW).setCell (p := ⟨w.heap.size + 1, 0, none⟩) (by simp) _).setCell (p := ⟨w.heap.size + 1, 1, none⟩) (by simp) _).setCell (p := ⟨w.heap.size + 1, 2, none⟩) (by simp) _).setCell (p := ⟨w.heap.size + 1, 3, none⟩) (by simp) _).setCell (p := ⟨w.heap.size + 1, 4, none⟩) (by simp) _).setCell (p := ⟨w.heap.size + 1, 5, none⟩) (by simp) _⟩
end Go.Proofs.YtbabmkilbbbmoaaDoor

/-
  What a keys.writer's node writes.
-/
namespace Go.Proofs.YtbabmkilbbbmoaaDoor
open Go.RowKit
set_option linter.unusedVariables false
set_option linter.unusedSimpArgs false

def atsB : List (ByteArray × ByteArray) → List UInt8
  | [] => []
  | a :: r => textB a.1 ++ (textB a.2 ++ atsB r)
def nodeB (k sp : Int) (n : ByteArray) (ats : List (ByteArray × ByteArray)) (tx : ByteArray) (kl : Nat) : List UInt8 :=
  labelB k sp n ++ (textB tx ++ (numB (ats.length : Nat) ++ (atsB ats ++ numB (kl : Nat))))
theorem atsB_drop (ats : List (ByteArray × ByteArray)) (j : Nat) (hj : j < ats.length) : atsB (ats.drop j) = textB (an ats j) ++ (textB (av ats j) ++ atsB (ats.drop (j + 1))) := by
  rw [List.drop_eq_getElem_cons hj, atsB]
  have h3 : ats.getD j (ByteArray.empty, ByteArray.empty) = ats[j] := by simp [List.getD, List.getElem?_eq_getElem hj]
  unfold an av
  rw [h3]
/-- The numbers that a node tells can be told. -/
def ItoaNd (w0 : World) (k sp : Int) (n : ByteArray) (ats : List (ByteArray × ByteArray)) (tx : ByteArray) (kl : Nat) : Prop :=
  ItoaAt w0 k ∧ ItoaAt w0 sp ∧ ItoaAt w0 (n.size : Nat) ∧ ItoaAt w0 (tx.size : Nat) ∧ ItoaAt w0 (ats.length : Nat) ∧ ItoaAt w0 (kl : Nat) ∧ ∀ j, j < ats.length → ItoaAt w0 ((an ats j).size : Nat) ∧ ItoaAt w0 ((av ats j).size : Nat)
set_option maxHeartbeats 8000000 in
set_option maxRecDepth 100000 in
theorem knode_any (w0 : World) (B b : Nat) (l : List UInt8) (k sp : Int) (n : ByteArray) (ats : List (ByteArray × ByteArray)) (tx : ByteArray) (qa : Option Addr) (ca : Nat) (qk : Option Addr) (kl ck : Nat) (g o : Nat) (w : World) (h : Kwt B b l w) (hb : Below w0.heap.size w0 w) (hB : w0.heap.size ≤ B) (hBw : B ≤ w.heap.size)
    (P : World → Prop) (hP : ∀ W l' W', P W → KwN w0 B b l' W W' → P W') (hPa : ∀ W X, P W → P (W.alloc X)) (hpw : P w)
    (hL : ∀ W, P W → W.cell? ⟨g, o, none⟩ = some (.int .i64 k) ∧ W.cell? ⟨g, o + 1, none⟩ = some (.int .i64 sp) ∧ W.cell? ⟨g, o + 2, none⟩ = some (.string n) ∧ W.cell? ⟨g, o + 3, none⟩ = some (.slice qa ats.length ca) ∧ W.cell? ⟨g, o + 4, none⟩ = some (.string tx) ∧ W.cell? ⟨g, o + 5, none⟩ = some (.slice qk kl ck))
    (hsl : ∀ W, P W → Sl qa ats W)
    (hN : ItoaNd w0 k sp n ats tx kl) (hns : n.size ≤ 5000) (hts : tx.size ≤ 5000) (hft : Fits ats) (hlen : l.length + (nodeB k sp n ats tx kl).length ≤ 100000000000) :
    Calls Tryd.prog 64 #[.pointer (some ⟨b, 0, none⟩), .pointer (some ⟨g, o, none⟩)] w fun e w' => e = .returned (.tuple #[]) ∧ KwN w0 B b (l ++ nodeB k sp n ats tx kl) w w' ∧ P w' := by
  obtain ⟨n1, n2, n3, n4, n5, n6, n7⟩ := hN
  have HTOT : Hid (l ++ nodeB k sp n ats tx kl = (((l ++ labelB k sp n) ++ textB tx) ++ numB (ats.length : Nat)) ++ atsB ats ++ numB (kl : Nat)) := hide (by rw [nodeB]; simp only [List.append_assoc])
  have hlen2 : ((((l ++ labelB k sp n) ++ textB tx) ++ numB (ats.length : Nat)) ++ atsB ats ++ numB (kl : Nat)).length ≤ 100000000000 := by rw [← unhide HTOT, List.length_append]; exact hlen
  rw [unhide HTOT]
  simp only [List.length_append] at hlen2
  have C1 := hide (klabel_any w0 B b l k sp n g o w h hb hB hBw n1 n2 n3 (by omega) (by omega) P hP hpw (fun W hW => ⟨(hL W hW).1, (hL W hW).2.1, (hL W hW).2.2.1⟩))
  have C2 := hide (fun W (h' : Kwt B b (l ++ labelB k sp n) W) hb' (hs' : B ≤ W.heap.size) => ktext_any w0 B b (l ++ labelB k sp n) tx W h' hb' hB hs' n4 (by omega) (by simp only [List.length_append]; omega))
  have C3 := hide (fun W (h' : Kwt B b ((l ++ labelB k sp n) ++ textB tx) W) hb' (hs' : B ≤ W.heap.size) => knum_any w0 B b ((l ++ labelB k sp n) ++ textB tx) (ats.length : Nat) W h' hb' hB hs' n5 (by simp only [List.length_append]; omega))
  have C4 := hide (fun W (h' : Kwt B b ((((l ++ labelB k sp n) ++ textB tx) ++ numB (ats.length : Nat)) ++ atsB ats) W) hb' (hs' : B ≤ W.heap.size) => knum_any w0 B b ((((l ++ labelB k sp n) ++ textB tx) ++ numB (ats.length : Nat)) ++ atsB ats) (kl : Nat) W h' hb' hB hs' n6 (by simp only [List.length_append]; omega))
  have q4 : ((((l ++ labelB k sp n) ++ textB tx) ++ numB (ats.length : Nat)) ++ atsB ats).length ≤ 100000000000 := by simp only [List.length_append]; omega
  generalize (((l ++ labelB k sp n) ++ textB tx) ++ numB (ats.length : Nat)) = m3 at *
  generalize (l ++ labelB k sp n) ++ textB tx = m2 at *
  generalize l ++ labelB k sp n = m1 at *
  have HL := hide hL
  have HP := hide hP
  have HPA := hide hPa
  have HSL := hide hsl
  have HPW := hide hpw
  have HFT := hide hft
  have HN7 := hide n7
  have hal : ats.length ≤ 1000 := hft.1
  have hsz := hb.size
  clear h hb hlen hlen2 hL hP hPa hsl hpw hft n1 n2 n3 n4 n5 n6 n7 hns hts HTOT
  go_enter Tryd.func64, Tryd.ntmps64
  go_wp2_with fail
  refine (unhide C1).mono ?_
  rintro e w1 ⟨rfl, hk1⟩
  have hp1 := unhide HP w _ w1 (unhide HPW) hk1
  have CC2 := hide (unhide C2 w1 hk1.1 hk1.2.1 (by have := hk1.2.2.1.size; omega))
  obtain ⟨-, -, -, -, d4, -⟩ := unhide HL w1 hp1
  have HK1 := hide hk1
  have HP1 := hide hp1
  clear C1 C2 hk1 hp1 HPW
  go_wp2_with fail
  refine (unhide CC2).mono ?_
  rintro e w2 ⟨rfl, hk2⟩
  have hp2 := unhide HP w1 _ w2 (unhide HP1) hk2
  have HK2 := hide ((unhide HK1).trans hk2)
  have CC3 := hide (unhide C3 w2 hk2.1 hk2.2.1 (by have := (unhide HK2).2.2.1.size; omega))
  obtain ⟨-, -, -, d3, -, -⟩ := unhide HL w2 hp2
  have HP2 := hide hp2
  clear CC2 C3 hk2 hp2 HP1 HK1 d4
  go_wp2_with fail
  refine (unhide CC3).mono ?_
  rintro e w3 ⟨rfl, hk3⟩
  have hp3 := unhide HP w2 _ w3 (unhide HP2) hk3
  have HK3 := hide ((unhide HK2).trans hk3)
  clear d3
  obtain ⟨-, -, -, d3, -, -⟩ := unhide HL w3 hp3
  have HP3 := hide hp3
  clear CC3 hk3 hp3 HP2 HK2
  go_wp2
  clear d3
  go_loopw [27] (fun i wr => ∃ (j : Nat) (m : List UInt8), j ≤ ats.length ∧ i = .int .i64 j ∧ m ++ atsB (ats.drop j) = m3 ++ atsB ats ∧ KwN w0 B b m w wr ∧ P wr) (fun i _ => ats.length - (intOf i).toNat)
  case atStart => exact ⟨0, m3, Nat.zero_le _, rfl, rfl, unhide HK3, unhide HP3⟩
  case round =>
    clear HK3 HP3
    obtain ⟨j, m, hj, rfl, hm, hkw, hpr⟩ := hrel
    have hszr := hkw.2.2.1.size
    by_cases hp : j < ats.length
    · have hpi : (j : Int) < (ats.length : Int) := by omega
      rcases unhide HSL wr hpr with h0 | ⟨ga, oa, hqa, hcl⟩
      · rw [h0] at hp; simp at hp
      subst hqa
      obtain ⟨c1, c2⟩ := hcl j hp
      obtain ⟨z1, z2⟩ := (unhide HFT).2 j hp
      obtain ⟨i1, i2⟩ := unhide HN7 j hp
      have hq := congrArg List.length hm
      rw [atsB_drop ats j hp] at hm hq
      simp only [List.length_append] at hq q4
      have CT1 := hide (fun W (h' : Kwt B b m W) hb' (hs' : B ≤ W.heap.size) => ktext_any w0 B b m (an ats j) W h' hb' hB hs' i1 (by omega) (by omega))
      have CT2 := hide (fun W (h' : Kwt B b (m ++ textB (an ats j)) W) hb' (hs' : B ≤ W.heap.size) => ktext_any w0 B b (m ++ textB (an ats j)) (av ats j) W h' hb' hB hs' i2 (by omega) (by rw [List.length_append]; omega))
      have HM : Hid (((m ++ textB (an ats j)) ++ textB (av ats j)) ++ atsB (ats.drop (j + 1)) = m3 ++ atsB ats) := hide (by rw [← hm]; simp only [List.append_assoc])
      have hbA := (Below.refl wr.heap.size wr).alloc (Nat.le_refl _) (Obj.cells #[.string (an ats j), .string (av ats j)] 112)
      have hblk := Blk.new wr #[.string (an ats j), .string (av ats j)] 112
      have hpA := unhide HPA wr (Obj.cells #[.string (an ats j), .string (av ats j)] 112) hpr
      have hkA : KwN w0 B b m w (wr.alloc (Obj.cells #[.string (an ats j), .string (av ats j)] 112)) := ⟨kwt_below hkw.1 hbA, tr2 hkw.2.1 hbA, hkw.2.2.1.alloc (by omega) _, Lib.OthersKept.trans hkw.2.2.2 (oth_of_belowK hbA)⟩
      have hbb : b < wr.heap.size := by
        obtain ⟨p, v, hp, hB, hbk, _⟩ := kwt_any hkw.1
        exact (Array.getElem?_eq_some_iff.1 hbk).1
      have CT1' := hide (unhide CT1 _ hkA.1 hkA.2.1 (by simp; omega))
      have HX := hide (And.intro hblk (And.intro hkA hpA))
      generalize an ats j = x at *
      generalize av ats j = y at *
      clear hm hq hkw hpr hcl hbA hblk hkA hpA z1 z2 i1 i2 CT1
      go_wp2_with fail
      refine (unhide CT1').mono ?_
      rintro e w5 ⟨rfl, hk5⟩
      have hK5 := (unhide HX).2.1.trans hk5
      have hP5 := unhide HP _ _ w5 (unhide HX).2.2 hk5
      have hblk5 : Blk w5 wr.heap.size #[.string x, .string y] 112 := hk5.2.2.2 _ _ (unhide HX).1 (fun e => by injection e with e; omega) (fun c fz e => by injection e with _ e; revert e; decide)
      have k1 : w5.cell? ⟨wr.heap.size, 1, none⟩ = some (.string y) := hblk5.cell 1
      have CT2' := hide (unhide CT2 w5 hk5.1 hk5.2.1 (by have := hK5.2.2.1.size; omega))
      have HX5 := hide (And.intro hK5 hP5)
      clear CT1' CT2 hk5 hK5 hP5 hblk5 HX c1 c2
      go_wp2_with fail
      refine (unhide CT2').mono ?_
      rintro e w6 ⟨rfl, hk6⟩
      have HX6 := hide (And.intro ((unhide HX5).1.trans hk6) (unhide HP _ _ w6 (unhide HX5).2 hk6))
      clear CT2' hk6 HX5 k1
      go_wp2
      go_roundw
      case rel => exact ⟨j + 1, _, by omega, by go_num, unhide HM, unhide HX6⟩
      case measure => simp [intOf]; omega
    · have hpi : ¬ (j : Int) < (ats.length : Int) := by omega
      rw [List.drop_eq_nil_of_le (by omega), atsB, List.append_nil] at hm
      subst hm
      have CK1 := hide (unhide C4 wr hkw.1 hkw.2.1 (by omega))
      obtain ⟨-, -, -, -, -, d5⟩ := unhide HL wr hpr
      have HX := hide (And.intro hkw hpr)
      clear hkw hpr C4 hp
      go_wp2_with fail
      refine (unhide CK1).mono ?_
      rintro e w5 ⟨rfl, hk5⟩
      have HY := hide (And.intro ((unhide HX).1.trans hk5) (unhide HP _ _ w5 (unhide HX).2 hk5))
      clear CK1 hk5 HX d5
      go_wp2
      refine bodyPost_end (v := .tuple #[]) (results_none Tryd.results64 _ _ _) rfl ?_
      exact ⟨rfl, unhide HY⟩
end Go.Proofs.YtbabmkilbbbmoaaDoor
