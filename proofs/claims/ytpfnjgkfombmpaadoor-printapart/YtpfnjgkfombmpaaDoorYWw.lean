/-
  'tree.Words': 'tree.walk' under its closure (made by mk_yww.py): the closure and the walk keep apart because their rows are of other types.
-/
import Derived.Test.YtpfnjgkfombmpaaDoorYCk
import Derived.Test.YtpfnjgkfombmpaaDoorMgC
namespace Go.Proofs.YtpfnjgkfombmpaaDoor
open Go.RowKit
set_option linter.unusedVariables false
set_option linter.unusedSimpArgs false

/-- Rows of lists of nodes stand as they stood. -/
def KeepN (w w' : World) : Prop := w.heap.size ≤ w'.heap.size ∧ ∀ (b : Nat) (c : Array Value), w.heap[b]? = some (Obj.cells c 22 (0, 0)) → w'.heap[b]? = some (Obj.cells c 22 (0, 0))
theorem ownsRow_keep {w w' : World} {base : Nat} {size : Nat} {v : Value} {n : Nat} {xs : List Value} (h : w.ownsRow base 22 size v n xs) (hs : KeepN w w') : w'.ownsRow base 22 size v n xs := by
  obtain ⟨hl, h⟩ := h
  refine ⟨hl, ?_⟩
  rcases h with h | ⟨g, cap, cur, h1, h2, h3, h4, h5, h6, h7⟩
  · exact .inl h
  · exact .inr ⟨g, cap, cur, h1, h2, hs.2 _ _ h3, h4, h5, h6, h7⟩
theorem row_ty {w : World} {base : Nat} {e : TypeId} {size : Nat} {b cap0 n : Nat} {xs : List Value} (h : w.ownsRow base e size (.slice (some ⟨b, 0, none⟩) n cap0) n xs) : ∃ c, w.heap[b]? = some (.cells c e (0, 0)) := by
  rcases h.2 with ⟨h, h0⟩ | ⟨g, cap, cur, h1, h2, h3, _⟩
  · cases h
  · injection h1 with h1
    injection h1 with h1
    injection h1 with h1
    subst h1
    exact ⟨cur, h3⟩
theorem kept_set {w : World} {b o : Nat} {e : TypeId} (h : ∃ c, w.heap[b]? = some (.cells c e (0, 0))) (v : Value) : Lib.OthersKept e none w (w.setCell ⟨b, o, none⟩ v) := by
  intro k x hk _ hx
  by_cases hkb : k = b
  · subst hkb
    obtain ⟨c, hc⟩ := h
    rw [hc] at hk
    injection hk with hk
    exact absurd hk.symm (hx _ _)
  · exact (Below.heap_setCell w ⟨b, o, none⟩ v k hkb).trans hk

set_option maxHeartbeats 8000000 in
set_option maxRecDepth 100000 in
theorem walk_words {σ : Type} (stp : σ → Item → σ × Bool) (Inv : σ → World → Prop) (G : Nat) (w0 : World) (B0 : Nat)
    (fin : σ) (hstab : ∀ s w w', Inv s w → Lib.OthersKept 22 none w w' → Inv s w')
    (C : ∀ (s : σ) (k sp : Int) (n : ByteArray) (ats : List (ByteArray × ByteArray)) (tx : ByteArray) (kids rest : Forest) (g o d : Nat) (w : World), Inv s w → Below w0.heap.size w0 w → B0 ≤ w.heap.size → Lies (.cons k sp n ats tx kids rest) g o w0 → SmF (.cons k sp n ats tx kids rest) → d ≤ 2000000 → (∃ r, tell stp s (⟨k, sp, n, ats, tx, kids, d⟩ :: r) = fin) →
      Calls Tryd.prog 62 #[.pointer (some ⟨g, o, none⟩), .int .i64 (d : Int), .pointer (some ⟨G, 0, none⟩)] w fun e w' => e = .returned (.bool (stp s ⟨k, sp, n, ats, tx, kids, d⟩).2) ∧ Inv (stp s ⟨k, sp, n, ats, tx, kids, d⟩).1 w' ∧ Below w0.heap.size w0 w' ∧ KeepN w w')
    (f : Forest) (q : Option Addr) (cap : Nat) (w : World) (hf : Fo q f w0) (hsmf : SmF f) (hcap : f.len ≤ cap) (hc : f.count ≤ 1000000) (s : σ) (hfin : tell stp s (items f 1) = fin) (hI : Inv s w) (hb : Below w0.heap.size w0 w) (hB : w0.heap.size ≤ B0) (hB2 : B0 ≤ w.heap.size) :
    Calls Tryd.prog 34 #[.slice q f.len cap, .func (.func 62) #[] #[.pointer (some ⟨G, 0, none⟩)]] w fun e w' => e = .returned (.tuple #[]) ∧ Inv (tell stp s (items f 1)) w' ∧ Below w0.heap.size w0 w' := by
  rw [hfin]
  have HC := hide C
  have HST := hide hstab
  obtain ⟨i0, hi0, hi1, hi2, hi3⟩ := info_parts infoNodes0
  have hrow0 : (w.alloc (Obj.cells #[.slice q f.len cap] 22)).ownsRow w.heap.size 22 1 (.slice (some ⟨w.heap.size, 0, none⟩) 1 1) 1 [.slice q f.len cap] :=
    ⟨rfl, Or.inr ⟨w.heap.size, 1, #[.slice q f.len cap], rfl, Nat.le_refl _, Blk.new w _ _, Nat.le_refl _, by unfold maxLen; omega, rfl, rfl⟩⟩
  have HAT : Hid (WalkAtS stp Inv w0 w.heap.size fin (2 * f.count + 1) (.slice (some ⟨w.heap.size, 0, none⟩) 1 1) (w.alloc (Obj.cells #[.slice q f.len cap] 22))) := hide ⟨[(f, q, cap)], s, by simpa [cnt] using hc, by simp [cnt]; omega, by simp [cnt], fun e he => by rw [List.mem_singleton.1 he]; exact ⟨hf, hcap, hsmf⟩, hrow0, by simp [todo]; exact hfin, hstab s w _ hI ((Lib.OthersKept.refl _ _ _).alloc _), hb.alloc hb.size _, by simp⟩
  clear C hstab hrow0 hI hf
  go_enter Tryd.func34, Tryd.ntmps34
  go_wp2
  go_loopg [4] (2 * f.count + 1) (fun gk left wr => WalkAtS stp Inv w0 w.heap.size fin gk left wr)
  case atStart => exact unhide HAT
  case round =>
    clear HAT
    obtain ⟨st, s', hc1, hc2, hgk, hok, hrow, htl, hinv, hbw, hsz⟩ := hrel
    match st, hc1, hc2, hgk, hok, hrow, htl with
    | [], hc1, hc2, hgk, hok, hrow, htl =>
      obtain ⟨a4, cap4, rfl⟩ := slice_n hrow
      have HF : Hid (s' = fin) := hide htl
      have HX := hide (And.intro hinv hbw)
      simp only [List.length_nil]
      clear htl hok hrow hinv hbw
      go_wp2
      refine bodyPost_end (v := .tuple #[]) (results_none Tryd.results34 _ _ _) rfl ?_
      exact ⟨rfl, by rw [← unhide HF]; exact (unhide HX).1, (unhide HX).2⟩
    | (fo, qe, ce) :: st, hc1, hc2, hgk, hok, hrow, htl =>
      rw [rowOf_cons] at hrow
      obtain ⟨b, capb, rfl, hbb, hcb, c0, cf0, hblt, hpop, hset⟩ := row_last hrow (rowOf_len st)
      have HTY := hide (row_ty hrow)
      have hoke := hok (fo, qe, ce) (List.mem_cons_self ..)
      have HOK := hide (show StackOkS w0 st from fun e he => hok e (List.mem_cons_of_mem _ he))
      have hln : (st.length : Int) + 1 ≤ 1000001 := by simp at hc2; omega
      have hcbi : (st.length : Int) + 1 ≤ (capb : Int) := by omega
      cases fo with
      | nil =>
        have HT : Hid (tell stp s' (todo (st.map (·.1))) = fin) := hide htl
        have HX := hide (And.intro hinv (And.intro hbw (And.intro hsz hpop)))
        have hg' : 2 * cnt st + st.length < gk := by simp [cnt, Forest.count] at hgk; omega
        have hc1' : cnt st ≤ 1000000 := by simp [cnt, Forest.count] at hc1; omega
        have hc2' : st.length + cnt st ≤ 1000001 := by simp [cnt, Forest.count] at hc2; omega
        simp only [Entry.val, Forest.len] at c0
        clear htl hok hrow hinv hbw hset hpop hoke hgk hc1 hc2
        go_wp2
        go_roundg (2 * cnt st + st.length)
        case measure => exact hg'
        case rel => exact ⟨st, s', hc1', hc2', rfl, unhide HOK, (unhide HX).2.2.2, unhide HT, (unhide HX).1, (unhide HX).2.1, (unhide HX).2.2.1⟩
      | cons k sp n ats tx kids rest =>
        obtain ⟨hfo, hce, hsm⟩ := hoke
        have HSM := hide (show SmF (.cons k sp n ats tx kids rest) from hsm)
        rcases hfo with h | ⟨g, o, hq, hl⟩
        · cases h
        have hq' : qe = some ⟨g, o, none⟩ := hq
        subst hq'
        have hlr := hl.2
        have hll := hl
        obtain ⟨⟨_, _, _, _, _, ⟨qk, ck, l5, hck, hfk⟩⟩, _⟩ := hl
        have hce' : rest.len + 1 ≤ ce := hce
        have hcei : (rest.len : Int) + 1 ≤ (ce : Int) := by omega
        have hrl : (rest.len : Int) + 1 ≤ 1000001 := by
          have := rest.len_count
          simp [cnt, Forest.count] at hc1
          omega
        simp only [Entry.val, Forest.len] at c0
        have HP := hide hset
        have HTO : Hid (tell stp s' (todo ((Forest.cons k sp n ats tx kids rest) :: st.map (·.1))) = tell stp s' (⟨k, sp, n, ats, tx, kids, st.length + 1⟩ :: (items kids (st.length + 1 + 1) ++ (items rest (st.length + 1) ++ todo (st.map (·.1)))))) := hide (by show tell stp s' (items (Forest.cons k sp n ats tx kids rest) ((st.map (·.1)).length + 1) ++ todo (st.map (·.1))) = _; rw [List.length_map]; show tell stp s' (_ :: (items kids (st.length + 1 + 1) ++ items rest (st.length + 1)) ++ todo (st.map (·.1))) = _; rw [List.cons_append, List.append_assoc])
        have CC := hide (fun w h1 h2 h3 => unhide HC s' k sp n ats tx kids rest g o (st.length + 1) w h1 h2 h3 hll (unhide HSM) (by omega) ⟨_, (unhide HTO).symm.trans htl⟩)
        have e1 : ((rest.len : Int) + 1 == 0) = false := beq_eq_false_iff_ne.2 (by omega)
        have HX := hide (And.intro hinv (And.intro hbw (And.intro hsz (And.intro hc1 (And.intro hc2 (And.intro hgk htl))))))
        have HKD := hide (And.intro hll (And.intro hlr (And.intro l5 (And.intro hck hfk))))
        clear hok hrow hpop hce hset hinv hbw hsz hc1 hc2 hgk htl hll hlr l5 hck hfk hce'
        have HRN : Hid (rest.len = rest.len) := hide rfl
        obtain ⟨rl, hrlq⟩ : ∃ rl, rest.len = rl := ⟨_, rfl⟩
        obtain ⟨sl, hslq⟩ : ∃ sl, st.length = sl := ⟨_, rfl⟩
        rw [hrlq] at c0 hcei hrl e1
        rw [hslq] at c0 cf0 hln hcbi HP hcb CC
        rw [hslq]
        have HQ := hide (And.intro hrlq hslq)
        clear hrlq hslq HRN
        have j1 : (1 : Int) ≤ (rl : Int) + 1 := by omega
        have j2 : (0 : Int) < (rl : Int) + 1 := by omega
        go_upto_region 7 with fail
        generalize hqr : (if ce = 1 then some (⟨g, o, none⟩ : Addr) else some ⟨g, o + 6, none⟩) = qr at *
        have HQR : Hid (Fo qr rest w0) := hide (by
          by_cases h1 : ce = 1
          · left
            have hr0 : rest.len = 0 := by have := (unhide HQ).1; omega
            cases rest with
            | nil => rfl
            | cons _ _ _ _ _ _ r => simp [Forest.len] at hr0
          · right; rw [if_neg h1] at hqr; exact ⟨g, o + 6, hqr.symm, (unhide HKD).2.1⟩)
        clear hqr
        have hb0 : w0.heap.size ≤ b := by omega
        have hX1 : Inv s' (wr.setCell ⟨b, sl, none⟩ (.slice qr rl (ce - 1))) := unhide HST s' wr _ (unhide HX).1 (kept_set (unhide HTY) _)
        have hX2 := (unhide HX).2.1.setCell (p := ⟨b, sl, none⟩) hb0 (.slice qr rl (ce - 1))
        have hX3 : B0 ≤ (wr.setCell ⟨b, sl, none⟩ (.slice qr rl (ce - 1))).heap.size := by have := (unhide HX).2.2.1; simp; omega
        have HR := hide (unhide HP (.slice qr rl (ce - 1)))
        have HZ : Hid ((wr.setCell ⟨b, sl, none⟩ (.slice qr rl (ce - 1))).heap.size = wr.heap.size) := hide (by simp)
        go_wp2_with fail
        refine (unhide CC _ hX1 hX2 hX3).mono ?_
        rintro e3 W3 ⟨rfl, hI3, hb3, hs3⟩
        clear hX1 hX2 hX3 CC
        obtain ⟨s2, bb, hst⟩ : ∃ s2 bb, stp s' ⟨k, sp, n, ats, tx, kids, sl + 1⟩ = (s2, bb) := ⟨_, _, rfl⟩
        rw [hst] at hI3 ⊢
        cases bb with
        | false =>
          have HFN : Hid (s2 = fin) := hide (by
            have h1 := (unhide HX).2.2.2.2.2.2
            rw [show (((Forest.cons k sp n ats tx kids rest, (some ⟨g, o, none⟩ : Option Addr), ce) :: st).map (·.1)) = Forest.cons k sp n ats tx kids rest :: st.map (·.1) from rfl, unhide HTO, (unhide HQ).2, tell, hst] at h1
            simpa using h1)
          have HY := hide (And.intro hI3 hb3)
          clear hI3 hb3 hs3 hst
          go_wp2
          refine bodyPost_ret (v := .tuple #[]) (results_none Tryd.results34 _ _ _) rfl ?_
          exact ⟨rfl, by rw [← unhide HFN]; exact (unhide HY).1, (unhide HY).2⟩
        | true =>
          have HFN : Hid (tell stp s2 (items kids (sl + 1 + 1) ++ (items rest (sl + 1) ++ todo (st.map (·.1)))) = fin) := hide (by
            have h1 := (unhide HX).2.2.2.2.2.2
            rw [show (((Forest.cons k sp n ats tx kids rest, (some ⟨g, o, none⟩ : Option Addr), ce) :: st).map (·.1)) = Forest.cons k sp n ats tx kids rest :: st.map (·.1) from rfl, unhide HTO, (unhide HQ).2, tell, hst] at h1
            simpa using h1)
          obtain ⟨hll, hlr, l5, hck, hfk⟩ := unhide HKD
          have k5 : W3.cell? ⟨g, o + 5, none⟩ = some (.slice qk kids.len ck) := cell_later hb3 l5
          have hrow3 := ownsRow_keep (unhide HR) hs3
          have hsz3 : w.heap.size ≤ W3.heap.size := by have h1 := hs3.1; rw [unhide HZ] at h1; have := (unhide HX).2.2.1; omega
          have hlb : ∀ j, some j = (Value.slice (some ⟨b, 0, none⟩) (sl + 1) capb).ownBlock → w.heap.size ≤ j := fun j hj => (hrow3.lt j hj.symm).1
          have HY := hide (And.intro hI3 (And.intro hb3 (And.intro hfk hck)))
          clear hI3 hb3 hs3 hst hll hlr l5 hck hfk
          go_wp2_with (at_builtin; refine wpList_append_own _ rfl _ _ 89 rfl w.heap.size 22 i0 (.slice none 0 0) 1 24 Tryd.underlying89 hi0 hi1 hi2 hi3 rfl (by decide) _ _ _ rfl (hrow3.alloc _) ⟨W3.heap.size, 0, none⟩ 1 1 [.slice qk kids.len ck] rfl rfl ?c1 ?c2 ?c3 ?c4 ?c5 ?_)
          case c1 => intro j u hj; exact lit1 hj
          case c2 => intro u hu; simp at hu; rw [hu]; rfl
          case c3 => unfold maxLen; omega
          case c4 => omega
          case c5 => simp; omega
          intro v' w5 hrow5 hgrow5 _
          obtain ⟨a5, c5, hv5⟩ := slice_n hrow5
          subst hv5
          have hbL := (unhide HY).2.1.alloc (unhide HY).2.1.size (Obj.cells #[.slice qk kids.len ck] 22)
          have hb5 := hbL.grown hgrow5 hbL.size (fun j hj => by have := hlb _ hj.symm; omega)
          have hI5 : Inv s2 w5 := unhide HST s2 W3 w5 (unhide HY).1 (((Lib.OthersKept.refl _ _ _).alloc _).grown hgrow5 (fun g hg => by
            cases hg
            obtain ⟨c, hc⟩ := row_ty (hrow3.alloc (Obj.cells #[.slice qk kids.len ck] 22))
            exact ⟨c, _, hc⟩))
          have hs5 : w.heap.size ≤ w5.heap.size := by
            have := hgrow5.size
            simp at this
            omega
          have HZ5 := hide (And.intro hrow5 (And.intro hb5 (And.intro hI5 hs5)))
          clear hrow5 hgrow5 hbL hb5 hI5 hs5 hrow3 hlb
          go_wp2
          obtain ⟨hrow5, hb5, hI5, hs5⟩ := unhide HZ5
          obtain ⟨_, _, _, hc1, hc2, hgk, _⟩ := unhide HX
          obtain ⟨hrlq, hslq⟩ := unhide HQ
          simp only [cnt, Forest.count, List.length_cons] at hc1 hc2 hgk
          go_roundg (2 * (kids.count + (rest.count + cnt st)) + (st.length + 1 + 1))
          case measure => omega
          case rel =>
            refine ⟨(kids, qk, ck) :: (rest, qr, ce - 1) :: st, s2, ?_, ?_, rfl, ?_, ?_, ?_, hI5, hb5, hs5⟩
            · show kids.count + (rest.count + cnt st) ≤ 1000000; omega
            · show st.length + 1 + 1 + (kids.count + (rest.count + cnt st)) ≤ 1000001; omega
            · intro e he
              rcases List.mem_cons.1 he with rfl | he
              · exact ⟨(unhide HY).2.2.1, (unhide HY).2.2.2, (unhide HSM).2.1⟩
              rcases List.mem_cons.1 he with rfl | he
              · exact ⟨unhide HQR, by show rest.len ≤ ce - 1; omega, (unhide HSM).2.2⟩
              · exact unhide HOK e he
            · rw [rowOf_cons, rowOf_cons, List.append_assoc, List.length_cons, List.length_cons, hslq]
              show w5.ownsRow _ _ _ _ _ (rowOf st ++ ([.slice qr rest.len (ce - 1)] ++ [.slice qk kids.len ck]))
              rw [hrlq]; exact hrow5
            · rw [← unhide HFN]
              show tell stp s2 (items kids ((rest :: st.map (·.1)).length + 1) ++ (items rest ((st.map (·.1)).length + 1) ++ todo (st.map (·.1)))) = _
              rw [List.length_cons, List.length_map, hslq]



/-! ### tree.Words -/
theorem bldF_kept {B b : Nat} {l : List UInt8} {w w1 : World} (h : BldF B b l w) (hk : Lib.OthersKept 22 none w w1) : BldF B b l w1 := by
  have one : ∀ p, Lib.BuilderAtF 62 5 B b p (Lib.byteCells l) w → Lib.BuilderAtF 62 5 B b p (Lib.byteCells l) w1 := by
    intro p h
    obtain ⟨hB, v, hbk, hown, hne⟩ := h
    refine ⟨hB, v, hk _ _ hbk (by simp) (fun c fz e => by injection e with _ e; revert e; decide), ?_, hne⟩
    obtain ⟨hl, h⟩ := hown
    refine ⟨hl, ?_⟩
    rcases h with h | ⟨g, cap, cur, fz, h1, h2, h3, h4⟩
    · exact .inl h
    · exact .inr ⟨g, cap, cur, fz, h1, h2, hk _ _ h3 (by simp) (fun c fz e => by injection e with _ e; revert e; decide), h4⟩
  rcases h with h | h
  · exact .inl (one _ h)
  · exact .inr (one _ h)
theorem bldF_blk {B b : Nat} {l : List UInt8} {w : World} (h : BldF B b l w) : ∃ c, w.heap[b]? = some (.cells c 62 (0, 0)) := by
  rcases h with ⟨_, v, hbk, _⟩ | ⟨_, v, hbk, _⟩
  · exact ⟨_, hbk⟩
  · exact ⟨_, hbk⟩
theorem keepN_of {B b : Nat} {l : List UInt8} {w w' : World} (h : BldF B b l w) (hb : Below B w w') (ho : Oth b w w') : KeepN w w' := by
  refine ⟨hb.size, fun k c hk => ho k _ hk ?_ ?_⟩
  · intro e
    obtain ⟨c', hc'⟩ := bldF_blk h
    injection e with e
    rw [e, hc'] at hk
    injection hk with hk
    injection hk with _ hk
    revert hk; decide
  · intro c' fz e
    injection e with _ e
    revert e; decide
def woStep (l : List UInt8) (it : Item) : List UInt8 × Bool := (if it.k = 2 then l ++ it.tx.data.toList else l, true)
def woF : Forest → List UInt8
  | .nil => []
  | .cons k sp n ats tx kids rest => (if k = 2 then tx.data.toList else []) ++ (woF kids ++ woF rest)
theorem tell_wo_app : ∀ (l1 l2 : List Item) (s : List UInt8), tell woStep s (l1 ++ l2) = tell woStep (tell woStep s l1) l2
  | [], l2, s => rfl
  | it :: l1, l2, s => by
    show tell woStep (woStep s it).1 (l1 ++ l2) = tell woStep (tell woStep (woStep s it).1 l1) l2
    exact tell_wo_app l1 l2 _
theorem tell_wo : ∀ (f : Forest) (d : Nat) (s : List UInt8), tell woStep s (items f d) = s ++ woF f
  | .nil, d, s => by show s = s ++ []; simp
  | .cons k sp n ats tx kids rest, d, s => by
    show tell woStep (if k = 2 then s ++ tx.data.toList else s) (items kids (d + 1) ++ items rest d) = _
    rw [tell_wo_app, tell_wo kids, tell_wo rest, woF]
    show (if k = 2 then s ++ tx.data.toList else s) ++ woF kids ++ woF rest = _
    by_cases h : k = 2
    · rw [if_pos h, if_pos h]; simp [List.append_assoc]
    · rw [if_neg h, if_neg h]; simp [List.append_assoc]
theorem tell_wo_len : ∀ (l : List Item) (s : List UInt8), s.length ≤ (tell woStep s l).length
  | [], s => Nat.le_refl _
  | it :: l, s => by
    show s.length ≤ (tell woStep (woStep s it).1 l).length
    refine Nat.le_trans ?_ (tell_wo_len l _)
    show s.length ≤ (if it.k = 2 then s ++ it.tx.data.toList else s).length
    split <;> simp
theorem wo_len : ∀ (f : Forest), SmF f → (woF f).length ≤ 5000 * f.count
  | .nil, _ => by simp [woF]
  | .cons k sp n ats tx kids rest, h => by
    have h1 := wo_len kids h.2.1
    have h2 := wo_len rest h.2.2
    have h3 := h.1.1
    have h4 : tx.data.toList.length = tx.size := by rw [Array.length_toList]; rfl
    rw [woF, List.length_append, List.length_append]
    simp only [Forest.count]
    split
    · omega
    · rw [List.length_nil]; omega
set_option maxHeartbeats 4000000 in
theorem words1_any (l : List UInt8) (B G : Nat) (d : Int) (k : Int) (tx : ByteArray) (g o : Nat) (w : World) (hG : BldF B G l w) (c0 : w.cell? ⟨g, o, none⟩ = some (.int .i64 k)) (c4 : w.cell? ⟨g, o + 4, none⟩ = some (.string tx)) (hlen : k = 2 → l.length + tx.size ≤ 140737488355328) (hBw : B ≤ w.heap.size) :
    Calls Tryd.prog 62 #[.pointer (some ⟨g, o, none⟩), .int .i64 d, .pointer (some ⟨G, 0, none⟩)] w fun e w' => e = .returned (.bool true) ∧ BldF B G (if k = 2 then l ++ tx.data.toList else l) w' ∧ Below B w w' ∧ Oth G w w' := by
  by_cases h2 : k = 2
  · have C := hide (writeStringK B G l tx w hG (hlen h2) hBw)
    rw [if_pos h2]
    subst h2
    generalize l ++ tx.data.toList = L at *
    clear hG hlen
    go_enter Tryd.func62, Tryd.ntmps62
    go_wp2_with fail
    refine (unhide C).mono ?_
    rintro e w1 ⟨rfl, h1, h2, h3⟩
    have HX := hide (And.intro h1 (And.intro h2 h3))
    clear h1 h2 h3 C
    go_wp2
    go_ret
    exact ⟨rfl, unhide HX⟩
  · rw [if_neg h2]
    have HX := hide hG
    clear hG hlen
    go_enter Tryd.func62, Tryd.ntmps62
    go_wp2
    go_ret
    exact ⟨rfl, unhide HX, Below.refl _ _, Lib.OthersKept.refl _ _ _⟩
set_option maxHeartbeats 4000000 in
theorem words_any (f : Forest) (q : Option Addr) (cap : Nat) (w : World) (hf : Fo q f w) (hs : SmF f) (hcap : f.len ≤ cap) (hc : f.count ≤ 1000000) :
    Calls Tryd.prog 32 #[.slice q f.len cap] w fun e w' => e = .returned (.string (bs (woF f))) ∧ Below w.heap.size w w' := by
  have hfin : tell woStep [] (items f 1) = woF f := (tell_wo f 1 []).trans (List.nil_append _)
  have hwl := wo_len f hs
  have CW := hide (walk_words woStep (fun l W => BldF w.heap.size w.heap.size l W) w.heap.size w (w.heap.size + 1) (woF f)
    (fun l V V' h hk => bldF_kept h hk)
    (fun l k sp n ats tx kids rest g o d V hI hb hB hl hsm hd hr => (words1_any l w.heap.size w.heap.size d k tx g o V hI (cell_later hb hl.1.1) (cell_later hb hl.1.2.2.2.2.1) (fun hk => by
        obtain ⟨r, hr⟩ := hr
        have hr : tell woStep (woStep l ⟨k, sp, n, ats, tx, kids, d⟩).1 r = woF f := hr
        have h1 := tell_wo_len r (woStep l ⟨k, sp, n, ats, tx, kids, d⟩).1
        rw [hr] at h1
        have h2 : (woStep l ⟨k, sp, n, ats, tx, kids, d⟩).1 = l ++ tx.data.toList := if_pos hk
        rw [h2, List.length_append] at h1
        have h4 : tx.data.toList.length = tx.size := by rw [Array.length_toList]; rfl
        omega) (by have := hb.size; omega)).mono fun e V' ⟨h1, h2, h3, h4⟩ => ⟨h1, h2, hb.trans h3, keepN_of hI h3 h4⟩)
    f q cap (w.alloc (Obj.cells #[.pointer none, .slice none 0 0] 62)) hf hs hcap hc [] hfin (bldF_new w) ((Below.refl _ _).alloc (Nat.le_refl _) _) (by omega) (by simp))
  rw [hfin] at CW
  generalize woF f = L at *
  clear hf hs hwl hfin
  go_enter Tryd.func32, Tryd.ntmps32
  go_wp2_with fail
  refine (unhide CW).mono ?_
  rintro e w1 ⟨rfl, hk, hb⟩
  have CS := hide (stringK w.heap.size w.heap.size L w1 hk hb.size)
  have HB := hide hb
  clear hk CW hb
  go_wp2_with fail
  refine (unhide CS).mono ?_
  rintro e w2 ⟨rfl, hb2⟩
  have HB2 := hide ((unhide HB).trans hb2)
  clear hb2 HB
  go_wp2
  go_ret
  exact ⟨rfl, unhide HB2⟩
end Go.Proofs.YtpfnjgkfombmpaaDoor
