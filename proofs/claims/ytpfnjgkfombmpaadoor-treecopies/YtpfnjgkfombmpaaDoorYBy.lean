/-
  'tree.Bytes': 'tree.walk' under its closure, which writes each node (made by mk_yby.py).
-/
import Derived.Test.YtpfnjgkfombmpaaDoorYBn
namespace Go.Proofs.YtpfnjgkfombmpaaDoor
open Go.RowKit
set_option linter.unusedVariables false
set_option linter.unusedSimpArgs false

set_option maxHeartbeats 8000000 in
set_option maxRecDepth 100000 in
theorem walk_bytes {σ : Type} (stp : σ → Item → σ × Bool) (Inv : σ → World → Prop) (G : Nat) (w0 : World) (B0 : Nat)
    (fin : σ) (hstab : ∀ s w w', Inv s w → Lib.OthersKept 22 none w w' → Inv s w')
    (C : ∀ (s : σ) (k sp : Int) (n : ByteArray) (ats : List (ByteArray × ByteArray)) (tx : ByteArray) (kids rest : Forest) (g o d : Nat) (w : World), Inv s w → Below w0.heap.size w0 w → B0 ≤ w.heap.size → Lies (.cons k sp n ats tx kids rest) g o w0 → SmF (.cons k sp n ats tx kids rest) → d ≤ 2000000 → (∃ r, tell stp s (⟨k, sp, n, ats, tx, kids, d⟩ :: r) = fin) →
      Calls Tryd.prog 57 #[.pointer (some ⟨g, o, none⟩), .int .i64 (d : Int), .pointer (some ⟨G, 0, none⟩)] w fun e w' => e = .returned (.bool (stp s ⟨k, sp, n, ats, tx, kids, d⟩).2) ∧ Inv (stp s ⟨k, sp, n, ats, tx, kids, d⟩).1 w' ∧ Below w0.heap.size w0 w' ∧ KeepN w w')
    (f : Forest) (q : Option Addr) (cap : Nat) (w : World) (hf : Fo q f w0) (hsmf : SmF f) (hcap : f.len ≤ cap) (hc : f.count ≤ 1000000) (s : σ) (hfin : tell stp s (items f 1) = fin) (hI : Inv s w) (hb : Below w0.heap.size w0 w) (hB : w0.heap.size ≤ B0) (hB2 : B0 ≤ w.heap.size) :
    Calls Tryd.prog 34 #[.slice q f.len cap, .func (.func 57) #[] #[.pointer (some ⟨G, 0, none⟩)]] w fun e w' => e = .returned (.tuple #[]) ∧ Inv (tell stp s (items f 1)) w' ∧ Below w0.heap.size w0 w' := by
  rw [hfin]
  have HC := hide C
  have HST := hide hstab
  obtain ⟨i0, hi0, hi1, hi2, hi3⟩ := info_parts infoNodes0
  have hrow0 : (w.alloc (Obj.cells #[.slice q f.len cap] 22)).ownsRow w.heap.size 22 1 (.slice (some ⟨w.heap.size, 0, none⟩) 1 1) 1 [.slice q f.len cap] :=
    ⟨rfl, Or.inr ⟨w.heap.size, 1, #[.slice q f.len cap], rfl, Nat.le_refl _, Blk.new w _ _, Nat.le_refl _, by unfold maxLen; omega, rfl, rfl⟩⟩
  have HAT : Hid (WalkAtS stp Inv w0 w.heap.size fin (2 * f.count + 1) (.slice (some ⟨w.heap.size, 0, none⟩) 1 1) (w.alloc (Obj.cells #[.slice q f.len cap] 22))) := hide ⟨[(f, q, cap)], s, by simpa [cnt] using hc, by simp [cnt]; omega, by simp [cnt], fun e he => by rw [List.mem_singleton.1 he]; exact ⟨hf, hcap, hsmf⟩, hrow0, by simp [todo]; exact hfin, hstab s w _ hI ((Lib.OthersKept.refl _ _ _).alloc _), hb.alloc hb.size _, by simp⟩
  clear C hstab hrow0 hI hf
  go_enter Tryd.func34, Tryd.ntmps34
  go_wp2
  go_loopg [4] (2 * f.count + 1) (fun gk left wr => WalkAtS stp Inv w0 w.heap.size fin gk left wr)
  case atStart => exact unhide HAT
  case round =>
    clear HAT
    obtain ⟨st, s', hc1, hc2, hgk, hok, hrow, htl, hinv, hbw, hsz⟩ := hrel
    match st, hc1, hc2, hgk, hok, hrow, htl with
    | [], hc1, hc2, hgk, hok, hrow, htl =>
      obtain ⟨a4, cap4, rfl⟩ := slice_n hrow
      have HF : Hid (s' = fin) := hide htl
      have HX := hide (And.intro hinv hbw)
      simp only [List.length_nil]
      clear htl hok hrow hinv hbw
      go_wp2
      refine bodyPost_end (v := .tuple #[]) (results_none Tryd.results34 _ _ _) rfl ?_
      exact ⟨rfl, by rw [← unhide HF]; exact (unhide HX).1, (unhide HX).2⟩
    | (fo, qe, ce) :: st, hc1, hc2, hgk, hok, hrow, htl =>
      rw [rowOf_cons] at hrow
      obtain ⟨b, capb, rfl, hbb, hcb, c0, cf0, hblt, hpop, hset⟩ := row_last hrow (rowOf_len st)
      have HTY := hide (row_ty hrow)
      have hoke := hok (fo, qe, ce) (List.mem_cons_self ..)
      have HOK := hide (show StackOkS w0 st from fun e he => hok e (List.mem_cons_of_mem _ he))
      have hln : (st.length : Int) + 1 ≤ 1000001 := by simp at hc2; omega
      have hcbi : (st.length : Int) + 1 ≤ (capb : Int) := by omega
      cases fo with
      | nil =>
        have HT : Hid (tell stp s' (todo (st.map (·.1))) = fin) := hide htl
        have HX := hide (And.intro hinv (And.intro hbw (And.intro hsz hpop)))
        have hg' : 2 * cnt st + st.length < gk := by simp [cnt, Forest.count] at hgk; omega
        have hc1' : cnt st ≤ 1000000 := by simp [cnt, Forest.count] at hc1; omega
        have hc2' : st.length + cnt st ≤ 1000001 := by simp [cnt, Forest.count] at hc2; omega
        simp only [Entry.val, Forest.len] at c0
        clear htl hok hrow hinv hbw hset hpop hoke hgk hc1 hc2
        go_wp2
        go_roundg (2 * cnt st + st.length)
        case measure => exact hg'
        case rel => exact ⟨st, s', hc1', hc2', rfl, unhide HOK, (unhide HX).2.2.2, unhide HT, (unhide HX).1, (unhide HX).2.1, (unhide HX).2.2.1⟩
      | cons k sp n ats tx kids rest =>
        obtain ⟨hfo, hce, hsm⟩ := hoke
        have HSM := hide (show SmF (.cons k sp n ats tx kids rest) from hsm)
        rcases hfo with h | ⟨g, o, hq, hl⟩
        · cases h
        have hq' : qe = some ⟨g, o, none⟩ := hq
        subst hq'
        have hlr := hl.2
        have hll := hl
        obtain ⟨⟨_, _, _, _, _, ⟨qk, ck, l5, hck, hfk⟩⟩, _⟩ := hl
        have hce' : rest.len + 1 ≤ ce := hce
        have hcei : (rest.len : Int) + 1 ≤ (ce : Int) := by omega
        have hrl : (rest.len : Int) + 1 ≤ 1000001 := by
          have := rest.len_count
          simp [cnt, Forest.count] at hc1
          omega
        simp only [Entry.val, Forest.len] at c0
        have HP := hide hset
        have HTO : Hid (tell stp s' (todo ((Forest.cons k sp n ats tx kids rest) :: st.map (·.1))) = tell stp s' (⟨k, sp, n, ats, tx, kids, st.length + 1⟩ :: (items kids (st.length + 1 + 1) ++ (items rest (st.length + 1) ++ todo (st.map (·.1)))))) := hide (by show tell stp s' (items (Forest.cons k sp n ats tx kids rest) ((st.map (·.1)).length + 1) ++ todo (st.map (·.1))) = _; rw [List.length_map]; show tell stp s' (_ :: (items kids (st.length + 1 + 1) ++ items rest (st.length + 1)) ++ todo (st.map (·.1))) = _; rw [List.cons_append, List.append_assoc])
        have CC := hide (fun w h1 h2 h3 => unhide HC s' k sp n ats tx kids rest g o (st.length + 1) w h1 h2 h3 hll (unhide HSM) (by omega) ⟨_, (unhide HTO).symm.trans htl⟩)
        have e1 : ((rest.len : Int) + 1 == 0) = false := beq_eq_false_iff_ne.2 (by omega)
        have HX := hide (And.intro hinv (And.intro hbw (And.intro hsz (And.intro hc1 (And.intro hc2 (And.intro hgk htl))))))
        have HKD := hide (And.intro hll (And.intro hlr (And.intro l5 (And.intro hck hfk))))
        clear hok hrow hpop hce hset hinv hbw hsz hc1 hc2 hgk htl hll hlr l5 hck hfk hce'
        have HRN : Hid (rest.len = rest.len) := hide rfl
        obtain ⟨rl, hrlq⟩ : ∃ rl, rest.len = rl := ⟨_, rfl⟩
        obtain ⟨sl, hslq⟩ : ∃ sl, st.length = sl := ⟨_, rfl⟩
        rw [hrlq] at c0 hcei hrl e1
        rw [hslq] at c0 cf0 hln hcbi HP hcb CC
        rw [hslq]
        have HQ := hide (And.intro hrlq hslq)
        clear hrlq hslq HRN
        have j1 : (1 : Int) ≤ (rl : Int) + 1 := by omega
        have j2 : (0 : Int) < (rl : Int) + 1 := by omega
        go_upto_region 7 with fail
        generalize hqr : (if ce = 1 then some (⟨g, o, none⟩ : Addr) else some ⟨g, o + 6, none⟩) = qr at *
        have HQR : Hid (Fo qr rest w0) := hide (by
          by_cases h1 : ce = 1
          · left
            have hr0 : rest.len = 0 := by have := (unhide HQ).1; omega
            cases rest with
            | nil => rfl
            | cons _ _ _ _ _ _ r => simp [Forest.len] at hr0
          · right; rw [if_neg h1] at hqr; exact ⟨g, o + 6, hqr.symm, (unhide HKD).2.1⟩)
        clear hqr
        have hb0 : w0.heap.size ≤ b := by omega
        have hX1 : Inv s' (wr.setCell ⟨b, sl, none⟩ (.slice qr rl (ce - 1))) := unhide HST s' wr _ (unhide HX).1 (kept_set (unhide HTY) _)
        have hX2 := (unhide HX).2.1.setCell (p := ⟨b, sl, none⟩) hb0 (.slice qr rl (ce - 1))
        have hX3 : B0 ≤ (wr.setCell ⟨b, sl, none⟩ (.slice qr rl (ce - 1))).heap.size := by have := (unhide HX).2.2.1; simp; omega
        have HR := hide (unhide HP (.slice qr rl (ce - 1)))
        have HZ : Hid ((wr.setCell ⟨b, sl, none⟩ (.slice qr rl (ce - 1))).heap.size = wr.heap.size) := hide (by simp)
        go_wp2_with fail
        refine (unhide CC _ hX1 hX2 hX3).mono ?_
        rintro e3 W3 ⟨rfl, hI3, hb3, hs3⟩
        clear hX1 hX2 hX3 CC
        obtain ⟨s2, bb, hst⟩ : ∃ s2 bb, stp s' ⟨k, sp, n, ats, tx, kids, sl + 1⟩ = (s2, bb) := ⟨_, _, rfl⟩
        rw [hst] at hI3 ⊢
        cases bb with
        | false =>
          have HFN : Hid (s2 = fin) := hide (by
            have h1 := (unhide HX).2.2.2.2.2.2
            rw [show (((Forest.cons k sp n ats tx kids rest, (some ⟨g, o, none⟩ : Option Addr), ce) :: st).map (·.1)) = Forest.cons k sp n ats tx kids rest :: st.map (·.1) from rfl, unhide HTO, (unhide HQ).2, tell, hst] at h1
            simpa using h1)
          have HY := hide (And.intro hI3 hb3)
          clear hI3 hb3 hs3 hst
          go_wp2
          refine bodyPost_ret (v := .tuple #[]) (results_none Tryd.results34 _ _ _) rfl ?_
          exact ⟨rfl, by rw [← unhide HFN]; exact (unhide HY).1, (unhide HY).2⟩
        | true =>
          have HFN : Hid (tell stp s2 (items kids (sl + 1 + 1) ++ (items rest (sl + 1) ++ todo (st.map (·.1)))) = fin) := hide (by
            have h1 := (unhide HX).2.2.2.2.2.2
            rw [show (((Forest.cons k sp n ats tx kids rest, (some ⟨g, o, none⟩ : Option Addr), ce) :: st).map (·.1)) = Forest.cons k sp n ats tx kids rest :: st.map (·.1) from rfl, unhide HTO, (unhide HQ).2, tell, hst] at h1
            simpa using h1)
          obtain ⟨hll, hlr, l5, hck, hfk⟩ := unhide HKD
          have k5 : W3.cell? ⟨g, o + 5, none⟩ = some (.slice qk kids.len ck) := cell_later hb3 l5
          have hrow3 := ownsRow_keep (unhide HR) hs3
          have hsz3 : w.heap.size ≤ W3.heap.size := by have h1 := hs3.1; rw [unhide HZ] at h1; have := (unhide HX).2.2.1; omega
          have hlb : ∀ j, some j = (Value.slice (some ⟨b, 0, none⟩) (sl + 1) capb).ownBlock → w.heap.size ≤ j := fun j hj => (hrow3.lt j hj.symm).1
          have HY := hide (And.intro hI3 (And.intro hb3 (And.intro hfk hck)))
          clear hI3 hb3 hs3 hst hll hlr l5 hck hfk
          go_wp2_with (at_builtin; refine wpList_append_own _ rfl _ _ 89 rfl w.heap.size 22 i0 (.slice none 0 0) 1 24 Tryd.underlying89 hi0 hi1 hi2 hi3 rfl (by decide) _ _ _ rfl (hrow3.alloc _) ⟨W3.heap.size, 0, none⟩ 1 1 [.slice qk kids.len ck] rfl rfl ?c1 ?c2 ?c3 ?c4 ?c5 ?_)
          case c1 => intro j u hj; exact lit1 hj
          case c2 => intro u hu; simp at hu; rw [hu]; rfl
          case c3 => unfold maxLen; omega
          case c4 => omega
          case c5 => simp; omega
          intro v' w5 hrow5 hgrow5 _
          obtain ⟨a5, c5, hv5⟩ := slice_n hrow5
          subst hv5
          have hbL := (unhide HY).2.1.alloc (unhide HY).2.1.size (Obj.cells #[.slice qk kids.len ck] 22)
          have hb5 := hbL.grown hgrow5 hbL.size (fun j hj => by have := hlb _ hj.symm; omega)
          have hI5 : Inv s2 w5 := unhide HST s2 W3 w5 (unhide HY).1 (((Lib.OthersKept.refl _ _ _).alloc _).grown hgrow5 (fun g hg => by
            cases hg
            obtain ⟨c, hc⟩ := row_ty (hrow3.alloc (Obj.cells #[.slice qk kids.len ck] 22))
            exact ⟨c, _, hc⟩))
          have hs5 : w.heap.size ≤ w5.heap.size := by
            have := hgrow5.size
            simp at this
            omega
          have HZ5 := hide (And.intro hrow5 (And.intro hb5 (And.intro hI5 hs5)))
          clear hrow5 hgrow5 hbL hb5 hI5 hs5 hrow3 hlb
          go_wp2
          obtain ⟨hrow5, hb5, hI5, hs5⟩ := unhide HZ5
          obtain ⟨_, _, _, hc1, hc2, hgk, _⟩ := unhide HX
          obtain ⟨hrlq, hslq⟩ := unhide HQ
          simp only [cnt, Forest.count, List.length_cons] at hc1 hc2 hgk
          go_roundg (2 * (kids.count + (rest.count + cnt st)) + (st.length + 1 + 1))
          case measure => omega
          case rel =>
            refine ⟨(kids, qk, ck) :: (rest, qr, ce - 1) :: st, s2, ?_, ?_, rfl, ?_, ?_, ?_, hI5, hb5, hs5⟩
            · show kids.count + (rest.count + cnt st) ≤ 1000000; omega
            · show st.length + 1 + 1 + (kids.count + (rest.count + cnt st)) ≤ 1000001; omega
            · intro e he
              rcases List.mem_cons.1 he with rfl | he
              · exact ⟨(unhide HY).2.2.1, (unhide HY).2.2.2, (unhide HSM).2.1⟩
              rcases List.mem_cons.1 he with rfl | he
              · exact ⟨unhide HQR, by show rest.len ≤ ce - 1; omega, (unhide HSM).2.2⟩
              · exact unhide HOK e he
            · rw [rowOf_cons, rowOf_cons, List.append_assoc, List.length_cons, List.length_cons, hslq]
              show w5.ownsRow _ _ _ _ _ (rowOf st ++ ([.slice qr rest.len (ce - 1)] ++ [.slice qk kids.len ck]))
              rw [hrlq]; exact hrow5
            · rw [← unhide HFN]
              show tell stp s2 (items kids ((rest :: st.map (·.1)).length + 1) ++ (items rest ((st.map (·.1)).length + 1) ++ todo (st.map (·.1)))) = _
              rw [List.length_cons, List.length_map, hslq]




/-! ### tree.Bytes -/
def byStep (l : List UInt8) (it : Item) : List UInt8 × Bool := (l ++ nodeL it.k it.sp it.n it.ats it.tx it.kids.len, true)
def byF : Forest → List UInt8
  | .nil => []
  | .cons k sp n ats tx kids rest => nodeL k sp n ats tx kids.len ++ (byF kids ++ byF rest)
theorem tell_by_app : ∀ (l1 l2 : List Item) (s : List UInt8), tell byStep s (l1 ++ l2) = tell byStep (tell byStep s l1) l2
  | [], l2, s => rfl
  | it :: l1, l2, s => by
    show tell byStep (byStep s it).1 (l1 ++ l2) = tell byStep (tell byStep (byStep s it).1 l1) l2
    exact tell_by_app l1 l2 _
theorem tell_by : ∀ (f : Forest) (d : Nat) (s : List UInt8), tell byStep s (items f d) = s ++ byF f
  | .nil, d, s => by show s = s ++ []; simp
  | .cons k sp n ats tx kids rest, d, s => by
    show tell byStep (s ++ nodeL k sp n ats tx kids.len) (items kids (d + 1) ++ items rest d) = _
    rw [tell_by_app, tell_by kids, tell_by rest, byF]
    simp only [List.append_assoc]
theorem tell_by_len : ∀ (l : List Item) (s : List UInt8), s.length ≤ (tell byStep s l).length
  | [], s => Nat.le_refl _
  | it :: l, s => by
    show s.length ≤ (tell byStep (byStep s it).1 l).length
    refine Nat.le_trans ?_ (tell_by_len l _)
    show s.length ≤ (s ++ nodeL it.k it.sp it.n it.ats it.tx it.kids.len).length
    rw [List.length_append]; omega
theorem atW_len (ats : List (ByteArray × ByteArray)) (hf : Fits ats) : ∀ (m j : Nat), ats.length - j = m → (atW (ats.drop j)).length ≤ 20014 * m
  | 0, j, h => by rw [List.drop_eq_nil_of_le (by omega)]; exact Nat.zero_le _
  | m + 1, j, h => by
    have h1 := atW_len ats hf m (j + 1) (by omega)
    rw [atW_drop ats j (by omega), List.length_append, List.length_append]
    have h2 := hf.2 j (by omega)
    have h3 := tb_len (an ats j)
    have h4 := tb_len (av ats j)
    omega
theorem node_len (k sp : Int) (n : ByteArray) (ats : List (ByteArray × ByteArray)) (tx : ByteArray) (kl : Nat) (ht : tx.size ≤ 5000) (hn : n.size ≤ 5000) (hf : Fits ats) : (nodeL k sp n ats tx kl).length ≤ 21000000 := by
  unfold nodeL
  have h1 := numW_len k
  have h2 := numW_len sp
  have h3 := numW_len ats.length
  have h4 := numW_len kl
  have h5 := tb_len n
  have h6 := tb_len tx
  have h7 := atW_len ats hf _ 0 rfl
  have h8 := hf.1
  rw [List.drop_zero] at h7
  split
  · simp only [List.length_append]; omega
  · simp only [List.length_append]; omega
theorem by_len : ∀ (f : Forest), SmF f → (byF f).length ≤ 21000000 * f.count
  | .nil, _ => Nat.zero_le _
  | .cons k sp n ats tx kids rest, h => by
    have h1 := by_len kids h.2.1
    have h2 := by_len rest h.2.2
    have h3 := node_len k sp n ats tx kids.len h.1.1 h.1.2.1 h.1.2.2.1
    rw [byF, List.length_append, List.length_append]
    simp only [Forest.count]
    omega
theorem wrt_keepS {B b : Nat} {er : Int} {l : List UInt8} {w w' : World} (h : Wrt B b er l w) (ho : OthS b w w') : KeepN w w' := by
  obtain ⟨p, v, hp, hB, hbk, hown, hne⟩ := wrt_any h
  refine ⟨ho.2, fun k c hk => ho.1 k _ hk ?_ ?_⟩
  · intro e
    injection e with e
    rw [e, hbk] at hk
    injection hk with hk
    injection hk with _ hk
    revert hk; decide
  · intro c' fz e
    injection e with _ e
    revert e; decide
theorem num_ne (n : Nat) (h : n ≤ 1099511627776) (l : List UInt8) : numW n ++ l ≠ [] := by
  unfold numW
  rw [if_pos (by omega), nb_cons]
  simp
def bytesL (f : Forest) : List UInt8 := numW f.len ++ byF f
set_option maxHeartbeats 4000000 in
theorem bytes1_any (w0 : World) (b : Nat) (l : List UInt8) (d k sp : Int) (n : ByteArray) (ats : List (ByteArray × ByteArray)) (tx : ByteArray) (kids rest : Forest) (g o : Nat) (w : World) (h : Wrt w0.heap.size b 0 l w) (hb : Below w0.heap.size w0 w) (hl : Lies (.cons k sp n ats tx kids rest) g o w0) (hs : SmF (.cons k sp n ats tx kids rest)) (hlen : (l ++ nodeL k sp n ats tx kids.len).length ≤ 10000000000000) :
    Calls Tryd.prog 57 #[.pointer (some ⟨g, o, none⟩), .int .i64 d, .pointer (some ⟨b, 0, none⟩)] w fun e w' => e = .returned (.bool true) ∧ WrN w0 b w (l ++ nodeL k sp n ats tx kids.len) w' := by
  have C : Calls Tryd.prog 58 #[.pointer (some ⟨b, 0, none⟩), .pointer (some ⟨g, o, none⟩)] w fun e w' => e = .returned (.tuple #[]) ∧ WrN w0 b w (l ++ nodeL k sp n ats tx kids.len) w' := by
    by_cases hk : k = 1
    · subst hk
      exact wnode_elem w0 b l sp n ats tx kids rest g o w h hb hl hs hlen
    · exact wnode_text w0 b l k sp n ats tx kids rest g o w hk h hb hl hs (by rw [List.length_append] at hlen; omega)
  have HC := hide C
  clear C h hb hl hs hlen
  generalize l ++ nodeL k sp n ats tx kids.len = L at *
  go_enter Tryd.func57, Tryd.ntmps57
  go_wp2_with fail
  refine (unhide HC).mono ?_
  rintro e w1 ⟨rfl, h1⟩
  obtain ⟨p, v, hp, hB, hbk, _⟩ := wrt_any h1.1
  have c2 : w1.cell? ⟨b, 2, none⟩ = some (.int .i64 0) := by rw [Lib.cell_of_heap hbk]; rfl
  have HX := hide h1
  clear h1 hbk HC hp hB
  go_wp2
  go_ret
  exact ⟨rfl, unhide HX⟩
def bytesV (f : Forest) : List UInt8 := if checkN f = 0 then bytesL f else []
set_option maxHeartbeats 4000000 in
theorem tbytes_any (f : Forest) (q : Option Addr) (cap : Nat) (w : World) (ht : Tabs w) (hf : Fo q f w) (hs : SmF f) (hcap : f.len ≤ cap) (hc : f.count ≤ 100000) :
    Calls Tryd.prog 29 #[.slice q f.len cap] w fun e w' => e = .returned (.tuple #[.string (bs (bytesV f)), .int .i64 (checkN f)]) ∧ Below w.heap.size w w' := by
  have CC := hide (check_any f q cap w ht hf hs hcap (by omega))
  unfold bytesV
  by_cases h0 : checkN f = 0
  · rw [if_pos h0]
    rw [h0] at CC ⊢
    have hbl := by_len f hs
    have hn7 := numW_len f.len
    have CN := hide (fun (W : World) => wnum_any W.heap.size W.heap.size 0 [] f.len (W.alloc (.cells #[.pointer none, .slice none 0 0, .int .i64 0] 79)) (wrt_new W) (by simp) (by simp))
    have CW := hide (fun (W V : World) (hW : Below w.heap.size w W) (hV : Below W.heap.size W V) (hVs : W.heap.size + 1 ≤ V.heap.size) (hI : Wrt W.heap.size W.heap.size 0 (numW f.len) V) => walk_bytes byStep (fun l V => Wrt W.heap.size W.heap.size 0 l V) W.heap.size W (W.heap.size + 1) (bytesL f)
      (fun l V V' h hk => wrt_kept h hk)
      (fun l k sp n ats tx kids rest g o d V hI hb hB hl hsm hd hr => (bytes1_any W W.heap.size l d k sp n ats tx kids rest g o V hI hb hl hsm (by
          obtain ⟨r, hr⟩ := hr
          have hr : tell byStep (byStep l ⟨k, sp, n, ats, tx, kids, d⟩).1 r = bytesL f := hr
          have h1 := tell_by_len r (byStep l ⟨k, sp, n, ats, tx, kids, d⟩).1
          rw [hr] at h1
          have h2 : (byStep l ⟨k, sp, n, ats, tx, kids, d⟩).1 = l ++ nodeL k sp n ats tx kids.len := rfl
          rw [h2] at h1
          have h3 : (bytesL f).length ≤ 10000000000000 := by unfold bytesL; rw [List.length_append]; omega
          omega)).mono fun e V' ⟨h1, h2, h3, h4⟩ => ⟨h1, h2, h3, wrt_keepS hI h4⟩)
      f q cap V (hf.below hW) hs hcap (by omega) (numW f.len) (tell_by f 1 (numW f.len)) hI hV (by omega) hVs)
    have hne : bytesL f ≠ [] := num_ne f.len (by have := f.len_count; omega) _
    have CS := hide (fun (W V : World) (hI : Wrt W.heap.size W.heap.size 0 (bytesL f) V) => wstring_any W.heap.size W.heap.size 0 (bytesL f) V hI hne)
    rw [tell_by f 1 (numW f.len), show numW f.len ++ byF f = bytesL f from rfl] at CW
    rw [List.nil_append] at CN
    have hlb : (f.len : Int) ≤ 1000000 := by have := f.len_count; omega
    generalize bytesL f = L at *
    generalize numW f.len = N at *
    generalize f.len = fl at *
    clear hf hs ht hbl hn7 hne h0
    go_enter Tryd.func29, Tryd.ntmps29
    go_wp2_with fail
    refine (unhide CC).mono ?_
    rintro e w1 ⟨rfl, hb1⟩
    have CN1 := hide (unhide CN w1)
    have HB1 := hide hb1
    clear CC CN hb1
    go_wp2_with fail
    refine (unhide CN1).mono ?_
    rintro e w2 ⟨rfl, h2, hb2, ho2⟩
    have hbA := (Below.refl w1.heap.size w1).alloc (Nat.le_refl _) (Obj.cells #[.pointer none, .slice none 0 0, .int .i64 0] 79)
    have hB2 := hbA.trans hb2
    have hs2 : w1.heap.size + 1 ≤ w2.heap.size := by have := ho2.2; simp at this; omega
    have CW1 := hide (unhide CW w1 w2 (unhide HB1) hB2 hs2 h2)
    clear CW CN1 h2 hb2 ho2 hbA hB2 hs2
    go_wp2_with fail
    refine (unhide CW1).mono ?_
    rintro e w3 ⟨rfl, h3, hb3⟩
    obtain ⟨p, v, hp, hB, hbk, _⟩ := wrt_any h3
    have c2 : w3.cell? ⟨w1.heap.size, 2, none⟩ = some (.int .i64 0) := by rw [Lib.cell_of_heap hbk]; rfl
    have CS1 := hide (unhide CS w1 w3 h3)
    have HB3 := hide hb3
    clear CW1 CS h3 hb3 hbk hp hB
    go_wp2_with fail
    refine (unhide CS1).mono ?_
    rintro e w4 ⟨rfl, hb4⟩
    have HB4 := hide (tr2 (unhide HB1) ((unhide HB3).trans hb4))
    clear CS1 hb4 HB3 HB1 c2
    go_wp2
    go_ret2
    exact ⟨rfl, unhide HB4⟩
  · rw [if_neg h0]
    have hbe : (checkN f == 0) = false := beq_eq_false_iff_ne.2 h0
    generalize checkN f = c at *
    generalize f.len = fl at *
    clear hf hs ht
    go_enter Tryd.func29, Tryd.ntmps29
    go_wp2_with fail
    refine (unhide CC).mono ?_
    rintro e w1 ⟨rfl, hb1⟩
    go_wp2
    go_ret2
    exact ⟨rfl, hb1⟩
end Go.Proofs.YtpfnjgkfombmpaaDoor
