/-
  'tree.Check': 'tree.walk' under its closure (made by mk_yck.py).
-/
import Derived.Test.YtpfnjgkfombmpaaDoorMgG
import Derived.Test.YtpfnjgkfombmpaaDoorMgS
import Derived.Test.YtpfnjgkfombmpaaDoorYAp
import Derived.Test.YtpfnjgkfombmpaaDoorYLg
namespace Go.Proofs.YtpfnjgkfombmpaaDoor
open Go.RowKit
set_option linter.unusedVariables false
set_option linter.unusedSimpArgs false

/-- Nodes of which none is great. -/
def SmF : Forest → Prop
  | .nil => True
  | .cons k sp n ats tx kids rest => (tx.size ≤ 5000 ∧ n.size ≤ 5000 ∧ Fits ats ∧ kids.count ≤ 1000000) ∧ SmF kids ∧ SmF rest
def StackOkS (w0 : World) (st : List Entry) : Prop := ∀ e ∈ st, Fo e.2.1 e.1 w0 ∧ e.1.len ≤ e.2.2 ∧ SmF e.1
def WalkAtS {σ : Type} (stp : σ → Item → σ × Bool) (Inv : σ → World → Prop) (w0 : World) (B1 : Nat) (fin : σ) (gk : Nat) (left : Value) (wr : World) : Prop :=
  ∃ (st : List Entry) (s : σ), cnt st ≤ 1000000 ∧ st.length + cnt st ≤ 1000001 ∧ 2 * cnt st + st.length = gk ∧ StackOkS w0 st ∧ wr.ownsRow B1 22 1 left st.length (rowOf st) ∧ tell stp s (todo (st.map (·.1))) = fin ∧ Inv s wr ∧ Below w0.heap.size w0 wr ∧ B1 ≤ wr.heap.size
theorem any_false {ats : List (ByteArray × ByteArray)} (h : ats.any lgA = false) (k : Nat) (hk : k < ats.length) : (an ats k).size ≤ 100 ∧ (av ats k).size ≤ 2000 := by
  have h1 := List.any_eq_false.1 h ats[k] (List.getElem_mem hk)
  have h2 : lgA ats[k] = false := by simpa using h1
  unfold lgA at h2
  have h3 : ats.getD k (ByteArray.empty, ByteArray.empty) = ats[k] := by simp [List.getD, List.getElem?_eq_getElem hk]
  unfold an av
  rw [h3]
  simp at h2
  omega
theorem lgT_split {d : Nat} {f : Forest} {N N' : Int} (h : lgT d f N = (false, N')) : lgL d f N = (false, N') := by
  unfold lgT at h
  split at h
  · injection h with h1; cases h1
  · exact h
/-- What is not large is small, and there is room for all of it. -/
theorem lgL_small : ∀ (f : Forest) (d : Nat) (N N' : Int), N ≤ 1200 → lgL d f N = (false, N') → SmF f ∧ N' + (f.count : Int) ≤ N
  | .nil, d, N, N', hN, h => by
    rw [lgL] at h
    injection h with h1 h2
    exact ⟨trivial, by rw [← h2]; simp [Forest.count]⟩
  | .cons k sp n ats tx kids rest, d, N, N', hN, h => by
    by_cases h1 : N - 1 < 0 ∨ 40 < ats.length ∨ 5000 < tx.size ∨ 100 < n.size
    · rw [lgL, if_pos h1] at h; injection h with h1; cases h1
    · cases ha : ats.any lgA with
      | true => rw [lgL, if_neg h1, if_pos ha] at h; injection h with h1; cases h1
      | false =>
        rw [lgL_cons d k sp n ats tx kids rest N h1 ha] at h
        obtain ⟨r, hr⟩ : ∃ r, lgT (d + 1) kids (lgN N tx ats) = r := ⟨_, rfl⟩
        rw [hr] at h
        obtain ⟨rb, rN⟩ := r
        cases rb with
        | true => rw [if_pos rfl] at h; injection h with h1; cases h1
        | false =>
          rw [if_neg (by simp)] at h
          have hle := lgN_le N tx ats
          have hrm := lgT_room (d + 1) kids _ rN hr
          obtain ⟨s1, c1⟩ := lgL_small kids (d + 1) _ _ (by omega) (lgT_split hr)
          obtain ⟨s2, c2⟩ := lgL_small rest d _ _ (by omega) h
          refine ⟨⟨⟨by omega, by omega, ⟨by omega, fun k hk => ?_⟩, by omega⟩, s1, s2⟩, ?_⟩
          · have := any_false ha k hk; omega
          · have : lgN N tx ats ≤ N - 1 := by
              unfold lgN
              have : (0 : Int) ≤ ((tx.size / 16 : Nat) : Int) := Int.natCast_nonneg _
              omega
            simp only [Forest.count]
            omega
theorem lgT_small {d : Nat} {f : Forest} {N N' : Int} (hN : N ≤ 1200) (h : lgT d f N = (false, N')) : SmF f ∧ N' + (f.count : Int) ≤ N := lgL_small f d N N' hN (lgT_split h)

set_option maxHeartbeats 8000000 in
set_option maxRecDepth 100000 in
theorem walk_check {σ : Type} (stp : σ → Item → σ × Bool) (Inv : σ → World → Prop) (G : Nat) (w0 : World) (B0 : Nat)
    (hstab : ∀ s w w', Inv s w → (∀ b, b < B0 → w'.heap[b]? = w.heap[b]?) → Inv s w')
    (C : ∀ (s : σ) (k sp : Int) (n : ByteArray) (ats : List (ByteArray × ByteArray)) (tx : ByteArray) (kids rest : Forest) (g o d : Nat) (w : World), Inv s w → Below w0.heap.size w0 w → B0 ≤ w.heap.size → Lies (.cons k sp n ats tx kids rest) g o w0 → SmF (.cons k sp n ats tx kids rest) → d ≤ 2000000 →
      Calls Tryd.prog 83 #[.pointer (some ⟨g, o, none⟩), .int .i64 (d : Int), .pointer (some ⟨G, 0, none⟩)] w fun e w' => e = .returned (.bool (stp s ⟨k, sp, n, ats, tx, kids, d⟩).2) ∧ Inv (stp s ⟨k, sp, n, ats, tx, kids, d⟩).1 w' ∧ Below w0.heap.size w0 w' ∧ Since B0 w w')
    (f : Forest) (q : Option Addr) (cap : Nat) (w : World) (hf : Fo q f w0) (hsmf : SmF f) (hcap : f.len ≤ cap) (hc : f.count ≤ 1000000) (s : σ) (hI : Inv s w) (hb : Below w0.heap.size w0 w) (hB : w0.heap.size ≤ B0) (hB2 : B0 ≤ w.heap.size) :
    Calls Tryd.prog 34 #[.slice q f.len cap, .func (.func 83) #[] #[.pointer (some ⟨G, 0, none⟩)]] w fun e w' => e = .returned (.tuple #[]) ∧ Inv (tell stp s (items f 1)) w' ∧ Below w0.heap.size w0 w' := by
  have HC := hide C
  have HST := hide hstab
  obtain ⟨i0, hi0, hi1, hi2, hi3⟩ := info_parts infoNodes0
  have hrow0 : (w.alloc (Obj.cells #[.slice q f.len cap] 22)).ownsRow w.heap.size 22 1 (.slice (some ⟨w.heap.size, 0, none⟩) 1 1) 1 [.slice q f.len cap] :=
    ⟨rfl, Or.inr ⟨w.heap.size, 1, #[.slice q f.len cap], rfl, Nat.le_refl _, Blk.new w _ _, Nat.le_refl _, by unfold maxLen; omega, rfl, rfl⟩⟩
  have HAT : Hid (WalkAtS stp Inv w0 w.heap.size (tell stp s (items f 1)) (2 * f.count + 1) (.slice (some ⟨w.heap.size, 0, none⟩) 1 1) (w.alloc (Obj.cells #[.slice q f.len cap] 22))) := hide ⟨[(f, q, cap)], s, by simpa [cnt] using hc, by simp [cnt]; omega, by simp [cnt], fun e he => by rw [List.mem_singleton.1 he]; exact ⟨hf, hcap, hsmf⟩, hrow0, by simp [todo], hstab s w _ hI (fun b hb => (Below.refl w.heap.size w |>.alloc (Nat.le_refl _) _).block b (by omega)), hb.alloc hb.size _, by simp⟩
  clear C hstab hrow0 hI hf
  go_enter Tryd.func34, Tryd.ntmps34
  go_wp2
  go_loopg [4] (2 * f.count + 1) (fun gk left wr => WalkAtS stp Inv w0 w.heap.size (tell stp s (items f 1)) gk left wr)
  case atStart => exact unhide HAT
  case round =>
    clear HAT
    obtain ⟨st, s', hc1, hc2, hgk, hok, hrow, htl, hinv, hbw, hsz⟩ := hrel
    match st, hc1, hc2, hgk, hok, hrow, htl with
    | [], hc1, hc2, hgk, hok, hrow, htl =>
      obtain ⟨a4, cap4, rfl⟩ := slice_n hrow
      have HF : Hid (s' = tell stp s (items f 1)) := hide htl
      have HX := hide (And.intro hinv hbw)
      simp only [List.length_nil]
      clear htl hok hrow hinv hbw
      go_wp2
      refine bodyPost_end (v := .tuple #[]) (results_none Tryd.results34 _ _ _) rfl ?_
      exact ⟨rfl, by rw [← unhide HF]; exact (unhide HX).1, (unhide HX).2⟩
    | (fo, qe, ce) :: st, hc1, hc2, hgk, hok, hrow, htl =>
      rw [rowOf_cons] at hrow
      obtain ⟨b, capb, rfl, hbb, hcb, c0, cf0, hblt, hpop, hset⟩ := row_last hrow (rowOf_len st)
      have hoke := hok (fo, qe, ce) (List.mem_cons_self ..)
      have HOK := hide (show StackOkS w0 st from fun e he => hok e (List.mem_cons_of_mem _ he))
      have hln : (st.length : Int) + 1 ≤ 1000001 := by simp at hc2; omega
      have hcbi : (st.length : Int) + 1 ≤ (capb : Int) := by omega
      cases fo with
      | nil =>
        have HT : Hid (tell stp s' (todo (st.map (·.1))) = tell stp s (items f 1)) := hide htl
        have HX := hide (And.intro hinv (And.intro hbw (And.intro hsz hpop)))
        have hg' : 2 * cnt st + st.length < gk := by simp [cnt, Forest.count] at hgk; omega
        have hc1' : cnt st ≤ 1000000 := by simp [cnt, Forest.count] at hc1; omega
        have hc2' : st.length + cnt st ≤ 1000001 := by simp [cnt, Forest.count] at hc2; omega
        simp only [Entry.val, Forest.len] at c0
        clear htl hok hrow hinv hbw hset hpop hoke hgk hc1 hc2
        go_wp2
        go_roundg (2 * cnt st + st.length)
        case measure => exact hg'
        case rel => exact ⟨st, s', hc1', hc2', rfl, unhide HOK, (unhide HX).2.2.2, unhide HT, (unhide HX).1, (unhide HX).2.1, (unhide HX).2.2.1⟩
      | cons k sp n ats tx kids rest =>
        obtain ⟨hfo, hce, hsm⟩ := hoke
        have HSM := hide (show SmF (.cons k sp n ats tx kids rest) from hsm)
        rcases hfo with h | ⟨g, o, hq, hl⟩
        · cases h
        have hq' : qe = some ⟨g, o, none⟩ := hq
        subst hq'
        have hlr := hl.2
        have hll := hl
        obtain ⟨⟨_, _, _, _, _, ⟨qk, ck, l5, hck, hfk⟩⟩, _⟩ := hl
        have hce' : rest.len + 1 ≤ ce := hce
        have hcei : (rest.len : Int) + 1 ≤ (ce : Int) := by omega
        have hrl : (rest.len : Int) + 1 ≤ 1000001 := by
          have := rest.len_count
          simp [cnt, Forest.count] at hc1
          omega
        simp only [Entry.val, Forest.len] at c0
        have HP := hide hset
        have CC := hide (fun w h1 h2 h3 => unhide HC s' k sp n ats tx kids rest g o (st.length + 1) w h1 h2 h3 hll (unhide HSM) (by omega))
        have e1 : ((rest.len : Int) + 1 == 0) = false := beq_eq_false_iff_ne.2 (by omega)
        have HX := hide (And.intro hinv (And.intro hbw (And.intro hsz (And.intro hc1 (And.intro hc2 (And.intro hgk htl))))))
        have HKD := hide (And.intro hll (And.intro hlr (And.intro l5 (And.intro hck hfk))))
        clear hok hrow hpop hce hset hinv hbw hsz hc1 hc2 hgk htl hll hlr l5 hck hfk hce'
        have HTO : Hid (tell stp s' (todo ((Forest.cons k sp n ats tx kids rest) :: st.map (·.1))) = tell stp s' (⟨k, sp, n, ats, tx, kids, st.length + 1⟩ :: (items kids (st.length + 1 + 1) ++ (items rest (st.length + 1) ++ todo (st.map (·.1)))))) := hide (by show tell stp s' (items (Forest.cons k sp n ats tx kids rest) ((st.map (·.1)).length + 1) ++ todo (st.map (·.1))) = _; rw [List.length_map]; show tell stp s' (_ :: (items kids (st.length + 1 + 1) ++ items rest (st.length + 1)) ++ todo (st.map (·.1))) = _; rw [List.cons_append, List.append_assoc])
        have HRN : Hid (rest.len = rest.len) := hide rfl
        obtain ⟨rl, hrlq⟩ : ∃ rl, rest.len = rl := ⟨_, rfl⟩
        obtain ⟨sl, hslq⟩ : ∃ sl, st.length = sl := ⟨_, rfl⟩
        rw [hrlq] at c0 hcei hrl e1
        rw [hslq] at c0 cf0 hln hcbi HP hcb CC
        rw [hslq]
        have HQ := hide (And.intro hrlq hslq)
        clear hrlq hslq HRN
        have j1 : (1 : Int) ≤ (rl : Int) + 1 := by omega
        have j2 : (0 : Int) < (rl : Int) + 1 := by omega
        go_upto_region 7 with fail
        generalize hqr : (if ce = 1 then some (⟨g, o, none⟩ : Addr) else some ⟨g, o + 6, none⟩) = qr at *
        have HQR : Hid (Fo qr rest w0) := hide (by
          by_cases h1 : ce = 1
          · left
            have hr0 : rest.len = 0 := by have := (unhide HQ).1; omega
            cases rest with
            | nil => rfl
            | cons _ _ _ _ _ _ r => simp [Forest.len] at hr0
          · right; rw [if_neg h1] at hqr; exact ⟨g, o + 6, hqr.symm, (unhide HKD).2.1⟩)
        clear hqr
        have hb0 : w0.heap.size ≤ b := by omega
        have hX1 : Inv s' (wr.setCell ⟨b, sl, none⟩ (.slice qr rl (ce - 1))) := unhide HST s' wr _ (unhide HX).1 (fun b' hb' => Below.heap_setCell wr ⟨b, sl, none⟩ _ b' (by show b' ≠ b; omega))
        have hX2 := (unhide HX).2.1.setCell (p := ⟨b, sl, none⟩) hb0 (.slice qr rl (ce - 1))
        have hX3 : B0 ≤ (wr.setCell ⟨b, sl, none⟩ (.slice qr rl (ce - 1))).heap.size := by have := (unhide HX).2.2.1; simp; omega
        have HR := hide (unhide HP (.slice qr rl (ce - 1)))
        have HZ : Hid ((wr.setCell ⟨b, sl, none⟩ (.slice qr rl (ce - 1))).heap.size = wr.heap.size) := hide (by simp)
        go_wp2_with fail
        refine (unhide CC _ hX1 hX2 hX3).mono ?_
        rintro e3 W3 ⟨rfl, hI3, hb3, hs3⟩
        clear hX1 hX2 hX3 CC
        obtain ⟨s2, bb, hst⟩ : ∃ s2 bb, stp s' ⟨k, sp, n, ats, tx, kids, sl + 1⟩ = (s2, bb) := ⟨_, _, rfl⟩
        rw [hst] at hI3 ⊢
        cases bb with
        | false =>
          have HFN : Hid (s2 = tell stp s (items f 1)) := hide (by
            have h1 := (unhide HX).2.2.2.2.2.2
            rw [show (((Forest.cons k sp n ats tx kids rest, (some ⟨g, o, none⟩ : Option Addr), ce) :: st).map (·.1)) = Forest.cons k sp n ats tx kids rest :: st.map (·.1) from rfl, unhide HTO, (unhide HQ).2, tell, hst] at h1
            simpa using h1)
          have HY := hide (And.intro hI3 hb3)
          clear hI3 hb3 hs3 hst
          go_wp2
          refine bodyPost_ret (v := .tuple #[]) (results_none Tryd.results34 _ _ _) rfl ?_
          exact ⟨rfl, by rw [← unhide HFN]; exact (unhide HY).1, (unhide HY).2⟩
        | true =>
          have HFN : Hid (tell stp s2 (items kids (sl + 1 + 1) ++ (items rest (sl + 1) ++ todo (st.map (·.1)))) = tell stp s (items f 1)) := hide (by
            have h1 := (unhide HX).2.2.2.2.2.2
            rw [show (((Forest.cons k sp n ats tx kids rest, (some ⟨g, o, none⟩ : Option Addr), ce) :: st).map (·.1)) = Forest.cons k sp n ats tx kids rest :: st.map (·.1) from rfl, unhide HTO, (unhide HQ).2, tell, hst] at h1
            simpa using h1)
          obtain ⟨hll, hlr, l5, hck, hfk⟩ := unhide HKD
          have k5 : W3.cell? ⟨g, o + 5, none⟩ = some (.slice qk kids.len ck) := cell_later hb3 l5
          have hrow3 := ownsRow_since (unhide HR) hs3 (by omega)
          have hsz3 : w.heap.size ≤ W3.heap.size := by have h1 := hs3.1; rw [unhide HZ] at h1; have := (unhide HX).2.2.1; omega
          have hlb : ∀ j, some j = (Value.slice (some ⟨b, 0, none⟩) (sl + 1) capb).ownBlock → w.heap.size ≤ j := fun j hj => (hrow3.lt j hj.symm).1
          have HY := hide (And.intro hI3 (And.intro hb3 (And.intro hfk hck)))
          clear hI3 hb3 hs3 hst hll hlr l5 hck hfk
          go_wp2_with (at_builtin; refine wpList_append_own _ rfl _ _ 89 rfl w.heap.size 22 i0 (.slice none 0 0) 1 24 Tryd.underlying89 hi0 hi1 hi2 hi3 rfl (by decide) _ _ _ rfl (hrow3.alloc _) ⟨W3.heap.size, 0, none⟩ 1 1 [.slice qk kids.len ck] rfl rfl ?c1 ?c2 ?c3 ?c4 ?c5 ?_)
          case c1 => intro j u hj; exact lit1 hj
          case c2 => intro u hu; simp at hu; rw [hu]; rfl
          case c3 => unfold maxLen; omega
          case c4 => omega
          case c5 => simp; omega
          intro v' w5 hrow5 hgrow5 _
          obtain ⟨a5, c5, hv5⟩ := slice_n hrow5
          subst hv5
          have hbL := (unhide HY).2.1.alloc (unhide HY).2.1.size (Obj.cells #[.slice qk kids.len ck] 22)
          have hb5 := hbL.grown hgrow5 hbL.size (fun j hj => by have := hlb _ hj.symm; omega)
          have hI5 : Inv s2 w5 := unhide HST s2 W3 w5 (unhide HY).1 (fun b' hb' => by
            have h1 : (W3.alloc (Obj.cells #[.slice qk kids.len ck] 22)).heap[b']? = W3.heap[b']? := ((Below.refl W3.heap.size W3).alloc (Nat.le_refl _) _).block b' (by omega)
            rw [← h1]
            exact hgrow5.block b' (by simp; omega) (fun e => by have := hlb _ e; omega))
          have hs5 : w.heap.size ≤ w5.heap.size := by
            have := hgrow5.size
            simp at this
            omega
          have HZ5 := hide (And.intro hrow5 (And.intro hb5 (And.intro hI5 hs5)))
          clear hrow5 hgrow5 hbL hb5 hI5 hs5 hrow3 hlb
          go_wp2
          obtain ⟨hrow5, hb5, hI5, hs5⟩ := unhide HZ5
          obtain ⟨_, _, _, hc1, hc2, hgk, _⟩ := unhide HX
          obtain ⟨hrlq, hslq⟩ := unhide HQ
          simp only [cnt, Forest.count, List.length_cons] at hc1 hc2 hgk
          go_roundg (2 * (kids.count + (rest.count + cnt st)) + (st.length + 1 + 1))
          case measure => omega
          case rel =>
            refine ⟨(kids, qk, ck) :: (rest, qr, ce - 1) :: st, s2, ?_, ?_, rfl, ?_, ?_, ?_, hI5, hb5, hs5⟩
            · show kids.count + (rest.count + cnt st) ≤ 1000000; omega
            · show st.length + 1 + 1 + (kids.count + (rest.count + cnt st)) ≤ 1000001; omega
            · intro e he
              rcases List.mem_cons.1 he with rfl | he
              · exact ⟨(unhide HY).2.2.1, (unhide HY).2.2.2, (unhide HSM).2.1⟩
              rcases List.mem_cons.1 he with rfl | he
              · exact ⟨unhide HQR, by show rest.len ≤ ce - 1; omega, (unhide HSM).2.2⟩
              · exact unhide HOK e he
            · rw [rowOf_cons, rowOf_cons, List.append_assoc, List.length_cons, List.length_cons, hslq]
              show w5.ownsRow _ _ _ _ _ (rowOf st ++ ([.slice qr rest.len (ce - 1)] ++ [.slice qk kids.len ck]))
              rw [hrlq]; exact hrow5
            · rw [← unhide HFN]
              show tell stp s2 (items kids ((rest :: st.map (·.1)).length + 1) ++ (items rest ((st.map (·.1)).length + 1) ++ todo (st.map (·.1)))) = _
              rw [List.length_cons, List.length_map, hslq]


def ckStep (b : Bool) (it : Item) : Bool × Bool := (b && (raB it.k it.sp it.n it.ats it.tx it.kids.len && apartB it.kids), b && (raB it.k it.sp it.n it.ats it.tx it.kids.len && apartB it.kids))
def CkAt (G : Nat) (b : Bool) (w : World) : Prop := Blk w G #[.bool b] 4
set_option maxHeartbeats 4000000 in
theorem check1_any (b : Bool) (d G : Nat) (k sp : Int) (n : ByteArray) (ats : List (ByteArray × ByteArray)) (tx : ByteArray) (kids rest : Forest) (g o : Nat) (w : World) (hG : CkAt G b w) (hgG : g < G) (ht : Tabs w) (hl : Lies (.cons k sp n ats tx kids rest) g o w) (hc : kids.count ≤ 1000000) (hs : SmF (.cons k sp n ats tx kids rest)) :
    Calls Tryd.prog 83 #[.pointer (some ⟨g, o, none⟩), .int .i64 (d : Int), .pointer (some ⟨G, 0, none⟩)] w fun e w' => e = .returned (.bool (b && (raB k sp n ats tx kids.len && apartB kids))) ∧ ∃ w1, Below w.heap.size w w1 ∧ w' = w1.setCell ⟨G, 0, none⟩ (.bool (b && (raB k sp n ats tx kids.len && apartB kids))) := by
  have CR := hide (ra_any k sp n ats tx kids rest g o w ht hl (by have := hs.1.1; omega) hs.1.2.2.1 (by have := hs.1.2.1; omega))
  obtain ⟨_, _, _, _, _, ⟨qk, ck, c5, hck, hfk⟩⟩ := hl.1
  have CA := hide (fun W (hW : Below w.heap.size w W) => apart_any kids qk ck W (Fo.below (show Fo qk kids w from hfk) hW) hc)
  have g0 : w.cell? ⟨G, 0, none⟩ = some (.bool b) := hG.cell 0
  have f0 : w.frozen? ⟨G, 0, none⟩ = false := hG.frozen 0
  have HK := hide hG
  generalize raB k sp n ats tx kids.len = r at *
  generalize apartB kids = a at *
  generalize kids.len = kl at *
  clear hl hs ht hc hfk hG
  cases b with
  | false =>
    go_enter Tryd.func83, Tryd.ntmps83
    go_wp2
    go_ret
    exact ⟨rfl, w, Below.refl _ _, rfl⟩
  | true =>
    cases r with
    | false =>
      go_enter Tryd.func83, Tryd.ntmps83
      go_wp2_with fail
      refine (unhide CR).mono ?_
      rintro e w1 ⟨rfl, hb⟩
      have k1 := Blk.later (unhide HK) hb
      have g1 : w1.cell? ⟨G, 0, none⟩ = some (.bool true) := k1.cell 0
      have f1 : w1.frozen? ⟨G, 0, none⟩ = false := k1.frozen 0
      have HB := hide hb
      clear hb k1
      go_wp2
      go_ret
      exact ⟨rfl, w1, unhide HB, rfl⟩
    | true =>
      go_enter Tryd.func83, Tryd.ntmps83
      go_wp2_with fail
      refine (unhide CR).mono ?_
      rintro e w1 ⟨rfl, hb⟩
      have k1 := Blk.later (unhide HK) hb
      have g1 : w1.cell? ⟨G, 0, none⟩ = some (.bool true) := k1.cell 0
      have f1 : w1.frozen? ⟨G, 0, none⟩ = false := k1.frozen 0
      have c51 := cell_later hb c5
      have CA1 := hide (unhide CA w1 hb)
      have HB := hide hb
      clear hb k1
      go_wp2_with fail
      refine (unhide CA1).mono ?_
      rintro e w2 ⟨rfl, hw⟩
      obtain rfl : w1 = w2 := hw.symm
      go_wp2
      go_ret
      exact ⟨by simp, w1, unhide HB, by simp⟩
def checkN (f : Forest) : Int := if greatB f = true then 2 else if tell ckStep (apartB f) (items f 1) = true then 0 else 4
set_option maxHeartbeats 4000000 in
theorem check_any (f : Forest) (q : Option Addr) (cap : Nat) (w : World) (ht : Tabs w) (hf : Fo q f w) (hs : SmF f) (hcap : f.len ≤ cap) (hc : f.count ≤ 1000000) :
    Calls Tryd.prog 55 #[.slice q f.len cap] w fun e w' => e = .returned (.int .i64 (checkN f)) ∧ Below w.heap.size w w' := by
  have CG := hide (great_any f q cap w hf hcap hc)
  unfold checkN
  cases hg : greatB f with
  | true =>
    rw [hg] at CG
    rw [if_pos rfl]
    clear hf hs ht
    go_enter Tryd.func55, Tryd.ntmps55
    go_wp2_with fail
    refine (unhide CG).mono ?_
    rintro e w1 ⟨rfl, hb⟩
    go_wp2
    go_ret
    exact ⟨rfl, hb⟩
  | false =>
    rw [hg] at CG
    rw [if_neg (by simp)]
    have CA := hide (fun W (hW : Below w.heap.size w W) => apart_any f q cap W (hf.below hW) hc)
    have CW := hide (fun (W : World) (hW : Below w.heap.size w W) => walk_check ckStep (fun b W' => CkAt W.heap.size b W') W.heap.size W (W.heap.size + 1)
      (fun c V V' h hb => (hb _ (Nat.lt_succ_self _)).trans h)
      (fun b k sp n ats tx kids rest g o d V hI hb hB hl hsm hd => (check1_any b d W.heap.size k sp n ats tx kids rest g o V hI (World.block_lt_of_cell? W _ hl.1.1) ((ht.below hW).below hb) (Lies.below hb _ g o hl) hsm.1.2.2.2 hsm).mono fun e V' ⟨h1, V1, h2, h3⟩ => by
        subst h3
        have hIl : CkAt W.heap.size b V1 := Blk.later hI h2
        refine ⟨h1, Blk.set (vs := #[.bool b]) hIl 0 (by simp) _, (hb.trans (h2.mono hb.size)).setCell (by simp) _, ?_, fun b' hb1 hb2 => ?_⟩
        · have := h2.size; simp; omega
        · exact (Below.heap_setCell V1 ⟨W.heap.size, 0, none⟩ _ b' (by show b' ≠ W.heap.size; omega)).trans (h2.block b' hb2))
      f q cap (W.alloc (Obj.cells #[.bool (apartB f)] 4)) (hf.below hW) hs hcap hc (apartB f) (Blk.new W _ _) ((Below.refl _ _).alloc (Nat.le_refl _) _) (by omega) (by simp))
    generalize tell ckStep (apartB f) (items f 1) = D at *
    generalize apartB f = ab at *
    unfold CkAt at CW
    clear hf hs ht
    go_enter Tryd.func55, Tryd.ntmps55
    go_wp2_with fail
    refine (unhide CG).mono ?_
    rintro e w1 ⟨rfl, hb1⟩
    have CA1 := hide (unhide CA w1 hb1)
    have CW1 := hide (unhide CW w1 hb1)
    have HB1 := hide hb1
    clear hb1 CA CW
    go_wp2_with fail
    refine (unhide CA1).mono ?_
    rintro e w2 ⟨rfl, hw⟩
    obtain rfl : w1 = w2 := hw.symm
    go_wp2_with fail
    refine (unhide CW1).mono ?_
    rintro e w3 ⟨rfl, hk3, hb3⟩
    have c3 : w3.cell? ⟨w1.heap.size, 0, none⟩ = some (.bool D) := Blk.cell hk3 0
    have HB3 := hide (tr2 (unhide HB1) hb3)
    clear hk3 hb3
    cases D with
    | true =>
      go_wp2
      go_ret
      exact ⟨rfl, unhide HB3⟩
    | false =>
      go_wp2
      go_ret
      exact ⟨rfl, unhide HB3⟩
end Go.Proofs.YtpfnjgkfombmpaaDoor
